/- What the document's Around answers. -/
import Derived.Test.YtgpnheaefagfiaaArW
import Derived.Test.YtgpnheaefagfiaaBlk
namespace Go.Proofs.Ytgpnheaefagfiaa
set_option linter.unusedVariables false
set_option linter.unusedSimpArgs false
open Go Go.RowKit
set_option maxRecDepth 100000

def ArRel1 (s : ByteArray) (i : Nat) (w : World) (g cap : Nat) (v : Value) (wr : World) : Prop :=
  ∃ k : Nat, v = .int .i64 k ∧ k ≤ (ends s).length ∧ Blk wr w.heap.size #[.int .i64 0, .int .i64 0] 49 ∧ Blk wr (w.heap.size + 1) #[.int .i64 (frL i ((ends s).take k) : Nat), .int .i64 0] 49 ∧
    wr.ownsRow w.heap.size 3 1 (.slice (some ⟨g, 0, none⟩) (ends s).length cap) (ends s).length (ints (ends s)) ∧ Below w.heap.size w wr

def ArRel2 (s : ByteArray) (i F : Nat) (w : World) (g cap : Nat) (v : Value) (wr : World) : Prop :=
  ∃ k : Nat, v = .int .i64 ((k : Int) - 1) ∧ k ≤ (ends s).length ∧ Blk wr w.heap.size #[.int .i64 0, .int .i64 0] 49 ∧ Blk wr (w.heap.size + 1) #[.int .i64 (F : Nat), .int .i64 (toR i ((ends s).drop k) : Nat)] 49 ∧
    wr.ownsRow w.heap.size 3 1 (.slice (some ⟨g, 0, none⟩) (ends s).length cap) (ends s).length (ints (ends s)) ∧ Below w.heap.size w wr

set_option maxHeartbeats 2000000 in
theorem AroundR_any (s : ByteArray) (i : Nat) (hi : i ≤ s.size) (hs : s.size ≤ 1048576) (w : World) (F T : Nat) (hin : InB s i F T) :
    Calls Try.prog 34 #[.string s, .int .i64 (i : Int)] w fun e w' => e = .returned (.agg #[.int .i64 (F : Nat), .int .i64 (T : Nat)]) ∧ Below w.heap.size w w' := by
  have cE := ends_any s hs
  have hel : (ends s).length ≤ 1048577 := by have := posns_len s; simp [ends]; omega
  have hel0 : 1 ≤ (ends s).length := by simp [ends]
  have hfr := inB_fr s i F T hin
  have hto := inB_to s i F T hin
  obtain ⟨n, hn⟩ : ∃ n, (ends s).length = n := ⟨_, rfl⟩
  have HN := Lib.hid hn
  rw [hn] at hel hel0
  have HFR := Lib.hid hfr
  have HTO := Lib.hid hto
  clear hn hfr hto hin
  go_enter Try.func34, Try.ntmps34
  go_wp2_with (go_at_call 75; refine (cE _).mono ?_; rintro e w1 ⟨g, cap, rfl, hown, hb⟩; rw [HN.out] at hown ⊢)
  have b0 := (((Blk.new w #[.int .i64 0, .int .i64 0] 49).alloc (.cells #[.int .i64 0, .int .i64 0] 49))).below' hb
  have b1 := (Blk.new (w.alloc (.cells #[.int .i64 0, .int .i64 0] 49)) #[.int .i64 0, .int .i64 0] 49).below' hb
  rw [World.size_alloc] at b1
  have hB1 : Below w.heap.size w w1 := (((Below.refl _ _).alloc (Nat.le_refl _) _).alloc (by simp) _).trans (hb.mono (by simp; omega))
  have hown1 : w1.ownsRow w.heap.size 3 1 (.slice (some ⟨g, 0, none⟩) n cap) n (ints (ends s)) := by
    refine ⟨hown.1, ?_⟩
    rcases hown.2 with h | ⟨g, c, cur, h1, h2, h3⟩
    · exact .inl h
    · exact .inr ⟨g, c, cur, h1, by simp at h2; omega, h3⟩
  clear hown hb cE
  go_loopw [14] (fun v wr => ArRel1 s i w g cap v wr) (fun v _ => n - (intOf v).toNat)
  case atStart => exact ⟨0, rfl, by omega, b0, b1, by rw [HN.out]; exact hown1, hB1⟩
  case round =>
    obtain ⟨k, rfl, hk, a0, a1, hr, hB⟩ := hrel
    rw [HN.out] at hk hr
    by_cases hlt : k < n
    · obtain ⟨p, hpk⟩ : ∃ p, (ends s)[k]? = some p := ⟨_, List.getElem?_eq_getElem (by rw [HN.out]; exact hlt)⟩
      have c0 := nth_int hr HN.out k hlt p hpk
      have hsn : frL i ((ends s).take (k + 1)) = if p ≤ i then p else frL i ((ends s).take k) := by
        have h1 : k < (ends s).length := by rw [HN.out]; exact hlt
        rw [List.getElem?_eq_getElem h1] at hpk
        rw [List.take_succ_eq_append_getElem h1, frL_snoc, Option.some.inj hpk]
      have HS := Lib.hid hsn
      have HK := Lib.hid hpk
      clear hpk hsn
      have f0 := a1.frozen 0
      have c1 := a1.cell 0
      by_cases hle : p ≤ i
      · go_wp2
        go_roundw
        case rel =>
          refine ⟨k + 1, by go_num, by rw [HN.out]; omega, a0.other (by omega) _ _, ?_, ?_, hB.setCell (p := ⟨w.heap.size + 1, 0, none⟩) (by simp) _⟩
          · rw [HS.out, if_pos hle]; exact a1.set 0 (.int .i64 p)
          · rw [HN.out]; exact row_other a1 (by decide) hr _ _
        case measure => simp [intOf]; omega
      · go_wp2
        go_roundw
        case rel =>
          refine ⟨k + 1, by go_num, by rw [HN.out]; omega, a0, ?_, by rw [HN.out]; exact hr, hB⟩
          rw [HS.out, if_neg hle]; exact a1
        case measure => simp [intOf]; omega
    · have hkn : k = n := by omega
      subst hkn
      rw [List.take_of_length_le (by rw [HN.out]; omega), HFR.out] at a1
      have hd : toR i ((ends s).drop k) = 0 := by rw [List.drop_eq_nil_of_le (by rw [HN.out]; omega)]; rfl
      go_wp2
      go_loopw [9] (fun v wr => ArRel2 s i F w g cap v wr) (fun v _ => ((intOf v) + 1).toNat)
      case atStart => exact ⟨k, by go_num, by rw [HN.out]; omega, a0, by rw [hd]; exact a1, by rw [HN.out]; exact hr, hB⟩
      case round =>
        obtain ⟨j, rfl, hj, d0, d1, hr', hB'⟩ := hrel
        rw [HN.out] at hj hr'
        by_cases hj0 : 1 ≤ j
        · obtain ⟨m, rfl⟩ : ∃ m, j = m + 1 := ⟨j - 1, by omega⟩
          have hjm : ((m + 1 : Nat) : Int) - 1 = (m : Int) := by omega
          obtain ⟨p, hpk⟩ : ∃ p, (ends s)[m]? = some p := ⟨_, List.getElem?_eq_getElem (by rw [HN.out]; omega)⟩
          have c0 := nth_int hr' HN.out m (by omega) p hpk
          have hsn : toR i ((ends s).drop m) = if i ≤ p then p else toR i ((ends s).drop (m + 1)) := by
            have h1 : m < (ends s).length := by rw [HN.out]; omega
            rw [List.getElem?_eq_getElem h1] at hpk
            rw [List.drop_eq_getElem_cons h1, toR_cons, Option.some.inj hpk]
          have HS := Lib.hid hsn
          have HK := Lib.hid hpk
          clear hpk hsn hd
          have f0 := d1.frozen 1
          have c1 := d1.cell 1
          by_cases hle : i ≤ p
          · go_wp2
            go_roundw
            case rel =>
              refine ⟨m, by go_num, by rw [HN.out]; omega, d0.other (by omega) _ _, ?_, ?_, hB'.setCell (p := ⟨w.heap.size + 1, 1, none⟩) (by simp) _⟩
              · rw [HS.out, if_pos hle]; exact d1.set 1 (.int .i64 p)
              · rw [HN.out]; exact row_other d1 (by decide) hr' _ _
            case measure => simp [intOf]
          · go_wp2
            go_roundw
            case rel =>
              refine ⟨m, by go_num, by rw [HN.out]; omega, d0, ?_, by rw [HN.out]; exact hr', hB'⟩
              rw [HS.out, if_neg hle]; exact d1
            case measure => simp [intOf]
        · obtain rfl : j = 0 := by omega
          rw [List.drop_zero, HTO.out] at d1
          have g0 := d1.cell 0
          have g1 := d1.cell 1
          have f0 := d0.frozen 0
          have f1 := d0.frozen 1
          have e0 := d0.cell 0
          have e1 := d0.cell 1
          clear hd
          go_wp2
          refine bodyPost_ret (v := .agg #[.int .i64 (F : Nat), .int .i64 (T : Nat)]) (by simp [results, Try.f34, go_sem, e0, e1]) rfl ⟨rfl, ?_⟩
          exact (hB'.setCell (p := ⟨w.heap.size, 0, none⟩) (Nat.le_refl _) _).setCell (p := ⟨w.heap.size, 1, none⟩) (Nat.le_refl _) _
end Go.Proofs.Ytgpnheaefagfiaa
