/- Stage 16: May; what is refused. -/
import Derived.Test.YtdcmkiggnmajgaaV2
namespace Go.Proofs.Ytdcmkiggnmajgaa
set_option linter.unusedVariables false
set_option linter.unusedSimpArgs false
open Go Go.RowKit Go.Shelf
set_option maxRecDepth 100000

def MyJ (W0 : World) (R : Bool) (S : List Int) (i : Value) (l : Value) (wr : World) : Prop := ∃ (k : Nat) (left : Int), i = .int .i64 k ∧ l = .int .i64 left ∧ k ≤ S.length ∧ 0 ≤ left ∧ left ≤ 512 ∧ stB left (S.drop k) = R ∧ Below W0.heap.size W0 wr
set_option maxHeartbeats 8000000 in
theorem may_any (s : Sc) (ol os : Option Addr) (cl cs : Nat) (hn : s.L.length ≤ 9223372036854775807) (hm : s.S.length ≤ 9223372036854775807) (w : World) (hr : RowAt w encR 2 ol s.L) (ht : RowAt w encI 1 os s.S) :
    Calls Try.prog 14 #[.agg #[.slice ol s.L.length cl, .slice os s.S.length cs]] w fun e w' => e = .returned (.bool (mayB s)) ∧ Below w.heap.size w w' := by
  obtain ⟨L, S⟩ := s
  simp only at hn hm hr ht ⊢
  obtain ⟨W0, hW0⟩ : ∃ W0, w.alloc (.cells #[.slice ol L.length cl, .slice os S.length cs] 25) = W0 := ⟨_, rfl⟩
  have hB0 : Below w.heap.size w W0 := hW0 ▸ (Below.refl _ w).alloc (Nat.le_refl _) _
  have b0 : Blk W0 w.heap.size #[.slice ol L.length cl, .slice os S.length cs] 25 := hW0 ▸ Blk.new w _ _
  have fin : ∀ W, Below W0.heap.size W0 W → Below w.heap.size w W := fun W h => hB0.trans (h.mono hB0.size)
  have hr0 := hr.below encR_len (by decide) hB0
  have ht0 := ht.below encI_len (by decide) hB0
  have HD := Lib.hid (And.intro fin (And.intro hr0 ht0))
  clear fin hr0 ht0 hr ht hB0
  by_cases h512 : 512 < L.length
  · have e1 : mayB ⟨L, S⟩ = false := by unfold mayB; simp; omega
    have e2 : decide ((512 : Int) < (L.length : Int)) = true := decide_eq_true (by omega)
    have e3 : decide (512 < L.length) = true := decide_eq_true h512
    rw [e1]
    obtain ⟨n, hnn⟩ : ∃ n, L.length = n := ⟨_, rfl⟩
    rw [hnn] at h512 e2 e3 ⊢
    clear hnn e1 hW0 b0 HD hn hm
    go_enter Try.func14, Try.ntmps14
    go_wp2
    go_ret
    exact ⟨rfl, (Below.refl _ _).alloc (Nat.le_refl _) _⟩
  have e2 : decide ((512 : Int) < (L.length : Int)) = false := decide_eq_false (by omega)
  have e3 : decide (512 < L.length) = false := decide_eq_false h512
  have x0 : W0.cell? ⟨w.heap.size, 0, none⟩ = some (.slice ol L.length cl) := b0.cell 0
  have x1 : W0.cell? ⟨w.heap.size, 1, none⟩ = some (.slice os S.length cs) := b0.cell 1
  have HX := Lib.hid b0
  clear b0
  have h8 : mayB ⟨L, S⟩ = (L.all okR && stB L.length S) := by unfold mayB; rw [show decide (L.length ≤ 512) = true from decide_eq_true (by omega)]; simp
  rw [h8]
  obtain ⟨E, hE⟩ : ∃ E : Bool, (L.all okR && stB L.length S) = E := ⟨_, rfl⟩
  rw [hE]
  have HE := Lib.hid hE
  clear h8 hE
  go_enter Try.func14, Try.ntmps14
  go_wp2
  clear hW0
  go_loopw [18, 3] (MyJ W0 (stB L.length S) S) (fun i _ _ => S.length - (intOf i).toNat)
  case atStart => exact ⟨0, L.length, rfl, rfl, by omega, by omega, by omega, by simp, Below.refl _ _⟩
  case round =>
    obtain ⟨k, left, rfl, rfl, hk, hl0, hl1, hst, hB⟩ := hrel
    by_cases hlt : k < S.length
    · obtain ⟨x, hx⟩ : ∃ x, S[k]? = some x := ⟨_, List.getElem?_eq_getElem hlt⟩
      obtain ⟨g, off, rfl, hc⟩ := (HD.out.2.2.below encI_len (by decide) hB) k x hx
      have q0 := hc 0 (by decide)
      simp only [encI, List.getElem?_cons_zero, Nat.add_zero, Nat.mul_one] at q0
      rw [drop_cons hx] at hst
      have hs0 : stB left (x :: S.drop (k + 1)) = (!(decide (x < 1) || decide (left < x)) && stB (left - x) (S.drop (k + 1))) := rfl
      rw [hs0] at hst
      have HB2 := Lib.hid hB
      have HST := Lib.hid hst
      clear hc hx hB hst hs0
      by_cases c1 : x < 1
      · have d1 : decide (x < 1) = true := decide_eq_true c1
        have HZ := Lib.hid (show E = false by rw [← HE.out, ← HST.out, d1]; simp)
        go_wp2
        go_ret
        exact ⟨by rw [HZ.out]; rfl, HD.out.1 _ HB2.out⟩
      have d1 : decide (x < 1) = false := decide_eq_false c1
      by_cases c2 : left < x
      · have d2 : decide (left < x) = true := decide_eq_true c2
        have HZ := Lib.hid (show E = false by rw [← HE.out, ← HST.out, d1, d2]; simp)
        go_wp2
        go_ret
        exact ⟨by rw [HZ.out]; rfl, HD.out.1 _ HB2.out⟩
      have d2 : decide (left < x) = false := decide_eq_false c2
      have hst2 := HST.out
      rw [d1, d2] at hst2
      have HS2 := Lib.hid hst2
      clear hst2
      go_wp2
      go_roundw
      case rel => exact ⟨k + 1, left - x, by go_num, rfl, by omega, by omega, by omega, by simpa using HS2.out, HB2.out⟩
      case measure => simp [intOf]; omega
    · have hst2 : decide (left = 0) = stB L.length S := by
        rw [List.drop_of_length_le (by omega)] at hst
        exact hst
      have HST := Lib.hid hst2
      have x0 : wr.cell? ⟨w.heap.size, 0, none⟩ = some (.slice ol L.length cl) := (HX.out.below' hB).cell 0
      have x1 : wr.cell? ⟨w.heap.size, 1, none⟩ = some (.slice os S.length cs) := (HX.out.below' hB).cell 1
      have HB := Lib.hid hB
      clear hst hB hst2
      go_wp2
      go_loopw [36] (CkI W0 L) (fun i _ => L.length - (intOf i).toNat)
      case atStart => exact ⟨0, rfl, by omega, rfl, HB.out⟩
      case round =>
        obtain ⟨k, rfl, hk, ha, hB⟩ := hrel
        by_cases hlt : k < L.length
        · obtain ⟨x, hx⟩ : ∃ x, L[k]? = some x := ⟨_, List.getElem?_eq_getElem hlt⟩
          obtain ⟨g, off, rfl, hc⟩ := (HD.out.2.1.below encR_len (by decide) hB) k x hx
          have q0 := hc 0 (by decide)
          have q1 := hc 1 (by decide)
          have ha1 := all_take hx ha
          obtain ⟨c, r⟩ := x
          simp only [encR, List.getElem?_cons_succ, List.getElem?_cons_zero, Nat.add_zero] at q0 q1
          have hB1 : Below W0.heap.size W0 (wr.alloc (.cells #[.int .i64 c, .int .i64 r] 79)) := hB.alloc hB.size _
          have HB := Lib.hid (And.intro hB1 (And.intro ha1 hx))
          have bad : okR ⟨c, r⟩ = false → E = false := fun h => by
            have : L.all okR = false := by
              rw [List.all_eq_false]
              exact ⟨⟨c, r⟩, List.mem_of_getElem? hx, by rw [h]; simp⟩
            rw [← HE.out, this]; rfl
          have HBAD := Lib.hid bad
          clear hB hB1 ha1 bad hc hx ha
          by_cases c1 : c < -1
          · have d1 : decide (c < -1) = true := decide_eq_true c1
            have HZ := Lib.hid (HBAD.out (by unfold okR; simp; omega))
            go_wp2
            go_ret
            exact ⟨by rw [HZ.out]; rfl, HD.out.1 _ HB.out.1⟩
          have d1 : decide (c < -1) = false := decide_eq_false c1
          by_cases c2 : 25 ≤ c
          · have d2 : decide (25 ≤ c) = true := decide_eq_true c2
            have HZ := Lib.hid (HBAD.out (by unfold okR; simp; omega))
            go_wp2
            go_ret
            exact ⟨by rw [HZ.out]; rfl, HD.out.1 _ HB.out.1⟩
          have d2 : decide (25 ≤ c) = false := decide_eq_false c2
          by_cases c3 : r < 0
          · have d3 : decide (r < 0) = true := decide_eq_true c3
            have HZ := Lib.hid (HBAD.out (by unfold okR; simp; omega))
            go_wp2
            go_ret
            exact ⟨by rw [HZ.out]; rfl, HD.out.1 _ HB.out.1⟩
          have d3 : decide (r < 0) = false := decide_eq_false c3
          by_cases c4 : 9 < r
          · have d4 : decide (9 < r) = true := decide_eq_true c4
            have HZ := Lib.hid (HBAD.out (by unfold okR; simp; omega))
            go_wp2
            go_ret
            exact ⟨by rw [HZ.out]; rfl, HD.out.1 _ HB.out.1⟩
          have d4 : decide (9 < r) = false := decide_eq_false c4
          by_cases c5 : c < 0
          · have d5 : decide (c < 0) = true := decide_eq_true c5
            by_cases c6 : 0 < r
            · have d6 : decide (0 < r) = true := decide_eq_true c6
              have HZ := Lib.hid (HBAD.out (by unfold okR; simp; omega))
              go_wp2
              go_ret
              exact ⟨by rw [HZ.out]; rfl, HD.out.1 _ HB.out.1⟩
            have d6 : decide (0 < r) = false := decide_eq_false c6
            have hgood := HB.out.2.1.trans (show okR ⟨c, r⟩ = true by rw [okR_iff]; dsimp only; omega)
            have HG := Lib.hid hgood
            clear hgood
            go_wp2
            go_roundw
            case rel => exact ⟨k + 1, by go_num, by omega, HG.out, HB.out.1⟩
            case measure => simp [intOf]; omega
          have d5 : decide (c < 0) = false := decide_eq_false c5
          have hgood := HB.out.2.1.trans (show okR ⟨c, r⟩ = true by rw [okR_iff]; dsimp only; omega)
          have HG := Lib.hid hgood
          clear hgood
          go_wp2
          go_roundw
          case rel => exact ⟨k + 1, by go_num, by omega, HG.out, HB.out.1⟩
          case measure => simp [intOf]; omega
        · have haL : L.all okR = true := by
            rw [List.take_of_length_le (by omega)] at ha
            exact ha
          have HZ := Lib.hid (show E = (left == 0) by rw [← HE.out, haL, ← HST.out]; rfl)
          have HB2 := Lib.hid hB
          clear haL ha hB
          go_wp2
          go_ret
          exact ⟨by rw [HZ.out]; rfl, HD.out.1 _ HB2.out⟩
end Go.Proofs.Ytdcmkiggnmajgaa
