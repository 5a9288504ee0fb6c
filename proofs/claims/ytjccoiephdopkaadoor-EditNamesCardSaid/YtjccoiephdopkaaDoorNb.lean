/- Stage 27: edit.alike: how many bytes the pieces have that are the same, from the end on. -/
import Derived.Test.YtjccoiephdopkaaDoorNa
import Derived.Test.YtjccoiephdopkaaDoorQQAl
import Derived.Test.YtjccoiephdopkaaDoorQQForm
import Derived.BigQuiet
namespace Go.Proofs.YtjccoiephdopkaaDoor
set_option linter.unusedVariables false
set_option linter.unusedSimpArgs false
open Go Go.RowKit Go.Shelf
set_option maxRecDepth 100000

set_option maxHeartbeats 1000000 in
theorem bef_piece {s : ByteArray} {i q p : Nat} (h : Eg s (i + 1) q) (hp : (posns s)[i]? = some p) (hs : s.size ≤ 281474976710656) (w : World) :
    Calls Tryd.prog 73 #[.string s, .int .i64 (q : Int)] w fun e w' => e = .returned (.tuple #[.agg #[.int .i64 p, .int .i64 (wd s p : Nat), .int .i32 (rn s p : Nat), .bool (bk s p)], .int .i64 0]) ∧ Below w.heap.size w w' := by
  obtain ⟨p', e1, e2, e3, e4⟩ := eg_prev h
  rw [hp] at e1
  obtain rfl := Option.some.inj e1
  have hw := wd_pos s p
  have h1 : 1 ≤ q := by omega
  have hi : q ≤ s.size := h.1
  have hb0 := SQ.before_any s q h1 hi hs
  rw [before_eg h hp] at hb0
  clear h e4 e3 e2
  go_enter Tryd.func73, Tryd.ntmps73
  go_wp2_with (go_at_call 84; refine (hb0 _).mono ?_; rintro e w' ⟨rfl, hb⟩; obtain ⟨hc2, hf2⟩ := bcell hb; have hz2 := hb.size)
  refine bodyPost_ret (v := .tuple #[.agg #[.int .i64 p, .int .i64 (wd s p : Nat), .int .i32 (rn s p : Nat), .bool (bk s p)], .int .i64 0]) (by simp [results, Tryd.f73, go_sem, hc2, hz2]) rfl ⟨rfl, ?_⟩
  exact (((((((Below.refl _ _).alloc (Nat.le_refl _) _).trans (hb.mono (by simp))).setCell (p := ⟨_, 0, none⟩) (Nat.le_refl _) _).setCell (p := ⟨_, 1, none⟩) (Nat.le_refl _) _).setCell (p := ⟨_, 2, none⟩) (Nat.le_refl _) _).setCell (p := ⟨_, 3, none⟩) (Nat.le_refl _) _)
set_option maxHeartbeats 400000 in
theorem bef_zero (s : ByteArray) (w : World) :
    Calls Tryd.prog 73 #[.string s, .int .i64 0] w fun e w' => e = .returned (.tuple #[.agg #[.int .i64 0, .int .i64 0, .int .i32 0, .bool false], .int .i64 5]) ∧ Below w.heap.size w w' := by
  go_enter Tryd.func73, Tryd.ntmps73
  go_wp2
  refine bodyPost_ret (v := .tuple #[.agg #[.int .i64 0, .int .i64 0, .int .i32 0, .bool false], .int .i64 5]) (by simp [results, Tryd.f73, go_sem]) rfl ⟨rfl, ?_⟩
  exact (Below.refl _ _).alloc (Nat.le_refl _) _
/-- What Before answers at a boundary: a piece, or none. -/
theorem bef_any {s : ByteArray} {i q : Nat} (h : Eg s i q) (hs : s.size ≤ 281474976710656) : ∃ (a b c : Nat) (d : Bool) (er : Int), (i = 0 ∧ er = 5 ∨ 0 < i ∧ er = 0 ∧ (posns s)[i - 1]? = some a ∧ b = wd s a) ∧
    ∀ w : World, Calls Tryd.prog 73 #[.string s, .int .i64 (q : Int)] w fun e w' => e = .returned (.tuple #[.agg #[.int .i64 a, .int .i64 b, .int .i32 c, .bool d], .int .i64 er]) ∧ Below w.heap.size w w' := by
  cases i with
  | zero =>
    obtain rfl := eg_zero h
    exact ⟨0, 0, 0, false, 5, Or.inl ⟨rfl, rfl⟩, fun w => bef_zero s w⟩
  | succ i =>
    obtain ⟨p, e1, e2, e3, e4⟩ := eg_prev h
    exact ⟨p, wd s p, rn s p, bk s p, 0, Or.inr ⟨Nat.succ_pos _, rfl, e1, rfl⟩, fun w => bef_piece h e1 hs w⟩

theorem new4N (w : World) (a b c d : Value) (t : TypeId) : ∃ W, w.alloc (.cells #[a, b, c, d] t) = W ∧ W.heap.size = w.heap.size + 1 ∧ Below w.heap.size w W ∧ W.cell? ⟨w.heap.size, 0, none⟩ = some a ∧ W.cell? ⟨w.heap.size, 1, none⟩ = some b ∧ W.cell? ⟨w.heap.size, 2, none⟩ = some c ∧ W.cell? ⟨w.heap.size, 3, none⟩ = some d := by
  refine ⟨_, rfl, by simp, (Below.refl _ _).alloc (Nat.le_refl _) _, ?_⟩
  simp only [World.cell?, World.alloc_heap_new]
  exact ⟨rfl, rfl, rfl, rfl⟩

/-- So far n bytes are the same. -/
def AlR (s t : ByteArray) (M : Nat) (w : World) (v : Value) (wr : World) : Prop :=
  ∃ n i j q r : Nat, v = .int .i64 n ∧ Eg s i q ∧ Eg t j r ∧ q + n = s.size ∧ r + n = t.size ∧ M = n + bkN s t i j ∧ Below w.heap.size w wr

set_option maxHeartbeats 4000000 in
theorem ealike_any (s t : ByteArray) (hs : s.size ≤ 1048576) (ht : t.size ≤ 1048576) (M : Nat) (hM : bkN s t (posns s).length (posns t).length = M) (w : World) :
    Calls Tryd.prog 48 #[.string s, .string t] w fun e w' => e = .returned (.int .i64 M) ∧ Below w.heap.size w w' := by
  go_enter Tryd.func48, Tryd.ntmps48
  go_wp2
  go_loopw [5] (fun v wr => AlR s t M w v wr) (fun v _ => s.size - (intOf v).toNat)
  case atStart => exact ⟨0, _, _, _, _, rfl, eg_end s, eg_end t, rfl, rfl, by rw [Nat.zero_add, hM], Below.refl _ _⟩
  case round =>
    obtain ⟨n, i, j, q, r, rfl, hE, hF, hq, hr, hm, hB⟩ := hrel
    obtain ⟨a, b, c, d, er, hA, cA⟩ := bef_any hE (by omega)
    obtain ⟨a2, b2, c2, d2, er2, hA2, cA2⟩ := bef_any hF (by omega)
    have g1 : IntKind.i64.wrap ((s.size : Int) - (n : Int)) = (q : Int) := by rw [IntWalk.i64_in _ (by omega)]; omega
    have g2 : IntKind.i64.wrap ((t.size : Int) - (n : Int)) = (r : Int) := by rw [IntWalk.i64_in _ (by omega)]; omega
    have HM := Lib.hid (And.intro hm hB)
    have HS := Lib.hid (And.intro hs (And.intro ht (And.intro hq hr)))
    have HE := Lib.hid (And.intro hE hF)
    clear hm hB hM hq hr hE hF hs ht
    have HX := Lib.hid (And.intro hA hA2)
    clear hA hA2
    go_wp2_with (fail)
    refine (cA _).mono ?_
    rintro e w3 ⟨rfl, hb3⟩
    clear cA
    go_wp2_with (fail)
    obtain ⟨W3, e3, z3, b3, y0, y1, _, _⟩ := new4N w3 (.int .i64 a) (.int .i64 b) (.int .i32 c) (.bool d) 120
    rw [e3]
    refine (cA2 _).mono ?_
    rintro e w4 ⟨rfl, hb4⟩
    clear cA2
    go_wp2_with (fail)
    obtain ⟨W4, e4, z4, b4, x0, x1, _, _⟩ := new4N w4 (.int .i64 a2) (.int .i64 b2) (.int .i32 c2) (.bool d2) 120
    rw [e4]
    have h34 := hb4.size
    have y0' : W4.cell? ⟨w3.heap.size, 0, none⟩ = some (.int .i64 a) := ((bcell b4).1 _ _ (by omega)).trans (((bcell hb4).1 _ _ (by omega)).trans y0)
    have y1' : W4.cell? ⟨w3.heap.size, 1, none⟩ = some (.int .i64 b) := ((bcell b4).1 _ _ (by omega)).trans (((bcell hb4).1 _ _ (by omega)).trans y1)
    have hBW : Below w.heap.size w W4 := (HM.out.2.trans (hb3.mono HM.out.2.size)).trans ((b3.mono (Nat.le_trans HM.out.2.size hb3.size)).trans ((hb4.mono (by have := HM.out.2.size; have := hb3.size; omega)).trans (b4.mono (by have := HM.out.2.size; have := hb3.size; omega))))
    obtain ⟨B1, hB1⟩ : ∃ B, w3.heap.size = B := ⟨_, rfl⟩
    obtain ⟨B2, hB2⟩ : ∃ B, w4.heap.size = B := ⟨_, rfl⟩
    rw [hB1] at y0' y1' ⊢
    rw [hB2] at x0 x1 ⊢
    have HW := Lib.hid hBW
    clear hBW y0 y1 h34 e3 e4 z3 z4 b3 b4 hb3 hb4 hB1 hB2 g1 g2
    have stop : ∀ k nq, bkN s t i j = 0 → k = Ending.returned (.int .i64 n) → (k = Ending.returned (.int .i64 M) ∧ Below w.heap.size w (W4.drewN nq)) := by
      intro k nq h0 hk
      refine ⟨?_, SQ.below_drewN HW.out nq⟩
      have := HM.out.1
      rw [hk, show M = n by omega]
    have HP := Lib.hid stop
    clear stop
    rcases HX.out.1 with ⟨rfl, rfl⟩ | ⟨hi, rfl, hpa, hba⟩
    · clear x0 x1 y0' y1'
      go_quiet (fail)
      go_wp2_with (fail)
      refine bodyPost_ret (v := .int .i64 n) (by simp [results, Tryd.f48, go_sem]) rfl (HP.out _ _ (bk_0 _ _ _) rfl)
    · rcases HX.out.2 with ⟨rfl, rfl⟩ | ⟨hj, rfl, hpb, hbb⟩
      · clear x0 x1 y0' y1'
        go_quiet (fail)
        go_wp2_with (fail)
        refine bodyPost_ret (v := .int .i64 n) (by simp [results, Tryd.f48, go_sem]) rfl (HP.out _ _ (bk_z _ _ _) rfl)
      · obtain ⟨i, rfl⟩ : ∃ k, i = k + 1 := ⟨i - 1, by omega⟩
        obtain ⟨j, rfl⟩ : ∃ k, j = k + 1 := ⟨j - 1, by omega⟩
        obtain ⟨p1, e1, e2, e3, e4⟩ := eg_prev HE.out.1
        obtain ⟨p2, f1, f2, f3, f4⟩ := eg_prev HE.out.2
        rw [Nat.add_sub_cancel] at hpa hpb
        obtain rfl := Option.some.inj (e1.symm.trans hpa)
        obtain rfl := Option.some.inj (f1.symm.trans hpb)
        have hz := HS.out
        have hwA := wd_fits s p1 e2
        have hwB := wd_fits t p2 f2
        have hd1 := wd_pos s p1
        have hd4 := wd_le s p1
        cases hsm : smeB s t p1 p2 with
        | true =>
          have hww := sm_wd e2 f2 hsm
          have hext := smeB_yes.1 hsm
          rw [← hba, ← hbb] at hext
          rw [← hba, ← hbb] at hww
          rw [← hba] at hd1 hd4 hwA e3
          rw [← hbb] at hwB f3
          subst hww
          have hN := bk_yes e1 f1 hsm
          rw [← hba] at hN
          have HN := Lib.hid (And.intro hN (And.intro e3 (And.intro f3 (And.intro e4 f4))))
          clear hN e3 f3 e4 f4 hba hbb hsm e1 f1 hpa hpb hi hj
          have k1 : IntKind.i64.wrap ((p1 : Int) + b) = (p1 : Int) + b := IntWalk.i64_in _ (by omega)
          have k2 : IntKind.i64.wrap ((p2 : Int) + b) = (p2 : Int) + b := IntWalk.i64_in _ (by omega)
          have k3 : (0 : Int) ≤ (p1 : Int) := by omega
          have k4 : (p1 : Int) ≤ (p1 : Int) + b := by omega
          have k5 : (p1 : Int) + b ≤ (s.size : Int) := by omega
          have k6 : (0 : Int) ≤ (p2 : Int) := by omega
          have k7 : (p2 : Int) ≤ (p2 : Int) + b := by omega
          have k8 : (p2 : Int) + b ≤ (t.size : Int) := by omega
          have k9 : ((p1 : Int) + b).toNat = p1 + b := by omega
          have k10 : ((p2 : Int) + b).toNat = p2 + b := by omega
          have hbe : ((s.extract p1 (p1 + b)).toList == (t.extract p2 (p2 + b)).toList) = true := by rw [hext]; exact beq_self_eq_true _
          clear hext
          go_quiet (fail)
          go_wp2_with (fail)
          go_roundw
          case rel =>
            obtain ⟨g1, g2, g3, g4, g5⟩ := HN.out
            have hm := HM.out.1
            exact ⟨n + b, i, j, p1, p2, by go_num, g4, g5, by omega, by omega, by omega, SQ.below_drewN HW.out _⟩
          case measure =>
            obtain ⟨g1, g2, g3, g4, g5⟩ := HN.out
            obtain ⟨z1, z2, z3, z4⟩ := hz
            simp [intOf]; omega
        | false =>
          have hN := bk_no e1 f1 hsm
          have hext := smeB_no.1 hsm
          by_cases hw : b = b2
          · rw [← hba, ← hbb] at hext
            rw [← hba] at hd1 hd4 hwA e3
            rw [← hbb] at hwB f3
            subst hw
            have HN := Lib.hid hN
            clear hN e3 f3 e4 f4 hba hbb hsm e1 f1 hpa hpb hi hj
            have k1 : IntKind.i64.wrap ((p1 : Int) + b) = (p1 : Int) + b := IntWalk.i64_in _ (by omega)
            have k2 : IntKind.i64.wrap ((p2 : Int) + b) = (p2 : Int) + b := IntWalk.i64_in _ (by omega)
            have k3 : (0 : Int) ≤ (p1 : Int) := by omega
            have k4 : (p1 : Int) ≤ (p1 : Int) + b := by omega
            have k5 : (p1 : Int) + b ≤ (s.size : Int) := by omega
            have k6 : (0 : Int) ≤ (p2 : Int) := by omega
            have k7 : (p2 : Int) ≤ (p2 : Int) + b := by omega
            have k8 : (p2 : Int) + b ≤ (t.size : Int) := by omega
            have k9 : ((p1 : Int) + b).toNat = p1 + b := by omega
            have k10 : ((p2 : Int) + b).toNat = p2 + b := by omega
            have hbe : ((s.extract p1 (p1 + b)).toList == (t.extract p2 (p2 + b)).toList) = false := by
              rw [beq_eq_false_iff_ne]; exact fun h => hext (by apply ByteArray.ext; apply Array.ext'; simpa [ByteArray.toList_eq] using h)
            clear hext
            go_quiet (fail)
            go_wp2_with (fail)
            refine bodyPost_ret (v := .int .i64 n) (by simp [results, Tryd.f48, go_sem]) rfl (HP.out _ _ HN.out rfl)
          · have hbn : ((b : Int) != (b2 : Int)) = true := by rw [bne_iff_ne]; omega
            have HN := Lib.hid hN
            clear hN e3 f3 e4 f4 hba hbb hsm e1 f1 hpa hpb hi hj hw hext hwA hwB hd1 hd4
            go_quiet (fail)
            go_wp2_with (fail)
            refine bodyPost_ret (v := .int .i64 n) (by simp [results, Tryd.f48, go_sem]) rfl (HP.out _ _ HN.out rfl)
end Go.Proofs.YtjccoiephdopkaaDoor
