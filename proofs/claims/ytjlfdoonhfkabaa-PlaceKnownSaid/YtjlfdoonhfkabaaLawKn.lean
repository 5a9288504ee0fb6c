/- PlaceKnown: the law's call. -/
import Derived.Test.YtjlfdoonhfkabaaKn0
import Derived.Test.YtjlfdoonhfkabaaOneA
namespace Go.Proofs.Ytjlfdoonhfkabaa
set_option linter.unusedVariables false
set_option linter.unusedSimpArgs false
open Go Go.RowKit Go.Shelf
set_option maxRecDepth 100000
attribute [local go_sem] Oper.semAt_some undef

theorem sh1 (w : World) : Calls Try.prog 16 #[.int .i64 9, .agg #[.int .i64 3, .int .i64 5], .int .i64 4] w fun e w' => e = .returned (.tuple #[.int .i64 11, .int .i64 0]) ∧ Below w.heap.size w w' := shift_any 9 3 5 4 w
theorem sh2 (w : World) : Calls Try.prog 16 #[.int .i64 4, .agg #[.int .i64 3, .int .i64 5], .int .i64 4] w fun e w' => e = .returned (.tuple #[.int .i64 7, .int .i64 0]) ∧ Below w.heap.size w w' := shift_any 4 3 5 4 w
theorem sh3 (w : World) : Calls Try.prog 16 #[.int .i64 3, .agg #[.int .i64 3, .int .i64 3], .int .i64 4] w fun e w' => e = .returned (.tuple #[.int .i64 3, .int .i64 0]) ∧ Below w.heap.size w w' := shift_any 3 3 3 4 w
theorem sh4 (w : World) : Calls Try.prog 16 #[.int .i64 3, .agg #[.int .i64 4, .int .i64 3], .int .i64 4] w fun e w' => e = .returned (.tuple #[.int .i64 0, .int .i64 2]) ∧ Below w.heap.size w w' := shift_any 3 4 3 4 w

def KnRel (W0 : World) (v : Value) (wr : World) : Prop := ∃ k : Nat, v = .int .i64 k ∧ k ≤ 7 ∧ Below W0.heap.size W0 wr

set_option maxHeartbeats 40000000 in
theorem known_in (w : World) : CallsIn Fence.wide 11 Try.prog 3 #[] w fun e w' => e = .returned (.bool true) ∧ Below w.heap.size w w' := by
  refine callsIn_of_wp_marks Try.func3 rfl trivial ?_ rfl
  simp only [Try.ntmps3, List.size_toArray, List.length_cons, List.length_nil, Nat.reduceAdd, Nat.reduceSub, Array.replicate_succ, Array.replicate_zero, List.push_toArray, List.append_toArray, List.nil_append, List.cons_append]
  have hF : ∀ f, Fence.wide.fn f := fun _ => trivial
  have b0 := Blk.new w #[.bool false] 4
  have bB : Below w.heap.size w (w.alloc (.cells #[.bool false] 4)) := (Below.refl _ w).alloc (Nat.le_refl _) _
  gi_wp2_with fail
  refine (callsIn_wide.2 (works_any _)).mono ?_
  rintro e w1 ⟨rfl, hb1⟩
  have b1 := b0.below' hb1
  have hB1 := bB.trans (hb1.mono bB.size)
  gi_wp2_with fail
  refine (callsIn_wide.2 (callsIn_wide.1 (new_in tee tee_h _))).mono ?_
  rintro e w2 ⟨m, rfl, hM, hb2⟩
  have b2 := b1.below' hb2
  have hB2 := hB1.trans (hb2.mono hB1.size)
  have cE := end_any tee tee_h m w2 hM
  rw [tee_n, tee_7] at cE
  gi_wp2_with fail
  refine (callsIn_wide.2 cE).mono ?_
  rintro e w3 ⟨rfl, hb3⟩
  have b3 := b2.below' hb3
  have hB3 := hB2.trans (hb3.mono hB2.size)
  have hM3 := mapAt_below hM hb3
  clear b0 bB hb1 b1 hB1 hb2 b2 hB2 hM cE hb3
  simp only [plV]
  gi_wp2_with fail
  have k0 := Blk.new w3 #[.int .i64 1, .int .i64 3, .int .i64 1, .int .i64 6, .int .i64 5, .int .i64 5, .int .i64 1, .int .i64 1, .int .i64 0, .int .i64 0, .int .i64 1, .int .i64 3, .int .i64 4, .int .i64 3, .int .i64 3, .int .i64 0, .int .i64 3, .int .i64 0, .int .i64 8, .int .i64 1, .int .i64 (-1), .int .i64 5, .int .i64 4, .int .i64 4, .int .i64 1, .int .i64 0, .int .i64 0, .int .i64 0, .int .i64 3, .int .i64 9, .int .i64 11, .int .i64 7, .int .i64 8, .int .i64 2, .int .i64 0, .int .i64 0, .int .i64 4, .int .i64 3, .int .i64 1, .int .i64 10, .int .i64 6, .int .i64 7, .int .i64 1, .int .i64 2, .int .i64 0, .int .i64 0, .int .i64 4, .int .i64 1, .int .i64 0, .int .i64 0, .int .i64 0, .int .i64 0, .int .i64 0, .int .i64 2, .int .i64 12, .int .i64 1, .int .i64 0, .int .i64 0, .int .i64 0, .int .i64 0, .int .i64 0, .int .i64 0, .int .i64 5] 30
  have b4 := b3.alloc (.cells #[.int .i64 1, .int .i64 3, .int .i64 1, .int .i64 6, .int .i64 5, .int .i64 5, .int .i64 1, .int .i64 1, .int .i64 0, .int .i64 0, .int .i64 1, .int .i64 3, .int .i64 4, .int .i64 3, .int .i64 3, .int .i64 0, .int .i64 3, .int .i64 0, .int .i64 8, .int .i64 1, .int .i64 (-1), .int .i64 5, .int .i64 4, .int .i64 4, .int .i64 1, .int .i64 0, .int .i64 0, .int .i64 0, .int .i64 3, .int .i64 9, .int .i64 11, .int .i64 7, .int .i64 8, .int .i64 2, .int .i64 0, .int .i64 0, .int .i64 4, .int .i64 3, .int .i64 1, .int .i64 10, .int .i64 6, .int .i64 7, .int .i64 1, .int .i64 2, .int .i64 0, .int .i64 0, .int .i64 4, .int .i64 1, .int .i64 0, .int .i64 0, .int .i64 0, .int .i64 0, .int .i64 0, .int .i64 2, .int .i64 12, .int .i64 1, .int .i64 0, .int .i64 0, .int .i64 0, .int .i64 0, .int .i64 0, .int .i64 0, .int .i64 5] 30)
  have hB4 := hB3.alloc hB3.size (.cells #[.int .i64 1, .int .i64 3, .int .i64 1, .int .i64 6, .int .i64 5, .int .i64 5, .int .i64 1, .int .i64 1, .int .i64 0, .int .i64 0, .int .i64 1, .int .i64 3, .int .i64 4, .int .i64 3, .int .i64 3, .int .i64 0, .int .i64 3, .int .i64 0, .int .i64 8, .int .i64 1, .int .i64 (-1), .int .i64 5, .int .i64 4, .int .i64 4, .int .i64 1, .int .i64 0, .int .i64 0, .int .i64 0, .int .i64 3, .int .i64 9, .int .i64 11, .int .i64 7, .int .i64 8, .int .i64 2, .int .i64 0, .int .i64 0, .int .i64 4, .int .i64 3, .int .i64 1, .int .i64 10, .int .i64 6, .int .i64 7, .int .i64 1, .int .i64 2, .int .i64 0, .int .i64 0, .int .i64 4, .int .i64 1, .int .i64 0, .int .i64 0, .int .i64 0, .int .i64 0, .int .i64 0, .int .i64 2, .int .i64 12, .int .i64 1, .int .i64 0, .int .i64 0, .int .i64 0, .int .i64 0, .int .i64 0, .int .i64 0, .int .i64 5] 30)
  have hM4 := mapAt_below hM3 ((Below.refl _ w3).alloc (Nat.le_refl _) (.cells #[.int .i64 1, .int .i64 3, .int .i64 1, .int .i64 6, .int .i64 5, .int .i64 5, .int .i64 1, .int .i64 1, .int .i64 0, .int .i64 0, .int .i64 1, .int .i64 3, .int .i64 4, .int .i64 3, .int .i64 3, .int .i64 0, .int .i64 3, .int .i64 0, .int .i64 8, .int .i64 1, .int .i64 (-1), .int .i64 5, .int .i64 4, .int .i64 4, .int .i64 1, .int .i64 0, .int .i64 0, .int .i64 0, .int .i64 3, .int .i64 9, .int .i64 11, .int .i64 7, .int .i64 8, .int .i64 2, .int .i64 0, .int .i64 0, .int .i64 4, .int .i64 3, .int .i64 1, .int .i64 10, .int .i64 6, .int .i64 7, .int .i64 1, .int .i64 2, .int .i64 0, .int .i64 0, .int .i64 4, .int .i64 1, .int .i64 0, .int .i64 0, .int .i64 0, .int .i64 0, .int .i64 0, .int .i64 2, .int .i64 12, .int .i64 1, .int .i64 0, .int .i64 0, .int .i64 0, .int .i64 0, .int .i64 0, .int .i64 0, .int .i64 5] 30))
  obtain ⟨N, hN⟩ : ∃ N, w3.heap.size = N := ⟨_, rfl⟩
  rw [hN] at k0
  obtain ⟨W0, hW0⟩ : ∃ W, w3.alloc (.cells #[.int .i64 1, .int .i64 3, .int .i64 1, .int .i64 6, .int .i64 5, .int .i64 5, .int .i64 1, .int .i64 1, .int .i64 0, .int .i64 0, .int .i64 1, .int .i64 3, .int .i64 4, .int .i64 3, .int .i64 3, .int .i64 0, .int .i64 3, .int .i64 0, .int .i64 8, .int .i64 1, .int .i64 (-1), .int .i64 5, .int .i64 4, .int .i64 4, .int .i64 1, .int .i64 0, .int .i64 0, .int .i64 0, .int .i64 3, .int .i64 9, .int .i64 11, .int .i64 7, .int .i64 8, .int .i64 2, .int .i64 0, .int .i64 0, .int .i64 4, .int .i64 3, .int .i64 1, .int .i64 10, .int .i64 6, .int .i64 7, .int .i64 1, .int .i64 2, .int .i64 0, .int .i64 0, .int .i64 4, .int .i64 1, .int .i64 0, .int .i64 0, .int .i64 0, .int .i64 0, .int .i64 0, .int .i64 2, .int .i64 12, .int .i64 1, .int .i64 0, .int .i64 0, .int .i64 0, .int .i64 0, .int .i64 0, .int .i64 0, .int .i64 5] 30) = W := ⟨_, rfl⟩
  rw [hW0] at k0 b4 hB4 hM4
  try rw [hW0, hN]
  have K0 := Lib.hid k0
  clear hW0 hN b3 hB3 hM3 k0
  refine wpIn_wide.2 ?_
  go_loopw [53] (fun v wr => KnRel W0 v wr) (fun v _ => 8 - (intOf v).toNat)
  case atStart => exact ⟨0, rfl, Nat.zero_le _, Below.refl _ _⟩
  case round =>
    obtain ⟨k, rfl, hk, hBr⟩ := hrel
    have kb := fun o => (K0.out.below' hBr).cell o
    have KB := Lib.hid kb
    clear kb
    have hMr := mapAt_below hM4 hBr
    rcases (show k = 0 ∨ k = 1 ∨ k = 2 ∨ k = 3 ∨ k = 4 ∨ k = 5 ∨ k = 6 ∨ k = 7 by omega) with rfl | rfl | rfl | rfl | rfl | rfl | rfl | rfl
    · have z0 : wr.cell? ⟨N, 0, none⟩ = some (.int .i64 1) := KB.out 0
      have z1 : wr.cell? ⟨N, 1, none⟩ = some (.int .i64 3) := KB.out 1
      have z2 : wr.cell? ⟨N, 2, none⟩ = some (.int .i64 1) := KB.out 2
      have z3 : wr.cell? ⟨N, 3, none⟩ = some (.int .i64 6) := KB.out 3
      have z4 : wr.cell? ⟨N, 4, none⟩ = some (.int .i64 5) := KB.out 4
      have z5 : wr.cell? ⟨N, 5, none⟩ = some (.int .i64 5) := KB.out 5
      have z6 : wr.cell? ⟨N, 6, none⟩ = some (.int .i64 1) := KB.out 6
      have z7 : wr.cell? ⟨N, 7, none⟩ = some (.int .i64 1) := KB.out 7
      have z8 : wr.cell? ⟨N, 8, none⟩ = some (.int .i64 0) := KB.out 8
      have q4 := Blk.new wr #[.int .i64 1, .int .i64 3, .int .i64 1, .int .i64 6, .int .i64 5, .int .i64 5, .int .i64 1, .int .i64 1, .int .i64 0] 30
      have hBq := hBr.alloc hBr.size (.cells #[.int .i64 1, .int .i64 3, .int .i64 1, .int .i64 6, .int .i64 5, .int .i64 5, .int .i64 1, .int .i64 1, .int .i64 0] 30)
      have hMq := mapAt_below hMr ((Below.refl _ wr).alloc (Nat.le_refl _) (.cells #[.int .i64 1, .int .i64 3, .int .i64 1, .int .i64 6, .int .i64 5, .int .i64 5, .int .i64 1, .int .i64 1, .int .i64 0] 30))
      go_wp2_with (fail)
      refine (known0 m _ hMq).mono ?_
      rintro e X5 ⟨rfl, hb5⟩
      have q5 := (q4.below' hb5).alloc (.cells #[.int .i64 6, .int .i64 5, .int .i64 5, .int .i64 1, .int .i64 1] 28)
      have q6 := Blk.new X5 #[.int .i64 6, .int .i64 5, .int .i64 5, .int .i64 1, .int .i64 1] 28
      have hB5 := hBq.trans (hb5.mono hBq.size)
      have hB6 := hB5.alloc hB5.size (.cells #[.int .i64 6, .int .i64 5, .int .i64 5, .int .i64 1, .int .i64 1] 28)
      have q5c := q5.cell
      have q6c := q6.cell
      go_wp2
      go_roundw
      case rel =>
        refine ⟨_, _, _, _, _, _, _, _, _, _, _, _, _, _, _, _, _, _, _, _, _, _, _, _, _, _, _, _, _, ?_, rfl⟩
        exact ⟨1, by first | rfl | trivial | go_num, by omega, hB6⟩
      case measure => simp [intOf]
    · have z0 : wr.cell? ⟨N, 9, none⟩ = some (.int .i64 0) := KB.out 9
      have z1 : wr.cell? ⟨N, 10, none⟩ = some (.int .i64 1) := KB.out 10
      have z2 : wr.cell? ⟨N, 11, none⟩ = some (.int .i64 3) := KB.out 11
      have z3 : wr.cell? ⟨N, 12, none⟩ = some (.int .i64 4) := KB.out 12
      have z4 : wr.cell? ⟨N, 13, none⟩ = some (.int .i64 3) := KB.out 13
      have z5 : wr.cell? ⟨N, 14, none⟩ = some (.int .i64 3) := KB.out 14
      have z6 : wr.cell? ⟨N, 15, none⟩ = some (.int .i64 0) := KB.out 15
      have z7 : wr.cell? ⟨N, 16, none⟩ = some (.int .i64 3) := KB.out 16
      have z8 : wr.cell? ⟨N, 17, none⟩ = some (.int .i64 0) := KB.out 17
      have q4 := Blk.new wr #[.int .i64 0, .int .i64 1, .int .i64 3, .int .i64 4, .int .i64 3, .int .i64 3, .int .i64 0, .int .i64 3, .int .i64 0] 30
      have hBq := hBr.alloc hBr.size (.cells #[.int .i64 0, .int .i64 1, .int .i64 3, .int .i64 4, .int .i64 3, .int .i64 3, .int .i64 0, .int .i64 3, .int .i64 0] 30)
      have hMq := mapAt_below hMr ((Below.refl _ wr).alloc (Nat.le_refl _) (.cells #[.int .i64 0, .int .i64 1, .int .i64 3, .int .i64 4, .int .i64 3, .int .i64 3, .int .i64 0, .int .i64 3, .int .i64 0] 30))
      go_wp2_with (fail)
      refine (known1 m _ hMq).mono ?_
      rintro e X5 ⟨rfl, hb5⟩
      have q5 := (q4.below' hb5).alloc (.cells #[.int .i64 4, .int .i64 3, .int .i64 3, .int .i64 0, .int .i64 3] 28)
      have q6 := Blk.new X5 #[.int .i64 4, .int .i64 3, .int .i64 3, .int .i64 0, .int .i64 3] 28
      have hB5 := hBq.trans (hb5.mono hBq.size)
      have hB6 := hB5.alloc hB5.size (.cells #[.int .i64 4, .int .i64 3, .int .i64 3, .int .i64 0, .int .i64 3] 28)
      have q5c := q5.cell
      have q6c := q6.cell
      go_wp2
      go_roundw
      case rel =>
        refine ⟨_, _, _, _, _, _, _, _, _, _, _, _, _, _, _, _, _, _, _, _, _, _, _, _, _, _, _, _, _, ?_, rfl⟩
        exact ⟨2, by first | rfl | trivial | go_num, by omega, hB6⟩
      case measure => simp [intOf]
    · have z0 : wr.cell? ⟨N, 18, none⟩ = some (.int .i64 8) := KB.out 18
      have z1 : wr.cell? ⟨N, 19, none⟩ = some (.int .i64 1) := KB.out 19
      have z2 : wr.cell? ⟨N, 20, none⟩ = some (.int .i64 (-1)) := KB.out 20
      have z3 : wr.cell? ⟨N, 21, none⟩ = some (.int .i64 5) := KB.out 21
      have z4 : wr.cell? ⟨N, 22, none⟩ = some (.int .i64 4) := KB.out 22
      have z5 : wr.cell? ⟨N, 23, none⟩ = some (.int .i64 4) := KB.out 23
      have z6 : wr.cell? ⟨N, 24, none⟩ = some (.int .i64 1) := KB.out 24
      have z7 : wr.cell? ⟨N, 25, none⟩ = some (.int .i64 0) := KB.out 25
      have z8 : wr.cell? ⟨N, 26, none⟩ = some (.int .i64 0) := KB.out 26
      have q4 := Blk.new wr #[.int .i64 8, .int .i64 1, .int .i64 (-1), .int .i64 5, .int .i64 4, .int .i64 4, .int .i64 1, .int .i64 0, .int .i64 0] 30
      have hBq := hBr.alloc hBr.size (.cells #[.int .i64 8, .int .i64 1, .int .i64 (-1), .int .i64 5, .int .i64 4, .int .i64 4, .int .i64 1, .int .i64 0, .int .i64 0] 30)
      have hMq := mapAt_below hMr ((Below.refl _ wr).alloc (Nat.le_refl _) (.cells #[.int .i64 8, .int .i64 1, .int .i64 (-1), .int .i64 5, .int .i64 4, .int .i64 4, .int .i64 1, .int .i64 0, .int .i64 0] 30))
      go_wp2_with (fail)
      refine (known2 m _ hMq).mono ?_
      rintro e X5 ⟨rfl, hb5⟩
      have q5 := (q4.below' hb5).alloc (.cells #[.int .i64 5, .int .i64 4, .int .i64 4, .int .i64 1, .int .i64 0] 28)
      have q6 := Blk.new X5 #[.int .i64 5, .int .i64 4, .int .i64 4, .int .i64 1, .int .i64 0] 28
      have hB5 := hBq.trans (hb5.mono hBq.size)
      have hB6 := hB5.alloc hB5.size (.cells #[.int .i64 5, .int .i64 4, .int .i64 4, .int .i64 1, .int .i64 0] 28)
      have q5c := q5.cell
      have q6c := q6.cell
      go_wp2
      go_roundw
      case rel =>
        refine ⟨_, _, _, _, _, _, _, _, _, _, _, _, _, _, _, _, _, _, _, _, _, _, _, _, _, _, _, _, _, ?_, rfl⟩
        exact ⟨3, by first | rfl | trivial | go_num, by omega, hB6⟩
      case measure => simp [intOf]
    · have z0 : wr.cell? ⟨N, 27, none⟩ = some (.int .i64 0) := KB.out 27
      have z1 : wr.cell? ⟨N, 28, none⟩ = some (.int .i64 3) := KB.out 28
      have z2 : wr.cell? ⟨N, 29, none⟩ = some (.int .i64 9) := KB.out 29
      have z3 : wr.cell? ⟨N, 30, none⟩ = some (.int .i64 11) := KB.out 30
      have z4 : wr.cell? ⟨N, 31, none⟩ = some (.int .i64 7) := KB.out 31
      have z5 : wr.cell? ⟨N, 32, none⟩ = some (.int .i64 8) := KB.out 32
      have z6 : wr.cell? ⟨N, 33, none⟩ = some (.int .i64 2) := KB.out 33
      have z7 : wr.cell? ⟨N, 34, none⟩ = some (.int .i64 0) := KB.out 34
      have z8 : wr.cell? ⟨N, 35, none⟩ = some (.int .i64 0) := KB.out 35
      have q4 := Blk.new wr #[.int .i64 0, .int .i64 3, .int .i64 9, .int .i64 11, .int .i64 7, .int .i64 8, .int .i64 2, .int .i64 0, .int .i64 0] 30
      have hBq := hBr.alloc hBr.size (.cells #[.int .i64 0, .int .i64 3, .int .i64 9, .int .i64 11, .int .i64 7, .int .i64 8, .int .i64 2, .int .i64 0, .int .i64 0] 30)
      have hMq := mapAt_below hMr ((Below.refl _ wr).alloc (Nat.le_refl _) (.cells #[.int .i64 0, .int .i64 3, .int .i64 9, .int .i64 11, .int .i64 7, .int .i64 8, .int .i64 2, .int .i64 0, .int .i64 0] 30))
      go_wp2_with (fail)
      refine (known3 m _ hMq).mono ?_
      rintro e X5 ⟨rfl, hb5⟩
      have q5 := (q4.below' hb5).alloc (.cells #[.int .i64 11, .int .i64 7, .int .i64 8, .int .i64 2, .int .i64 0] 28)
      have q6 := Blk.new X5 #[.int .i64 11, .int .i64 7, .int .i64 8, .int .i64 2, .int .i64 0] 28
      have hB5 := hBq.trans (hb5.mono hBq.size)
      have hB6 := hB5.alloc hB5.size (.cells #[.int .i64 11, .int .i64 7, .int .i64 8, .int .i64 2, .int .i64 0] 28)
      have q5c := q5.cell
      have q6c := q6.cell
      go_wp2
      go_roundw
      case rel =>
        refine ⟨_, _, _, _, _, _, _, _, _, _, _, _, _, _, _, _, _, _, _, _, _, _, _, _, _, _, _, _, _, ?_, rfl⟩
        exact ⟨4, by first | rfl | trivial | go_num, by omega, hB6⟩
      case measure => simp [intOf]
    · have z0 : wr.cell? ⟨N, 36, none⟩ = some (.int .i64 4) := KB.out 36
      have z1 : wr.cell? ⟨N, 37, none⟩ = some (.int .i64 3) := KB.out 37
      have z2 : wr.cell? ⟨N, 38, none⟩ = some (.int .i64 1) := KB.out 38
      have z3 : wr.cell? ⟨N, 39, none⟩ = some (.int .i64 10) := KB.out 39
      have z4 : wr.cell? ⟨N, 40, none⟩ = some (.int .i64 6) := KB.out 40
      have z5 : wr.cell? ⟨N, 41, none⟩ = some (.int .i64 7) := KB.out 41
      have z6 : wr.cell? ⟨N, 42, none⟩ = some (.int .i64 1) := KB.out 42
      have z7 : wr.cell? ⟨N, 43, none⟩ = some (.int .i64 2) := KB.out 43
      have z8 : wr.cell? ⟨N, 44, none⟩ = some (.int .i64 0) := KB.out 44
      have q4 := Blk.new wr #[.int .i64 4, .int .i64 3, .int .i64 1, .int .i64 10, .int .i64 6, .int .i64 7, .int .i64 1, .int .i64 2, .int .i64 0] 30
      have hBq := hBr.alloc hBr.size (.cells #[.int .i64 4, .int .i64 3, .int .i64 1, .int .i64 10, .int .i64 6, .int .i64 7, .int .i64 1, .int .i64 2, .int .i64 0] 30)
      have hMq := mapAt_below hMr ((Below.refl _ wr).alloc (Nat.le_refl _) (.cells #[.int .i64 4, .int .i64 3, .int .i64 1, .int .i64 10, .int .i64 6, .int .i64 7, .int .i64 1, .int .i64 2, .int .i64 0] 30))
      go_wp2_with (fail)
      refine (known4 m _ hMq).mono ?_
      rintro e X5 ⟨rfl, hb5⟩
      have q5 := (q4.below' hb5).alloc (.cells #[.int .i64 10, .int .i64 6, .int .i64 7, .int .i64 1, .int .i64 2] 28)
      have q6 := Blk.new X5 #[.int .i64 10, .int .i64 6, .int .i64 7, .int .i64 1, .int .i64 2] 28
      have hB5 := hBq.trans (hb5.mono hBq.size)
      have hB6 := hB5.alloc hB5.size (.cells #[.int .i64 10, .int .i64 6, .int .i64 7, .int .i64 1, .int .i64 2] 28)
      have q5c := q5.cell
      have q6c := q6.cell
      go_wp2
      go_roundw
      case rel =>
        refine ⟨_, _, _, _, _, _, _, _, _, _, _, _, _, _, _, _, _, _, _, _, _, _, _, _, _, _, _, _, _, ?_, rfl⟩
        exact ⟨5, by first | rfl | trivial | go_num, by omega, hB6⟩
      case measure => simp [intOf]
    · have z0 : wr.cell? ⟨N, 45, none⟩ = some (.int .i64 0) := KB.out 45
      have z1 : wr.cell? ⟨N, 46, none⟩ = some (.int .i64 4) := KB.out 46
      have z2 : wr.cell? ⟨N, 47, none⟩ = some (.int .i64 1) := KB.out 47
      have z3 : wr.cell? ⟨N, 48, none⟩ = some (.int .i64 0) := KB.out 48
      have z4 : wr.cell? ⟨N, 49, none⟩ = some (.int .i64 0) := KB.out 49
      have z5 : wr.cell? ⟨N, 50, none⟩ = some (.int .i64 0) := KB.out 50
      have z6 : wr.cell? ⟨N, 51, none⟩ = some (.int .i64 0) := KB.out 51
      have z7 : wr.cell? ⟨N, 52, none⟩ = some (.int .i64 0) := KB.out 52
      have z8 : wr.cell? ⟨N, 53, none⟩ = some (.int .i64 2) := KB.out 53
      have q4 := Blk.new wr #[.int .i64 0, .int .i64 4, .int .i64 1, .int .i64 0, .int .i64 0, .int .i64 0, .int .i64 0, .int .i64 0, .int .i64 2] 30
      have hBq := hBr.alloc hBr.size (.cells #[.int .i64 0, .int .i64 4, .int .i64 1, .int .i64 0, .int .i64 0, .int .i64 0, .int .i64 0, .int .i64 0, .int .i64 2] 30)
      have hMq := mapAt_below hMr ((Below.refl _ wr).alloc (Nat.le_refl _) (.cells #[.int .i64 0, .int .i64 4, .int .i64 1, .int .i64 0, .int .i64 0, .int .i64 0, .int .i64 0, .int .i64 0, .int .i64 2] 30))
      go_wp2_with (fail)
      refine (known5 m _ hMq).mono ?_
      rintro e X5 ⟨rfl, hb5⟩
      have q5 := (q4.below' hb5).alloc (.cells #[.int .i64 0, .int .i64 0, .int .i64 0, .int .i64 0, .int .i64 0] 28)
      have q6 := Blk.new X5 #[.int .i64 0, .int .i64 0, .int .i64 0, .int .i64 0, .int .i64 0] 28
      have hB5 := hBq.trans (hb5.mono hBq.size)
      have hB6 := hB5.alloc hB5.size (.cells #[.int .i64 0, .int .i64 0, .int .i64 0, .int .i64 0, .int .i64 0] 28)
      have q5c := q5.cell
      have q6c := q6.cell
      go_wp2
      go_roundw
      case rel =>
        refine ⟨_, _, _, _, _, _, _, _, _, _, _, _, _, _, _, _, _, _, _, _, _, _, _, _, _, _, _, _, _, ?_, rfl⟩
        exact ⟨6, by first | rfl | trivial | go_num, by omega, hB6⟩
      case measure => simp [intOf]
    · have z0 : wr.cell? ⟨N, 54, none⟩ = some (.int .i64 12) := KB.out 54
      have z1 : wr.cell? ⟨N, 55, none⟩ = some (.int .i64 1) := KB.out 55
      have z2 : wr.cell? ⟨N, 56, none⟩ = some (.int .i64 0) := KB.out 56
      have z3 : wr.cell? ⟨N, 57, none⟩ = some (.int .i64 0) := KB.out 57
      have z4 : wr.cell? ⟨N, 58, none⟩ = some (.int .i64 0) := KB.out 58
      have z5 : wr.cell? ⟨N, 59, none⟩ = some (.int .i64 0) := KB.out 59
      have z6 : wr.cell? ⟨N, 60, none⟩ = some (.int .i64 0) := KB.out 60
      have z7 : wr.cell? ⟨N, 61, none⟩ = some (.int .i64 0) := KB.out 61
      have z8 : wr.cell? ⟨N, 62, none⟩ = some (.int .i64 5) := KB.out 62
      have q4 := Blk.new wr #[.int .i64 12, .int .i64 1, .int .i64 0, .int .i64 0, .int .i64 0, .int .i64 0, .int .i64 0, .int .i64 0, .int .i64 5] 30
      have hBq := hBr.alloc hBr.size (.cells #[.int .i64 12, .int .i64 1, .int .i64 0, .int .i64 0, .int .i64 0, .int .i64 0, .int .i64 0, .int .i64 0, .int .i64 5] 30)
      have hMq := mapAt_below hMr ((Below.refl _ wr).alloc (Nat.le_refl _) (.cells #[.int .i64 12, .int .i64 1, .int .i64 0, .int .i64 0, .int .i64 0, .int .i64 0, .int .i64 0, .int .i64 0, .int .i64 5] 30))
      go_wp2_with (fail)
      refine (known6 m _ hMq).mono ?_
      rintro e X5 ⟨rfl, hb5⟩
      have q5 := (q4.below' hb5).alloc (.cells #[.int .i64 0, .int .i64 0, .int .i64 0, .int .i64 0, .int .i64 0] 28)
      have q6 := Blk.new X5 #[.int .i64 0, .int .i64 0, .int .i64 0, .int .i64 0, .int .i64 0] 28
      have hB5 := hBq.trans (hb5.mono hBq.size)
      have hB6 := hB5.alloc hB5.size (.cells #[.int .i64 0, .int .i64 0, .int .i64 0, .int .i64 0, .int .i64 0] 28)
      have q5c := q5.cell
      have q6c := q6.cell
      go_wp2
      go_roundw
      case rel =>
        refine ⟨_, _, _, _, _, _, _, _, _, _, _, _, _, _, _, _, _, _, _, _, _, _, _, _, _, _, _, _, _, ?_, rfl⟩
        exact ⟨7, by first | rfl | trivial | go_num, by omega, hB6⟩
      case measure => simp [intOf]
    · have be := b4.below' hBr
      have hBe := hB4.trans (hBr.mono hB4.size)
      have hwr : w.heap.size < wr.heap.size := be.lt
      have H0 := Below.refl wr.heap.size wr
      go_wp2
      gi_wp2_with (fail)
      refine (callsIn_wide.2 (sh1 _)).mono ?_
      rintro e y0 ⟨rfl, h0⟩
      have H1 := H0.trans (h0.mono H0.size)
      gi_wp2_with (fail)
      refine (callsIn_wide.2 (sh2 _)).mono ?_
      rintro e y1 ⟨rfl, h1⟩
      have H2 := H1.trans (h1.mono H1.size)
      gi_wp2_with (fail)
      refine (callsIn_wide.2 (sh3 _)).mono ?_
      rintro e y2 ⟨rfl, h2⟩
      have H3 := H2.trans (h2.mono H2.size)
      gi_wp2_with (fail)
      refine (callsIn_wide.2 (sh4 _)).mono ?_
      rintro e y3 ⟨rfl, h3⟩
      have H4 := H3.trans (h3.mono H3.size)
      gi_wp2_with (fail)
      refine (callsIn_wide.2 (byte_nil _ _)).mono ?_
      rintro e y4 ⟨rfl, h4⟩
      have H5 := H4.trans (h4.mono H4.size)
      gi_wp2_with (fail)
      refine (callsIn_wide.2 (rune_nil _ _)).mono ?_
      rintro e y5 ⟨rfl, h5⟩
      have H6 := H5.trans (h5.mono H5.size)
      gi_wp2_with (fail)
      refine (callsIn_wide.2 (unit_nil _ _)).mono ?_
      rintro e y6 ⟨rfl, h6⟩
      have H7 := H6.trans (h6.mono H6.size)
      gi_wp2_with (fail)
      refine (callsIn_wide.2 (line_nil _ _ _)).mono ?_
      rintro e y7 ⟨rfl, h7⟩
      have H8 := H7.trans (h7.mono H7.size)
      gi_wp2_with (fail)
      refine (callsIn_wide.2 (move_nil _ _ _ _)).mono ?_
      rintro e y8 ⟨rfl, h8⟩
      have H9 := (H8.trans (h8.mono H8.size)).alloc (H8.trans (h8.mono H8.size)).size (.cells #[.int .i64 0, .int .i64 0, .int .i64 0, .int .i64 0, .int .i64 0] 28)
      gi_wp2_with (fail)
      refine (callsIn_wide.2 (span_nil _ _)).mono ?_
      rintro e y9 ⟨rfl, h9⟩
      have H10 := (H9.trans (h9.mono H9.size)).alloc (H9.trans (h9.mono H9.size)).size (.cells #[.int .i64 0, .int .i64 0] 37)
      gi_wp2_with (first | (gi_at_call 22; refine (callsIn_wide.2 (each_nil _)).mono ?_; rintro e y ⟨rfl, rfl⟩))
      have G0 := be.below' (H10.alloc H10.size (.cells #[.pointer none] 23))
      have G1 := hBe.trans ((H10.alloc H10.size (.cells #[.pointer none] 23)).mono hBe.size)
      have f8 := Boxed.new (y9.alloc (.cells #[.int .i64 0, .int .i64 0] 37)) 23 (.pointer none)
      simp only [World.size_alloc] at f8
      obtain ⟨V, hV⟩ : ∃ V, (y9.alloc (.cells #[.int .i64 0, .int .i64 0] 37)).alloc (.cells #[.pointer none] 23) = V := ⟨_, rfl⟩
      rw [hV] at G0 G1 f8 ⊢
      refine range_nil _ f8 rfl (fun W => Blk W w.heap.size #[.bool false] 4 ∧ Below w.heap.size w W) (AbX.and (blk_x _ _ (fun _ => _) _) (fun _ X Y row h hg hr => h.grown hg h.size (fun k hk => by have := (hr k hk).1; have := G1.size; omega))) ⟨G0, G1⟩ ?_
      rintro D U hD ⟨q0, hBU⟩ hK
      have hDw : w.heap.size < D := by have := (show Blk V (y9.heap.size + 1) _ _ from f8).lt; have := H10.size; simp at this; omega
      have c1 := q0.cell
      gi_wp2_with (fail)
      refine (callsIn_wide.2 (lines_nil _)).mono ?_
      rintro e x1 ⟨rfl, rfl⟩
      gi_wp2_with (fail)
      refine (callsIn_wide.2 (end_nil _)).mono ?_
      rintro e x2 ⟨rfl, g2⟩
      gi_wp2_with (fail)
      refine (callsIn_wide.2 (text_nil _)).mono ?_
      rintro e x3 ⟨rfl, rfl⟩
      have q1 := q0.below' g2
      have r1 := q1.cell
      have r2 := q1.frozen
      have r3 := q1.lt
      gi_wp2
      have v1 := (q1.set 0 (.bool true)).cell 0
      have hDU := (Array.getElem?_eq_some_iff.1 hK).1
      have v2 : (x2.setCell ⟨w.heap.size, 0, none⟩ (.bool true)).heap[D]? = some (.deferred (some [])) := (Below.heap_setCell _ _ _ _ (by dsimp only; omega)).trans ((g2.block D hDU).trans hK)
      have v3 := (hBU.trans (g2.mono hBU.size)).setCell (p := ⟨w.heap.size, 0, none⟩) (by dsimp only; omega) (.bool true)
      obtain ⟨Y, hY⟩ : ∃ Y, x2.setCell ⟨w.heap.size, 0, none⟩ (.bool true) = Y := ⟨_, rfl⟩
      rw [hY] at v1 v2 v3 ⊢
      clear hY
      replace v1 : Y.cell? ⟨w.heap.size, 0, none⟩ = some (.bool true) := by simpa using v1
      have c11 : (Y.putObj D (.deferred none)).cell? ⟨w.heap.size, 0, none⟩ = some (.bool true) := (World.cell?_of_block (w := Y) (World.putObj_heap_other (by dsimp only; omega))).trans v1
      have hB11 := v3.trans (belowK_b (w := w) (Nat.le_refl _) Y D _ (.deferred none) (by omega) v2 rfl rfl)
      refine ⟨by simp, .inl ⟨_, _, rfl, run_takeDeferred (w := Y) v2, ?_⟩⟩
      refine ⟨.bool true, ?_, rfl, hB11⟩
      simp [results, Try.f3, go_sem, c11]
end Go.Proofs.Ytjlfdoonhfkabaa
