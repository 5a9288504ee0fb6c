/- Places: Shift, the program's and the document's; the law PlaceShifts. -/
import Derived.Test.YtjlfdoonhfkabaaQi
namespace Go.Proofs.Ytjlfdoonhfkabaa
set_option linter.unusedVariables false
set_option linter.unusedSimpArgs false
open Go Go.RowKit Go.Shelf
set_option maxRecDepth 100000

/-- Is the change none? -/
def shB (a f t p : Int) : Bool := decide (f < 0) || decide (t < f) || decide (a < 0) || decide (p < 0) || decide (65536 < p) || decide (2147483647 < a) || decide (2147483647 < t)
/-- Where the place then lies. -/
def shV (a f t p : Int) : Int := if a ≤ f then a else if a < t then f + p else a + p - (t - f)
theorem shB_false {a f t p : Int} (h : shB a f t p = false) : 0 ≤ f ∧ f ≤ t ∧ 0 ≤ a ∧ 0 ≤ p ∧ p ≤ 65536 ∧ a ≤ 2147483647 ∧ t ≤ 2147483647 := by
  simp only [shB, Bool.or_eq_false_iff, decide_eq_false_iff_not] at h
  omega

set_option maxHeartbeats 4000000 in
theorem shift_any (a f t p : Int) (w : World) :
    Calls Try.prog 16 #[.int .i64 a, .agg #[.int .i64 f, .int .i64 t], .int .i64 p] w fun e w' => e = .returned (if shB a f t p = true then .tuple #[.int .i64 0, .int .i64 2] else .tuple #[.int .i64 (shV a f t p), .int .i64 0]) ∧ Below w.heap.size w w' := by
  by_cases c1 : f < 0
  · rw [if_pos (by simp [shB, c1])]
    go_enter Try.func16, Try.ntmps16
    go_wp2
    exact bodyPost_ret (v := .tuple #[.int .i64 0, .int .i64 2]) (by simp [results, Try.f16, go_sem]) rfl ⟨rfl, (Below.refl _ w).alloc (Nat.le_refl _) _⟩
  by_cases c2 : t < f
  · rw [if_pos (by simp [shB, c2])]
    go_enter Try.func16, Try.ntmps16
    go_wp2
    exact bodyPost_ret (v := .tuple #[.int .i64 0, .int .i64 2]) (by simp [results, Try.f16, go_sem]) rfl ⟨rfl, (Below.refl _ w).alloc (Nat.le_refl _) _⟩
  by_cases c3 : a < 0
  · rw [if_pos (by simp [shB, c3])]
    go_enter Try.func16, Try.ntmps16
    go_wp2
    exact bodyPost_ret (v := .tuple #[.int .i64 0, .int .i64 2]) (by simp [results, Try.f16, go_sem]) rfl ⟨rfl, (Below.refl _ w).alloc (Nat.le_refl _) _⟩
  by_cases c4 : p < 0
  · rw [if_pos (by simp [shB, c4])]
    go_enter Try.func16, Try.ntmps16
    go_wp2
    exact bodyPost_ret (v := .tuple #[.int .i64 0, .int .i64 2]) (by simp [results, Try.f16, go_sem]) rfl ⟨rfl, (Below.refl _ w).alloc (Nat.le_refl _) _⟩
  by_cases c5 : 65536 < p
  · rw [if_pos (by simp [shB, c5])]
    go_enter Try.func16, Try.ntmps16
    go_wp2
    exact bodyPost_ret (v := .tuple #[.int .i64 0, .int .i64 2]) (by simp [results, Try.f16, go_sem]) rfl ⟨rfl, (Below.refl _ w).alloc (Nat.le_refl _) _⟩
  by_cases c6 : 2147483647 < a
  · rw [if_pos (by simp [shB, c6])]
    go_enter Try.func16, Try.ntmps16
    go_wp2
    exact bodyPost_ret (v := .tuple #[.int .i64 0, .int .i64 2]) (by simp [results, Try.f16, go_sem]) rfl ⟨rfl, (Below.refl _ w).alloc (Nat.le_refl _) _⟩
  by_cases c7 : 2147483647 < t
  · rw [if_pos (by simp [shB, c7])]
    go_enter Try.func16, Try.ntmps16
    go_wp2
    exact bodyPost_ret (v := .tuple #[.int .i64 0, .int .i64 2]) (by simp [results, Try.f16, go_sem]) rfl ⟨rfl, (Below.refl _ w).alloc (Nat.le_refl _) _⟩
  rw [if_neg (by simp [shB, c1, c2, c3, c4, c5, c6, c7])]
  have w1 : IntKind.i64.wrap (f + p) = f + p := IntWalk.i64_in _ (by omega)
  have w2 : IntKind.i64.wrap (a + p) = a + p := IntWalk.i64_in _ (by omega)
  have w3 : IntKind.i64.wrap (t - f) = t - f := IntWalk.i64_in _ (by omega)
  have w4 : IntKind.i64.wrap (a + p - (t - f)) = a + p - (t - f) := IntWalk.i64_in _ (by omega)
  by_cases c8 : a ≤ f
  · rw [shV, if_pos c8]
    go_enter Try.func16, Try.ntmps16
    go_wp2
    exact bodyPost_ret (v := .tuple #[.int .i64 a, .int .i64 0]) (by simp [results, Try.f16, go_sem]) rfl ⟨rfl, (Below.refl _ w).alloc (Nat.le_refl _) _⟩
  by_cases c9 : a < t
  · rw [shV, if_neg c8, if_pos c9]
    go_enter Try.func16, Try.ntmps16
    go_wp2
    exact bodyPost_ret (v := .tuple #[.int .i64 (f + p), .int .i64 0]) (by simp [results, Try.f16, go_sem]) rfl ⟨rfl, (Below.refl _ w).alloc (Nat.le_refl _) _⟩
  · rw [shV, if_neg c8, if_neg c9]
    go_enter Try.func16, Try.ntmps16
    go_wp2
    exact bodyPost_ret (v := .tuple #[.int .i64 (a + p - (t - f)), .int .i64 0]) (by simp [results, Try.f16, go_sem]) rfl ⟨rfl, (Below.refl _ w).alloc (Nat.le_refl _) _⟩

set_option maxHeartbeats 4000000 in
theorem shiftR_any (a f t p : Int) (w : World) :
    Calls Try.prog 33 #[.int .i64 a, .agg #[.int .i64 f, .int .i64 t], .int .i64 p] w fun e w' => e = .returned (if shB a f t p = true then .tuple #[.int .i64 0, .bool false] else .tuple #[.int .i64 (shV a f t p), .bool true]) ∧ Below w.heap.size w w' := by
  by_cases c1 : f < 0
  · rw [if_pos (by simp [shB, c1])]
    go_enter Try.func33, Try.ntmps33
    go_wp2
    exact bodyPost_ret (v := .tuple #[.int .i64 0, .bool false]) (by simp [results, Try.f33, go_sem]) rfl ⟨rfl, (Below.refl _ w).alloc (Nat.le_refl _) _⟩
  by_cases c2 : t < f
  · rw [if_pos (by simp [shB, c2])]
    go_enter Try.func33, Try.ntmps33
    go_wp2
    exact bodyPost_ret (v := .tuple #[.int .i64 0, .bool false]) (by simp [results, Try.f33, go_sem]) rfl ⟨rfl, (Below.refl _ w).alloc (Nat.le_refl _) _⟩
  by_cases c3 : a < 0
  · rw [if_pos (by simp [shB, c3])]
    go_enter Try.func33, Try.ntmps33
    go_wp2
    exact bodyPost_ret (v := .tuple #[.int .i64 0, .bool false]) (by simp [results, Try.f33, go_sem]) rfl ⟨rfl, (Below.refl _ w).alloc (Nat.le_refl _) _⟩
  by_cases c4 : p < 0
  · rw [if_pos (by simp [shB, c4])]
    go_enter Try.func33, Try.ntmps33
    go_wp2
    exact bodyPost_ret (v := .tuple #[.int .i64 0, .bool false]) (by simp [results, Try.f33, go_sem]) rfl ⟨rfl, (Below.refl _ w).alloc (Nat.le_refl _) _⟩
  by_cases c5 : 65536 < p
  · rw [if_pos (by simp [shB, c5])]
    go_enter Try.func33, Try.ntmps33
    go_wp2
    exact bodyPost_ret (v := .tuple #[.int .i64 0, .bool false]) (by simp [results, Try.f33, go_sem]) rfl ⟨rfl, (Below.refl _ w).alloc (Nat.le_refl _) _⟩
  by_cases c6 : 2147483647 < a
  · rw [if_pos (by simp [shB, c6])]
    go_enter Try.func33, Try.ntmps33
    go_wp2
    exact bodyPost_ret (v := .tuple #[.int .i64 0, .bool false]) (by simp [results, Try.f33, go_sem]) rfl ⟨rfl, (Below.refl _ w).alloc (Nat.le_refl _) _⟩
  by_cases c7 : 2147483647 < t
  · rw [if_pos (by simp [shB, c7])]
    go_enter Try.func33, Try.ntmps33
    go_wp2
    exact bodyPost_ret (v := .tuple #[.int .i64 0, .bool false]) (by simp [results, Try.f33, go_sem]) rfl ⟨rfl, (Below.refl _ w).alloc (Nat.le_refl _) _⟩
  rw [if_neg (by simp [shB, c1, c2, c3, c4, c5, c6, c7])]
  have w1 : IntKind.i64.wrap (f + p) = f + p := IntWalk.i64_in _ (by omega)
  have w2 : IntKind.i64.wrap (a + p) = a + p := IntWalk.i64_in _ (by omega)
  have w3 : IntKind.i64.wrap (t - f) = t - f := IntWalk.i64_in _ (by omega)
  have w4 : IntKind.i64.wrap (a + p - (t - f)) = a + p - (t - f) := IntWalk.i64_in _ (by omega)
  by_cases c8 : a ≤ f
  · rw [shV, if_pos c8]
    go_enter Try.func33, Try.ntmps33
    go_wp2
    exact bodyPost_ret (v := .tuple #[.int .i64 a, .bool true]) (by simp [results, Try.f33, go_sem]) rfl ⟨rfl, (Below.refl _ w).alloc (Nat.le_refl _) _⟩
  by_cases c9 : a < t
  · rw [shV, if_neg c8, if_pos c9]
    go_enter Try.func33, Try.ntmps33
    go_wp2
    exact bodyPost_ret (v := .tuple #[.int .i64 (f + p), .bool true]) (by simp [results, Try.f33, go_sem]) rfl ⟨rfl, (Below.refl _ w).alloc (Nat.le_refl _) _⟩
  · rw [shV, if_neg c8, if_neg c9]
    go_enter Try.func33, Try.ntmps33
    go_wp2
    exact bodyPost_ret (v := .tuple #[.int .i64 (a + p - (t - f)), .bool true]) (by simp [results, Try.f33, go_sem]) rfl ⟨rfl, (Below.refl _ w).alloc (Nat.le_refl _) _⟩

set_option maxHeartbeats 4000000 in
theorem shifts_any (a f t p : Int) (w : World) : Calls Try.prog 6 #[.int .i64 a, .agg #[.int .i64 f, .int .i64 t], .int .i64 p] w fun e w' => e = .returned (.bool true) ∧ Below w.heap.size w w' := by
  have c1 := fun w => shift_any a f t p w
  have c2 := fun w => shiftR_any a f t p w
  have b0 := Blk.new w #[.int .i64 f, .int .i64 t] 37
  have bB : Below w.heap.size w (w.alloc (.cells #[.int .i64 f, .int .i64 t] 37)) := (Below.refl _ w).alloc (Nat.le_refl _) _
  cases hb : shB a f t p with
  | true =>
    rw [hb] at c1 c2
    simp only [if_true] at c1 c2
    go_enter Try.func6, Try.ntmps6
    go_wp2_with fail
    refine (works_any _).mono ?_
    rintro e w1 ⟨rfl, h1⟩
    have d1 := (b0.below' h1).cell
    have hB1 := bB.trans (h1.mono bB.size)
    have e1 := b0.below' h1
    go_wp2_with fail
    refine (c1 _).mono ?_
    rintro e w2 ⟨rfl, h2⟩
    have e2 := e1.below' h2
    have d2 := e2.cell
    have hB2 := hB1.trans (h2.mono hB1.size)
    go_wp2_with fail
    refine (c2 _).mono ?_
    rintro e w3 ⟨rfl, h3⟩
    have hB3 := hB2.trans (h3.mono hB2.size)
    go_wp2_with fail
    refine (works_any _).mono ?_
    rintro e w4 ⟨rfl, h4⟩
    go_wp2
    go_ret
    exact ⟨rfl, hB3.trans (h4.mono hB3.size)⟩
  | false =>
    rw [hb] at c1 c2
    simp only [Bool.false_eq_true, if_false] at c1 c2
    obtain ⟨v, hv⟩ : ∃ v, shV a f t p = v := ⟨_, rfl⟩
    rw [hv] at c1 c2
    go_enter Try.func6, Try.ntmps6
    go_wp2_with fail
    refine (works_any _).mono ?_
    rintro e w1 ⟨rfl, h1⟩
    have d1 := (b0.below' h1).cell
    have hB1 := bB.trans (h1.mono bB.size)
    have e1 := b0.below' h1
    go_wp2_with fail
    refine (c1 _).mono ?_
    rintro e w2 ⟨rfl, h2⟩
    have e2 := e1.below' h2
    have d2 := e2.cell
    have hB2 := hB1.trans (h2.mono hB1.size)
    go_wp2_with fail
    refine (c2 _).mono ?_
    rintro e w3 ⟨rfl, h3⟩
    have hB3 := hB2.trans (h3.mono hB2.size)
    go_wp2_with fail
    refine (works_any _).mono ?_
    rintro e w4 ⟨rfl, h4⟩
    go_wp2
    go_ret
    exact ⟨rfl, hB3.trans (h4.mono hB3.size)⟩
end Go.Proofs.Ytjlfdoonhfkabaa
