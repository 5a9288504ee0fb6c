/- Stage 27: kind, Sizes. -/
import Derived.Test.YtjccoiephdopkaaDoorHb
namespace Go.Proofs.YtjccoiephdopkaaDoor
set_option linter.unusedVariables false
set_option linter.unusedSimpArgs false
open Go Go.RowKit Go.Shelf
set_option maxRecDepth 100000

theorem kind_any (x : Sp) (w : World) : Calls Tryd.prog 52 #[.agg #[.int .i64 x.k, .string x.d, .string x.p]] w fun e w' => e = .returned (.int .i64 (kindN x)) ∧ Below w.heap.size w w' := by
  obtain ⟨k, d, p⟩ := x
  have hB := (Below.refl w.heap.size w).alloc (Nat.le_refl _) (.cells #[.int .i64 k, .string d, .string p] 39)
  rcases Int.lt_trichotomy k 0 with h0 | h0 | h0
  all_goals (rcases emp_or d with rfl | ⟨d0, d1, d2, d3⟩)
  all_goals (rcases emp_or p with rfl | ⟨p0, p1, p2, p3⟩)
  all_goals (
    have HB := Lib.hid hB
    clear hB
    have e1 : decide ((0 : Int) < k) = decide (0 < k) := rfl
    first
      | (have k1 : ¬ 0 < k := by omega
         have k2 : (k == 0) = false := by rw [beq_eq_false_iff_ne]; omega
         have k3 : ¬ k = 0 := by omega
         go_enter Tryd.func52, Tryd.ntmps52
         go_wp2
         go_ret
         exact ⟨by unfold kindN; simp [*] <;> (split <;> omega), HB.out⟩)
      | (subst h0
         go_enter Tryd.func52, Tryd.ntmps52
         go_wp2
         go_ret
         exact ⟨by unfold kindN; simp [*] <;> (split <;> omega), HB.out⟩)
      | (have k2 : (k == 0) = false := by rw [beq_eq_false_iff_ne]; omega
         have k3 : ¬ k = 0 := by omega
         go_enter Tryd.func52, Tryd.ntmps52
         go_wp2
         go_ret
         exact ⟨by unfold kindN; simp [*] <;> (split <;> omega), HB.out⟩))

/-- Steps as they may come in. -/
def OkS (l : List Sp) : Prop := ∀ x ∈ l, x.d.size ≤ 140737488355328 ∧ x.p.size ≤ 140737488355328 ∧ x.k ≤ 9223372036854775807 ∧ -9223372036854775808 ≤ x.k
def szV : Option (Nat × Nat) → Value
  | none => .tuple #[.int .i64 0, .int .i64 0, .int .i64 2]
  | some (f, t) => .tuple #[.int .i64 f, .int .i64 t, .int .i64 0]
theorem get3 {w : World} {l : List Sp} {i : Nat} {x : Sp} {g off : Nat} (hc : ∀ j, j < 3 → w.cell? ⟨g, off + i * 3 + j, none⟩ = (encS x)[j]?) : w.cell? ⟨g, off + i * 3, none⟩ = some (.int .i64 x.k) ∧ w.cell? ⟨g, off + i * 3 + 1, none⟩ = some (.string x.d) ∧ w.cell? ⟨g, off + i * 3 + 2, none⟩ = some (.string x.p) :=
  ⟨hc 0 (by decide), hc 1 (by decide), hc 2 (by decide)⟩
theorem kind_pos {x : Sp} (h : kindN x ≠ 0) : 0 ≤ x.k := by
  unfold kindN at h
  split at h
  · omega
  · split at h
    · omega
    · split at h
      · omega
      · exact absurd rfl h
theorem below_drewN (w : World) (k : Nat) : Below w.heap.size w (w.drewN k) := ⟨rfl, rfl, rfl, Nat.le_refl _, fun _ _ => rfl⟩
end Go.Proofs.YtjccoiephdopkaaDoor
