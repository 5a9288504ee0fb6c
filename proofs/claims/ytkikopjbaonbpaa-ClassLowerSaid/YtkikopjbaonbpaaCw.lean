/- What the program's class answers of a rune. -/
import Derived.Test.YtkikopjbaonbpaaRows
import Derived.Test.YtkikopjbaonbpaaCz
import Derived.Test.YtkikopjbaonbpaaPc
import Derived.WalkSpells
import Derived.WalkLawsBesides
import Derived.Lib.Hide
import Derived.Deep.Light
namespace Go.Proofs.Ytkikopjbaonbpaa
set_option linter.unusedVariables false
set_option linter.unusedSimpArgs false
open Go Go.RowKit
set_option maxRecDepth 100000

theorem ret_int {k : IntKind} {a b : Int} (h : a = b) : Ending.returned (.int k a) = .returned (.int k b) := by rw [h]
theorem ret_bool {a b : Bool} (h : a = b) : Ending.returned (.bool a) = .returned (.bool b) := by rw [h]

set_option maxHeartbeats 400000 in
theorem width_any (r : Int) (w : World) :
    Calls Try.prog 28 #[.int .i32 r] w fun e w' => e = .returned (.int .i64 (widZ r : Nat)) ∧ w = w' := by
  go_enter Try.func28, Try.ntmps28
  go_wp2
  all_goals go_ret
  all_goals exact ⟨ret_int (by unfold widZ; repeat (first | rw [if_pos (by omega)] | rw [if_neg (by omega)] | rfl)), rfl⟩

set_option maxHeartbeats 4000000 in
theorem great_any (r : Int) (w : World) :
    Calls Try.prog 30 #[.int .i32 r] w fun e w' => e = .returned (.bool (grB r)) ∧ w = w' := by
  go_enter Try.func30, Try.ntmps30
  go_wp2
  all_goals go_ret
  all_goals refine ⟨ret_bool ?_, rfl⟩
  all_goals (rw [Bool.eq_iff_iff]; simp only [grB, smB, Bool.and_eq_true, Bool.or_eq_true, decide_eq_true_eq, bne_iff_ne, ne_eq, beq_iff_eq, Bool.false_eq_true, true_iff, false_iff, iff_true, iff_false, eq_self, not_true_eq_false]; (try unfold Gr); (try unfold Sm); omega)

set_option maxHeartbeats 4000000 in
theorem in_any (r a b : Int) (w : World) :
    Calls Try.prog 38 #[.int .i32 r, .int .i32 a, .int .i32 b] w fun e w' => e = .returned (.bool (decide (a ≤ r ∧ r ≤ b))) ∧ w = w' := by
  go_enter Try.func38, Try.ntmps38
  go_wp2
  all_goals go_ret
  all_goals refine ⟨ret_bool ?_, rfl⟩
  all_goals (rw [Bool.eq_iff_iff]; simp only [Bool.and_eq_true, Bool.or_eq_true, decide_eq_true_eq, bne_iff_ne, ne_eq, beq_iff_eq, Bool.false_eq_true, true_iff, false_iff, iff_true, iff_false, eq_self, not_true_eq_false]; (try unfold Gr); (try unfold Sm); omega)
end Go.Proofs.Ytkikopjbaonbpaa
