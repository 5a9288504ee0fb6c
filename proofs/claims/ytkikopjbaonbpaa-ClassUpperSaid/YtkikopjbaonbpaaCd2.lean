/- What the document's Small answers. -/
import Derived.Test.YtkikopjbaonbpaaCw3
namespace Go.Proofs.Ytkikopjbaonbpaa
set_option linter.unusedVariables false
set_option linter.unusedSimpArgs false
open Go Go.RowKit
set_option maxRecDepth 100000

set_option maxHeartbeats 4000000 in
theorem smallD_any (r : Int) (w : World) :
    Calls Try.prog 35 #[.int .i32 r] w fun e w' => e = .returned (.bool (smB r)) ∧ w = w' := by
  by_cases h0 : r = 247
  · subst h0
    go_enter Try.func35, Try.ntmps35
    go_wp2_with (first | (go_at_call 38; refine (in_any _ _ _ _).mono ?_; rintro e w' ⟨rfl, rfl⟩))
    all_goals go_ret
    all_goals (refine ⟨ret_bool ?_, rfl⟩; (try simp only [beq_iff_eq, beq_eq_false_iff_ne, bne_iff_ne, ne_eq, Bool.or_eq_true, Bool.and_eq_true, Bool.or_eq_false_iff, Bool.and_eq_false_iff, decide_eq_true_eq, decide_eq_false_iff_not] at *); (rw [Bool.eq_iff_iff]; simp only [grB, smB, Bool.and_eq_true, Bool.or_eq_true, decide_eq_true_eq, bne_iff_ne, ne_eq, beq_iff_eq, Bool.false_eq_true, true_iff, false_iff, iff_true, iff_false, eq_self, not_true_eq_false]; (try unfold Gr); (try unfold Sm); omega))
  · have h0b : (r == 247) = false := by rw [beq_eq_false_iff_ne]; exact h0
    have h0c : (r != 247) = true := by rw [bne_iff_ne]; exact h0
    go_enter Try.func35, Try.ntmps35
    go_wp2_with (first | (go_at_call 38; refine (in_any _ _ _ _).mono ?_; rintro e w' ⟨rfl, rfl⟩))
    all_goals go_ret
    all_goals (refine ⟨ret_bool ?_, rfl⟩; (try simp only [beq_iff_eq, beq_eq_false_iff_ne, bne_iff_ne, ne_eq, Bool.or_eq_true, Bool.and_eq_true, Bool.or_eq_false_iff, Bool.and_eq_false_iff, decide_eq_true_eq, decide_eq_false_iff_not] at *); (rw [Bool.eq_iff_iff]; simp only [grB, smB, Bool.and_eq_true, Bool.or_eq_true, decide_eq_true_eq, bne_iff_ne, ne_eq, beq_iff_eq, Bool.false_eq_true, true_iff, false_iff, iff_true, iff_false, eq_self, not_true_eq_false]; (try unfold Gr); (try unfold Sm); omega))
end Go.Proofs.Ytkikopjbaonbpaa
