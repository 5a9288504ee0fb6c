/- What the document's Vowel answers. -/
import Derived.Test.YtkikopjbaonbpaaCd3
import Derived.Test.YtkikopjbaonbpaaCv
namespace Go.Proofs.Ytkikopjbaonbpaa
set_option linter.unusedVariables false
set_option linter.unusedSimpArgs false
open Go Go.RowKit
set_option maxRecDepth 100000

def six (x : Int) : Prop := x = 97 ∨ x = 101 ∨ x = 105 ∨ x = 111 ∨ x = 117 ∨ x = 121
def rng (x : Int) : Prop := (224 ≤ x ∧ x ≤ 230) ∨ (232 ≤ x ∧ x ≤ 239) ∨ (242 ≤ x ∧ x ≤ 246) ∨ (248 ≤ x ∧ x ≤ 253) ∨ x = 255
theorem vowD_six {x : Int} (h : six x) : vowD x = true := by
  unfold six at h
  rcases h with rfl | rfl | rfl | rfl | rfl | rfl <;> rfl
theorem vowD_rng {x : Int} (h : rng x) : vowD x = true := by
  unfold rng at h
  unfold vowD
  simp only [Bool.or_eq_true, Bool.and_eq_true, decide_eq_true_eq, beq_iff_eq]
  left; right
  omega
theorem vowD_rest {x : Int} (h1 : ¬ six x) (h2 : ¬ rng x) : vowD x = (runesOf vowT4).contains x := by
  rw [runes_R]
  unfold six at h1
  unfold rng at h2
  unfold vowD
  have e1 : (x == 97 || x == 101 || x == 105 || x == 111 || x == 117 || x == 121) = false := by
    simp only [Bool.or_eq_false_iff, beq_eq_false_iff_ne]; omega
  have e2 : (decide (224 ≤ x) && decide (x ≤ 230) || decide (232 ≤ x) && decide (x ≤ 239) || decide (242 ≤ x) && decide (x ≤ 246) || decide (248 ≤ x) && decide (x ≤ 253) || x == 255) = false := by
    simp only [Bool.or_eq_false_iff, Bool.and_eq_false_iff, decide_eq_false_iff_not, beq_eq_false_iff_ne]; omega
  rw [e1, e2]; simp

end Go.Proofs.Ytkikopjbaonbpaa
