/- ClassCase: the law's call, at every text. -/
import Derived.Test.YtkikopjbaonbpaaCb
import Derived.Test.YtkikopjbaonbpaaLawKnown
namespace Go.Proofs.Ytkikopjbaonbpaa
set_option linter.unusedVariables false
set_option linter.unusedSimpArgs false
open Go Go.RowKit
set_option maxRecDepth 100000

theorem beyond_any (n : Int) (h : n ≤ 2147483647) (w : World) : Calls Try.prog 9 #[.int .i64 n] w fun e w' => e = .returned (.bool false) ∧ w = w' := by
  have hd : decide ((2147483647 : Int) < n) = false := decide_eq_false (by omega)
  go_enter Try.func9, Try.ntmps9
  go_wp2
  go_ret
  exact ⟨rfl, rfl⟩

theorem beyond_yes (n : Int) (h : 2147483647 < n) (w : World) : Calls Try.prog 9 #[.int .i64 n] w fun e w' => e = .returned (.bool true) ∧ w = w' := by
  have hd : decide ((2147483647 : Int) < n) = true := decide_eq_true h
  go_enter Try.func9, Try.ntmps9
  go_wp2
  go_ret
  exact ⟨rfl, rfl⟩

end Go.Proofs.Ytkikopjbaonbpaa
