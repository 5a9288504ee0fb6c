/- live and known -/
import Derived.Test.YtkikopjbaonbpaaCd4
import Derived.Test.YtkikopjbaonbpaaCd5
import Derived.Deep.RegionWith
namespace Go.Proofs.Ytkikopjbaonbpaa
set_option linter.unusedVariables false
set_option linter.unusedSimpArgs false
open Go Go.RowKit
set_option maxRecDepth 100000

theorem live_any (w : World) : Calls Try.prog 6 #[] w fun e w' => e = .returned (.bool true) ∧ w = w' := by
  have cK := kind_any 97
  have cL := lower_any 65
  rw [show kindZ 97 = 1 by kernel_rfl] at cK
  rw [show lowZ 65 = 97 by kernel_rfl] at cL
  go_enter Try.func6, Try.ntmps6
  go_wp2_with (first | (go_at_call 16; refine (cK _).mono ?_; rintro e w' ⟨rfl, rfl⟩) | (go_at_call 17; refine (cL _).mono ?_; rintro e w' ⟨rfl, rfl⟩))
  go_ret
  exact ⟨rfl, rfl⟩

theorem enc_all : (List.range 1120).all (fun n => (Utf8.encode (n : Int)).size == encN (n : Int)) = true := by kernel_rfl
theorem enc_in (r : Int) (h0 : 0 ≤ r) (h1 : r ≤ 1119) : (Utf8.encode r).size = encN r := by
  have := fin enc_all r h0 h1
  rw [Int.toNat_of_nonneg h0, beq_iff_eq] at this
  exact this

end Go.Proofs.Ytkikopjbaonbpaa
