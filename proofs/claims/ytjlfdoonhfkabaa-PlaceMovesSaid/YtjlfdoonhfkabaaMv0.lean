/- Places: within. -/
import Derived.Test.YtjlfdoonhfkabaaQk
namespace Go.Proofs.Ytjlfdoonhfkabaa
set_option linter.unusedVariables false
set_option linter.unusedSimpArgs false
open Go Go.RowKit Go.Shelf
set_option maxRecDepth 100000

/-- a and n together, at least 0 and at most most. -/
def clampI (a : Nat) (n : Int) (most : Nat) : Nat := if n < -(a : Int) then 0 else if (most : Int) - a < n then most else ((a : Int) + n).toNat
theorem clampI_le {a most : Nat} {n : Int} : clampI a n most ≤ most := by unfold clampI; split <;> (try split) <;> omega

set_option maxHeartbeats 1000000 in
theorem within_any (a most : Nat) (n : Int) (h : a ≤ most) (hm : most ≤ 262144) (w : World) :
    Calls Try.prog 36 #[.int .i64 a, .int .i64 n, .int .i64 most] w fun e w' => e = .returned (.int .i64 (clampI a n most)) ∧ w = w' := by
  have i0 : IntKind.i64.wrap (-(a : Int)) = -(a : Int) := IntWalk.i64_in _ (by omega)
  have i1 : IntKind.i64.wrap ((most : Int) - (a : Int)) = (most : Int) - (a : Int) := IntWalk.i64_in _ (by omega)
  unfold clampI
  by_cases h1 : n < -(a : Int)
  · rw [if_pos h1]
    have d1 : decide (n < -(a : Int)) = true := decide_eq_true h1
    go_enter Try.func36, Try.ntmps36
    go_wp2
    go_ret
    exact ⟨rfl, rfl⟩
  · rw [if_neg h1]
    have d1 : decide (n < -(a : Int)) = false := decide_eq_false h1
    by_cases h2 : (most : Int) - a < n
    · rw [if_pos h2]
      have d2 : decide ((most : Int) - a < n) = true := decide_eq_true h2
      go_enter Try.func36, Try.ntmps36
      go_wp2
      go_ret
      exact ⟨rfl, rfl⟩
    · rw [if_neg h2]
      have d2 : decide ((most : Int) - a < n) = false := decide_eq_false h2
      have i2 : IntKind.i64.wrap ((a : Int) + n) = (a : Int) + n := IntWalk.i64_in _ (by omega)
      obtain ⟨r, hr⟩ : ∃ r : Nat, (a : Int) + n = r := ⟨((a : Int) + n).toNat, by omega⟩
      rw [hr] at i2 ⊢
      go_enter Try.func36, Try.ntmps36
      go_wp2
      go_ret
      exact ⟨rfl, rfl⟩
end Go.Proofs.Ytjlfdoonhfkabaa
