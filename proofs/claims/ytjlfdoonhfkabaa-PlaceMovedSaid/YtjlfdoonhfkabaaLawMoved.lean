/- PlaceMoved: the law's call. -/
import Derived.Test.YtjlfdoonhfkabaaMoved
import Derived.Test.YtjlfdoonhfkabaaMovS
namespace Go.Proofs.Ytjlfdoonhfkabaa
set_option linter.unusedVariables false
set_option linter.unusedSimpArgs false
open Go Go.RowKit Go.Shelf
set_option maxRecDepth 100000

set_option maxHeartbeats 1000000 in
theorem moved_long (s : ByteArray) (hs : 65536 < s.size) (at' a b : Int) (w : World) : Calls Try.prog 10 #[.string s, .int .i64 at', .int .i64 a, .int .i64 b] w fun e w' => e = .returned (.bool true) ∧ Below w.heap.size w w' := by
  have hsi : (65536 : Int) < (s.size : Int) := by omega
  have hsd : decide ((65536 : Int) < (s.size : Int)) = true := decide_eq_true hsi
  go_enter Try.func10, Try.ntmps10
  go_wp2_with fail
  refine (works_any _).mono ?_
  rintro e w1 ⟨rfl, hb1⟩
  go_wp2_with fail
  refine (new_long s hs _).mono ?_
  rintro e w2 ⟨rfl, rfl⟩
  go_wp2_with fail
  refine (works_any _).mono ?_
  rintro e w3 ⟨rfl, hb3⟩
  go_wp2
  go_ret
  exact ⟨rfl, hb1.trans (hb3.mono hb1.size)⟩

theorem moved_law (s : ByteArray) (at' a b : Int) (w : World) : Calls Try.prog 10 #[.string s, .int .i64 at', .int .i64 a, .int .i64 b] w fun e w' => e = .returned (.bool true) ∧ Below w.heap.size w w' := by
  rcases Nat.lt_or_ge 65536 s.size with h | h
  · exact moved_long s h at' a b w
  · by_cases hk : at' < 0 ∨ (s.size : Int) < at' ∨ decide (a < 0) ≠ decide (b < 0) ∨ 1099511627776 < a ∨ a < -1099511627776 ∨ 1099511627776 < b ∨ b < -1099511627776
    · exact moved_skip s h at' a b w hk
    · simp only [not_or, Decidable.not_not] at hk
      obtain ⟨k1, k2, k3, k4, k5, k6, k7⟩ := hk
      obtain ⟨n, rfl⟩ : ∃ n : Nat, at' = n := ⟨at'.toNat, by omega⟩
      exact moved_short s h n (by omega) a b k3 (by omega) (by omega) (by omega) (by omega) w
end Go.Proofs.Ytjlfdoonhfkabaa
