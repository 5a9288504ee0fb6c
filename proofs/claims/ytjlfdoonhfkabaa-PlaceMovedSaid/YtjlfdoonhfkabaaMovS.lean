/- PlaceMoved: the law's call: the passed over. -/
import Derived.Test.YtjlfdoonhfkabaaMv3
import Derived.Test.YtjlfdoonhfkabaaQq
namespace Go.Proofs.Ytjlfdoonhfkabaa
set_option linter.unusedVariables false
set_option linter.unusedSimpArgs false
open Go Go.RowKit Go.Shelf
set_option maxRecDepth 100000

set_option maxHeartbeats 20000000 in
theorem moved_skip (s : ByteArray) (hs : s.size ≤ 65536) (at' a b : Int) (w : World) (h : at' < 0 ∨ (s.size : Int) < at' ∨ decide (a < 0) ≠ decide (b < 0) ∨ 1099511627776 < a ∨ a < -1099511627776 ∨ 1099511627776 < b ∨ b < -1099511627776) :
    Calls Try.prog 10 #[.string s, .int .i64 at', .int .i64 a, .int .i64 b] w fun e w' => e = .returned (.bool true) ∧ Below w.heap.size w w' := by
  have cN := fun w => callsIn_wide.1 (new_in s hs w)
  by_cases q0 : at' < 0
  · have c0 : decide (at' < 0) = true := decide_eq_true q0
    go_enter Try.func10, Try.ntmps10
    go_wp2_with (fail)
    refine (works_any _).mono ?_
    rintro e w1 ⟨rfl, hb1⟩
    go_wp2_with (fail)
    refine (cN _).mono ?_
    rintro e w2 ⟨m, rfl, hM, hb2⟩
    have hB2 := hb1.trans (hb2.mono hb1.size)
    clear hM hb1 hb2
    go_wp2_with (fail)
    refine (works_any _).mono ?_
    rintro e w3 ⟨rfl, hb3⟩
    go_wp2
    go_ret
    exact ⟨rfl, hB2.trans (hb3.mono hB2.size)⟩
  have c0 : decide (at' < 0) = false := decide_eq_false q0
  by_cases q1 : (s.size : Int) < at'
  · have c1 : decide ((s.size : Int) < at') = true := decide_eq_true q1
    go_enter Try.func10, Try.ntmps10
    go_wp2_with (fail)
    refine (works_any _).mono ?_
    rintro e w1 ⟨rfl, hb1⟩
    go_wp2_with (fail)
    refine (cN _).mono ?_
    rintro e w2 ⟨m, rfl, hM, hb2⟩
    have hB2 := hb1.trans (hb2.mono hb1.size)
    clear hM hb1 hb2
    go_wp2_with (fail)
    refine (works_any _).mono ?_
    rintro e w3 ⟨rfl, hb3⟩
    go_wp2
    go_ret
    exact ⟨rfl, hB2.trans (hb3.mono hB2.size)⟩
  have c1 : decide ((s.size : Int) < at') = false := decide_eq_false q1
  by_cases q2 : decide (a < 0) ≠ decide (b < 0)
  · by_cases q8 : a < 0
    · have q9 : ¬ b < 0 := fun h => q2 (by rw [decide_eq_true q8, decide_eq_true h])
      have sa : decide (a < 0) = true := decide_eq_true (by omega)
      have sb : decide (b < 0) = false := decide_eq_false (by omega)
      clear q2 q8 q9
      go_enter Try.func10, Try.ntmps10
      go_wp2_with (fail)
      refine (works_any _).mono ?_
      rintro e w1 ⟨rfl, hb1⟩
      go_wp2_with (fail)
      refine (cN _).mono ?_
      rintro e w2 ⟨m, rfl, hM, hb2⟩
      have hB2 := hb1.trans (hb2.mono hb1.size)
      clear hM hb1 hb2
      go_wp2_with (fail)
      refine (works_any _).mono ?_
      rintro e w3 ⟨rfl, hb3⟩
      go_wp2
      go_ret
      exact ⟨rfl, hB2.trans (hb3.mono hB2.size)⟩
    · have q9 : b < 0 := Decidable.byContradiction fun h => q2 (by rw [decide_eq_false q8, decide_eq_false h])
      have sa : decide (a < 0) = false := decide_eq_false (by omega)
      have sb : decide (b < 0) = true := decide_eq_true (by omega)
      clear q2 q8 q9
      go_enter Try.func10, Try.ntmps10
      go_wp2_with (fail)
      refine (works_any _).mono ?_
      rintro e w1 ⟨rfl, hb1⟩
      go_wp2_with (fail)
      refine (cN _).mono ?_
      rintro e w2 ⟨m, rfl, hM, hb2⟩
      have hB2 := hb1.trans (hb2.mono hb1.size)
      clear hM hb1 hb2
      go_wp2_with (fail)
      refine (works_any _).mono ?_
      rintro e w3 ⟨rfl, hb3⟩
      go_wp2
      go_ret
      exact ⟨rfl, hB2.trans (hb3.mono hB2.size)⟩
  by_cases q3 : (1099511627776 : Int) < a
  · have c3 : decide ((1099511627776 : Int) < a) = true := decide_eq_true q3
    have q9 : a < 0 ↔ b < 0 := decide_eq_decide.1 (Decidable.not_not.1 q2)
    have sa : decide (a < 0) = false := decide_eq_false (by omega)
    have sb : decide (b < 0) = false := decide_eq_false (by omega)
    clear q2 q9
    go_enter Try.func10, Try.ntmps10
    go_wp2_with (fail)
    refine (works_any _).mono ?_
    rintro e w1 ⟨rfl, hb1⟩
    go_wp2_with (fail)
    refine (cN _).mono ?_
    rintro e w2 ⟨m, rfl, hM, hb2⟩
    have hB2 := hb1.trans (hb2.mono hb1.size)
    clear hM hb1 hb2
    go_wp2_with (fail)
    refine (works_any _).mono ?_
    rintro e w3 ⟨rfl, hb3⟩
    go_wp2
    go_ret
    exact ⟨rfl, hB2.trans (hb3.mono hB2.size)⟩
  have c3 : decide ((1099511627776 : Int) < a) = false := decide_eq_false q3
  by_cases q4 : a < -1099511627776
  · have c4 : decide (a < -1099511627776) = true := decide_eq_true q4
    have q9 : a < 0 ↔ b < 0 := decide_eq_decide.1 (Decidable.not_not.1 q2)
    have sa : decide (a < 0) = true := decide_eq_true (by omega)
    have sb : decide (b < 0) = true := decide_eq_true (by omega)
    clear q2 q9
    go_enter Try.func10, Try.ntmps10
    go_wp2_with (fail)
    refine (works_any _).mono ?_
    rintro e w1 ⟨rfl, hb1⟩
    go_wp2_with (fail)
    refine (cN _).mono ?_
    rintro e w2 ⟨m, rfl, hM, hb2⟩
    have hB2 := hb1.trans (hb2.mono hb1.size)
    clear hM hb1 hb2
    go_wp2_with (fail)
    refine (works_any _).mono ?_
    rintro e w3 ⟨rfl, hb3⟩
    go_wp2
    go_ret
    exact ⟨rfl, hB2.trans (hb3.mono hB2.size)⟩
  have c4 : decide (a < -1099511627776) = false := decide_eq_false q4
  by_cases q5 : (1099511627776 : Int) < b
  · have c5 : decide ((1099511627776 : Int) < b) = true := decide_eq_true q5
    have q9 : a < 0 ↔ b < 0 := decide_eq_decide.1 (Decidable.not_not.1 q2)
    have sa : decide (a < 0) = false := decide_eq_false (by omega)
    have sb : decide (b < 0) = false := decide_eq_false (by omega)
    clear q2 q9
    go_enter Try.func10, Try.ntmps10
    go_wp2_with (fail)
    refine (works_any _).mono ?_
    rintro e w1 ⟨rfl, hb1⟩
    go_wp2_with (fail)
    refine (cN _).mono ?_
    rintro e w2 ⟨m, rfl, hM, hb2⟩
    have hB2 := hb1.trans (hb2.mono hb1.size)
    clear hM hb1 hb2
    go_wp2_with (fail)
    refine (works_any _).mono ?_
    rintro e w3 ⟨rfl, hb3⟩
    go_wp2
    go_ret
    exact ⟨rfl, hB2.trans (hb3.mono hB2.size)⟩
  have c5 : decide ((1099511627776 : Int) < b) = false := decide_eq_false q5
  have q6 : b < -1099511627776 := by
    rcases h with h | h | h | h | h | h | h <;> first | exact h | exact absurd h q0 | exact absurd h q1 | exact absurd h q2 | exact absurd h q3 | exact absurd h q4 | exact absurd h q5
  have c6 : decide (b < -1099511627776) = true := decide_eq_true q6
  have q9 : a < 0 ↔ b < 0 := decide_eq_decide.1 (Decidable.not_not.1 q2)
  have sa : decide (a < 0) = true := decide_eq_true (by omega)
  have sb : decide (b < 0) = true := decide_eq_true (by omega)
  clear q2 q9 h
  go_enter Try.func10, Try.ntmps10
  go_wp2_with (fail)
  refine (works_any _).mono ?_
  rintro e w1 ⟨rfl, hb1⟩
  go_wp2_with (fail)
  refine (cN _).mono ?_
  rintro e w2 ⟨m, rfl, hM, hb2⟩
  have hB2 := hb1.trans (hb2.mono hb1.size)
  clear hM hb1 hb2
  go_wp2_with (fail)
  refine (works_any _).mono ?_
  rintro e w3 ⟨rfl, hb3⟩
  go_wp2
  go_ret
  exact ⟨rfl, hB2.trans (hb3.mono hB2.size)⟩
end Go.Proofs.Ytjlfdoonhfkabaa
