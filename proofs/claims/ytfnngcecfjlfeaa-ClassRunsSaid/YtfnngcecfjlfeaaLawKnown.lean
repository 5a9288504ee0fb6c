/- live and known -/
import Derived.Test.YtfnngcecfjlfeaaCd4
import Derived.Test.YtfnngcecfjlfeaaCd5
import Derived.Deep.RegionWith
namespace Go.Proofs.Ytfnngcecfjlfeaa
set_option linter.unusedVariables false
set_option linter.unusedSimpArgs false
open Go Go.RowKit
set_option maxRecDepth 100000

theorem live_any (w : World) : Calls Try.prog 12 #[] w fun e w' => e = .returned (.bool true) ∧ w = w' := by
  have cK := kind_any 97
  have cL := lower_any 65
  rw [show kindZ 97 = 1 by kernel_rfl] at cK
  rw [show lowZ 65 = 97 by kernel_rfl] at cL
  go_enter Try.func12, Try.ntmps12
  go_wp2_with (first | (go_at_call 32; refine (cK _).mono ?_; rintro e w' ⟨rfl, rfl⟩) | (go_at_call 33; refine (cL _).mono ?_; rintro e w' ⟨rfl, rfl⟩))
  go_ret
  exact ⟨rfl, rfl⟩

set_option maxHeartbeats 4000000 in
theorem known_any (r : Int) (w : World) :
    Calls Try.prog 13 #[.int .i32 r] w fun e w' => e = .returned (.bool true) ∧ Below w.heap.size w w' := by
  have c1 := kind_any r
  have d1 := kindD_any r
  have c2 := great_any r
  have d2 := greatD_any r
  have c3 := small_any r
  have d3 := smallD_any r
  have c4 := vowel_any r
  have d4 := vowelD_any r
  have c5 := script_any r
  have d5 := scriptD_any r
  have c6 := lower_any r
  have d6 := lowerD_any r
  have c7 := upper_any r
  have d7 := upperD_any r
  have cD := digit_any r
  obtain ⟨x1, e1⟩ : ∃ x, kindZ r = x := ⟨_, rfl⟩
  obtain ⟨x2, e2⟩ : ∃ x, grB r = x := ⟨_, rfl⟩
  obtain ⟨x3, e3⟩ : ∃ x, smB r = x := ⟨_, rfl⟩
  obtain ⟨x4, e4⟩ : ∃ x, vowB r = x := ⟨_, rfl⟩
  obtain ⟨x5, e5⟩ : ∃ x, scrZ r = x := ⟨_, rfl⟩
  obtain ⟨x6, e6⟩ : ∃ x, lowZ r = x := ⟨_, rfl⟩
  obtain ⟨x7, e7⟩ : ∃ x, upZ r = x := ⟨_, rfl⟩
  rw [e1] at c1 d1
  rw [e2] at c2 d2
  rw [e3] at c3 d3
  rw [e4] at c4 d4
  rw [e5] at c5 d5
  rw [e6] at c6 d6
  rw [e7] at c7 d7
  clear e1 e2 e3 e4 e5 e6 e7
  have hcase : (r < 48 ∧ digZ r = 0 ∧ digB r = false) ∨ ((48 ≤ r ∧ r ≤ 57) ∧ digZ r = r - 48 ∧ digB r = true) ∨ ((48 ≤ r ∧ 57 < r) ∧ digZ r = 0 ∧ digB r = false) := by
    by_cases h1 : r < 48
    · left; exact ⟨h1, by unfold digZ; rw [if_neg (by omega)], by unfold digB; rw [decide_eq_false_iff_not]; omega⟩
    · by_cases h2 : 57 < r
      · right; right; exact ⟨⟨by omega, h2⟩, by unfold digZ; rw [if_neg (by omega)], by unfold digB; rw [decide_eq_false_iff_not]; omega⟩
      · right; left; exact ⟨⟨by omega, by omega⟩, by unfold digZ; rw [if_pos (by omega)], by unfold digB; rw [decide_eq_true_iff]; omega⟩
  rcases hcase with ⟨h1, h2, h3⟩ | ⟨⟨h1, h4⟩, h2, h3⟩ | ⟨⟨h1, h4⟩, h2, h3⟩
  all_goals
    rw [h2, h3] at cD
    clear h2 h3
    first
    | (have hb57 : decide (r ≤ 57) = false := by rw [decide_eq_false_iff_not]; omega)
    | skip
    go_enter Try.func13, Try.ntmps13
    go_wp2_with (first | (go_at_call 32; refine (c1 _).mono ?_; rintro e w' ⟨rfl, rfl⟩) | (go_at_call 35; refine (d1 _).mono ?_; rintro e w' ⟨rfl, rfl⟩) | (go_at_call 36; refine (c2 _).mono ?_; rintro e w' ⟨rfl, rfl⟩) | (go_at_call 37; refine (d2 _).mono ?_; rintro e w' ⟨rfl, rfl⟩) | (go_at_call 38; refine (c3 _).mono ?_; rintro e w' ⟨rfl, rfl⟩) | (go_at_call 39; refine (d3 _).mono ?_; rintro e w' ⟨rfl, rfl⟩) | (go_at_call 42; refine (c5 _).mono ?_; rintro e w' ⟨rfl, rfl⟩) | (go_at_call 43; refine (d5 _).mono ?_; rintro e w' ⟨rfl, rfl⟩) | (go_at_call 33; refine (c6 _).mono ?_; rintro e w' ⟨rfl, rfl⟩) | (go_at_call 44; refine (d6 _).mono ?_; rintro e w' ⟨rfl, rfl⟩) | (go_at_call 45; refine (c7 _).mono ?_; rintro e w' ⟨rfl, rfl⟩) | (go_at_call 46; refine (d7 _).mono ?_; rintro e w' ⟨rfl, rfl⟩) | (go_at_call 34; refine (cD _).mono ?_; rintro e w' ⟨rfl, rfl⟩) | (go_at_call 40; refine (c4 _).mono ?_; rintro e w1 ⟨rfl, hb1⟩) | (go_at_call 41; refine (d4 _).mono ?_; rintro e w2 ⟨rfl, hb2⟩))
    go_ret
    exact ⟨rfl, hb1.trans (hb2.mono hb1.size)⟩

theorem enc_all : (List.range 1120).all (fun n => (Utf8.encode (n : Int)).size == encN (n : Int)) = true := by kernel_rfl
theorem enc_in (r : Int) (h0 : 0 ≤ r) (h1 : r ≤ 1119) : (Utf8.encode r).size = encN r := by
  have := fin enc_all r h0 h1
  rw [Int.toNat_of_nonneg h0, beq_iff_eq] at this
  exact this

end Go.Proofs.Ytfnngcecfjlfeaa
