/- What greatSmall answers of what is no letter. -/
import Derived.Test.YtfnngcecfjlfeaaLawKnown
namespace Go.Proofs.Ytfnngcecfjlfeaa
set_option linter.unusedVariables false
set_option linter.unusedSimpArgs false
open Go Go.RowKit
set_option maxRecDepth 100000

set_option maxHeartbeats 400000 in
theorem gs_none (r : Int) (h : leB r = false) (w : World) :
    Calls Try.prog 14 #[.int .i32 r] w fun e w' => e = .returned (.bool true) ∧ Below w.heap.size w w' := by
  have hgs := leB_f h
  have cG := great_any r
  have cS := small_any r
  have cK := kind_any r
  have cC := script_any r
  have cL := lower_any r
  have cU := upper_any r
  have hk : (kindZ r == 1) = false := by
    rw [beq_eq_false_iff_ne]
    by_cases h0 : r < 0 ∨ (55296 ≤ r ∧ r ≤ 57343) ∨ 1114111 < r
    · rw [kind_none h0]; decide
    · rw [kind_other h0 h]
      clear cG cS cK cC cL cU hgs h h0
      unfold kindN
      (repeat' split) <;> decide
  rw [grB_f hgs.1] at cG
  rw [smB_f hgs.2] at cS
  rw [scr_f h] at cC
  rw [low_none hgs.1] at cL
  rw [up_none hgs.2] at cU
  obtain ⟨k, hkk⟩ : ∃ k, kindZ r = k := ⟨_, rfl⟩
  rw [hkk] at cK hk
  have n1 : (r == 304) = false := by rw [beq_eq_false_iff_ne]; rintro rfl; exact absurd h (by decide)
  have n2 : (r == 305) = false := by rw [beq_eq_false_iff_ne]; rintro rfl; exact absurd h (by decide)
  have n3 : (r == 383) = false := by rw [beq_eq_false_iff_ne]; rintro rfl; exact absurd h (by decide)
  have n4 : (r == 962) = false := by rw [beq_eq_false_iff_ne]; rintro rfl; exact absurd h (by decide)
  clear hgs h hkk
  go_enter Try.func14, Try.ntmps14
  go_wp2_with (first | (go_at_call 12; refine (live_any _).mono ?_; rintro e w' ⟨rfl, rfl⟩) | (go_at_call 36; refine (cG _).mono ?_; rintro e w' ⟨rfl, rfl⟩) | (go_at_call 38; refine (cS _).mono ?_; rintro e w' ⟨rfl, rfl⟩) | (go_at_call 32; refine (cK _).mono ?_; rintro e w' ⟨rfl, rfl⟩) | (go_at_call 42; refine (cC _).mono ?_; rintro e w' ⟨rfl, rfl⟩) | (go_at_call 33; refine (cL _).mono ?_; rintro e w' ⟨rfl, rfl⟩) | (go_at_call 45; refine (cU _).mono ?_; rintro e w' ⟨rfl, rfl⟩))
  go_ret
  exact ⟨rfl, Below.refl _ _⟩

end Go.Proofs.Ytfnngcecfjlfeaa
