/- What the document's Kind answers. -/
import Derived.Test.YtkikopjbaonbpaaCd
import Derived.Test.YtkikopjbaonbpaaCd2
import Derived.Test.YtkikopjbaonbpaaCw4
namespace Go.Proofs.Ytkikopjbaonbpaa
set_option linter.unusedVariables false
set_option linter.unusedSimpArgs false
open Go Go.RowKit
set_option maxRecDepth 100000

set_option maxHeartbeats 8000000 in
theorem kindD_any (r : Int) (w : World) :
    Calls Try.prog 27 #[.int .i32 r] w fun e w' => e = .returned (.int .i64 (kindZ r)) ∧ w = w' := by
  have cG := greatD_any r
  have cS := smallD_any r
  by_cases h0 : r < 0 ∨ (55296 ≤ r ∧ r ≤ 57343) ∨ 1114111 < r
  · rw [kind_none h0]
    rcases h0 with h0 | h0 | h0
    · go_enter Try.func27, Try.ntmps27
      go_wp2_with (first | (go_at_call 38; refine (in_any _ _ _ _).mono ?_; rintro e w' ⟨rfl, rfl⟩))
      all_goals go_ret
      all_goals exact ⟨rfl, rfl⟩
    · obtain ⟨h1, h2⟩ := h0
      go_enter Try.func27, Try.ntmps27
      go_wp2_with (first | (go_at_call 38; refine (in_any _ _ _ _).mono ?_; rintro e w' ⟨rfl, rfl⟩))
      all_goals go_ret
      all_goals exact ⟨rfl, rfl⟩
    · have h1 : 57343 < r := by omega
      go_enter Try.func27, Try.ntmps27
      go_wp2_with (first | (go_at_call 38; refine (in_any _ _ _ _).mono ?_; rintro e w' ⟨rfl, rfl⟩))
      all_goals go_ret
      all_goals exact ⟨rfl, rfl⟩
  · have hr0 : 0 ≤ r := by omega
    have hr1 : r ≤ 1114111 := by omega
    have hr2 : decide (55296 ≤ r ∧ r ≤ 57343) = false := by rw [decide_eq_false_iff_not]; omega
    cases h : leB r with
    | true =>
      rw [kind_letter h]
      have ho : (grB r || smB r) = true := h
      have hin := leB_in h
      have hin2 : r ≤ 1119 := hin.2
      obtain ⟨g, hg⟩ : ∃ g, grB r = g := ⟨_, rfl⟩
      obtain ⟨s, hs⟩ : ∃ s, smB r = s := ⟨_, rfl⟩
      rw [hg] at cG ho
      rw [hs] at cS ho
      clear hg hs h h0 hin
      cases g <;> cases s
      · cases ho
      all_goals
        clear ho
        go_enter Try.func27, Try.ntmps27
        go_wp2_with (first | (go_at_call 36; refine (cG _).mono ?_; rintro e w' ⟨rfl, rfl⟩) | (go_at_call 35; refine (cS _).mono ?_; rintro e w' ⟨rfl, rfl⟩) | (go_at_call 38; refine (in_any _ _ _ _).mono ?_; rintro e w' ⟨rfl, rfl⟩))
        all_goals go_ret
        all_goals exact ⟨rfl, rfl⟩
    | false =>
      rw [kind_other h0 h]
      have hg := grB_f (leB_f h).1
      have hs := smB_f (leB_f h).2
      rw [hg] at cG
      rw [hs] at cS
      clear h h0 hg hs
      go_enter Try.func27, Try.ntmps27
      go_wp2_with (first | (go_at_call 36; refine (cG _).mono ?_; rintro e w' ⟨rfl, rfl⟩) | (go_at_call 35; refine (cS _).mono ?_; rintro e w' ⟨rfl, rfl⟩) | (go_at_call 38; refine (in_any _ _ _ _).mono ?_; rintro e w' ⟨rfl, rfl⟩))
      all_goals go_ret
      all_goals (refine ⟨ret_int ?_, rfl⟩; (try simp only [beq_iff_eq, beq_eq_false_iff_ne, bne_iff_ne, ne_eq, Bool.or_eq_true, Bool.and_eq_true, Bool.or_eq_false_iff, Bool.and_eq_false_iff, decide_eq_true_eq, decide_eq_false_iff_not] at *); unfold kindN; repeat (first | rw [if_pos (by omega)] | rw [if_neg (by omega)] | rfl))
end Go.Proofs.Ytkikopjbaonbpaa
