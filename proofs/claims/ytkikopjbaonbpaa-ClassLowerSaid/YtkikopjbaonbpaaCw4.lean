/- What class.Kind answers. -/
import Derived.Test.YtkikopjbaonbpaaCw3
namespace Go.Proofs.Ytkikopjbaonbpaa
set_option linter.unusedVariables false
set_option linter.unusedSimpArgs false
open Go Go.RowKit
set_option maxRecDepth 100000

/-- The kind of a rune that is one, and no letter. -/
def kindN (r : Int) : Int := if 768 ≤ r ∧ r ≤ 879 then 2 else if 48 ≤ r ∧ r ≤ 57 then 3
  else if r = 10 ∨ r = 13 then 4 else if r = 9 ∨ r = 32 ∨ r = 160 ∨ (8192 ≤ r ∧ r ≤ 8202) ∨ r = 8239 ∨ r = 8287 ∨ r = 12288 then 5 else if r = 45 ∨ (8208 ≤ r ∧ r ≤ 8213) then 6
  else if r = 34 ∨ r = 39 ∨ r = 171 ∨ r = 187 ∨ (8216 ≤ r ∧ r ≤ 8223) ∨ r = 8249 ∨ r = 8250 then 7 else if r = 33 ∨ r = 44 ∨ r = 46 ∨ r = 58 ∨ r = 59 ∨ r = 63 ∨ r = 161 ∨ r = 183 ∨ r = 191 ∨ r = 8230 then 8
  else if (0 ≤ r ∧ r ≤ 31) ∨ (127 ≤ r ∧ r ≤ 159) ∨ (8203 ≤ r ∧ r ≤ 8207) ∨ r = 65279 then 9 else 10
theorem kind_other {r : Int} (h0 : ¬ (r < 0 ∨ (55296 ≤ r ∧ r ≤ 57343) ∨ 1114111 < r)) (h : leB r = false) : kindZ r = kindN r := by
  have := leB_f h
  unfold kindZ; rw [if_neg h0, if_neg (fun h' => h'.elim this.1 this.2)]; rfl
theorem kind_letter {r : Int} (h : leB r = true) : kindZ r = 1 := by
  have := leB_in h
  unfold kindZ; rw [if_neg (by omega), if_pos (leB_t h)]
theorem kind_none {r : Int} (h : r < 0 ∨ (55296 ≤ r ∧ r ≤ 57343) ∨ 1114111 < r) : kindZ r = 0 := by unfold kindZ; rw [if_pos h]

set_option maxHeartbeats 8000000 in
theorem kind_any (r : Int) (w : World) :
    Calls Try.prog 16 #[.int .i32 r] w fun e w' => e = .returned (.int .i64 (kindZ r)) ∧ w = w' := by
  have cW := width_any r
  have cL := letter_any r
  by_cases h0 : r < 0 ∨ (55296 ≤ r ∧ r ≤ 57343) ∨ 1114111 < r
  · rw [kind_none h0]
    rw [(widZ_0 r).2 h0] at cW
    clear h0
    go_enter Try.func16, Try.ntmps16
    go_wp2_with (first | (go_at_call 28; refine (cW _).mono ?_; rintro e w' ⟨rfl, rfl⟩))
    go_ret
    exact ⟨rfl, rfl⟩
  · have hw : ((widZ r : Nat) : Int) ≠ 0 := by intro h; exact h0 ((widZ_0 r).1 (by omega))
    have hwb : (((widZ r : Nat) : Int) == 0) = false := by rw [beq_eq_false_iff_ne]; exact hw
    obtain ⟨n, hn⟩ : ∃ n, widZ r = n := ⟨_, rfl⟩
    rw [hn] at cW hwb
    clear hn hw
    cases h : leB r with
    | true =>
      rw [h] at cL
      rw [kind_letter h]
      clear h h0
      go_enter Try.func16, Try.ntmps16
      go_wp2_with (first | (go_at_call 28; refine (cW _).mono ?_; rintro e w' ⟨rfl, rfl⟩) | (go_at_call 29; refine (cL _).mono ?_; rintro e w' ⟨rfl, rfl⟩))
      go_ret
      exact ⟨rfl, rfl⟩
    | false =>
      rw [h] at cL
      rw [kind_other h0 h]
      have hr0 : 0 ≤ r := by omega
      clear h h0
      go_enter Try.func16, Try.ntmps16
      go_wp2_with (first | (go_at_call 28; refine (cW _).mono ?_; rintro e w' ⟨rfl, rfl⟩) | (go_at_call 29; refine (cL _).mono ?_; rintro e w' ⟨rfl, rfl⟩))
      all_goals go_ret
      all_goals (refine ⟨ret_int ?_, rfl⟩; (try simp only [beq_iff_eq, beq_eq_false_iff_ne, ne_eq] at *); unfold kindN; repeat (first | rw [if_pos (by omega)] | rw [if_neg (by omega)] | rfl))
end Go.Proofs.Ytkikopjbaonbpaa
