/- Layer 3: what the closures of LowerText, UpperText answer. -/
import Derived.Test.YtkikopjbaonbpaaUp
namespace Go.Proofs.Ytkikopjbaonbpaa
set_option linter.unusedVariables false
set_option linter.unusedSimpArgs false
open Go Go.RowKit Go.Shelf
set_option maxRecDepth 100000

theorem lowT_any (r : Int) (led fol : Bool) (w : World) :
    Calls Try.prog 25 #[.int .i32 r, .bool led, .bool fol] w fun e w' => e = .returned (.string (lwG r led fol)) ∧ w = w' := by
  have cL := lowC_any r led fol
  rw [show lwG r led fol = Utf8.encode (lowG r led fol) from rfl]
  obtain ⟨x, hx⟩ : ∃ x, lowG r led fol = x := ⟨_, rfl⟩
  rw [hx] at cL ⊢
  clear hx
  go_enter Try.func25, Try.ntmps25
  go_wp2_with (go_at_call 26; refine (cL _).mono ?_; rintro e w' ⟨rfl, rfl⟩)
  go_ret
  exact ⟨rfl, rfl⟩
theorem upT_any (r : Int) (led fol : Bool) (w : World) :
    Calls Try.prog 22 #[.int .i32 r, .bool led, .bool fol] w fun e w' => e = .returned (.string (upG r led fol)) ∧ w = w' := by
  have cU := upper_any r
  by_cases h : r = 223
  · subst h
    rw [show upG 223 led fol = ⟨#[83, 83]⟩ from rfl]
    go_enter Try.func22, Try.ntmps22
    go_wp2
    go_ret
    exact ⟨rfl, rfl⟩
  · have hb : (r == 223) = false := by rw [beq_eq_false_iff_ne]; exact h
    rw [show upG r led fol = Utf8.encode (upZ r) by unfold upG; rw [if_neg h]]
    obtain ⟨x, hx⟩ : ∃ x, upZ r = x := ⟨_, rfl⟩
    rw [hx] at cU ⊢
    clear hx h
    go_enter Try.func22, Try.ntmps22
    go_wp2_with (go_at_call 23; refine (cU _).mono ?_; rintro e w' ⟨rfl, rfl⟩)
    go_ret
    exact ⟨rfl, rfl⟩
end Go.Proofs.Ytkikopjbaonbpaa
