/- ClassRunes and ClassAll: the laws' calls, at every rune. -/
import Derived.Test.YtfnngcecfjlfeaaGsN
import Derived.Test.YtfnngcecfjlfeaaGsG
import Derived.Test.YtfnngcecfjlfeaaGsS
namespace Go.Proofs.Ytfnngcecfjlfeaa
set_option linter.unusedVariables false
set_option linter.unusedSimpArgs false
open Go Go.RowKit
set_option maxRecDepth 100000

theorem gs_any (r : Int) (w : World) :
    Calls Try.prog 14 #[.int .i32 r] w fun e w' => e = .returned (.bool true) ∧ Below w.heap.size w w' := by
  cases h : leB r with
  | false => exact gs_none r h w
  | true =>
    rcases leB_t h with hg | hs
    · by_cases h1 : r = 304
      · subst h1; exact gs_304 w
      · exact gs_great r hg h1 w
    · by_cases h1 : r = 305
      · subst h1; exact gs_305 w
      · by_cases h2 : r = 383
        · subst h2; exact gs_383 w
        · by_cases h3 : r = 962
          · subst h3; exact gs_962 w
          · exact gs_small r hs h1 h2 h3 w

theorem classRunes_any (r : Int) (w : World) :
    Calls Try.prog 3 #[.int .i32 r] w fun e w' => e = .returned (.bool true) ∧ Below w.heap.size w w' := by
  go_enter Try.func3, Try.ntmps3
  go_wp2_with (first | (go_at_call 12; refine (live_any _).mono ?_; rintro e w' ⟨rfl, rfl⟩) | (go_at_call 13; refine (known_any _ _).mono ?_; rintro e w1 ⟨rfl, hb1⟩) | (go_at_call 14; refine (gs_any _ _).mono ?_; rintro e w2 ⟨rfl, hb2⟩))
  go_ret
  exact ⟨rfl, hb1.trans (hb2.mono hb1.size)⟩

def AllRel (w : World) (v : Value) (wr : World) : Prop := ∃ k : Int, v = .int .i32 k ∧ -3 ≤ k ∧ k ≤ 12304 ∧ Below w.heap.size w wr

set_option maxHeartbeats 2000000 in
theorem classAll_any (w : World) :
    Calls Try.prog 11 #[] w fun e w' => e = .returned (.bool true) ∧ Below w.heap.size w w' := by
  go_enter Try.func11, Try.ntmps11
  go_wp2_with (first | (go_at_call 12; refine (live_any _).mono ?_; rintro e w' ⟨rfl, rfl⟩))
  go_loopw [1] (fun v wr => AllRel w v wr) (fun v _ => (12304 - intOf v).toNat)
  case atStart => exact ⟨-3, rfl, by omega, by omega, Below.refl _ _⟩
  case round =>
    obtain ⟨k, rfl, h1, h2, hB⟩ := hrel
    by_cases hk : k < 12304
    · go_wp2_with (first | (go_at_call 3; refine (classRunes_any _ _).mono ?_; rintro e w1 ⟨rfl, hb1⟩))
      go_roundw
      case rel => exact ⟨k + 1, by go_num, by omega, by omega, hB.trans (hb1.mono hB.size)⟩
      case measure => simp [intOf]; omega
    · go_wp2_with (first | (go_at_call_of 3 (Value.int .i32 55295); refine (classRunes_any _ _).mono ?_; rintro e w1 ⟨rfl, hb1⟩) | (go_at_call_of 3 (Value.int .i32 55296); refine (classRunes_any _ _).mono ?_; rintro e w2 ⟨rfl, hb2⟩) | (go_at_call_of 3 (Value.int .i32 57343); refine (classRunes_any _ _).mono ?_; rintro e w3 ⟨rfl, hb3⟩) | (go_at_call_of 3 (Value.int .i32 57344); refine (classRunes_any _ _).mono ?_; rintro e w4 ⟨rfl, hb4⟩) | (go_at_call_of 3 (Value.int .i32 65279); refine (classRunes_any _ _).mono ?_; rintro e w5 ⟨rfl, hb5⟩) | (go_at_call_of 3 (Value.int .i32 65533); refine (classRunes_any _ _).mono ?_; rintro e w6 ⟨rfl, hb6⟩) | (go_at_call_of 3 (Value.int .i32 1114111); refine (classRunes_any _ _).mono ?_; rintro e w7 ⟨rfl, hb7⟩) | (go_at_call_of 3 (Value.int .i32 1114112); refine (classRunes_any _ _).mono ?_; rintro e w8 ⟨rfl, hb8⟩))
      go_ret
      have hB1 := hB.trans (hb1.mono hB.size)
      have hB2 := hB1.trans (hb2.mono hB1.size)
      have hB3 := hB2.trans (hb3.mono hB2.size)
      have hB4 := hB3.trans (hb4.mono hB3.size)
      have hB5 := hB4.trans (hb5.mono hB4.size)
      have hB6 := hB5.trans (hb6.mono hB5.size)
      have hB7 := hB6.trans (hb7.mono hB6.size)
      exact ⟨rfl, hB7.trans (hb8.mono hB7.size)⟩
end Go.Proofs.Ytfnngcecfjlfeaa
