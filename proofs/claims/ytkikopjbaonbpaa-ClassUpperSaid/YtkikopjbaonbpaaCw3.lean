/- What letter, Script, Lower, Upper and Digit answer. -/
import Derived.Test.YtkikopjbaonbpaaCw2
namespace Go.Proofs.Ytkikopjbaonbpaa
set_option linter.unusedVariables false
set_option linter.unusedSimpArgs false
open Go Go.RowKit
set_option maxRecDepth 100000

def leB (r : Int) : Bool := grB r || smB r
theorem letter_any (r : Int) (w : World) :
    Calls Try.prog 29 #[.int .i32 r] w fun e w' => e = .returned (.bool (leB r)) ∧ w = w' := by
  unfold leB
  have cG := great_any r
  have cS := small_any r
  obtain ⟨g, hg⟩ : ∃ g, grB r = g := ⟨_, rfl⟩
  obtain ⟨s, hs⟩ : ∃ s, smB r = s := ⟨_, rfl⟩
  rw [hg] at cG ⊢
  rw [hs] at cS ⊢
  clear hg hs
  cases g <;> cases s
  all_goals
    go_enter Try.func29, Try.ntmps29
    go_wp2_with (first | (go_at_call 30; refine (cG _).mono ?_; rintro e w' ⟨rfl, rfl⟩) | (go_at_call 34; refine (cS _).mono ?_; rintro e w' ⟨rfl, rfl⟩))
    go_ret
    exact ⟨rfl, rfl⟩

theorem leB_f {r : Int} (h : leB r = false) : ¬ Gr r ∧ ¬ Sm r := by
  unfold leB at h
  rw [Bool.or_eq_false_iff, grB_not, smB_not] at h
  exact h
theorem leB_t {r : Int} (h : leB r = true) : Gr r ∨ Sm r := by
  unfold leB at h
  rw [Bool.or_eq_true, grB_iff, smB_iff] at h
  exact h
theorem leB_in {r : Int} (h : leB r = true) : 65 ≤ r ∧ r ≤ 1119 := by
  rcases leB_t h with h | h
  · exact gr_in h
  · exact sm_in h
theorem scr_f {r : Int} (h : leB r = false) : scrZ r = 0 := by unfold scrZ; rw [if_pos (leB_f h)]
theorem scr_t {r : Int} (h : leB r = true) : scrZ r = if r ≤ 383 then 1 else if r ≤ 974 then 2 else 3 := by
  unfold scrZ; rw [if_neg]; rintro ⟨a, b⟩; rcases leB_t h with h | h
  · exact a h
  · exact b h

theorem low_great {r : Int} (h : Gr r) : lowZ r = if r = 304 then 105 else if r = 376 then 255 else if r = 902 then 940 else if 904 ≤ r ∧ r ≤ 906 then r + 37 else if r = 908 then 972 else if r = 910 ∨ r = 911 then r + 63 else
  if (65 ≤ r ∧ r ≤ 90) ∨ (192 ≤ r ∧ r ≤ 222) ∨ (913 ≤ r ∧ r ≤ 939) ∨ (1040 ≤ r ∧ r ≤ 1071) then r + 32 else if 1024 ≤ r ∧ r ≤ 1039 then r + 80 else r + 1 := by
  unfold lowZ; rw [if_neg (fun h' => h' h)]
theorem up_small {r : Int} (h : Sm r) : upZ r = if r = 223 ∨ r = 312 ∨ r = 329 ∨ r = 912 ∨ r = 944 then r else if r = 305 then 73 else if r = 383 then 83 else if r = 255 then 376 else if r = 940 then 902 else if r = 962 then 931 else if r = 972 then 908 else if r = 973 ∨ r = 974 then r - 63 else
  if r ≤ 122 ∨ (224 ≤ r ∧ r ≤ 254) ∨ (945 ≤ r ∧ r ≤ 971) ∨ (1072 ≤ r ∧ r ≤ 1103) then r - 32 else if 1104 ≤ r then r - 80 else if 941 ≤ r ∧ r ≤ 943 then r - 37 else r - 1 := by
  unfold upZ; rw [if_neg (fun h' => h' h)]

set_option maxHeartbeats 4000000 in
theorem lower_any (r : Int) (w : World) :
    Calls Try.prog 17 #[.int .i32 r] w fun e w' => e = .returned (.int .i32 (lowZ r)) ∧ w = w' := by
  have cG := great_any r
  by_cases h : Gr r
  · rw [grB_t h] at cG
    have hr := gr_in h
    have hr1 := hr.1
    have hr2 := hr.2
    have HG := Lib.hid h
    have HZ := Lib.hid (low_great h)
    clear h hr
    go_enter Try.func17, Try.ntmps17
    go_wp2_with (first | (go_at_call 30; refine (cG _).mono ?_; rintro e w' ⟨rfl, rfl⟩))
    all_goals go_ret
    all_goals (refine ⟨ret_int ?_, rfl⟩; rw [HZ.out]; have hg := HG.out; unfold Gr at hg; (try simp only [beq_iff_eq, beq_eq_false_iff_ne, ne_eq] at *); repeat (first | rw [if_pos (by omega)] | rw [if_neg (by omega)]))
    all_goals (first | rfl | omega)
  · rw [grB_f h] at cG
    rw [low_none h]
    clear h
    go_enter Try.func17, Try.ntmps17
    go_wp2_with (first | (go_at_call 30; refine (cG _).mono ?_; rintro e w' ⟨rfl, rfl⟩))
    go_ret
    exact ⟨rfl, rfl⟩

set_option maxHeartbeats 4000000 in
theorem upper_any (r : Int) (w : World) :
    Calls Try.prog 23 #[.int .i32 r] w fun e w' => e = .returned (.int .i32 (upZ r)) ∧ w = w' := by
  have cG := small_any r
  by_cases h : Sm r
  · rw [smB_t h] at cG
    have hr := sm_in h
    have hr1 := hr.1
    have hr2 := hr.2
    have HG := Lib.hid h
    have HZ := Lib.hid (up_small h)
    clear h hr
    go_enter Try.func23, Try.ntmps23
    go_wp2_with (first | (go_at_call 34; refine (cG _).mono ?_; rintro e w' ⟨rfl, rfl⟩))
    all_goals go_ret
    all_goals (refine ⟨ret_int ?_, rfl⟩; rw [HZ.out]; have hg := HG.out; unfold Sm at hg; (try simp only [beq_iff_eq, beq_eq_false_iff_ne, ne_eq] at *); repeat (first | rw [if_pos (by omega)] | rw [if_neg (by omega)]))
    all_goals (first | rfl | omega)
  · rw [smB_f h] at cG
    rw [up_none h]
    clear h
    go_enter Try.func23, Try.ntmps23
    go_wp2_with (first | (go_at_call 34; refine (cG _).mono ?_; rintro e w' ⟨rfl, rfl⟩))
    go_ret
    exact ⟨rfl, rfl⟩

def digB (r : Int) : Bool := decide (48 ≤ r ∧ r ≤ 57)
def digZ (r : Int) : Int := if 48 ≤ r ∧ r ≤ 57 then r - 48 else 0
end Go.Proofs.Ytkikopjbaonbpaa
