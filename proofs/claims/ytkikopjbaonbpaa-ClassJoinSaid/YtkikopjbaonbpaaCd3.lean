/- What the document's Script, Lower and Upper answer. -/
import Derived.Test.YtkikopjbaonbpaaCd
import Derived.Test.YtkikopjbaonbpaaCd2
namespace Go.Proofs.Ytkikopjbaonbpaa
set_option linter.unusedVariables false
set_option linter.unusedSimpArgs false
open Go Go.RowKit
set_option maxRecDepth 100000

set_option maxHeartbeats 4000000 in
theorem lowerD_any (r : Int) (w : World) :
    Calls Try.prog 37 #[.int .i32 r] w fun e w' => e = .returned (.int .i32 (lowZ r)) ∧ w = w' := by
  have cG := greatD_any r
  by_cases h : Gr r
  · rw [grB_t h] at cG
    have hr := gr_in h
    have hr1 := hr.1
    have hr2 := hr.2
    have HG := Lib.hid h
    have HZ := Lib.hid (low_great h)
    clear h hr
    go_enter Try.func37, Try.ntmps37
    go_wp2_with (first | (go_at_call 36; refine (cG _).mono ?_; rintro e w' ⟨rfl, rfl⟩) | (go_at_call 38; refine (in_any _ _ _ _).mono ?_; rintro e w' ⟨rfl, rfl⟩))
    all_goals go_ret
    all_goals (refine ⟨ret_int ?_, rfl⟩; rw [HZ.out]; have hg := HG.out; unfold Gr at hg; (try simp only [beq_iff_eq, beq_eq_false_iff_ne, bne_iff_ne, ne_eq, Bool.or_eq_true, Bool.and_eq_true, Bool.or_eq_false_iff, Bool.and_eq_false_iff, decide_eq_true_eq, decide_eq_false_iff_not] at *); repeat (first | rw [if_pos (by omega)] | rw [if_neg (by omega)]))
    all_goals (first | rfl | omega)
  · rw [grB_f h] at cG
    rw [low_none h]
    clear h
    go_enter Try.func37, Try.ntmps37
    go_wp2_with (first | (go_at_call 36; refine (cG _).mono ?_; rintro e w' ⟨rfl, rfl⟩))
    go_ret
    exact ⟨rfl, rfl⟩

/-- What the document's Upper does not look for. -/
def odd4 (r : Int) : Bool := r == 105 || r == 305 || r == 383 || r == 962
theorem upl_all : (List.range 1120).all (fun n => (!grB (n : Int) || odd4 (lowZ (n : Int)) || upZ (lowZ (n : Int)) == (n : Int)) && (!smB (n : Int) || odd4 (n : Int) || upZ (n : Int) == (n : Int) || (grB (upZ (n : Int)) && lowZ (upZ (n : Int)) == (n : Int) && decide (upZ (n : Int) ≤ 1071)))) = true := by kernel_rfl
theorem up_hit {r k : Int} (ho : odd4 r = false) (hg : Gr k) (hl : lowZ k = r) : upZ r = k := by
  have hk := gr_in hg
  have := fin upl_all k (by omega) (by omega)
  rw [Int.toNat_of_nonneg (by omega), grB_t hg, hl, ho] at this
  simp at this
  exact this.1
theorem up_miss {r : Int} (ho : odd4 r = false) (hs : Sm r) (hno : ∀ k : Int, 65 ≤ k → k ≤ 1071 → ¬ (Gr k ∧ lowZ k = r)) : upZ r = r := by
  have hk := sm_in hs
  have := fin upl_all r (by omega) (by omega)
  rw [Int.toNat_of_nonneg (by omega), smB_t hs, ho] at this
  simp at this
  rcases this.2 with h | h
  · exact h
  · obtain ⟨⟨h1, h2⟩, h3⟩ := h
    have hg := grB_iff.1 h1
    exact absurd ⟨hg, h2⟩ (hno _ (gr_in hg).1 h3)

def UpRel (r : Int) (v : Value) : Prop := ∃ k : Int, v = .int .i32 k ∧ 65 ≤ k ∧ k ≤ 1072 ∧ ∀ j : Int, 65 ≤ j → j < k → ¬ (Gr j ∧ lowZ j = r)

set_option maxHeartbeats 4000000 in
theorem upperD_any (r : Int) (w : World) :
    Calls Try.prog 24 #[.int .i32 r] w fun e w' => e = .returned (.int .i32 (upZ r)) ∧ w = w' := by
  have cS := smallD_any r
  by_cases h : Sm r
  · rw [smB_t h] at cS
    cases ho : odd4 r with
    | true =>
      simp only [odd4, Bool.or_eq_true, beq_iff_eq] at ho
      rcases ho with ((rfl | rfl) | rfl) | rfl
      all_goals
        clear h
        go_enter Try.func24, Try.ntmps24
        go_wp2_with (first | (go_at_call 35; refine (cS _).mono ?_; rintro e w' ⟨rfl, rfl⟩))
        go_ret
        exact ⟨ret_int (by kernel_rfl), rfl⟩
    | false =>
      have hn := ho
      simp only [odd4, Bool.or_eq_false_iff] at hn
      obtain ⟨⟨⟨n1, n2⟩, n3⟩, n4⟩ := hn
      have HS := Lib.hid h
      have HO := Lib.hid ho
      clear h ho
      go_enter Try.func24, Try.ntmps24
      go_wp2_with (first | (go_at_call 35; refine (cS _).mono ?_; rintro e w' ⟨rfl, rfl⟩))
      go_loop [3] (fun v => UpRel r v) (fun v => (1072 - intOf v).toNat)
      case atStart => exact ⟨65, rfl, by omega, by omega, fun j h1 h2 => by omega⟩
      case round =>
        obtain ⟨k, rfl, h1, h2, hno⟩ := hrel
        by_cases hk : k ≤ 1071
        · have cG := greatD_any k
          have cL := lowerD_any k
          by_cases hg : Gr k
          · rw [grB_t hg] at cG
            by_cases hl : lowZ k = r
            · have hu := up_hit HO.out hg hl
              rw [hl] at cL
              have HU := Lib.hid hu
              have hrb : (r == r) = true := beq_self_eq_true r
              clear hu hl hg hno
              go_wp2_with (first | (go_at_call 36; refine (cG _).mono ?_; rintro e w' ⟨rfl, rfl⟩) | (go_at_call 37; refine (cL _).mono ?_; rintro e w' ⟨rfl, rfl⟩))
              go_ret
              exact ⟨ret_int HU.out.symm, rfl⟩
            · have HX : Hid (¬ (Gr k ∧ lowZ k = r)) := Lib.hid (fun h => hl h.2)
              have hlb : (lowZ k == r) = false := by rw [beq_eq_false_iff_ne]; exact hl
              have HO2 := Lib.hid hno
              clear hl hg hno
              go_wp2_with (first | (go_at_call 36; refine (cG _).mono ?_; rintro e w' ⟨rfl, rfl⟩) | (go_at_call 37; refine (cL _).mono ?_; rintro e w' ⟨rfl, rfl⟩))
              go_round
              case rel =>
                refine ⟨k + 1, by go_num, by omega, by omega, fun j a b => ?_⟩
                by_cases hj : j = k
                · rw [hj]; exact HX.out
                · exact HO2.out j a (by omega)
              case measure => simp [intOf]; omega
          · rw [grB_f hg] at cG
            have HX : Hid (¬ (Gr k ∧ lowZ k = r)) := Lib.hid (fun h => hg h.1)
            have HO2 := Lib.hid hno
            clear hg hno
            go_wp2_with (first | (go_at_call 36; refine (cG _).mono ?_; rintro e w' ⟨rfl, rfl⟩))
            go_round
            case rel =>
              refine ⟨k + 1, by go_num, by omega, by omega, fun j a b => ?_⟩
              by_cases hj : j = k
              · rw [hj]; exact HX.out
              · exact HO2.out j a (by omega)
            case measure => simp [intOf]; omega
        · have hu := up_miss HO.out HS.out (fun j a b => hno j a (by omega))
          have HU := Lib.hid hu
          clear hu hno
          go_wp2
          go_ret
          exact ⟨ret_int HU.out.symm, rfl⟩
  · rw [smB_f h] at cS
    rw [up_none h]
    clear h
    go_enter Try.func24, Try.ntmps24
    go_wp2_with (first | (go_at_call 35; refine (cS _).mono ?_; rintro e w' ⟨rfl, rfl⟩))
    go_ret
    exact ⟨rfl, rfl⟩
end Go.Proofs.Ytkikopjbaonbpaa
