/- What the document's Vowel answers. -/
import Derived.Test.YtfnngcecfjlfeaaCd3
import Derived.Test.YtfnngcecfjlfeaaCv
namespace Go.Proofs.Ytfnngcecfjlfeaa
set_option linter.unusedVariables false
set_option linter.unusedSimpArgs false
open Go Go.RowKit
set_option maxRecDepth 100000

def six (x : Int) : Prop := x = 97 ∨ x = 101 ∨ x = 105 ∨ x = 111 ∨ x = 117 ∨ x = 121
def rng (x : Int) : Prop := (224 ≤ x ∧ x ≤ 230) ∨ (232 ≤ x ∧ x ≤ 239) ∨ (242 ≤ x ∧ x ≤ 246) ∨ (248 ≤ x ∧ x ≤ 253) ∨ x = 255
theorem vowD_six {x : Int} (h : six x) : vowD x = true := by
  unfold six at h
  rcases h with rfl | rfl | rfl | rfl | rfl | rfl <;> rfl
theorem vowD_rng {x : Int} (h : rng x) : vowD x = true := by
  unfold rng at h
  unfold vowD
  simp only [Bool.or_eq_true, Bool.and_eq_true, decide_eq_true_eq, beq_iff_eq]
  left; right
  omega
theorem vowD_rest {x : Int} (h1 : ¬ six x) (h2 : ¬ rng x) : vowD x = (runesOf vowT4).contains x := by
  rw [runes_R]
  unfold six at h1
  unfold rng at h2
  unfold vowD
  have e1 : (x == 97 || x == 101 || x == 105 || x == 111 || x == 117 || x == 121) = false := by
    simp only [Bool.or_eq_false_iff, beq_eq_false_iff_ne]; omega
  have e2 : (decide (224 ≤ x) && decide (x ≤ 230) || decide (232 ≤ x) && decide (x ≤ 239) || decide (242 ≤ x) && decide (x ≤ 246) || decide (248 ≤ x) && decide (x ≤ 253) || x == 255) = false := by
    simp only [Bool.or_eq_false_iff, Bool.and_eq_false_iff, decide_eq_false_iff_not, beq_eq_false_iff_ne]; omega
  rw [e1, e2]; simp

set_option maxHeartbeats 4000000 in
theorem vowelD_any (r : Int) (w : World) :
    Calls Try.prog 41 #[.int .i32 r] w fun e w' => e = .returned (.bool (vowB r)) ∧ Below w.heap.size w w' := by
  have cL := lowerD_any r
  rw [← (vow_eq r).2]
  obtain ⟨x, hx⟩ : ∃ x, lowZ r = x := ⟨_, rfl⟩
  rw [hx] at cL ⊢
  clear hx
  by_cases h6 : six x
  · rw [vowD_six h6]
    unfold six at h6
    rcases h6 with rfl | rfl | rfl | rfl | rfl | rfl
    all_goals
      go_enter Try.func41, Try.ntmps41
      go_wp2_with (first | (go_at_call 44; refine (cL _).mono ?_; rintro e w' ⟨rfl, rfl⟩))
      go_ret
      exact ⟨rfl, Below.refl _ _⟩
  · have b1 : (x == 97) = false := by rw [beq_eq_false_iff_ne]; exact fun h => h6 (by unfold six; omega)
    have b2 : (x == 101) = false := by rw [beq_eq_false_iff_ne]; exact fun h => h6 (by unfold six; omega)
    have b3 : (x == 105) = false := by rw [beq_eq_false_iff_ne]; exact fun h => h6 (by unfold six; omega)
    have b4 : (x == 111) = false := by rw [beq_eq_false_iff_ne]; exact fun h => h6 (by unfold six; omega)
    have b5 : (x == 117) = false := by rw [beq_eq_false_iff_ne]; exact fun h => h6 (by unfold six; omega)
    have b6 : (x == 121) = false := by rw [beq_eq_false_iff_ne]; exact fun h => h6 (by unfold six; omega)
    by_cases hr : rng x
    · rw [vowD_rng hr]
      unfold rng at hr
      have c1 : x = 255 ∨ (x == 255) = false := by
        by_cases h : x = 255
        · exact .inl h
        · right; rw [beq_eq_false_iff_ne]; exact h
      clear h6
      rcases hr with h | h | h | h | rfl
      rotate_left 4
      · clear b1 b2 b3 b4 b5 b6 c1
        go_enter Try.func41, Try.ntmps41
        go_wp2_with (first | (go_at_call 44; refine (cL _).mono ?_; rintro e w' ⟨rfl, rfl⟩) | (go_at_call 62; refine (in_any _ _ _ _).mono ?_; rintro e w' ⟨rfl, rfl⟩))
        go_ret
        exact ⟨rfl, Below.refl _ _⟩
      all_goals
        obtain ⟨h1, h2⟩ := h
        clear c1
        go_enter Try.func41, Try.ntmps41
        go_wp2_with (first | (go_at_call 44; refine (cL _).mono ?_; rintro e w' ⟨rfl, rfl⟩) | (go_at_call 62; refine (in_any _ _ _ _).mono ?_; rintro e w' ⟨rfl, rfl⟩))
        all_goals go_ret
        all_goals exact ⟨rfl, Below.refl _ _⟩
    · rw [vowD_rest h6 hr]
      unfold rng at hr
      have d1 : decide (224 ≤ x ∧ x ≤ 230) = false := by rw [decide_eq_false_iff_not]; omega
      have d2 : decide (232 ≤ x ∧ x ≤ 239) = false := by rw [decide_eq_false_iff_not]; omega
      have d3 : decide (242 ≤ x ∧ x ≤ 246) = false := by rw [decide_eq_false_iff_not]; omega
      have d4 : decide (248 ≤ x ∧ x ≤ 253) = false := by rw [decide_eq_false_iff_not]; omega
      have d5 : (x == 255) = false := by rw [beq_eq_false_iff_ne]; omega
      obtain ⟨y, hy0⟩ : ∃ y, (runesOf vowT4).contains x = y := ⟨_, rfl⟩
      have HY := Lib.hid hy0
      rw [hy0]
      clear hy0 hr h6
      have i1 := fun w => in_any x 224 230 w
      have i2 := fun w => in_any x 232 239 w
      have i3 := fun w => in_any x 242 246 w
      have i4 := fun w => in_any x 248 253 w
      rw [d1] at i1
      rw [d2] at i2
      rw [d3] at i3
      rw [d4] at i4
      clear d1 d2 d3 d4
      go_enter Try.func41, Try.ntmps41
      go_wp2_with (first | (go_at_call 44; refine (cL _).mono ?_; rintro e w' ⟨rfl, rfl⟩) | (go_at_call 62; first | (with_reducible refine (i1 _).mono ?_) | (with_reducible refine (i2 _).mono ?_) | (with_reducible refine (i3 _).mono ?_) | (with_reducible refine (i4 _).mono ?_)); rintro e w' ⟨rfl, rfl⟩)
      obtain ⟨T, hT⟩ : ∃ T, vowT4 = T := ⟨_, rfl⟩
      rw [hT] at HY
      have hT2 := hT
      unfold vowT4 at hT2
      simp only [List.cons_append, List.nil_append] at hT2
      rw [hT2]
      clear hT hT2
      go_loopw [] (fun wr => FiRel T x w w.heap.size wr) (fun wr => T.size - wr.iterPos w.heap.size)
      case atStart => exact ⟨[], 0, by simp [posns_G], (fun i hi => by cases hi), World.iter_heap w T 0, (Below.refl _ _).alloc (Nat.le_refl _) _⟩
      case round =>
        obtain ⟨pre, pos, hpp, hno, hit, hB⟩ := hrel
        by_cases hps : pos < T.size
        · have hnx : ∀ ty, (Instr.next (.pointer (some ⟨w.heap.size, 0, none⟩)) true ty).run Try.prog wr = _ := fun ty => Lib.run_next_any_at wr w.heap.size T pos ty hit hps
          rw [dec_eq T pos hps] at hnx
          have hit1 := Lib.iterAt_heap wr w.heap.size T pos (pos + wd T pos) hit
          have hB1 : Below w.heap.size w (wr.iterAt w.heap.size T (pos + wd T pos)) := Lib.below_iterAt hB (Nat.le_refl _) T _
          have hmeas : T.size - (pos + wd T pos) < T.size - wr.iterPos w.heap.size := by
            have := wd_pos T pos
            simp only [World.iterPos, hit]; omega
          have hpp2 : posns T = (pre ++ [pos]) ++ posG T (pos + wd T pos) := by rw [hpp, posG_cons T pos hps]; simp
          obtain ⟨P, hP⟩ : ∃ P, wr.iterAt w.heap.size T (pos + wd T pos) = P := ⟨_, rfl⟩
          rw [hP] at hnx hit1 hB1
          clear hP
          have HM := Lib.hid hmeas
          by_cases he : (rn T pos : Int) = x
          · have hy : Hid (y = true) := Lib.hid (HY.out.symm.trans (fi_yes hpp hps he))
            have heb : ((rn T pos : Int) == x) = true := by rw [beq_iff_eq]; exact he
            clear hpp hpp2 hmeas hit hB hno he
            go_wp2
            go_ret
            exact ⟨by rw [hy.out]; rfl, hB1⟩
          · have HP := Lib.hid hpp2
            have HO := Lib.hid hno
            have HE := Lib.hid he
            have heb : ((rn T pos : Int) == x) = false := by rw [beq_eq_false_iff_ne]; exact he
            clear hpp hpp2 hmeas hit hB hno he
            go_wp2
            go_roundw
            case rel =>
              refine ⟨pre ++ [pos], pos + wd T pos, HP.out, fun i hi => ?_, hit1, hB1⟩
              rcases List.mem_append.1 hi with h | h
              · exact HO.out i h
              · rw [List.mem_singleton.1 h]; exact HE.out
            case measure => simp only [World.iterPos, hit1]; exact HM.out
        · have hy : Hid (y = false) := Lib.hid (HY.out.symm.trans (fi_no hpp (by omega) hno))
          have hnx := fun ty => Lib.run_next_end_at (P := Try.prog) wr w.heap.size T pos ty hit (by omega)
          clear hpp hno
          go_wp2
          go_ret
          exact ⟨by rw [hy.out]; rfl, hB⟩
end Go.Proofs.Ytfnngcecfjlfeaa
