/- What greatSmall answers of a great letter. -/
import Derived.Test.YtfnngcecfjlfeaaLawKnown
namespace Go.Proofs.Ytfnngcecfjlfeaa
set_option linter.unusedVariables false
set_option linter.unusedSimpArgs false
open Go Go.RowKit
set_option maxRecDepth 100000

set_option maxHeartbeats 400000 in
theorem gs_great (r : Int) (h : Gr r) (hn : r ≠ 304) (w : World) :
    Calls Try.prog 14 #[.int .i32 r] w fun e w' => e = .returned (.bool true) ∧ Below w.heap.size w w' := by
  have ha := asked (.inl h)
  have hl := Or.inl (b := Sm r) h
  have hle : leB r = true := by unfold leB; rw [grB_t h]; rfl
  have hgr := ha.great h
  have cG := great_any r
  have cS := small_any r
  have cK := kind_any r
  have cC := script_any r
  have cC2 := script_any (lowZ r)
  have cL := lower_any r
  have cL2 := lower_any (lowZ r)
  have cU := upper_any r
  have cU2 := upper_any (lowZ r)
  have cV := vowel_any r
  have cV2 := vowel_any (lowZ r)
  have hin := gr_in h
  have hin2 := ha.lowin
  have hsz := Classical.not_not.1 (fun hh => (show ¬ (r = 304 ∨ r = 305 ∨ r = 383) by unfold Gr at h; omega) (ha.wide.2 hh))
  have hE1 := enc_in (lowZ r) hin2.1 hin2.2
  have hE2 := enc_in r (by omega) (by omega)
  rw [hsz.1] at hE1
  rw [grB_t h] at cG
  rw [smB_f (gr_sm h)] at cS
  rw [kind_letter hle] at cK
  rw [ha.scr1] at cC2
  rw [ha.low2] at cL2
  rw [hgr.2] at cU
  rw [ha.uplow hn, hgr.2] at cU2
  rw [ha.vow] at cV2
  have hk0 : (scrZ r != 0) = true := by rw [bne_iff_ne, scr_t hle]; (repeat' split) <;> omega
  have hb0 : (lowZ r == r) = false := by rw [beq_eq_false_iff_ne]; exact hgr.1
  have hb1' : (lowZ r != r) = true := by rw [bne_iff_ne]; exact hgr.1
  have n1 : (r == 304) = false := by rw [beq_eq_false_iff_ne]; exact hn
  have n2 : (r == 305) = false := by rw [beq_eq_false_iff_ne]; unfold Gr at h; omega
  have n3 : (r == 383) = false := by rw [beq_eq_false_iff_ne]; unfold Gr at h; omega
  have n4 : (r == 962) = false := by rw [beq_eq_false_iff_ne]; unfold Gr at h; omega
  obtain ⟨n, hnn⟩ : ∃ n, encN r = n := ⟨_, rfl⟩
  rw [hnn] at hE1 hE2
  obtain ⟨k, hkk⟩ : ∃ k, scrZ r = k := ⟨_, rfl⟩
  rw [hkk] at cC cC2 hk0
  obtain ⟨b, hbb⟩ : ∃ b, vowB r = b := ⟨_, rfl⟩
  rw [hbb] at cV cV2
  obtain ⟨x, hx⟩ : ∃ x, lowZ r = x := ⟨_, rfl⟩
  rw [hx] at cL cL2 cC2 cU2 cV2 hE1 hb0 hb1'
  clear ha hl hle hgr hin hin2 hsz hnn hkk hbb hx h hn
  go_enter Try.func14, Try.ntmps14
  go_wp2_with (first | (go_at_call 12; refine (live_any _).mono ?_; rintro e w' ⟨rfl, rfl⟩) | (go_at_call 36; refine (cG _).mono ?_; rintro e w' ⟨rfl, rfl⟩) | (go_at_call 38; refine (cS _).mono ?_; rintro e w' ⟨rfl, rfl⟩) | (go_at_call 32; refine (cK _).mono ?_; rintro e w' ⟨rfl, rfl⟩) | (go_at_call_of 42 (Value.int .i32 r); refine (cC _).mono ?_; rintro e w' ⟨rfl, rfl⟩) | (go_at_call_of 42 (Value.int .i32 x); refine (cC2 _).mono ?_; rintro e w' ⟨rfl, rfl⟩) | (go_at_call_of 33 (Value.int .i32 r); refine (cL _).mono ?_; rintro e w' ⟨rfl, rfl⟩) | (go_at_call_of 33 (Value.int .i32 x); refine (cL2 _).mono ?_; rintro e w' ⟨rfl, rfl⟩) | (go_at_call_of 45 (Value.int .i32 r); refine (cU _).mono ?_; rintro e w' ⟨rfl, rfl⟩) | (go_at_call_of 45 (Value.int .i32 x); refine (cU2 _).mono ?_; rintro e w' ⟨rfl, rfl⟩) | (go_at_call_of 40 (Value.int .i32 x); refine (cV2 _).mono ?_; rintro e w1 ⟨rfl, hb1⟩) | (go_at_call_of 40 (Value.int .i32 r); refine (cV _).mono ?_; rintro e w2 ⟨rfl, hb2⟩))
  go_ret
  exact ⟨rfl, hb1.trans (hb2.mono hb1.size)⟩

end Go.Proofs.Ytfnngcecfjlfeaa
