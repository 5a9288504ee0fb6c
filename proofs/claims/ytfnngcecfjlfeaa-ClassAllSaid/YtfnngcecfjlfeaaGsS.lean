/- What greatSmall answers of a small letter. -/
import Derived.Test.YtfnngcecfjlfeaaLawKnown
namespace Go.Proofs.Ytfnngcecfjlfeaa
set_option linter.unusedVariables false
set_option linter.unusedSimpArgs false
open Go Go.RowKit
set_option maxRecDepth 100000

set_option maxHeartbeats 400000 in
theorem gs_small (r : Int) (h : Sm r) (hn1 : r ≠ 305) (hn2 : r ≠ 383) (hn3 : r ≠ 962) (w : World) :
    Calls Try.prog 14 #[.int .i32 r] w fun e w' => e = .returned (.bool true) ∧ Below w.heap.size w w' := by
  have ha := asked (.inr h)
  have hg0 : ¬ Gr r := fun h' => gr_sm h' h
  have hle : leB r = true := by unfold leB; rw [smB_t h]; simp
  have hsm := ha.small h
  have cG := great_any r
  have cS := small_any r
  have cK := kind_any r
  have cC := script_any r
  have cC2 := script_any (upZ r)
  have cL := lower_any r
  have cL2 := lower_any (upZ r)
  have cU := upper_any r
  have cU2 := upper_any (upZ r)
  have cV := vowel_any r
  have hin := sm_in h
  have hin2 := ha.upin
  have h304 : r ≠ 304 := by unfold Sm at h; omega
  have hsz := Classical.not_not.1 (fun hh => (show ¬ (r = 304 ∨ r = 305 ∨ r = 383) by omega) (ha.wide.2 hh))
  have hE1 := enc_in (upZ r) hin2.1 hin2.2
  have hE2 := enc_in r (by omega) (by omega)
  rw [hsz.2] at hE1
  rw [grB_f hg0] at cG
  rw [smB_t h] at cS
  rw [kind_letter hle] at cK
  rw [ha.scr2] at cC2
  rw [hsm] at cL
  rw [ha.lowup (by omega), hsm] at cL2
  rw [ha.up2] at cU2
  have hk0 : (scrZ r != 0) = true := by rw [bne_iff_ne, scr_t hle]; (repeat' split) <;> omega
  have n1 : (r == 304) = false := by rw [beq_eq_false_iff_ne]; exact h304
  have n2 : (r == 305) = false := by rw [beq_eq_false_iff_ne]; exact hn1
  have n3 : (r == 383) = false := by rw [beq_eq_false_iff_ne]; exact hn2
  have n4 : (r == 962) = false := by rw [beq_eq_false_iff_ne]; exact hn3
  obtain ⟨n, hnn⟩ : ∃ n, encN r = n := ⟨_, rfl⟩
  rw [hnn] at hE1 hE2
  obtain ⟨k, hkk⟩ : ∃ k, scrZ r = k := ⟨_, rfl⟩
  rw [hkk] at cC cC2 hk0
  obtain ⟨b, hbb⟩ : ∃ b, vowB r = b := ⟨_, rfl⟩
  rw [hbb] at cV
  obtain ⟨x, hx⟩ : ∃ x, upZ r = x := ⟨_, rfl⟩
  rw [hx] at cU cL2 cC2 cU2 hE1
  clear ha hg0 hle hsm hin hin2 hsz hnn hkk hbb hx h hn1 hn2 hn3 h304
  go_enter Try.func14, Try.ntmps14
  go_wp2_with (first | (go_at_call 12; refine (live_any _).mono ?_; rintro e w' ⟨rfl, rfl⟩) | (go_at_call 36; refine (cG _).mono ?_; rintro e w' ⟨rfl, rfl⟩) | (go_at_call 38; refine (cS _).mono ?_; rintro e w' ⟨rfl, rfl⟩) | (go_at_call 32; refine (cK _).mono ?_; rintro e w' ⟨rfl, rfl⟩) | (go_at_call_of 42 (Value.int .i32 r); refine (cC _).mono ?_; rintro e w' ⟨rfl, rfl⟩) | (go_at_call_of 42 (Value.int .i32 x); refine (cC2 _).mono ?_; rintro e w' ⟨rfl, rfl⟩) | (go_at_call_of 33 (Value.int .i32 r); refine (cL _).mono ?_; rintro e w' ⟨rfl, rfl⟩) | (go_at_call_of 33 (Value.int .i32 x); refine (cL2 _).mono ?_; rintro e w' ⟨rfl, rfl⟩) | (go_at_call_of 45 (Value.int .i32 r); refine (cU _).mono ?_; rintro e w' ⟨rfl, rfl⟩) | (go_at_call_of 45 (Value.int .i32 x); refine (cU2 _).mono ?_; rintro e w' ⟨rfl, rfl⟩) | (go_at_call 40; first | ((with_reducible refine (cV w).mono ?_); rintro e w1 ⟨rfl, hb1⟩) | (refine (cV _).mono ?_; rintro e w2 ⟨rfl, hb2⟩)))
  go_ret
  exact ⟨rfl, hb1.trans (hb2.mono hb1.size)⟩

set_option maxHeartbeats 1000000 in
theorem gs_304 (w : World) :
    Calls Try.prog 14 #[.int .i32 304] w fun e w' => e = .returned (.bool true) ∧ Below w.heap.size w w' := by
  have c1 := great_any 304
  rw [show grB 304 = true by kernel_rfl] at c1
  have c2 := small_any 304
  rw [show smB 304 = false by kernel_rfl] at c2
  have c3 := kind_any 304
  rw [show kindZ 304 = 1 by kernel_rfl] at c3
  have cs0 := script_any 304
  rw [show scrZ 304 = 1 by kernel_rfl] at cs0
  have cs1 := script_any 105
  rw [show scrZ 105 = 1 by kernel_rfl] at cs1
  have cl0 := lower_any 304
  rw [show lowZ 304 = 105 by kernel_rfl] at cl0
  have cl1 := lower_any 105
  rw [show lowZ 105 = 105 by kernel_rfl] at cl1
  have cu0 := upper_any 304
  rw [show upZ 304 = 304 by kernel_rfl] at cu0
  have cu1 := upper_any 105
  rw [show upZ 105 = 73 by kernel_rfl] at cu1
  have cv0 := vowel_any 105
  rw [show vowB 105 = true by kernel_rfl] at cv0
  have cv1 := vowel_any 304
  rw [show vowB 304 = true by kernel_rfl] at cv1
  have hE304 : (Utf8.encode 304).size = 2 := by kernel_rfl
  have hE105 : (Utf8.encode 105).size = 1 := by kernel_rfl
  go_enter Try.func14, Try.ntmps14
  go_wp2_with (first | (go_at_call 12; refine (live_any _).mono ?_; rintro e w' ⟨rfl, rfl⟩) | (go_at_call_of 36 (Value.int .i32 304); refine (c1 _).mono ?_; rintro e w' ⟨rfl, rfl⟩) | (go_at_call_of 38 (Value.int .i32 304); refine (c2 _).mono ?_; rintro e w' ⟨rfl, rfl⟩) | (go_at_call_of 32 (Value.int .i32 304); refine (c3 _).mono ?_; rintro e w' ⟨rfl, rfl⟩) | (go_at_call_of 42 (Value.int .i32 304); refine (cs0 _).mono ?_; rintro e w' ⟨rfl, rfl⟩) | (go_at_call_of 42 (Value.int .i32 105); refine (cs1 _).mono ?_; rintro e w' ⟨rfl, rfl⟩) | (go_at_call_of 33 (Value.int .i32 304); refine (cl0 _).mono ?_; rintro e w' ⟨rfl, rfl⟩) | (go_at_call_of 33 (Value.int .i32 105); refine (cl1 _).mono ?_; rintro e w' ⟨rfl, rfl⟩) | (go_at_call_of 45 (Value.int .i32 304); refine (cu0 _).mono ?_; rintro e w' ⟨rfl, rfl⟩) | (go_at_call_of 45 (Value.int .i32 105); refine (cu1 _).mono ?_; rintro e w' ⟨rfl, rfl⟩) | (go_at_call_of 40 (Value.int .i32 105); refine (cv0 _).mono ?_; rintro e w1 ⟨rfl, hb1⟩) | (go_at_call_of 40 (Value.int .i32 304); refine (cv1 _).mono ?_; rintro e w2 ⟨rfl, hb2⟩))
  go_ret
  exact ⟨rfl, hb1.trans (hb2.mono hb1.size)⟩

set_option maxHeartbeats 1000000 in
theorem gs_305 (w : World) :
    Calls Try.prog 14 #[.int .i32 305] w fun e w' => e = .returned (.bool true) ∧ Below w.heap.size w w' := by
  have c1 := great_any 305
  rw [show grB 305 = false by kernel_rfl] at c1
  have c2 := small_any 305
  rw [show smB 305 = true by kernel_rfl] at c2
  have c3 := kind_any 305
  rw [show kindZ 305 = 1 by kernel_rfl] at c3
  have cs0 := script_any 305
  rw [show scrZ 305 = 1 by kernel_rfl] at cs0
  have cs1 := script_any 73
  rw [show scrZ 73 = 1 by kernel_rfl] at cs1
  have cl0 := lower_any 305
  rw [show lowZ 305 = 305 by kernel_rfl] at cl0
  have cl1 := lower_any 73
  rw [show lowZ 73 = 105 by kernel_rfl] at cl1
  have cu0 := upper_any 305
  rw [show upZ 305 = 73 by kernel_rfl] at cu0
  have cu1 := upper_any 73
  rw [show upZ 73 = 73 by kernel_rfl] at cu1
  have cv0 := vowel_any 305
  rw [show vowB 305 = true by kernel_rfl] at cv0
  have hE305 : (Utf8.encode 305).size = 2 := by kernel_rfl
  have hE73 : (Utf8.encode 73).size = 1 := by kernel_rfl
  go_enter Try.func14, Try.ntmps14
  go_wp2_with (first | (go_at_call 12; refine (live_any _).mono ?_; rintro e w' ⟨rfl, rfl⟩) | (go_at_call_of 36 (Value.int .i32 305); refine (c1 _).mono ?_; rintro e w' ⟨rfl, rfl⟩) | (go_at_call_of 38 (Value.int .i32 305); refine (c2 _).mono ?_; rintro e w' ⟨rfl, rfl⟩) | (go_at_call_of 32 (Value.int .i32 305); refine (c3 _).mono ?_; rintro e w' ⟨rfl, rfl⟩) | (go_at_call_of 42 (Value.int .i32 305); refine (cs0 _).mono ?_; rintro e w' ⟨rfl, rfl⟩) | (go_at_call_of 42 (Value.int .i32 73); refine (cs1 _).mono ?_; rintro e w' ⟨rfl, rfl⟩) | (go_at_call_of 33 (Value.int .i32 305); refine (cl0 _).mono ?_; rintro e w' ⟨rfl, rfl⟩) | (go_at_call_of 33 (Value.int .i32 73); refine (cl1 _).mono ?_; rintro e w' ⟨rfl, rfl⟩) | (go_at_call_of 45 (Value.int .i32 305); refine (cu0 _).mono ?_; rintro e w' ⟨rfl, rfl⟩) | (go_at_call_of 45 (Value.int .i32 73); refine (cu1 _).mono ?_; rintro e w' ⟨rfl, rfl⟩) | (go_at_call 40; first | ((with_reducible refine (cv0 w).mono ?_); rintro e w1 ⟨rfl, hb1⟩) | (refine (cv0 _).mono ?_; rintro e w2 ⟨rfl, hb2⟩)))
  go_ret
  exact ⟨rfl, hb1.trans (hb2.mono hb1.size)⟩

set_option maxHeartbeats 1000000 in
theorem gs_383 (w : World) :
    Calls Try.prog 14 #[.int .i32 383] w fun e w' => e = .returned (.bool true) ∧ Below w.heap.size w w' := by
  have c1 := great_any 383
  rw [show grB 383 = false by kernel_rfl] at c1
  have c2 := small_any 383
  rw [show smB 383 = true by kernel_rfl] at c2
  have c3 := kind_any 383
  rw [show kindZ 383 = 1 by kernel_rfl] at c3
  have cs0 := script_any 383
  rw [show scrZ 383 = 1 by kernel_rfl] at cs0
  have cs1 := script_any 83
  rw [show scrZ 83 = 1 by kernel_rfl] at cs1
  have cl0 := lower_any 383
  rw [show lowZ 383 = 383 by kernel_rfl] at cl0
  have cl1 := lower_any 83
  rw [show lowZ 83 = 115 by kernel_rfl] at cl1
  have cu0 := upper_any 383
  rw [show upZ 383 = 83 by kernel_rfl] at cu0
  have cu1 := upper_any 83
  rw [show upZ 83 = 83 by kernel_rfl] at cu1
  have cv0 := vowel_any 383
  rw [show vowB 383 = false by kernel_rfl] at cv0
  have hE383 : (Utf8.encode 383).size = 2 := by kernel_rfl
  have hE83 : (Utf8.encode 83).size = 1 := by kernel_rfl
  go_enter Try.func14, Try.ntmps14
  go_wp2_with (first | (go_at_call 12; refine (live_any _).mono ?_; rintro e w' ⟨rfl, rfl⟩) | (go_at_call_of 36 (Value.int .i32 383); refine (c1 _).mono ?_; rintro e w' ⟨rfl, rfl⟩) | (go_at_call_of 38 (Value.int .i32 383); refine (c2 _).mono ?_; rintro e w' ⟨rfl, rfl⟩) | (go_at_call_of 32 (Value.int .i32 383); refine (c3 _).mono ?_; rintro e w' ⟨rfl, rfl⟩) | (go_at_call_of 42 (Value.int .i32 383); refine (cs0 _).mono ?_; rintro e w' ⟨rfl, rfl⟩) | (go_at_call_of 42 (Value.int .i32 83); refine (cs1 _).mono ?_; rintro e w' ⟨rfl, rfl⟩) | (go_at_call_of 33 (Value.int .i32 383); refine (cl0 _).mono ?_; rintro e w' ⟨rfl, rfl⟩) | (go_at_call_of 33 (Value.int .i32 83); refine (cl1 _).mono ?_; rintro e w' ⟨rfl, rfl⟩) | (go_at_call_of 45 (Value.int .i32 383); refine (cu0 _).mono ?_; rintro e w' ⟨rfl, rfl⟩) | (go_at_call_of 45 (Value.int .i32 83); refine (cu1 _).mono ?_; rintro e w' ⟨rfl, rfl⟩) | (go_at_call 40; first | ((with_reducible refine (cv0 w).mono ?_); rintro e w1 ⟨rfl, hb1⟩) | (refine (cv0 _).mono ?_; rintro e w2 ⟨rfl, hb2⟩)))
  go_ret
  exact ⟨rfl, hb1.trans (hb2.mono hb1.size)⟩

set_option maxHeartbeats 1000000 in
theorem gs_962 (w : World) :
    Calls Try.prog 14 #[.int .i32 962] w fun e w' => e = .returned (.bool true) ∧ Below w.heap.size w w' := by
  have c1 := great_any 962
  rw [show grB 962 = false by kernel_rfl] at c1
  have c2 := small_any 962
  rw [show smB 962 = true by kernel_rfl] at c2
  have c3 := kind_any 962
  rw [show kindZ 962 = 1 by kernel_rfl] at c3
  have cs0 := script_any 962
  rw [show scrZ 962 = 2 by kernel_rfl] at cs0
  have cs1 := script_any 931
  rw [show scrZ 931 = 2 by kernel_rfl] at cs1
  have cl0 := lower_any 962
  rw [show lowZ 962 = 962 by kernel_rfl] at cl0
  have cl1 := lower_any 931
  rw [show lowZ 931 = 963 by kernel_rfl] at cl1
  have cu0 := upper_any 962
  rw [show upZ 962 = 931 by kernel_rfl] at cu0
  have cu1 := upper_any 931
  rw [show upZ 931 = 931 by kernel_rfl] at cu1
  have cv0 := vowel_any 962
  rw [show vowB 962 = false by kernel_rfl] at cv0
  have hE962 : (Utf8.encode 962).size = 2 := by kernel_rfl
  have hE931 : (Utf8.encode 931).size = 2 := by kernel_rfl
  go_enter Try.func14, Try.ntmps14
  go_wp2_with (first | (go_at_call 12; refine (live_any _).mono ?_; rintro e w' ⟨rfl, rfl⟩) | (go_at_call_of 36 (Value.int .i32 962); refine (c1 _).mono ?_; rintro e w' ⟨rfl, rfl⟩) | (go_at_call_of 38 (Value.int .i32 962); refine (c2 _).mono ?_; rintro e w' ⟨rfl, rfl⟩) | (go_at_call_of 32 (Value.int .i32 962); refine (c3 _).mono ?_; rintro e w' ⟨rfl, rfl⟩) | (go_at_call_of 42 (Value.int .i32 962); refine (cs0 _).mono ?_; rintro e w' ⟨rfl, rfl⟩) | (go_at_call_of 42 (Value.int .i32 931); refine (cs1 _).mono ?_; rintro e w' ⟨rfl, rfl⟩) | (go_at_call_of 33 (Value.int .i32 962); refine (cl0 _).mono ?_; rintro e w' ⟨rfl, rfl⟩) | (go_at_call_of 33 (Value.int .i32 931); refine (cl1 _).mono ?_; rintro e w' ⟨rfl, rfl⟩) | (go_at_call_of 45 (Value.int .i32 962); refine (cu0 _).mono ?_; rintro e w' ⟨rfl, rfl⟩) | (go_at_call_of 45 (Value.int .i32 931); refine (cu1 _).mono ?_; rintro e w' ⟨rfl, rfl⟩) | (go_at_call 40; first | ((with_reducible refine (cv0 w).mono ?_); rintro e w1 ⟨rfl, hb1⟩) | (refine (cv0 _).mono ?_; rintro e w2 ⟨rfl, hb2⟩)))
  go_ret
  exact ⟨rfl, hb1.trans (hb2.mono hb1.size)⟩
end Go.Proofs.Ytfnngcecfjlfeaa
