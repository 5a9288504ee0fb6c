/- Several texts in one. -/
import Derived.Test.YtjccoiephdopkaaZ18
import Derived.Test.YtjccoiephdopkaaZ21
import Derived.Test.YtjccoiephdopkaaZ22
import Derived.Test.YtjccoiephdopkaaIl
/- Stage 27: of the law EditApplies: what a change makes; what is turned about. -/
namespace Go.Proofs.Ytjccoiephdopkaa
set_option linter.unusedVariables false
set_option linter.unusedSimpArgs false
open Go Go.RowKit Go.Shelf
set_option maxRecDepth 100000

theorem plain_ok {l : List Sp} {F T : Nat} (h : sizeG l 0 0 = some (F, T)) : sizeG (plainM l) 0 0 = some (F, T) ∧ OkS (plainM l) ∧ (plainM l).length ≤ 131072 ∧ ∀ s, runA (atL (plainM l)) s = runA (atL l) s := by
  obtain ⟨f1, f2, f3⟩ := sizeG_in l 0 0 _ _ h
  have f4 := plain_cu h
  rw [Nat.zero_add] at f1 f2
  have h1 := nf_ok (A := atL l) (by omega) (by omega)
  rw [← plain_fd, ← f1, ← f2] at h1
  exact ⟨h1.1, h1.2.1, h1.2.2, fun s => by rw [plain_fd, (nf_eq (atL l)).1.run]⟩
theorem appF_plain {l : List Sp} {F T : Nat} (s : ByteArray) (h : sizeG l 0 0 = some (F, T)) : appF s (plainM l) = appF s l := by
  obtain ⟨h1, _, _, h2⟩ := plain_ok h
  unfold appF
  rw [h1, h, h2]
theorem inv_ok {l : List Sp} {F T : Nat} (h : sizeG l 0 0 = some (F, T)) : sizeG (nfA (invL (atL l))) 0 0 = some (T, F) ∧ OkS (nfA (invL (atL l))) ∧ (nfA (invL (atL l))).length ≤ 131072 ∧ invO l = (0, nfA (invL (atL l))) ∧ invO (nfA (invL (atL l))) = (0, plainM l) := by
  obtain ⟨f1, f2, f3⟩ := sizeG_in l 0 0 _ _ h
  have f4 := plain_cu h
  rw [Nat.zero_add] at f1 f2
  have i := inv_size (atL l)
  have h1 := nf_ok (A := invL (atL l)) (by omega) (by omega)
  rw [i.1, i.2, ← f1, ← f2] at h1
  refine ⟨h1.1, h1.2.1, h1.2.2, by unfold invO; rw [h], ?_⟩
  unfold invO
  rw [h1.1]
  simp only
  rw [nf_inv3, plain_fd]
theorem appF_inv {l : List Sp} {F T : Nat} {s : ByteArray} (h : sizeG l 0 0 = some (F, T)) (h0 : (appF s l).2 = 0) : appF (appF s l).1 (nfA (invL (atL l))) = (s, 0) ∧ (appF s l).1.size ≤ 65536 := by
  obtain ⟨T', g1, g2⟩ := appF_ok h0
  have f4 := plain_cu g1
  have f5 := (sizeG_in l 0 0 _ _ g1).2.1
  have g3 := run_len g2
  rw [bL_len, bL_len] at g3
  have ht : (appF s l).1.size ≤ 65536 := by omega
  have g4 := appF_nf (s := (appF s l).1) (run_inv _ _ _ g2) ht (by rw [bL_len]; exact f4.2.2.2.1)
  rw [bL_mk] at g4
  exact ⟨g4.1, ht⟩
theorem appF_emp {s : ByteArray} {l : List Sp} (h : (appF s l).2 ≠ 0) : (appF s l).1 = .empty := by
  unfold appF at h ⊢
  cases hz : sizeG l 0 0 with
  | none => rfl
  | some ft =>
    obtain ⟨F, T⟩ := ft
    rw [hz] at h
    simp only at h ⊢
    split
    · rfl
    · rename_i hF
      rw [if_neg hF] at h
      split
      · rfl
      · rename_i r hr; rw [hr] at h; simp at h
theorem appF_none2 {s : ByteArray} {l : List Sp} (hz : sizeG l 0 0 = none) : appF s l = (.empty, 2) := by unfold appF; rw [hz]
set_option maxHeartbeats 4000000 in
theorem applies_any (s : ByteArray) (l : List Sp) (o : Option Addr) (c : Nat) (hs : s.size ≤ 9223372036854775807) (hn : l.length ≤ 9223372036854775807) (ho : OkS l) (w : World) (hr : RowAt w encS 3 o l) :
    Calls Try.prog 5 #[.string s, .slice o l.length c] w fun e w' => e = .returned (.bool true) ∧ Below w.heap.size w w' := by
  have HR := Lib.hid (And.intro hr ho)
  have cR := ref_any l o c hn ho w hr
  clear hr ho
  go_enter Try.func5, Try.ntmps5
  go_wp2_with (fail)
  refine cR.mono ?_
  rintro e W2 (⟨hrf, rfl, hB2⟩ | ⟨hrf, v, rfl, hrow, hB2⟩)
  · have H2 := Lib.hid hB2
    clear hB2 hrf cR
    go_wp2
    go_ret
    exact ⟨rfl, H2.out⟩
  · obtain ⟨om, cm, rfl, _⟩ := own_slice hrow
    have H2 := Lib.hid (And.intro hB2 (RowAt.of_own encS_len hrow rfl))
    clear hB2 hrf hrow cR
    by_cases h8 : 40000 < s.size
    · have d8 : decide ((40000 : Int) < (s.size : Int)) = true := decide_eq_true (by omega)
      go_wp2
      go_ret
      exact ⟨rfl, H2.out.1⟩
    · have d8 : decide ((40000 : Int) < (s.size : Int)) = false := decide_eq_false (by omega)
      have cS := sizesD_any l om cm hn HR.out.2 _ H2.out.2
      cases hz : sizeG l 0 0 with
      | none =>
        rw [hz] at cS
        have hA := appF_none2 (s := s) hz
        clear hz
        go_wp2_with (fail)
        refine cS.mono ?_
        rintro e W3 ⟨rfl, hB3⟩
        simp only [szD]
        have H3 := Lib.hid (H2.out.1.trans (hB3.mono H2.out.1.size))
        clear hB3 cS
        go_wp2_with (fail)
        refine (apply_any s l o c hn hs HR.out.2 _ (HR.out.1.below encS_len (by decide) H3.out)).mono ?_
        rintro e W4 ⟨rfl, hB4⟩
        rw [hA]
        have H4 := Lib.hid (H3.out.trans (hB4.mono H3.out.size))
        clear hB4 H3
        go_wp2_with (fail)
        refine (live_any _).mono ?_
        rintro e W5 ⟨rfl, hB5⟩
        have H5 := Lib.hid (H4.out.trans (hB5.mono H4.out.size))
        clear hB5
        go_wp2
        go_ret
        exact ⟨rfl, H5.out⟩
      | some ft =>
        obtain ⟨F, T⟩ := ft
        rw [hz] at cS
        have hP := plain_ok hz
        have hAp := appF_plain s hz
        have hF6 : F ≤ 65536 := (plain_cu hz).2.2.2.1
        have hlA : (atL (plainM l)).length ≤ 200000 := by have := plain_cu hz; omega
        have HZ := Lib.hid (And.intro hz (And.intro hP hAp))
        clear hz hP hAp
        go_wp2_with (fail)
        refine cS.mono ?_
        rintro e W3 ⟨rfl, hB3⟩
        simp only [szD]
        have H3 := Lib.hid (And.intro (H2.out.1.trans (hB3.mono H2.out.1.size)) (H2.out.2.below encS_len (by decide) hB3))
        clear hB3 cS H2
        go_wp2_with (fail)
        refine (apply_any s l o c hn hs HR.out.2 _ (HR.out.1.below encS_len (by decide) H3.out.1)).mono ?_
        rintro e W4 ⟨rfl, hB4⟩
        have H4 := Lib.hid (And.intro (H3.out.1.trans (hB4.mono H3.out.1.size)) (H3.out.2.below encS_len (by decide) hB4))
        clear hB4 H3
        have cD := applyD_any s l om cm F T hn hs HR.out.2 HZ.out.1 _ H4.out.2
        have hA2 := HZ.out.2.2
        obtain ⟨t, ht⟩ : ∃ t, (appF s l).1 = t := ⟨_, rfl⟩
        obtain ⟨n1, hN1⟩ : ∃ n, (appF s l).2 = n := ⟨_, rfl⟩
        rw [ht, hN1] at cD ⊢
        have HT := Lib.hid (And.intro ht hN1)
        have q1 : (t.toList == t.toList) = true := beq_self_eq_true _
        have q2 : ((n1 : Int) == (n1 : Int)) = true := beq_self_eq_true _
        have q3 : (n1 == n1) = true := beq_self_eq_true _
        clear ht hN1 hA2
        go_wp2_with (fail)
        refine cD.mono ?_
        rintro e W5 ⟨rfl, hB5⟩
        have H5 := Lib.hid (And.intro (H4.out.1.trans (hB5.mono H4.out.1.size)) (H4.out.2.below encS_len (by decide) hB5))
        clear hB5 H4 cD
        go_wp2_with (fail)
        refine (live_any _).mono ?_
        rintro e W6 ⟨rfl, hB6⟩
        have H6 := Lib.hid (And.intro (H5.out.1.trans (hB6.mono H5.out.1.size)) (H5.out.2.below encS_len (by decide) hB6))
        clear hB6 H5
        go_wp2_with (fail)
        refine (sayx_any l om cm F T hn HR.out.2 HZ.out.1 _ H6.out.2).mono ?_
        rintro e W7 ⟨Ps, Ds, Bs, vP, vD, vB, rfl, hP1, hD1, hB1, lp1, ld1, lb1, hfr1, hB7⟩
        obtain ⟨gP, cP, rfl, _⟩ := own_slice hP1
        obtain ⟨gD, cD, rfl, _⟩ := own_slice hD1
        obtain ⟨gB, cB, rfl, _⟩ := own_slice hB1
        have hv : SdV W7 (.agg #[.slice gP (F + 1) cP, .slice gD F cD, .slice gB F cB]) ⟨Ps, Ds, Bs⟩ F gP gD gB cP cD cB := SdV.of lp1 ld1 lb1 hP1 hD1 hB1 (Below.refl _ _)
        have cPl := plainD_any _ ⟨Ps, Ds, Bs⟩ F (atL (plainM l)) gP gD gB cP cD cB hF6 hlA ⟨lp1, ld1, lb1, hfr1⟩ _ hv
        rw [plain_plain] at cPl
        have H7 := Lib.hid (H6.out.1.trans (hB7.mono H6.out.1.size))
        clear hB7 H6 hv hP1 hD1 hB1 lp1 ld1 lb1 hfr1
        go_wp2_with (fail)
        refine cPl.mono ?_
        rintro e W8 ⟨u, rfl, hu, hB8⟩
        obtain ⟨ou, cu, rfl, _⟩ := own_slice hu
        have H8 := Lib.hid (And.intro (H7.out.trans (hB8.mono H7.out.size)) (RowAt.of_own encS_len hu rfl))
        have hlP : (plainM l).length ≤ 131072 := HZ.out.2.1.2.2.1
        clear hB8 H7 hu cPl
        go_wp2_with (fail)
        refine (back_any (plainM l) ou cu (by omega) _ H8.out.2).mono ?_
        rintro e W9 ⟨v2, rfl, hv2, hB9⟩
        obtain ⟨ob, cb, rfl, _⟩ := own_slice hv2
        have H9 := Lib.hid (And.intro (H8.out.1.trans (hB9.mono H8.out.1.size)) (RowAt.of_own encS_len hv2 rfl))
        clear hB9 H8 hv2
        go_wp2_with (fail)
        refine (apply_any s (plainM l) ob cb (by omega) hs HZ.out.2.1.2.1 _ H9.out.2).mono ?_
        rintro e X1 ⟨rfl, hX⟩
        rw [HZ.out.2.2, HT.out.1, HT.out.2]
        have HX1 := Lib.hid (H9.out.1.trans (hX.mono H9.out.1.size))
        clear hX H9
        go_wp2
        go_ret
        exact ⟨rfl, HX1.out⟩
set_option maxHeartbeats 4000000 in
theorem inverts_any (s : ByteArray) (l : List Sp) (o : Option Addr) (c : Nat) (hs : s.size ≤ 9223372036854775807) (hn : l.length ≤ 9223372036854775807) (ho : OkS l) (w : World) (hr : RowAt w encS 3 o l) :
    Calls Try.prog 6 #[.string s, .slice o l.length c] w fun e w' => e = .returned (.bool true) ∧ Below w.heap.size w w' := by
  have HR := Lib.hid (And.intro hr ho)
  have cR := ref_any l o c hn ho w hr
  clear hr ho
  go_enter Try.func6, Try.ntmps6
  go_wp2_with (fail)
  refine cR.mono ?_
  rintro e W2 (⟨hrf, rfl, hB2⟩ | ⟨hrf, v, rfl, hrow, hB2⟩)
  · have H2 := Lib.hid hB2
    clear hB2 hrf cR
    go_wp2
    go_ret
    exact ⟨rfl, H2.out⟩
  · obtain ⟨om, cm, rfl, _⟩ := own_slice hrow
    have H2 := Lib.hid (And.intro hB2 (RowAt.of_own encS_len hrow rfl))
    clear hB2 hrf hrow cR
    by_cases h8 : 40000 < s.size
    · have d8 : decide ((40000 : Int) < (s.size : Int)) = true := decide_eq_true (by omega)
      go_wp2
      go_ret
      exact ⟨rfl, H2.out.1⟩
    · have d8 : decide ((40000 : Int) < (s.size : Int)) = false := decide_eq_false (by omega)
      have cS := sizesD_any l om cm hn HR.out.2 _ H2.out.2
      cases hz : sizeG l 0 0 with
      | none =>
        rw [hz] at cS
        have hA : invO l = (2, []) := by unfold invO; rw [hz]
        clear hz
        go_wp2_with (fail)
        refine cS.mono ?_
        rintro e W3 ⟨rfl, hB3⟩
        simp only [szD]
        have H3 := Lib.hid (H2.out.1.trans (hB3.mono H2.out.1.size))
        clear hB3 cS
        go_wp2_with (fail)
        refine (invert_any l o c hn HR.out.2 _ (HR.out.1.below encS_len (by decide) H3.out)).mono ?_
        rintro e W4 ⟨v, rfl, hv, hB4⟩
        rw [hA] at hv ⊢
        obtain ⟨ov, cv, rfl, _⟩ := own_slice hv
        have H4 := Lib.hid (H3.out.trans (hB4.mono H3.out.size))
        clear hB4 H3 hv
        simp only [List.length_nil]
        go_wp2_with (fail)
        refine (live_any _).mono ?_
        rintro e W5 ⟨rfl, hB5⟩
        have H5 := Lib.hid (H4.out.trans (hB5.mono H4.out.size))
        clear hB5
        go_wp2
        go_ret
        exact ⟨rfl, H5.out⟩
      | some ft =>
        obtain ⟨F, T⟩ := ft
        rw [hz] at cS
        have hI := inv_ok hz
        have hF6 : F ≤ 65536 := (plain_cu hz).2.2.2.1
        have hlA : (atL (plainM l)).length ≤ 200000 := by have := plain_cu hz; omega
        have hlP : (plainM l).length ≤ 131072 := (plain_ok hz).2.2.1
        have hlX : (nfA (invL (atL l))).length ≤ 131072 := hI.2.2.1
        have HZ := Lib.hid (And.intro hz hI)
        clear hz hI
        go_wp2_with (fail)
        refine cS.mono ?_
        rintro e W3 ⟨rfl, hB3⟩
        simp only [szD]
        have H3 := Lib.hid (And.intro (H2.out.1.trans (hB3.mono H2.out.1.size)) (H2.out.2.below encS_len (by decide) hB3))
        clear hB3 cS H2
        go_wp2_with (fail)
        refine (invert_any l o c hn HR.out.2 _ (HR.out.1.below encS_len (by decide) H3.out.1)).mono ?_
        rintro e W4 ⟨v, rfl, hv, hB4⟩
        rw [HZ.out.2.2.2.2.1] at hv ⊢
        simp only at hv ⊢
        obtain ⟨ox, cx, rfl, _⟩ := own_slice hv
        have H4 := Lib.hid (And.intro (H3.out.1.trans (hB4.mono H3.out.1.size)) (And.intro (H3.out.2.below encS_len (by decide) hB4) (RowAt.of_own encS_len hv rfl)))
        clear hB4 H3 hv
        go_wp2_with (fail)
        refine (invertD_any l om cm F T hn HR.out.2 HZ.out.1 _ H4.out.2.1).mono ?_
        rintro e W5 ⟨u, rfl, hu, hB5⟩
        obtain ⟨ou, cu, rfl, _⟩ := own_slice hu
        have H5 := Lib.hid (And.intro (H4.out.1.trans (hB5.mono H4.out.1.size)) (And.intro (H4.out.2.1.below encS_len (by decide) hB5) (And.intro (H4.out.2.2.below encS_len (by decide) hB5) (RowAt.of_own encS_len hu rfl))))
        clear hB5 H4 hu
        go_wp2_with (fail)
        refine (same_any (nfA (invL (atL l))) ox ou cx cu (by omega) _ H5.out.2.2.1 H5.out.2.2.2).mono ?_
        rintro e W6 ⟨rfl, hB6⟩
        have H6 := Lib.hid (And.intro (H5.out.1.trans (hB6.mono H5.out.1.size)) (And.intro (H5.out.2.1.below encS_len (by decide) hB6) (H5.out.2.2.1.below encS_len (by decide) hB6)))
        clear hB6 H5
        go_wp2_with (fail)
        refine (invert_any (nfA (invL (atL l))) ox cx (by omega) HZ.out.2.2.1 _ H6.out.2.2).mono ?_
        rintro e W7 ⟨v, rfl, hv, hB7⟩
        rw [HZ.out.2.2.2.2.2] at hv ⊢
        simp only at hv ⊢
        obtain ⟨oy, cy, rfl, _⟩ := own_slice hv
        have H7 := Lib.hid (And.intro (H6.out.1.trans (hB7.mono H6.out.1.size)) (And.intro (H6.out.2.1.below encS_len (by decide) hB7) (And.intro (H6.out.2.2.below encS_len (by decide) hB7) (RowAt.of_own encS_len hv rfl))))
        clear hB7 H6 hv
        go_wp2_with (fail)
        refine (sayx_any l om cm F T hn HR.out.2 HZ.out.1 _ H7.out.2.1).mono ?_
        rintro e W8 ⟨Ps, Ds, Bs, vP, vD, vB, rfl, hP1, hD1, hB1, lp1, ld1, lb1, hfr1, hB8⟩
        obtain ⟨gP, cP, rfl, _⟩ := own_slice hP1
        obtain ⟨gD, cD, rfl, _⟩ := own_slice hD1
        obtain ⟨gB, cB, rfl, _⟩ := own_slice hB1
        have hv : SdV W8 (.agg #[.slice gP (F + 1) cP, .slice gD F cD, .slice gB F cB]) ⟨Ps, Ds, Bs⟩ F gP gD gB cP cD cB := SdV.of lp1 ld1 lb1 hP1 hD1 hB1 (Below.refl _ _)
        have cPl := plainD_any _ ⟨Ps, Ds, Bs⟩ F (atL (plainM l)) gP gD gB cP cD cB hF6 hlA ⟨lp1, ld1, lb1, hfr1⟩ _ hv
        rw [plain_plain] at cPl
        have H8 := Lib.hid (And.intro (H7.out.1.trans (hB8.mono H7.out.1.size)) (And.intro (H7.out.2.2.1.below encS_len (by decide) hB8) (H7.out.2.2.2.below encS_len (by decide) hB8)))
        clear hB8 H7 hv hP1 hD1 hB1 lp1 ld1 lb1 hfr1
        go_wp2_with (fail)
        refine cPl.mono ?_
        rintro e W9 ⟨u, rfl, hu, hB9⟩
        obtain ⟨oz, cz, rfl, _⟩ := own_slice hu
        have H9 := Lib.hid (And.intro (H8.out.1.trans (hB9.mono H8.out.1.size)) (And.intro (H8.out.2.1.below encS_len (by decide) hB9) (And.intro (H8.out.2.2.below encS_len (by decide) hB9) (RowAt.of_own encS_len hu rfl))))
        clear hB9 H8 hu cPl
        go_wp2_with (fail)
        refine (same_any (plainM l) oy oz cy cz (by omega) _ H9.out.2.2.1 H9.out.2.2.2).mono ?_
        rintro e X1 ⟨rfl, hX⟩
        have HX1 := Lib.hid (And.intro (H9.out.1.trans (hX.mono H9.out.1.size)) (H9.out.2.1.below encS_len (by decide) hX))
        clear hX H9
        go_wp2_with (fail)
        refine (apply_any s l o c hn hs HR.out.2 _ (HR.out.1.below encS_len (by decide) HX1.out.1)).mono ?_
        rintro e X2 ⟨rfl, hX⟩
        have HX2 := Lib.hid (And.intro (HX1.out.1.trans (hX.mono HX1.out.1.size)) (HX1.out.2.below encS_len (by decide) hX))
        clear hX HX1
        by_cases h0 : (appF s l).2 = 0
        · have hin := appF_inv HZ.out.1 h0
          obtain ⟨t, ht⟩ : ∃ t, (appF s l).1 = t := ⟨_, rfl⟩
          rw [ht] at hin ⊢
          rw [h0]
          have HI := Lib.hid hin.1
          have ht6 := hin.2
          have q1 : (s.toList == s.toList) = true := beq_self_eq_true _
          clear hin ht h0
          go_wp2_with (fail)
          refine (apply_any t (nfA (invL (atL l))) ox cx (by omega) (by omega) HZ.out.2.2.1 _ HX2.out.2).mono ?_
          rintro e X3 ⟨rfl, hX⟩
          rw [HI.out]
          have HX3 := Lib.hid (HX2.out.1.trans (hX.mono HX2.out.1.size))
          clear hX HX2
          go_wp2
          go_ret
          exact ⟨rfl, HX3.out⟩
        · have hE := appF_emp h0
          obtain ⟨n1, hN1⟩ : ∃ n, (appF s l).2 = n := ⟨_, rfl⟩
          rw [hE, hN1]
          rw [hN1] at h0
          have e1 : ((n1 : Int) == 0) = false := by rw [beq_eq_false_iff_ne]; omega
          have e1' : (n1 == 0) = false := by rw [beq_eq_false_iff_ne]; omega
          clear hE hN1 h0
          go_wp2
          go_ret
          exact ⟨rfl, HX2.out.1⟩
end Go.Proofs.Ytjccoiephdopkaa

/- Stage 27: Whole of the program. -/
namespace Go.Proofs.Ytjccoiephdopkaa
set_option linter.unusedVariables false
set_option linter.unusedSimpArgs false
open Go Go.RowKit Go.Shelf
set_option maxRecDepth 100000

/-- What Whole makes of a change that fits. -/
def whO (s : ByteArray) (l : List Sp) : List Sp := nfA (whA s (appF s l).1 (gsA (atL (plainM l)) 0))
set_option maxHeartbeats 4000000 in
theorem whole_no (s : ByteArray) (l : List Sp) (o : Option Addr) (c : Nat) (hs : s.size ≤ 9223372036854775807) (hn : l.length ≤ 9223372036854775807) (ho : OkS l) (h0 : (appF s l).2 ≠ 0) (w : World) (hr : RowAt w encS 3 o l) :
    Calls Try.prog 18 #[.string s, .slice o l.length c] w fun e w' => e = .returned (.tuple #[.slice none 0 0, .int .i64 ((appF s l).2 : Nat)]) ∧ Below w.heap.size w w' := by
  have hb0 := (Below.refl w.heap.size w).alloc (Nat.le_refl _) (.cells #[.string s] 9)
  have cA := apply_any s l o c hn hs ho _ (hr.below encS_len (by decide) hb0)
  have HB0 := Lib.hid hb0
  obtain ⟨n1, hN1⟩ : ∃ n, (appF s l).2 = n := ⟨_, rfl⟩
  rw [appF_emp h0, hN1] at cA
  rw [hN1] at h0 ⊢
  have e1 : ((n1 : Int) == 0) = false := by rw [beq_eq_false_iff_ne]; omega
  have e1' : (n1 == 0) = false := by rw [beq_eq_false_iff_ne]; omega
  clear hr ho hN1 h0 hb0
  go_enter Try.func18, Try.ntmps18
  go_wp2_with (fail)
  refine cA.mono ?_
  rintro e V1 ⟨rfl, hb1⟩
  have H1 := Lib.hid (HB0.out.trans (hb1.mono HB0.out.size))
  clear hb1 cA
  go_wp2
  refine bodyPost_ret (results_tmp2 rfl _ _ _) rfl ?_
  exact ⟨rfl, H1.out.trans (((Below.refl V1.heap.size V1).alloc (Nat.le_refl _) _).mono H1.out.size)⟩
theorem row_keepK {W : World} {b c : Nat} {op : Option Addr} {L : List Sp} (h : W.ownsRow b 29 3 (.slice op L.length c) L.length (L.flatMap encS)) :
    ∃ K : List (Nat × Obj), (∀ e ∈ K, b ≤ e.1 ∧ W.heap[e.1]? = some e.2) ∧ ∀ X : World, (∀ e ∈ K, X.heap[e.1]? = some e.2) → RowAt X encS 3 op L := by
  have hr := RowAt.of_own encS_len h rfl
  rcases h.2 with ⟨e, _⟩ | ⟨g, cap, cur, e, hb, hg, _⟩
  · injection e with e1 e2 e3
    subst e1
    refine ⟨[], (fun e he => by cases he), fun X _ i x hi => ?_⟩
    obtain ⟨g, off, e2, _⟩ := hr i x hi
    cases e2
  · injection e with e1 e2 e3
    subst e1
    obtain ⟨ob, hob⟩ : ∃ ob, W.heap[g]? = some ob := ⟨_, hg⟩
    refine ⟨[(g, ob)], fun e he => ?_, fun X hX i x hi => ?_⟩
    · rw [List.mem_singleton] at he
      subst he
      exact ⟨hb, hob⟩
    · obtain ⟨g', o', e', hc⟩ := hr i x hi
      cases e'
      refine ⟨g, 0, rfl, fun j hj => ?_⟩
      have hx := hX _ (List.mem_singleton.2 rfl)
      rw [World.cell?_of_block (a := ⟨g, 0 + i * 3 + j, none⟩) (hx.trans hob.symm)]
      exact hc j hj
theorem WhM.addL {w0 X Y : World} {D : Wv} {s t : ByteArray} {pl tt a' b' : Nat} {A : List Atm} {K : List (Nat × Obj)} (h : WhM w0 D s t pl tt A a' b' [] X) (hb : Below X.heap.size X Y) (hK : ∀ e ∈ K, X.heap.size ≤ e.1 ∧ Y.heap[e.1]? = some e.2) : WhM w0 D s t pl tt A a' b' K Y := by
  have hh := h.below hb
  obtain ⟨h1, vo, vp, vd, h2, h3⟩ := h
  obtain ⟨g1, _, _, _, _, _⟩ := hh
  exact ⟨g1, vo, vp, vd, h2.below hb, fun e he => ⟨(hK e he).2, h2.n3_new (hK e he).1, Nat.le_trans h2.bw (hK e he).1⟩⟩
theorem alloc_step {V W : World} {cs : Array Value} {ty : TypeId} (h : V.alloc (.cells cs ty) = W) : W.heap.size = V.heap.size + 1 ∧ Below V.heap.size V W ∧ Blk W V.heap.size cs ty := by
  subst h
  exact ⟨by simp, (Below.refl V.heap.size V).alloc (Nat.le_refl _) _, Blk.new V cs ty⟩
/-- Whole's variables, just made. -/
theorem whm_new {w0 V : World} {bs : Nat} {s : ByteArray} (t : ByteArray) (h0 : Below w0.heap.size w0 V) (hs : Blk V bs #[.string s] 9) (hb : w0.heap.size ≤ bs) :
    ∃ D : Wv, WhO w0 D ∧ D.bs = bs ∧ V.heap.size + 1 + 1 + 1 + 1 + 1 = D.bb ∧ V.heap.size + 1 + 1 + 1 + 1 = D.ba ∧ V.heap.size + 1 + 1 + 1 = D.bo ∧ V.heap.size + 1 + 1 = D.bp ∧ V.heap.size + 1 = D.bm ∧ V.heap.size = D.bt ∧
      WhM w0 D s t 0 0 [] 0 0 [] ((((((V.alloc (.cells #[.string t] 9)).alloc (.cells #[.slice none 0 0, .int .i64 0, .slice none 0 0, .slice none 0 0] 61)).alloc (.cells #[.int .i64 0] 3)).alloc (.cells #[.int .i64 0] 3)).alloc (.cells #[.int .i64 0] 3)).alloc (.cells #[.int .i64 0] 3)) := by
  obtain ⟨W1, e1⟩ : ∃ W, V.alloc (.cells #[.string t] 9) = W := ⟨_, rfl⟩
  obtain ⟨W2, e2⟩ : ∃ W, W1.alloc (.cells #[.slice none 0 0, .int .i64 0, .slice none 0 0, .slice none 0 0] 61) = W := ⟨_, rfl⟩
  obtain ⟨W3, e3⟩ : ∃ W, W2.alloc (.cells #[.int .i64 0] 3) = W := ⟨_, rfl⟩
  obtain ⟨W4, e4⟩ : ∃ W, W3.alloc (.cells #[.int .i64 0] 3) = W := ⟨_, rfl⟩
  obtain ⟨W5, e5⟩ : ∃ W, W4.alloc (.cells #[.int .i64 0] 3) = W := ⟨_, rfl⟩
  obtain ⟨W6, e6⟩ : ∃ W, W5.alloc (.cells #[.int .i64 0] 3) = W := ⟨_, rfl⟩
  rw [e1, e2, e3, e4, e5, e6]
  obtain ⟨s1, b1, n1⟩ := alloc_step e1
  obtain ⟨s2, b2, n2⟩ := alloc_step e2
  obtain ⟨s3, b3, n3⟩ := alloc_step e3
  obtain ⟨s4, b4, n4⟩ := alloc_step e4
  obtain ⟨s5, b5, n5⟩ := alloc_step e5
  obtain ⟨s6, b6, n6⟩ := alloc_step e6
  have hV := hs.lt
  have z1 : W1.heap.size = V.heap.size + 1 := s1
  have z2 : W2.heap.size = V.heap.size + 1 + 1 := by omega
  have z3 : W3.heap.size = V.heap.size + 1 + 1 + 1 := by omega
  have z4 : W4.heap.size = V.heap.size + 1 + 1 + 1 + 1 := by omega
  have z5 : W5.heap.size = V.heap.size + 1 + 1 + 1 + 1 + 1 := by omega
  rw [z1] at n2
  rw [z2] at n3
  rw [z3] at n4
  rw [z4] at n5
  rw [z5] at n6
  have hlow := ((((((h0.trans (b1.mono h0.size)).trans (b2.mono (by have := h0.size; omega))).trans (b3.mono (by have := h0.size; omega))).trans (b4.mono (by have := h0.size; omega))).trans (b5.mono (by have := h0.size; omega))).trans (b6.mono (by have := h0.size; omega)))
  refine ⟨⟨bs, V.heap.size, V.heap.size + 1, V.heap.size + 1 + 1, V.heap.size + 1 + 1 + 1, V.heap.size + 1 + 1 + 1 + 1, V.heap.size + 1 + 1 + 1 + 1 + 1, V.heap.size + 1 + 1 + 1 + 1 + 1 + 1⟩, ⟨hb, hV, by simp only; omega, by simp only; omega, by simp only; omega, by simp only; omega, by simp only; omega, by simp only; omega⟩, rfl, rfl, rfl, rfl, rfl, rfl, rfl, ?_⟩
  refine ⟨⟨hlow, ?_, ?_, ?_, ?_, ?_, ?_⟩, .slice none 0 0, .slice none 0 0, .slice none 0 0, ?_, fun e he => by cases he⟩
  · exact (((((hs.below' b1).below' b2).below' b3).below' b4).below' b5).below' b6
  · exact ((((n1.below' b2).below' b3).below' b4).below' b5).below' b6
  · exact ((n3.below' b4).below' b5).below' b6
  · exact (n4.below' b5).below' b6
  · exact n5.below' b6
  · exact n6
  · exact ⟨(((n2.below' b3).below' b4).below' b5).below' b6, World.ownsRow_nil _ _ _ _, World.ownsRow_nil _ _ _ _, World.ownsRow_nil _ _ _ _, .inl rfl, by simp only; omega, by simp only; omega⟩
theorem up_next {s t : ByteArray} {L : List Sp} {k : Nat} {x : Sp} (hz : ∀ x ∈ L, kindN x ≠ 0) (hx : L[k]? = some x) : upW s t (gsA (atL L) 0) (inA (atL (L.take (k + 1)))) = upW s t (gsA (atL L) 0) (inA (atL (L.take k)) + x.k.toNat) := by
  have hxm := hz x (List.mem_of_getElem? hx)
  have h1 := (take_at hx).1
  rw [h1]
  rcases kind_three x.k x.d x.p with h0 | ⟨g1, g2, g3, g4⟩ | ⟨g1, g2, g3, g4⟩ | ⟨g1, g2, g3, g4⟩
  · exact absurd h0 hxm
  · rw [g2, emp_size, Nat.add_zero]
  · refine upW_skip (by omega) fun p hp hp1 hp2 => ?_
    rw [g1] at hp1 hp2
    exact tk_drop hz hx g1 (by simpa using hp1) (by simpa using hp2)
  · rw [g2, emp_size, Nat.add_zero]
theorem tkW_row {s t : ByteArray} {L : List Sp} {k : Nat} {x : Sp} (hL : NoKK L) (hz : ∀ x ∈ L, kindN x ≠ 0) (hx : L[k]? = some x) : TkW s t (gsA (atL L) 0) (inA (atL (L.take k))) (outA (atL (L.take k))) x.k.toNat := by
  intro p h1 h2 g
  exact tk_keep hL hz hx (by omega) h1 h2 g
set_option maxHeartbeats 4000000 in
theorem whole_ok (s : ByteArray) (l : List Sp) (o : Option Addr) (c : Nat) (hs : s.size ≤ 9223372036854775807) (hn : l.length ≤ 9223372036854775807) (ho : OkS l) (h0 : (appF s l).2 = 0) (w : World) (hr : RowAt w encS 3 o l) :
    Calls Try.prog 18 #[.string s, .slice o l.length c] w fun e w' => ∃ v, e = .returned (.tuple #[v, .int .i64 0]) ∧ w'.ownsRow w.heap.size 29 3 v (whO s l).length ((whO s l).flatMap encS) ∧ Below w.heap.size w w' := by
  obtain ⟨T, hz, hrun⟩ := appF_ok h0
  have hb0 := (Below.refl w.heap.size w).alloc (Nat.le_refl _) (.cells #[.string s] 9)
  have nS := Blk.new w #[.string s] 9
  have cA := apply_any s l o c hn hs ho _ (hr.below encS_len (by decide) hb0)
  obtain ⟨t, ht⟩ : ∃ t, (appF s l).1 = t := ⟨_, rfl⟩
  rw [h0, ht] at cA
  rw [ht] at hrun
  have cP := fun X (hX : Below w.heap.size w X) => plain_any l o c _ _ hn hz X (hr.below encS_len (by decide) hX)
  have HB0 := Lib.hid (And.intro hb0 nS)
  have HZ := Lib.hid (And.intro hz (And.intro hrun ht))
  clear hr ho h0 hb0 nS hz hrun ht
  go_enter Try.func18, Try.ntmps18
  go_wp2_with (fail)
  refine cA.mono ?_
  rintro e V1 ⟨rfl, hb1⟩
  have H1 := Lib.hid (And.intro (HB0.out.1.trans (hb1.mono HB0.out.1.size)) (HB0.out.2.below' hb1))
  clear hb1 cA
  obtain ⟨D, hO, hbs, x1, x2, x3, x4, x5, x6, hM⟩ := whm_new (w0 := w) t H1.out.1 H1.out.2 (Nat.le_refl _)
  obtain ⟨WC, hWC⟩ : ∃ Z, ((((((V1.alloc (.cells #[.string t] 9)).alloc (.cells #[.slice none 0 0, .int .i64 0, .slice none 0 0, .slice none 0 0] 61)).alloc (.cells #[.int .i64 0] 3)).alloc (.cells #[.int .i64 0] 3)).alloc (.cells #[.int .i64 0] 3)).alloc (.cells #[.int .i64 0] 3)) = Z := ⟨_, rfl⟩
  rw [hWC] at hM
  have HO := Lib.hid (And.intro hO hM)
  have HD := Lib.hid (And.intro hbs (And.intro x1 (And.intro x2 (And.intro x3 (And.intro x4 (And.intro x5 x6))))))
  have HWC := Lib.hid hWC
  clear hO hbs x1 x2 x3 x4 x5 x6 hM hWC
  go_wp2_with (fail)
  rw [HWC.out, HD.out.2.1, HD.out.2.2.1, HD.out.2.2.2.1, HD.out.2.2.2.2.1, HD.out.2.2.2.2.2.1, HD.out.2.2.2.2.2.2, ← HD.out.1]
  refine (cP _ HO.out.2.1.low).mono ?_
  rintro e V2 ⟨v, rfl, hrow, hb2⟩
  obtain ⟨op, cp, rfl, _⟩ := own_slice hrow
  obtain ⟨K, hK1, hK2⟩ := row_keepK hrow
  have hM2 := HO.out.2.addL hb2 hK1
  obtain ⟨L, hL⟩ : ∃ L, plainM l = L := ⟨_, rfl⟩
  have hPk := plain_ok HZ.out.1
  have hnk : NoKK (plainM l) := by rw [plain_fd]; exact nf_noKK _
  have hrn : runA (atL (plainM l)) (bL s) = some (bL t, []) := by rw [hPk.2.2.2]; exact HZ.out.2.1
  have hkd := (sizeG_in _ 0 0 _ _ hPk.1).2.2
  have hsz := sizeG_in _ 0 0 _ _ hPk.1
  have hlen := hPk.2.2.1
  have hoks := hPk.2.1
  have hbd := plain_cu HZ.out.1
  have hgs := GsK.of hrn
  have hrl := run_len hrn
  rw [hL] at hrow hK2 hnk hrn hkd hsz hlen hoks hgs hrl ⊢
  rw [bL_len, bL_len, List.length_nil] at hrl
  obtain ⟨gs, hgse⟩ : ∃ gs, gsA (atL L) 0 = gs := ⟨_, rfl⟩
  rw [hgse] at hgs
  have hs6 : s.size ≤ 65536 := hbd.2.2.2.1
  have ht6 : t.size ≤ 65536 := by have := hbd.2.2.2.2.1; omega
  have h00 : WhS w D s t (inA (atL (L.take 0))) (outA (atL (L.take 0))) (upW s t gs (inA (atL (L.take 0)))) K V2 := by
    show WhM w D s t 0 0 (upW s t gs 0).A (upW s t gs 0).a (upW s t gs 0).b K V2
    rw [upW_zero]
    exact hM2
  have HL := Lib.hid (And.intro hnk (And.intro hkd (And.intro hgs (And.intro hgse (And.intro hK2 (And.intro h00 (And.intro hrl hL)))))))
  have HOk := Lib.hid hoks
  clear hrow hK1 hK2 hM2 hL hPk hnk hrn hkd hsz hoks hbd hgs hrl hgse h00 hb2 HWC HD
  go_wp2
  go_loopw [29] (fun i W => ∃ k : Nat, i = .int .i64 k ∧ k ≤ L.length ∧ WhS w D s t (inA (atL (L.take k))) (outA (atL (L.take k))) (upW s t gs (inA (atL (L.take k)))) K W) (fun i _ => L.length - (intOf i).toNat)
  case atStart => exact ⟨0, rfl, by omega, HL.out.2.2.2.2.2.1⟩
  case round =>
    obtain ⟨k, rfl, hk, hM⟩ := hrel
    by_cases hlt : k < L.length
    · obtain ⟨x, hx⟩ : ∃ x, L[k]? = some x := ⟨_, List.getElem?_eq_getElem hlt⟩
      obtain ⟨g, off, rfl, hc⟩ := HL.out.2.2.2.2.1 wr (fun e he => hM.kept he) k x hx
      obtain ⟨q0, q1, q2⟩ := get3 (l := L) hc
      have hxk := kind_pos (HL.out.2.1 x (List.mem_of_getElem? hx))
      have htk := take_at hx
      have hup := up_next (s := s) (t := t) HL.out.2.1 hx
      have htw := tkW_row (s := s) (t := t) HL.out.1 HL.out.2.1 hx
      rw [HL.out.2.2.2.1] at hup htw
      have hI : inA (atL (L.take (k + 1))) ≤ s.size := by
        have e : atL L = atL (L.take (k + 1)) ++ atL (L.drop (k + 1)) := by rw [← atL_app, List.take_append_drop]
        have := HL.out.2.2.2.2.2.2.1.1
        rw [e, inA_append] at this
        omega
      have hOu : outA (atL (L.take (k + 1))) ≤ t.size := by
        have e : atL L = atL (L.take (k + 1)) ++ atL (L.drop (k + 1)) := by rw [← atL_app, List.take_append_drop]
        have := HL.out.2.2.2.2.2.2.1.2
        rw [e, outA_append] at this
        omega
      obtain ⟨kk, d, p⟩ := x
      simp only at hxk htk hup htw q0 q1 q2
      obtain ⟨kn, rfl⟩ : ∃ kn : Nat, kk = kn := ⟨kk.toNat, by omega⟩
      rw [Int.toNat_natCast] at htk hup htw
      obtain ⟨I, hIe⟩ : ∃ I, inA (atL (L.take k)) = I := ⟨_, rfl⟩
      obtain ⟨O, hOe⟩ : ∃ O, outA (atL (L.take k)) = O := ⟨_, rfl⟩
      obtain ⟨J, hJe⟩ : ∃ J, inA (atL (L.take (k + 1))) = J := ⟨_, rfl⟩
      obtain ⟨P, hPe⟩ : ∃ P, outA (atL (L.take (k + 1))) = P := ⟨_, rfl⟩
      rw [hIe, hJe] at hup
      rw [hIe, hOe, hJe, hPe] at htk
      rw [hIe, hOe] at htw hM
      rw [hJe] at hI
      rw [hPe] at hOu
      obtain ⟨kd, hkd⟩ : ∃ z, kn + d.size = z := ⟨_, rfl⟩
      obtain ⟨kp, hkp⟩ : ∃ z, kn + p.size = z := ⟨_, rfl⟩
      have w1 : IntKind.i64.wrap ((kn : Int) + (d.size : Int)) = (kd : Int) := by rw [IntWalk.i64_in _ (by omega)]; omega
      have w2 : IntKind.i64.wrap ((kn : Int) + (p.size : Int)) = (kp : Int) := by rw [IntWalk.i64_in _ (by omega)]; omega
      have w3 : IntKind.i64.wrap ((I : Int) + (kd : Int)) = (J : Int) := by rw [IntWalk.i64_in _ (by omega)]; omega
      have w4 : IntKind.i64.wrap ((O : Int) + (kp : Int)) = (P : Int) := by rw [IntWalk.i64_in _ (by omega)]; omega
      have j5 : IntKind.i64.wrap ((k : Int) + 1) = ((k + 1 : Nat) : Int) := by rw [IntWalk.i64_in _ (by omega)]; omega
      have hkl : (k : Int) < (L.length : Int) := by omega
      have hM1 := WhM.new hM #[.int .i64 kn, .string d, .string p] 29
      have cK := keeps_any w D HO.out.1 s t hs6 ht6 gs HL.out.2.2.1 I O kn (by omega) (by omega) htw _ _ hM1
      have HJ := Lib.hid (And.intro hJe (And.intro hPe hup))
      obtain ⟨q, hq⟩ : ∃ q, wr.heap.size = q := ⟨_, rfl⟩
      rw [hq] at cK
      have HQ := Lib.hid hq
      clear hM hM1 hx hc htk hup htw hI hOu hIe hOe hJe hPe hkd hkp hq
      go_wp2_with (fail)
      rw [HQ.out]
      refine cK.mono ?_
      rintro e V3 ⟨rfl, hM3⟩
      have hm3 : WhM w D s t I O (upW s t gs (I + kn)).A (upW s t gs (I + kn)).a (upW s t gs (I + kn)).b ((q, .cells #[.int .i64 kn, .string d, .string p] 29 (0, 0)) :: K) V3 := hM3
      obtain ⟨k1, k2, k3, k4, k5, k6⟩ := hm3.1.cells
      have fz := hm3.fro.2.2.1
      have y0 := hm3.blk.cell 0
      have y1 := hm3.blk.cell 1
      have hm4 := hm3.setP HO.out.1 J
      have k7 := hm4.1.cells.2.2.2.1
      have fz2 := hm4.fro.2.2.2
      have y3 := hm4.blk.cell 0
      have y4 := hm4.blk.cell 2
      simp only [List.getElem?_toArray, List.getElem?_cons_zero, List.getElem?_cons_succ] at y0 y1 y3 y4
      have hm5 := (hm4.setO HO.out.1 P).tail
      rw [← HJ.out.2.2] at hm5
      have H5 := Lib.hid hm5
      clear cK hM3 hm3 hm4 hm5 k1 k2 k5 k6
      go_wp2
      go_roundw
      case rel => exact ⟨k + 1, by go_num, by omega, by rw [HJ.out.1, HJ.out.2.1]; exact H5.out⟩
      case measure => simp [intOf] <;> omega
    · obtain rfl : k = L.length := by omega
      have hI : inA (atL L) = s.size := by have := HL.out.2.2.2.2.2.2.1.1; omega
      rw [List.take_length, hI] at hM
      have hWo := upW_ok HL.out.2.2.1 s.size (.inr rfl)
      have hle := hWo.len
      have z2 := hWo.sz
      have z3 := hWo.bt
      have hwh : whO s l = nfA (finW s t (upW s t gs s.size)) := by
        unfold whO whA
        rw [HZ.out.2.2, HL.out.2.2.2.2.2.2.2, HL.out.2.2.2.1]
      obtain ⟨x, hx⟩ : ∃ x, upW s t gs s.size = x := ⟨_, rfl⟩
      rw [hx] at hM hle z2 z3 hwh
      obtain ⟨A, a1, b1⟩ := x
      simp only [finW] at hle z2 z3 hwh
      have hm : WhM w D s t s.size (outA (atL L)) A a1 b1 K wr := hM
      obtain ⟨k1, k2, k3, k4, k5, k6⟩ := hm.1.cells
      have HM := Lib.hid hm
      have HWh := Lib.hid hwh
      have s1 : (0 : Int) ≤ (b1 : Int) := by omega
      have s2 : (b1 : Int) ≤ (t.size : Int) := by omega
      have s4 : (0 : Int) ≤ (a1 : Int) := by omega
      have s5 : (a1 : Int) ≤ (s.size : Int) := by omega
      have f1 : (t.extract b1 t.size).size ≤ 65536 := by rw [ByteArray.size_extract]; omega
      have f2 : (s.extract a1 s.size).size ≤ 65536 := by rw [ByteArray.size_extract]; omega
      clear hM hm hwh hx hWo hI
      go_wp2_with (fail)
      refine (wm_puts HM.out HO.out.1 (by omega) _ (by omega)).mono ?_
      rintro e V6 ⟨rfl, hm6⟩
      have HM6 := Lib.hid hm6
      obtain ⟨k1, k2, k3, k4, k5, k6⟩ := hm6.1.cells
      clear hm6
      go_wp2_with (fail)
      refine (wm_drops HM6.out HO.out.1 (by simp only [List.length_append, List.length_map, bL_len]; omega) _ (by omega)).mono ?_
      rintro e V7 ⟨rfl, hm7⟩
      have HM7 := Lib.hid (hm7.mk1 HO.out.1)
      clear hm7 k1 k2 k3 k4 k5 k6
      go_wp2_with (fail)
      refine (mk1_end HM7.out (by simp only [List.length_append, List.length_map, bL_len]; omega)).mono ?_
      rintro e V8 ⟨v, rfl, h1, h2⟩
      rw [← HWh.out] at h1
      have hD : w.heap.size ≤ D.b := by obtain ⟨o0, o1, o2, o3, o4, o5, o6, o7⟩ := HO.out.1; omega
      have H8 := Lib.hid (And.intro (own_base h1 hD) h2)
      clear h1 h2
      go_wp2
      refine bodyPost_ret (results_tmp2 rfl _ _ _) rfl ?_
      exact ⟨_, rfl, H8.out.1, H8.out.2⟩
end Go.Proofs.Ytjccoiephdopkaa
