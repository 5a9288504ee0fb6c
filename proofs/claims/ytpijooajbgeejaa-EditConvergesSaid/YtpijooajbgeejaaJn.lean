/- Stage 27: the law EditConverges. -/
import Derived.Test.YtpijooajbgeejaaJm
import Derived.Test.YtpijooajbgeejaaJi
import Derived.Test.YtpijooajbgeejaaJr
import Derived.Test.YtpijooajbgeejaaHq
import Derived.Test.YtpijooajbgeejaaHs
namespace Go.Proofs.Ytpijooajbgeejaa
set_option linter.unusedVariables false
set_option linter.unusedSimpArgs false
open Go Go.RowKit Go.Shelf
set_option maxRecDepth 100000

set_option maxHeartbeats 16000000 in
theorem converges_law (s : ByteArray) (o1 o2 : Option Addr) (a b : List Sp) (c1 c2 : Nat) (hs : s.size ≤ 9223372036854775807) (hn1 : a.length ≤ 9223372036854775807) (ho1 : OkS a) (hn2 : b.length ≤ 9223372036854775807) (ho2 : OkS b) (w : World) (hr1 : RowAt w encS 3 o1 a) (hr2 : RowAt w encS 3 o2 b) :
    Calls Try.prog 5 #[.string s, .slice o1 a.length c1, .slice o2 b.length c2] w fun e w' => e = .returned (.bool true) ∧ Below w.heap.size w w' := by
  have HR := Lib.hid (And.intro hr1 (And.intro ho1 (And.intro hr2 ho2)))
  clear hr1 ho1 hr2 ho2
  go_enter Try.func5, Try.ntmps5
  go_wp2_with (fail)
  refine (live_any _).mono ?_
  rintro e W1 ⟨rfl, hB1⟩
  have H1 := Lib.hid hB1
  clear hB1
  go_wp2_with (fail)
  refine (ref_any a o1 c1 hn1 HR.out.2.1 _ (HR.out.1.below encS_len (by decide) H1.out)).mono ?_
  rintro e W2 (⟨hrf, rfl, hB2⟩ | ⟨hrf, v, rfl, hrow, hB2⟩)
  · skip
    have H2 := Lib.hid (H1.out.trans (hB2.mono H1.out.size))
    clear hB2 hrf
    go_wp2_with (fail)
    refine (ref_any b o2 c2 hn2 HR.out.2.2.2 _ (HR.out.2.2.1.below encS_len (by decide) H2.out)).mono ?_
    rintro e W3 (⟨hrf, rfl, hB3⟩ | ⟨hrf, v2, rfl, hrow2, hB3⟩)
    · skip
      have H3 := Lib.hid (H2.out.trans (hB3.mono H2.out.size))
      clear hB3 hrf 
      go_wp2
      go_ret
      exact ⟨rfl, H3.out⟩
    · obtain ⟨om2, cm2, rfl, _⟩ := own_slice hrow2
      have H3 := Lib.hid (H2.out.trans (hB3.mono H2.out.size))
      clear hB3 hrf hrow2
      go_wp2
      go_ret
      exact ⟨rfl, H3.out⟩
  · obtain ⟨om, cm, rfl, _⟩ := own_slice hrow
    clear hrow
    have H2 := Lib.hid (H1.out.trans (hB2.mono H1.out.size))
    clear hB2 hrf
    go_wp2_with (fail)
    refine (ref_any b o2 c2 hn2 HR.out.2.2.2 _ (HR.out.2.2.1.below encS_len (by decide) H2.out)).mono ?_
    rintro e W3 (⟨hrf, rfl, hB3⟩ | ⟨hrf, v2, rfl, hrow2, hB3⟩)
    · skip
      have H3 := Lib.hid (H2.out.trans (hB3.mono H2.out.size))
      clear hB3 hrf 
      go_wp2
      go_ret
      exact ⟨rfl, H3.out⟩
    · obtain ⟨om2, cm2, rfl, _⟩ := own_slice hrow2
      have H3 := Lib.hid (H2.out.trans (hB3.mono H2.out.size))
      clear hB3 hrf hrow2
      by_cases h8 : 40000 < s.size
      · have d8 : decide ((40000 : Int) < (s.size : Int)) = true := decide_eq_true (by omega)
        go_wp2
        go_ret
        exact ⟨rfl, H3.out⟩
      · have d8 : decide ((40000 : Int) < (s.size : Int)) = false := decide_eq_false (by omega)
        go_wp2_with (fail)
        refine (live_any _).mono ?_
        rintro e W4 ⟨rfl, hB4⟩
        have H4 := Lib.hid (H3.out.trans (hB4.mono H3.out.size))
        clear hB4 H3 H2 H1
        go_wp2_with (fail)
        refine (apply_any s a o1 c1 hn1 hs HR.out.2.1 _ (HR.out.1.below encS_len (by decide) H4.out)).mono ?_
        rintro e W5 ⟨rfl, hB5⟩
        have H5 := Lib.hid (H4.out.trans (hB5.mono H4.out.size))
        clear hB5 H4
        obtain ⟨t, ht⟩ : ∃ t, (appF s a).1 = t := ⟨_, rfl⟩
        obtain ⟨n1, hN1⟩ : ∃ n, (appF s a).2 = n := ⟨_, rfl⟩
        rw [ht, hN1]
        have HT := Lib.hid (And.intro ht hN1)
        clear ht hN1
        go_wp2_with (fail)
        refine (apply_any s b o2 c2 hn2 hs HR.out.2.2.2 _ (HR.out.2.2.1.below encS_len (by decide) H5.out)).mono ?_
        rintro e W6 ⟨rfl, hB6⟩
        have H6 := Lib.hid (H5.out.trans (hB6.mono H5.out.size))
        clear hB6 H5
        obtain ⟨u, hu⟩ : ∃ u, (appF s b).1 = u := ⟨_, rfl⟩
        obtain ⟨n2, hN2⟩ : ∃ n, (appF s b).2 = n := ⟨_, rfl⟩
        rw [hu, hN2]
        have HU := Lib.hid (And.intro hu hN2)
        clear hu hN2
        by_cases h1 : n1 = 0
        · by_cases h2 : n2 = 0
          · subst h1
            subst h2
            obtain ⟨Ta, za, ra⟩ := appF_ok HT.out.2
            obtain ⟨Tb, zb, rb⟩ := appF_ok HU.out.2
            rw [HT.out.1] at ra
            rw [HU.out.1] at rb
            have pa := plain_cu za
            have pb := plain_cu zb
            have hs6 : s.size ≤ 65536 := pa.2.2.2.1
            have ia := sizeG_in a 0 0 _ _ za
            have ib := sizeG_in b 0 0 _ _ zb
            have la := run_len ra
            have lb := run_len rb
            rw [bL_len, bL_len] at la lb
            have eTa : Ta = t.size := by omega
            have eTb : Tb = u.size := by omega
            have ht6 : t.size ≤ 65536 := by have := pa.2.2.2.2.1; omega
            have hu6 : u.size ≤ 65536 := by have := pb.2.2.2.2.1; omega
            subst eTa
            subst eTb
            obtain ⟨U, V, ww, hcarr, hV, hU, hlen⟩ := carr_run _ _ _ (bL s) (bL t) (bL u) (Nat.le_refl _) (plain_run ra) (plain_run rb)
            rw [bL_len, bL_len] at hlen
            have lV := run_len hV
            have lU := run_len hU
            rw [bL_len] at lV lU
            simp only [List.length_nil, Nat.add_zero] at lV lU
            have HZ := Lib.hid (And.intro za (And.intro zb (And.intro ra rb)))
            have HC := Lib.hid (And.intro hcarr (And.intro hV hU))
            have HL := Lib.hid (And.intro lV (And.intro lU hlen))
            clear za zb ra rb pa pb ia ib la lb hcarr hV hU lV lU hlen
            go_wp2_with (fail)
            refine (carry_of o1 o2 a b c1 c2 s.size t.size u.size hn1 HR.out.2.1 hn2 HR.out.2.2.2 HZ.out.1 HZ.out.2.1 _ (HR.out.1.below encS_len (by decide) H6.out) (HR.out.2.2.1.below encS_len (by decide) H6.out)).mono ?_
            rintro e W7 hcr
            have hcr2 : (65536 < ww.length ∧ e = .returned (.tuple #[.slice none 0 0, .slice none 0 0, .int .i64 3]) ∧ Below W6.heap.size W6 W7) ∨
                (ww.length ≤ 65536 ∧ ∃ v1 v2, e = .returned (.tuple #[v1, v2, .int .i64 0]) ∧ W7.ownsRow W6.heap.size 45 3 v1 (nfA U).length ((nfA U).flatMap encS) ∧ W7.ownsRow W6.heap.size 45 3 v2 (nfA V).length ((nfA V).flatMap encS) ∧ Below W6.heap.size W6 W7) := by
              rcases hcr with ⟨h, _⟩ | ⟨U', V', h, _, _, h3⟩
              · rw [HC.out.1] at h; cases h
              · rw [HC.out.1] at h
                simp only [Option.some.injEq, Prod.mk.injEq] at h
                obtain ⟨rfl, rfl⟩ := h
                have e1 := HL.out.2.1.2
                rcases h3 with ⟨g1, g2, g3⟩ | ⟨g1, v1, v2, g2, g3, g4, _, g5⟩
                · exact .inl ⟨by omega, g2, g3⟩
                · exact .inr ⟨by omega, v1, v2, g2, g3, g4, g5⟩
            clear hcr
            rcases hcr2 with ⟨h6, rfl, hB7⟩ | ⟨h6, x, y, rfl, hx, hy, hB7⟩
            · obtain ⟨Z, hZ⟩ : ∃ Z, t.size + u.size = Z := ⟨_, rfl⟩
              have jz : IntKind.i64.wrap ((t.size : Int) + (u.size : Int)) = (Z : Int) := by rw [IntWalk.i64_in _ (by omega)]; omega
              have dz : decide ((65536 : Int) < (Z : Int)) = true := decide_eq_true (by have := HL.out.2.2; omega)
              have H7 := Lib.hid (H6.out.trans (hB7.mono H6.out.size))
              clear hB7 hZ h6
              go_wp2
              go_ret
              exact ⟨rfl, H7.out⟩
            · obtain ⟨ox, cx, rfl, _⟩ := own_slice hx
              obtain ⟨oy, cy, rfl, _⟩ := own_slice hy
              have hHL := HL.out
              have nV := nf_ok (A := V) (by omega) (by omega)
              have nU := nf_ok (A := U) (by omega) (by omega)
              have aV := appF_nf (s := t) HC.out.2.1 ht6 h6
              have aU := appF_nf (s := u) HC.out.2.2 hu6 h6
              have lV : (nfA V).length ≤ 9223372036854775807 := by omega
              have lU : (nfA U).length ≤ 9223372036854775807 := by omega
              have tz : t.size ≤ 9223372036854775807 := by omega
              have uz : u.size ≤ 9223372036854775807 := by omega
              have H7 := Lib.hid (And.intro (H6.out.trans (hB7.mono H6.out.size)) (And.intro (RowAt.of_own encS_len hx rfl) (RowAt.of_own encS_len hy rfl)))
              have HN := Lib.hid (And.intro nV (And.intro nU (And.intro aV aU)))
              have H6w := Lib.hid h6
              clear hx hy hB7 nV nU aV aU hHL h6 H6
              go_wp2_with (fail)
              refine (apply_any t (nfA V) oy cy lV tz HN.out.1.2.1 _ H7.out.2.2).mono ?_
              rintro e W8 ⟨rfl, hB8⟩
              rw [HN.out.2.2.1.1]
              have H8 := Lib.hid (And.intro (H7.out.1.trans (hB8.mono H7.out.1.size)) (And.intro (H7.out.2.1.below encS_len (by decide) hB8) (H7.out.2.2.below encS_len (by decide) hB8)))
              clear hB8 H7
              go_wp2_with (fail)
              refine (apply_any u (nfA U) ox cx lU uz HN.out.2.1.2.1 _ H8.out.2.1).mono ?_
              rintro e W9 ⟨rfl, hB9⟩
              rw [HN.out.2.2.2.1]
              have H9 := Lib.hid (And.intro (H8.out.1.trans (hB9.mono H8.out.1.size)) (And.intro (H8.out.2.1.below encS_len (by decide) hB9) (H8.out.2.2.below encS_len (by decide) hB9)))
              clear hB9 H8
              obtain ⟨C, hC, rC⟩ := comp_run _ _ _ (bL s) (bL t) ww (Nat.le_refl _) (plain_run HZ.out.2.2.1) (nf_nf HC.out.2.1)
              obtain ⟨D, hD, rD⟩ := comp_run _ _ _ (bL s) (bL u) ww (Nat.le_refl _) (plain_run HZ.out.2.2.2) (nf_nf HC.out.2.2)
              have HCD := Lib.hid (And.intro (And.intro hC rC) (And.intro hD rD))
              clear hC rC hD rD
              go_wp2_with (fail)
              refine (compose_of o1 oy a (nfA V) c1 cy s.size t.size (outA V) hn1 HR.out.2.1 lV HN.out.1.2.1 HZ.out.1 (by rw [HN.out.1.1, HN.out.2.2.1.2.1]) _ (HR.out.1.below encS_len (by decide) H9.out.1) H9.out.2.2).mono ?_
              rintro e X1 hcp
              have hcp2 : ∃ v, e = .returned (.tuple #[v, .int .i64 0]) ∧ X1.ownsRow W9.heap.size 45 3 v (nfA C).length ((nfA C).flatMap encS) ∧ Below W9.heap.size W9 X1 := by
                rcases hcp with ⟨h, _⟩ | ⟨C', v, h, _, g1, g2, g3⟩
                · rw [HCD.out.1.1] at h; cases h
                · rw [HCD.out.1.1] at h
                  simp only [Option.some.injEq] at h
                  subst h
                  exact ⟨v, g1, g2, g3⟩
              clear hcp
              obtain ⟨vc, rfl, hrc, hBc⟩ := hcp2
              obtain ⟨oc, cc, rfl, _⟩ := own_slice hrc
              have HX1 := Lib.hid (And.intro (H9.out.1.trans (hBc.mono H9.out.1.size)) (And.intro (H9.out.2.1.below encS_len (by decide) hBc) (RowAt.of_own encS_len hrc rfl)))
              clear hrc hBc H9
              go_wp2_with (fail)
              refine (compose_of o2 ox b (nfA U) c2 cx s.size u.size (outA U) hn2 HR.out.2.2.2 lU HN.out.2.1.2.1 HZ.out.2.1 (by rw [HN.out.2.1.1, HN.out.2.2.2.2.1]) _ (HR.out.2.2.1.below encS_len (by decide) HX1.out.1) HX1.out.2.1).mono ?_
              rintro e X2 hcp
              have hcp2 : ∃ v, e = .returned (.tuple #[v, .int .i64 0]) ∧ X2.ownsRow X1.heap.size 45 3 v (nfA D).length ((nfA D).flatMap encS) ∧ Below X1.heap.size X1 X2 := by
                rcases hcp with ⟨h, _⟩ | ⟨C', v, h, _, g1, g2, g3⟩
                · rw [HCD.out.2.1] at h; cases h
                · rw [HCD.out.2.1] at h
                  simp only [Option.some.injEq] at h
                  subst h
                  exact ⟨v, g1, g2, g3⟩
              clear hcp
              obtain ⟨vd, rfl, hrd, hBd⟩ := hcp2
              obtain ⟨od, cd, rfl, _⟩ := own_slice hrd
              have HX2 := Lib.hid (And.intro (HX1.out.1.trans (hBd.mono HX1.out.1.size)) (And.intro (HX1.out.2.2.below encS_len (by decide) hBd) (RowAt.of_own encS_len hrd rfl)))
              clear hrd hBd HX1
              have aC := appF_nf (s := s) HCD.out.1.2 hs6 H6w.out
              have aD := appF_nf (s := s) HCD.out.2.2 hs6 H6w.out
              have h6' := H6w.out
              have nC := nf_ok (A := C) (by omega) (by omega)
              have nD := nf_ok (A := D) (by omega) (by omega)
              have lC : (nfA C).length ≤ 9223372036854775807 := by omega
              have lD : (nfA D).length ≤ 9223372036854775807 := by omega
              have HM := Lib.hid (And.intro nC (And.intro nD (And.intro aC aD)))
              clear nC nD aC aD h6'
              obtain ⟨wb, hwb⟩ : ∃ x : ByteArray, (⟨⟨ww⟩⟩ : ByteArray) = x := ⟨_, rfl⟩
              rw [hwb]
              have ew : (wb.toList == wb.toList) = true := beq_self_eq_true _
              have HWB := Lib.hid hwb
              clear hwb
              go_wp2_with (fail)
              refine (apply_any s (nfA C) oc cc lC hs HM.out.1.2.1 _ HX2.out.2.1).mono ?_
              rintro e X3 ⟨rfl, hB⟩
              rw [HM.out.2.2.1.1, HWB.out]
              have HX3 := Lib.hid (And.intro (HX2.out.1.trans (hB.mono HX2.out.1.size)) (HX2.out.2.2.below encS_len (by decide) hB))
              clear hB HX2
              go_wp2_with (fail)
              refine (apply_any s (nfA D) od cd lD hs HM.out.2.1.2.1 _ HX3.out.2).mono ?_
              rintro e X4 ⟨rfl, hB⟩
              rw [HM.out.2.2.2.1, HWB.out]
              have HX4 := Lib.hid (HX3.out.1.trans (hB.mono HX3.out.1.size))
              clear hB HX3
              go_wp2
              go_ret
              exact ⟨rfl, HX4.out⟩
          · subst h1
            have e2 : ((n2 : Int) == 0) = false := by rw [beq_eq_false_iff_ne]; omega
            have e2' : (n2 == 0) = false := by rw [beq_eq_false_iff_ne]; omega
            clear h2
            go_wp2
            go_ret
            exact ⟨rfl, H6.out⟩
        · have e1 : ((n1 : Int) == 0) = false := by rw [beq_eq_false_iff_ne]; omega
          have e1' : (n1 == 0) = false := by rw [beq_eq_false_iff_ne]; omega
          clear h1
          go_wp2
          go_ret
          exact ⟨rfl, H6.out⟩
end Go.Proofs.Ytpijooajbgeejaa
