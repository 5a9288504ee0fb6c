/- Several texts in one. -/
import Derived.Test.YtjccoiephdopkaaZ20
import Derived.Test.YtjccoiephdopkaaZ08
/- Stage 27: the document's Invert. -/
namespace Go.Proofs.Ytjccoiephdopkaa
set_option linter.unusedVariables false
set_option linter.unusedSimpArgs false
open Go Go.RowKit Go.Shelf
set_option maxRecDepth 100000

theorem DkA.drp {W : World} {B b : Nat} {vL : Value} {A : List Atm} (h : DkA W B b vL A) (s : ByteArray) : DkA (W.setCell ⟨B, 2, none⟩ (.string ((fdL A mk0).drop ++ s))) B b vL (A ++ (bL s).map .D) := by
  obtain ⟨e1, e2, e3⟩ := row_drop s (fdL A mk0)
  rw [drops_fd, ← fdL_app] at e1 e2 e3
  unfold DkA
  rw [e1, e2, e3]
  exact DkB.setD h _
section
variable {w0 W X : World} {B b : Nat} {A : List Atm}
theorem D1.drp (h : D1 w0 B b W A) (s : ByteArray) : D1 w0 B b (W.setCell ⟨B, 2, none⟩ (.string ((fdL A mk0).drop ++ s))) (A ++ (bL s).map .D) := by
  obtain ⟨v, h1, h2, h3⟩ := h
  exact ⟨v, h1.drp s, h2, (KpD.set h1 2 (.string ((fdL A mk0).drop ++ s))).belowK h1 h2 h3⟩
theorem D1.cell2 (h : D1 w0 B b W A) : W.cell? ⟨B, 2, none⟩ = some (.string (fdL A mk0).drop) := by
  obtain ⟨v, h1, _⟩ := h
  exact (DkB.cells h1).2.2
end
set_option maxHeartbeats 4000000 in
theorem invertD_any (l : List Sp) (o : Option Addr) (c F T : Nat) (hn : l.length ≤ 9223372036854775807) (ho : OkS l) (hz : sizeG l 0 0 = some (F, T)) (w : World) (hr : RowAt w encS 3 o l) :
    Calls Try.prog 17 #[.slice o l.length c] w fun e w' => ∃ u, e = .returned u ∧ w'.ownsRow w.heap.size 54 3 u (nfA (invL (atL l))).length ((nfA (invL (atL l))).flatMap encS) ∧ Below w.heap.size w w' := by
  have cS := sayx_any l o c F T hn ho hz w hr
  have p1 := plain_cu hz
  have hA : (atL (plainM l)).length ≤ 131072 := by omega
  have hF : F ≤ 65536 := p1.2.2.2.1
  have hfin : nfA (invL (atL (plainM l))) = nfA (invL (atL l)) := by rw [plain_fd, nf_inv2]
  have HFIN := Lib.hid hfin
  clear p1 hz hr ho hfin
  go_enter Try.func17, Try.ntmps17
  go_wp2_with (fail)
  refine cS.mono ?_
  rintro e W4 ⟨Ps, Ds, Bs, vP, vD, vB, rfl, hP1, hD1, hB1, lp1, ld1, lb1, hfr1, hB4⟩
  obtain ⟨gP, cP, rfl, _⟩ := own_slice hP1
  obtain ⟨gD, cD, rfl, _⟩ := own_slice hD1
  obtain ⟨gB, cB, rfl, _⟩ := own_slice hB1
  obtain ⟨x, hxe⟩ : ∃ x : Sd, (⟨Ps, Ds, Bs⟩ : Sd) = x := ⟨_, rfl⟩
  obtain ⟨A, hAe⟩ : ∃ A, atL (plainM l) = A := ⟨_, rfl⟩
  rw [hAe] at hA hfr1 HFIN
  have hx : SdOk x F A := by rw [← hxe]; exact ⟨lp1, ld1, lb1, hfr1⟩
  have hv : SdV W4 (.agg #[.slice gP (F + 1) cP, .slice gD F cD, .slice gB F cB]) x F gP gD gB cP cD cB := by
    rw [← hxe]
    exact SdV.of lp1 ld1 lb1 hP1 hD1 hB1 (Below.refl _ _)
  have hbox := hv.box
  have hb0 := hB4.trans (((Below.refl W4.heap.size W4).alloc (Nat.le_refl _) (.cells #[.slice gP (F + 1) cP, .slice gD F cD, .slice gB F cB] 43)).mono hB4.size)
  obtain ⟨WM, hWM⟩ : ∃ Z, W4.alloc (.cells #[.slice gP (F + 1) cP, .slice gD F cD, .slice gB F cB] 43) = Z := ⟨_, rfl⟩
  have HW := Lib.hid hWM
  rw [hWM] at hbox hb0
  have HX := Lib.hid (And.intro hbox (And.intro hx (And.intro hb0 (And.intro hA hB4))))
  have HD0 := Lib.hid (D1.new WM)
  clear hv hbox hb0 hWM hx hA hB4 hP1 hD1 hB1 lp1 ld1 lb1 hfr1 hxe hAe cS
  go_wp2
  rw [HW.out]
  obtain ⟨bx, hbx⟩ : ∃ b, W4.heap.size = b := ⟨_, rfl⟩
  have hsz : WM.heap.size = bx + 1 := by rw [← HW.out, ← hbx]; simp
  have HBX := Lib.hid (And.intro hbx hsz)
  have HD1 : D1 WM (bx + 1) (bx + 1 + 1) (WM.alloc (.cells #[.slice none 0 0, .string .empty, .string .empty] 56)) [] := by rw [← hsz]; exact HD0.out
  have HD0 := Lib.hid HD1
  clear HD1
  rw [hbx] at HX
  rw [hbx]
  obtain ⟨hgP, hcP, hgD, hcD, hgB, hcB, hlenx⟩ := HX.out.1.hdr
  have Hlen := Lib.hid hlenx
  clear hbx hlenx hsz
  go_loopw [5] (fun pv W => ∃ (p : Nat) (Ad : List Atm), pv = .int .i64 p ∧ p ≤ F + 1 ∧ D1 WM (bx + 1) (bx + 1 + 1) W (invL Ad) ∧ Ad ++ frR x F p = A) (fun pv _ => F + 1 - (intOf pv).toNat)
  case atStart => exact ⟨0, [], rfl, by omega, HD0.out, by show frR x F 0 = A; unfold frR; rw [if_pos (Nat.zero_le _), Nat.sub_zero]; exact HX.out.2.1.fr⟩
  case round =>
    obtain ⟨p, Ad, rfl, hp, hD, hAd⟩ := hrel
    have hlA : Ad.length ≤ 131072 := by
      have h1 := congrArg List.length hAd
      rw [List.length_append] at h1
      have := HX.out.2.2.2.1
      omega
    obtain ⟨h0c, h1c, h2c⟩ := Hlen.out _ hD.low
    by_cases hlt : p < F + 1
    · obtain ⟨s, hs⟩ := frow x HX.out.2.1 (show p ≤ F by omega)
      obtain ⟨g2, r2, m2, hx1⟩ := HX.out.1.allP hs
      obtain ⟨ay, az⟩ := hx1 _ hD.low
      have lt1 : (p : Int) < (F : Int) + 1 := by omega
      have jp : IntKind.i64.wrap ((p : Int) + 1) = ((p + 1 : Nat) : Int) := by rw [IntWalk.i64_in _ (by omega)]; omega
      have pn := (dk_bd (invL Ad)).2.2.1
      rw [invL_len] at pn
      obtain ⟨pu, hpu⟩ : ∃ pu, (fdL (invL Ad) mk0).drop = pu := ⟨_, rfl⟩
      rw [hpu] at pn
      have hsz : s.size ≤ 131072 := by
        have h1 := congrArg List.length hAd
        have h2 := HX.out.2.2.2.1
        rw [List.length_append] at h1
        by_cases h : p < F
        · rw [frR_lt h hs, List.length_append, List.length_map, bL_len] at h1; omega
        · obtain rfl : p = F := by omega
          rw [frR_eq hs, List.length_map, bL_len] at h1; omega
      have hys : pu.size + s.size ≤ 9223372036854775807 := by omega
      have kc := hD.cell2
      rw [hpu] at kc
      have kfa : ∀ X, Below wr.heap.size wr X → X.frozen? ⟨bx + 1, 2, none⟩ = false := fun X hX => hD.froz hX 2
      have HD := Lib.hid hD
      have HS := Lib.hid (And.intro hs hAd)
      have HPU := Lib.hid hpu
      clear hD hs hAd hpu hx1 h1c h2c
      go_wp2
      refine wp_region_noPanic ?_
      refine wp_region_g (S := untilG [9] (fun X => Below wr.heap.size wr X)) (by kernel_rfl) ?_
      obtain ⟨X21, hX0⟩ : ∃ Z, wr.drew = Z := ⟨_, rfl⟩
      have T0 : Below wr.heap.size wr X21 := hX0 ▸ (Below.refl wr.heap.size wr).drew
      rw [hX0]
      clear hX0
      refine wpAnyG_take [0, 1, 7, 9] (i := 0) (v := (.pointer (some ⟨bx + 1, 2, none⟩))) rfl (by kernel_rfl) (by kernel_rfl) (by kernel_rfl) (by kernel_rfl) (by kernel_rfl) (by kernel_rfl) (by kernel_rfl) (by kernel_rfl) (fun _ _ _ h => h) (Or.inl ⟨by rfl, ?hy⟩) T0 ?_
      case hy =>
        intro X hX
        go_simp
      try simp only [Act.put, List.getElem_toArray, List.getElem_cons_zero, List.getElem_cons_succ, List.setIfInBounds_toArray, List.set_cons_zero, List.set_cons_succ]
      refine wpAnyG_take [1, 7, 9] (i := 1) (v := (.string pu)) rfl (by kernel_rfl) (by kernel_rfl) (by kernel_rfl) (by kernel_rfl) (by kernel_rfl) (by kernel_rfl) (by kernel_rfl) (by kernel_rfl) (fun _ _ _ h => h) (Or.inl ⟨by rfl, ?hy⟩) T0 ?_
      case hy =>
        intro X hX
        have e0 := at_below kc hX
        go_simp
      try simp only [Act.put, List.getElem_toArray, List.getElem_cons_zero, List.getElem_cons_succ, List.setIfInBounds_toArray, List.set_cons_zero, List.set_cons_succ]
      refine wpAnyG_take [2, 3, 5, 6, 7, 9] (i := 2) (v := (.pointer (some ⟨bx, 0, none⟩))) rfl (by kernel_rfl) (by kernel_rfl) (by kernel_rfl) (by kernel_rfl) (by kernel_rfl) (by kernel_rfl) (by kernel_rfl) (by kernel_rfl) (fun _ _ _ h => h) (Or.inl ⟨by rfl, ?hy⟩) T0 ?_
      case hy =>
        intro X hX
        go_simp
      try simp only [Act.put, List.getElem_toArray, List.getElem_cons_zero, List.getElem_cons_succ, List.setIfInBounds_toArray, List.set_cons_zero, List.set_cons_succ]
      refine wpAnyG_take [3, 5, 6, 7, 9] (i := 3) (v := (.slice (some ⟨g2, r2, none⟩) (F + 1) m2)) rfl (by kernel_rfl) (by kernel_rfl) (by kernel_rfl) (by kernel_rfl) (by kernel_rfl) (by kernel_rfl) (by kernel_rfl) (by kernel_rfl) (fun _ _ _ h => h) (Or.inl ⟨by rfl, ?hy⟩) T0 ?_
      case hy =>
        intro X hX
        have e0 := at_below ay hX
        go_simp
      try simp only [Act.put, List.getElem_toArray, List.getElem_cons_zero, List.getElem_cons_succ, List.setIfInBounds_toArray, List.set_cons_zero, List.set_cons_succ]
      refine wpAnyG_take [4, 5, 6, 7, 9] (i := 4) (v := (.int .i64 p)) rfl (by kernel_rfl) (by kernel_rfl) (by kernel_rfl) (by kernel_rfl) (by kernel_rfl) (by kernel_rfl) (by kernel_rfl) (by kernel_rfl) (fun _ _ _ h => h) (Or.inl ⟨by rfl, ?hy⟩) T0 ?_
      case hy =>
        intro X hX
        go_simp
      try simp only [Act.put, List.getElem_toArray, List.getElem_cons_zero, List.getElem_cons_succ, List.setIfInBounds_toArray, List.set_cons_zero, List.set_cons_succ]
      refine wpAnyG_take [5, 6, 7, 9] (i := 5) (v := (.pointer (some ⟨g2, r2 + p, none⟩))) rfl (by kernel_rfl) (by kernel_rfl) (by kernel_rfl) (by kernel_rfl) (by kernel_rfl) (by kernel_rfl) (by kernel_rfl) (by kernel_rfl) (fun _ _ _ h => h) (Or.inl ⟨by rfl, ?hy⟩) T0 ?_
      case hy =>
        intro X hX
        (go_simp; try rfl)
      try simp only [Act.put, List.getElem_toArray, List.getElem_cons_zero, List.getElem_cons_succ, List.setIfInBounds_toArray, List.set_cons_zero, List.set_cons_succ]
      refine wpAnyG_take [6, 7, 9] (i := 6) (v := (.string s)) rfl (by kernel_rfl) (by kernel_rfl) (by kernel_rfl) (by kernel_rfl) (by kernel_rfl) (by kernel_rfl) (by kernel_rfl) (by kernel_rfl) (fun _ _ _ h => h) (Or.inl ⟨by rfl, ?hy⟩) T0 ?_
      case hy =>
        intro X hX
        have e0 := at_below az hX
        go_simp
      try simp only [Act.put, List.getElem_toArray, List.getElem_cons_zero, List.getElem_cons_succ, List.setIfInBounds_toArray, List.set_cons_zero, List.set_cons_succ]
      refine wpAnyG_take [7, 9] (i := 7) (v := (.string (pu ++ s))) rfl (by kernel_rfl) (by kernel_rfl) (by kernel_rfl) (by kernel_rfl) (by kernel_rfl) (by kernel_rfl) (by kernel_rfl) (by kernel_rfl) (fun _ _ _ h => h) (Or.inl ⟨by rfl, ?hy⟩) T0 ?_
      case hy =>
        intro X hX
        go_simp
      try simp only [Act.put, List.getElem_toArray, List.getElem_cons_zero, List.getElem_cons_succ, List.setIfInBounds_toArray, List.set_cons_zero, List.set_cons_succ]
      have kc2 := at_below kc T0
      have kf2 : X21.frozen? ⟨bx + 1, 2, none⟩ = false := kfa _ T0
      refine wpAnyG_all (rs := [8]) (by kernel_rfl) (by simp) ?_
      intro i hi
      simp only [List.mem_cons, List.not_mem_nil, or_false] at hi
      subst hi
      refine wpOp_now rfl rfl ?_
      go_simp
      refine ⟨fun _ => T0, ?_⟩
      try simp only [Act.put, List.getElem_toArray, List.getElem_cons_zero, List.getElem_cons_succ, List.setIfInBounds_toArray, List.set_cons_zero, List.set_cons_succ]
      refine wpAnyG_all (rs := [9]) (by kernel_rfl) (by simp) ?_
      intro i hi
      simp only [List.mem_cons, List.not_mem_nil, or_false] at hi
      subst hi
      refine wpOp_now rfl rfl ?_
      go_simp
      refine ⟨fun h => (nomatch (show (false : Bool) = true from h)), ?_⟩
      refine wpAnyG_done (by kernel_rfl) ?_ _
      refine NoPanic.normal ?_
      have hE := HD.out.below T0 |>.drp s
      rw [HPU.out] at hE
      obtain ⟨Y1, hY1⟩ : ∃ Z, X21.setCell ⟨bx + 1, 2, none⟩ (.string (pu ++ s)) = Z := ⟨_, rfl⟩
      rw [hY1] at hE ⊢
      have hE2 : D1 WM (bx + 1) (bx + 1 + 1) Y1 (invL (Ad ++ (bL s).map .P)) := by rw [invL_app, invL_P]; exact hE
      have HE := Lib.hid hE2
      clear hE hE2 hY1 T0 kc kfa kc2 kf2 ay az h0c
      obtain ⟨h0c, h1c, h2c⟩ := Hlen.out _ HE.out.low
      by_cases hF2 : p < F
      · obtain ⟨d, hd⟩ := drow x HX.out.2.1 hF2
        obtain ⟨g3, r3, m3, hx3⟩ := HX.out.1.allD hd
        obtain ⟨d1, d2⟩ := hx3 _ HE.out.low
        clear h1c h2c
        have lt2 : (p : Int) < (F : Int) := by omega
        have hfr := frR_lt hF2 HS.out.1
        cases d with
        | true =>
          obtain ⟨c0, hc⟩ : ∃ c, x.B[p]? = some c := ⟨_, List.getElem?_eq_getElem (by rw [HX.out.2.1.lB]; exact hF2)⟩
          obtain ⟨g4, r4, m4, hx4⟩ := HX.out.1.allB hc
          obtain ⟨b1, b2⟩ := hx4 _ HE.out.low
          rw [pD_yes hd hc] at hfr
          have HFR := Lib.hid hfr
          have pn2 := (dk_bd (invL (Ad ++ (bL s).map .P))).2.1
          rw [invL_len, List.length_append, List.length_map, bL_len] at pn2
          obtain ⟨pv, hpv⟩ : ∃ pu, (fdL (invL (Ad ++ (bL s).map .P)) mk0).put = pu := ⟨_, rfl⟩
          rw [hpv] at pn2
          have kc := HE.out.cell.1
          rw [hpv] at kc
          have kfa : ∀ X, Below Y1.heap.size Y1 X → X.frozen? ⟨bx + 1, 1, none⟩ = false := fun X hX => HE.out.froz hX 1
          have hsz1 : (9223372036854775807 < pv.size + 1) = False := eq_false (by omega)
          have HPV := Lib.hid hpv
          clear hfr hd hc hx3 hx4 hpv
          go_wp2
          refine wp_region_noPanic ?_
          refine wp_region_g (S := untilG [11] (fun X => Below Y1.heap.size Y1 X)) (by kernel_rfl) ?_
          obtain ⟨X21, hX0⟩ : ∃ Z, Y1.drew = Z := ⟨_, rfl⟩
          have T0 : Below Y1.heap.size Y1 X21 := hX0 ▸ (Below.refl Y1.heap.size Y1).drew
          rw [hX0]
          clear hX0
          refine wpAnyG_take [0, 1, 9, 11] (i := 0) (v := (.pointer (some ⟨bx + 1, 1, none⟩))) rfl (by kernel_rfl) (by kernel_rfl) (by kernel_rfl) (by kernel_rfl) (by kernel_rfl) (by kernel_rfl) (by kernel_rfl) (by kernel_rfl) (fun _ _ _ h => h) (Or.inl ⟨by rfl, ?hy⟩) T0 ?_
          case hy =>
            intro X hX
            go_simp
          try simp only [Act.put, List.getElem_toArray, List.getElem_cons_zero, List.getElem_cons_succ, List.setIfInBounds_toArray, List.set_cons_zero, List.set_cons_succ]
          refine wpAnyG_take [1, 9, 11] (i := 1) (v := (.string pv)) rfl (by kernel_rfl) (by kernel_rfl) (by kernel_rfl) (by kernel_rfl) (by kernel_rfl) (by kernel_rfl) (by kernel_rfl) (by kernel_rfl) (fun _ _ _ h => h) (Or.inl ⟨by rfl, ?hy⟩) T0 ?_
          case hy =>
            intro X hX
            have e0 := at_below kc hX
            go_simp
          try simp only [Act.put, List.getElem_toArray, List.getElem_cons_zero, List.getElem_cons_succ, List.setIfInBounds_toArray, List.set_cons_zero, List.set_cons_succ]
          refine wpAnyG_take [2, 3, 5, 6, 7, 8, 9, 11] (i := 2) (v := (.pointer (some ⟨bx, 2, none⟩))) rfl (by kernel_rfl) (by kernel_rfl) (by kernel_rfl) (by kernel_rfl) (by kernel_rfl) (by kernel_rfl) (by kernel_rfl) (by kernel_rfl) (fun _ _ _ h => h) (Or.inl ⟨by rfl, ?hy⟩) T0 ?_
          case hy =>
            intro X hX
            go_simp
          try simp only [Act.put, List.getElem_toArray, List.getElem_cons_zero, List.getElem_cons_succ, List.setIfInBounds_toArray, List.set_cons_zero, List.set_cons_succ]
          refine wpAnyG_take [3, 5, 6, 7, 8, 9, 11] (i := 3) (v := (.slice (some ⟨g4, r4, none⟩) F m4)) rfl (by kernel_rfl) (by kernel_rfl) (by kernel_rfl) (by kernel_rfl) (by kernel_rfl) (by kernel_rfl) (by kernel_rfl) (by kernel_rfl) (fun _ _ _ h => h) (Or.inl ⟨by rfl, ?hy⟩) T0 ?_
          case hy =>
            intro X hX
            have e0 := at_below b1 hX
            go_simp
          try simp only [Act.put, List.getElem_toArray, List.getElem_cons_zero, List.getElem_cons_succ, List.setIfInBounds_toArray, List.set_cons_zero, List.set_cons_succ]
          refine wpAnyG_take [4, 5, 6, 7, 8, 9, 11] (i := 4) (v := (.int .i64 p)) rfl (by kernel_rfl) (by kernel_rfl) (by kernel_rfl) (by kernel_rfl) (by kernel_rfl) (by kernel_rfl) (by kernel_rfl) (by kernel_rfl) (fun _ _ _ h => h) (Or.inl ⟨by rfl, ?hy⟩) T0 ?_
          case hy =>
            intro X hX
            go_simp
          try simp only [Act.put, List.getElem_toArray, List.getElem_cons_zero, List.getElem_cons_succ, List.setIfInBounds_toArray, List.set_cons_zero, List.set_cons_succ]
          refine wpAnyG_take [5, 6, 7, 8, 9, 11] (i := 5) (v := (.pointer (some ⟨g4, r4 + p, none⟩))) rfl (by kernel_rfl) (by kernel_rfl) (by kernel_rfl) (by kernel_rfl) (by kernel_rfl) (by kernel_rfl) (by kernel_rfl) (by kernel_rfl) (fun _ _ _ h => h) (Or.inl ⟨by rfl, ?hy⟩) T0 ?_
          case hy =>
            intro X hX
            (go_simp; try rfl)
          try simp only [Act.put, List.getElem_toArray, List.getElem_cons_zero, List.getElem_cons_succ, List.setIfInBounds_toArray, List.set_cons_zero, List.set_cons_succ]
          refine wpAnyG_take [6, 7, 8, 9, 11] (i := 6) (v := (.int .u8 c0.toNat)) rfl (by kernel_rfl) (by kernel_rfl) (by kernel_rfl) (by kernel_rfl) (by kernel_rfl) (by kernel_rfl) (by kernel_rfl) (by kernel_rfl) (fun _ _ _ h => h) (Or.inl ⟨by rfl, ?hy⟩) T0 ?_
          case hy =>
            intro X hX
            have e0 := at_below b2 hX
            go_simp
          try simp only [Act.put, List.getElem_toArray, List.getElem_cons_zero, List.getElem_cons_succ, List.setIfInBounds_toArray, List.set_cons_zero, List.set_cons_succ]
          refine wpAnyG_all (rs := [7]) (by kernel_rfl) (by simp) ?_
          intro i hi
          simp only [List.mem_cons, List.not_mem_nil, or_false] at hi
          subst hi
          refine wpOp_now rfl rfl ?_
          go_simp
          have T1 := T0.alloc T0.size (.cells #[.int .u8 c0.toNat] 5)
          have hrow := row_one X21 Y1.heap.size c0 T0.size
          refine ⟨fun _ => T1, ?_⟩
          try simp only [Act.put, List.getElem_toArray, List.getElem_cons_zero, List.getElem_cons_succ, List.setIfInBounds_toArray, List.set_cons_zero, List.set_cons_succ]
          have ec := conv_own rfl hrow
          refine wpAnyG_all (rs := [8]) (by kernel_rfl) (by simp) ?_
          intro i hi
          simp only [List.mem_cons, List.not_mem_nil, or_false] at hi
          subst hi
          refine wpOp_now rfl rfl ?_
          go_simp
          refine ⟨fun _ => T1, ?_⟩
          try simp only [Act.put, List.getElem_toArray, List.getElem_cons_zero, List.getElem_cons_succ, List.setIfInBounds_toArray, List.set_cons_zero, List.set_cons_succ]
          refine wpAnyG_all (rs := [9]) (by kernel_rfl) (by simp) ?_
          intro i hi
          simp only [List.mem_cons, List.not_mem_nil, or_false] at hi
          subst hi
          refine wpOp_now rfl rfl ?_
          go_simp
          refine ⟨fun _ => T1, ?_⟩
          try simp only [Act.put, List.getElem_toArray, List.getElem_cons_zero, List.getElem_cons_succ, List.setIfInBounds_toArray, List.set_cons_zero, List.set_cons_succ]
          refine wpAnyG_all (rs := [10]) (by kernel_rfl) (by simp) ?_
          intro i hi
          simp only [List.mem_cons, List.not_mem_nil, or_false] at hi
          subst hi
          refine wpOp_now rfl rfl ?_
          go_simp
          refine ⟨fun _ => T1, ?_⟩
          try simp only [Act.put, List.getElem_toArray, List.getElem_cons_zero, List.getElem_cons_succ, List.setIfInBounds_toArray, List.set_cons_zero, List.set_cons_succ]
          have kc2 := at_below kc T1
          have kf2 := kfa _ T1
          refine wpAnyG_all (rs := [11]) (by kernel_rfl) (by simp) ?_
          intro i hi
          simp only [List.mem_cons, List.not_mem_nil, or_false] at hi
          subst hi
          refine wpOp_now rfl rfl ?_
          go_simp
          refine ⟨fun h => (nomatch (show (false : Bool) = true from h)), ?_⟩
          refine wpAnyG_done (by kernel_rfl) ?_ _
          refine NoPanic.normal ?_
          have hE := HE.out.below T1 |>.put ⟨#[c0]⟩
          rw [HPV.out] at hE
          obtain ⟨Y2, hY2⟩ : ∃ Z, (X21.alloc (.cells #[.int .u8 c0.toNat] 5)).setCell ⟨bx + 1, 1, none⟩ (.string (pv ++ ⟨#[c0]⟩)) = Z := ⟨_, rfl⟩
          rw [hY2] at hE ⊢
          have hE2 : D1 WM (bx + 1) (bx + 1 + 1) Y2 (invL (Ad ++ (bL s).map .P ++ [.D c0])) := by rw [invL_app]; exact hE
          have HE2 := Lib.hid hE2
          clear hE hE2 hY2 T0 T1 kc kfa kc2 kf2 d1 d2 b1 b2 h0c hrow ec
          go_wp2
          go_roundw
          case rel => exact ⟨p + 1, _, by go_num, by omega, HE2.out, by rw [← HS.out.2, HFR.out]; simp⟩
          case measure => simp [intOf] <;> omega
        | false =>
          rw [pD_no hd] at hfr
          have HFR := Lib.hid hfr
          clear hfr hd hx3
          go_wp2_with (fail)
          refine (d1_keep HE.out 1 (by omega) (by rw [invL_len, List.length_append, List.length_map, bL_len]; omega)).mono ?_
          rintro e V ⟨rfl, hV⟩
          have hV2 : D1 WM (bx + 1) (bx + 1 + 1) V (invL (Ad ++ (bL s).map .P ++ [.K])) := by rw [invL_app]; exact hV
          have HV := Lib.hid hV2
          clear hV hV2
          go_wp2
          go_roundw
          case rel => exact ⟨p + 1, _, by go_num, by omega, HV.out, by rw [← HS.out.2, HFR.out]; simp⟩
          case measure => simp [intOf] <;> omega
      · obtain rfl : p = F := by omega
        have hfr := frR_eq HS.out.1
        have HFR := Lib.hid hfr
        clear hfr
        go_wp2
        go_roundw
        case rel => exact ⟨p + 1, _, by go_num, by omega, HE.out, by rw [← HS.out.2, HFR.out, frR_end]; simp⟩
        case measure => simp [intOf] <;> omega
    · obtain rfl : p = F + 1 := by omega
      rw [frR_end, List.append_nil] at hAd
      subst hAd
      have lt1 : ¬ (((F + 1 : Nat) : Int) < (F : Int) + 1) := by omega
      have HD := Lib.hid hD
      clear hD
      go_wp2_with (fail)
      refine (d1_end HD.out (by rw [invL_len]; omega)).mono ?_
      rintro e V ⟨rfl, u, h1, h2, h3⟩
      rw [HFIN.out] at h1
      obtain ⟨c0, c1, c2⟩ := DkB.cells h1
      have hs4 := HX.out.2.2.2.2.size
      have hu := own_base h1.ro (show w.heap.size ≤ bx + 1 + 1 by have := HBX.out.1; omega)
      have hb5 := HX.out.2.2.1.trans (h3.mono HX.out.2.2.1.size)
      have HU := Lib.hid (And.intro hu hb5)
      clear h1 h2 h3 hu hb5 hs4
      go_wp2
      go_ret
      exact ⟨_, rfl, HU.out.1, HU.out.2⟩
    end Go.Proofs.Ytjccoiephdopkaa

/- Stage 27: the document's Apply. -/
namespace Go.Proofs.Ytjccoiephdopkaa
set_option linter.unusedVariables false
set_option linter.unusedSimpArgs false
open Go Go.RowKit Go.Shelf
set_option maxRecDepth 100000

/-- How the loop of the document's Apply stands. -/
structure AdP (s : ByteArray) (A : List Atm) (x : Sd) (F p : Nat) (out : ByteArray) : Prop where
  rn : runA A (bL s) = (runA (frR x F p) ((bL s).drop p)).map fun r => (bL out ++ r.1, r.2)
  ot : out.size + outA (frR x F p) ≤ 65536
/-- Behind the puts of a place. -/
structure AdQ (s : ByteArray) (A : List Atm) (x : Sd) (F p : Nat) (out : ByteArray) : Prop where
  rn : runA A (bL s) = (runA (pD x.D x.B p :: frR x F (p + 1)) ((bL s).drop p)).map fun r => (bL out ++ r.1, r.2)
  ot : out.size + outA (pD x.D x.B p :: frR x F (p + 1)) ≤ 65536
section
variable {s out : ByteArray} {A : List Atm} {x : Sd} {F p : Nat} {y : ByteArray}
theorem map_map_app (o : Option (List UInt8 × List UInt8)) (a b : List UInt8) : (o.map fun r => (b ++ r.1, r.2)).map (fun r => (a ++ r.1, r.2)) = o.map fun r => (a ++ b ++ r.1, r.2) := by cases o <;> simp
theorem ad_put (h : AdP s A x F p out) (hp : p < F) (hy : x.P[p]? = some y) : AdQ s A x F p (out ++ y) := by
  obtain ⟨h1, h2⟩ := h
  rw [frR_lt hp hy] at h1 h2
  rw [outA_append, (in_map_P _).2, bL_len] at h2
  refine ⟨?_, by rw [ByteArray.size_append]; omega⟩
  rw [h1, run_Ps, map_map_app, bL_app]
theorem ad_fin (h : AdP s A x F F out) (hF : s.size = F) (hy : x.P[F]? = some y) : runA A (bL s) = some (bL (out ++ y), []) := by
  obtain ⟨h1, h2⟩ := h
  rw [frR_eq hy, List.drop_of_length_le (by rw [bL_len]; omega)] at h1
  have e := run_Ps (bL y) [] []
  rw [List.append_nil] at e
  rw [h1, e, bL_app]
  simp [runA]
theorem drop_byte (hp : p < s.size) : (bL s).drop p = s[p] :: (bL s).drop (p + 1) := by
  rw [List.drop_eq_getElem_cons (by rw [bL_len]; exact hp)]; rfl
theorem ad_keep (h : AdQ s A x F p out) (hp : p < s.size) (hd : x.D[p]? = some false) : AdP s A x F (p + 1) (out ++ ⟨#[s[p]]⟩) := by
  obtain ⟨h1, h2⟩ := h
  rw [pD_no hd, drop_byte hp, runA] at h1
  rw [pD_no hd, outA] at h2
  refine ⟨?_, by rw [ByteArray.size_append]; show out.size + 1 + _ ≤ _; omega⟩
  rw [h1, bL_app]
  show _ = _
  have : bL ⟨#[s[p]]⟩ = [s[p]] := rfl
  rw [this]
  cases runA (frR x F (p + 1)) ((bL s).drop (p + 1)) <;> simp
theorem ad_drop {c : UInt8} (h : AdQ s A x F p out) (hp : p < s.size) (hd : x.D[p]? = some true) (hc : x.B[p]? = some c) : if s[p] = c then AdP s A x F (p + 1) out else runA A (bL s) = none := by
  obtain ⟨h1, h2⟩ := h
  rw [pD_yes hd hc, drop_byte hp, runA] at h1
  rw [pD_yes hd hc, outA] at h2
  split
  · rename_i e
    rw [if_pos e] at h1
    exact ⟨h1, h2⟩
  · rename_i e
    rw [if_neg e] at h1
    exact h1
end
theorem appF_none {s : ByteArray} {l : List Sp} {T : Nat} (hz : sizeG l 0 0 = some (s.size, T)) (hr : runA (atL l) (bL s) = none) : appF s l = (.empty, 270) := by
  unfold appF
  rw [hz]
  simp only
  rw [if_neg (by simp), hr]
theorem infoU8b : (Try.prog.info? 5).map (fun i => (i.zero, i.size, i.bytes)) = some (some (.int .u8 0), 1, 1) := by kernel_rfl
set_option maxHeartbeats 4000000 in
theorem applyD_any (s : ByteArray) (l : List Sp) (o : Option Addr) (c F T : Nat) (hn : l.length ≤ 9223372036854775807) (hs : s.size ≤ 9223372036854775807) (ho : OkS l) (hz : sizeG l 0 0 = some (F, T)) (w : World) (hr : RowAt w encS 3 o l) :
    Calls Try.prog 11 #[.string s, .slice o l.length c] w fun e w' => e = .returned (.tuple #[.string (appF s l).1, .int .i64 ((appF s l).2 : Nat)]) ∧ Below w.heap.size w w' := by
  obtain ⟨i0, hi, hz0, hz1, hz2⟩ := info_parts infoU8b
  have cZ := sizesD_any l o c hn ho w hr
  rw [hz] at cZ
  have p1 := plain_cu hz
  have hF6 : F ≤ 65536 := p1.2.2.2.1
  by_cases hF : F = s.size
  · subst hF
    have cS := fun X (hX : Below w.heap.size w X) => sayx_any l o c s.size T hn ho hz X (hr.below encS_len (by decide) hX)
    have hrn : runA (atL (plainM l)) (bL s) = runA (atL l) (bL s) := by rw [plain_fd, (nf_eq (atL l)).1.run]
    have HZ := Lib.hid (And.intro hz (And.intro hrn p1))
    clear hz hr ho p1 hrn
    have e0 : ((s.size : Int) == (s.size : Int)) = true := beq_self_eq_true _
    go_enter Try.func11, Try.ntmps11
    go_wp2_with (fail)
    refine cZ.mono ?_
    rintro e W1 ⟨rfl, hB1⟩
    simp only [szD]
    have H1 := Lib.hid hB1
    clear hB1 cZ
    go_wp2_with (fail)
    refine (cS _ H1.out).mono ?_
    rintro e W4 ⟨Ps, Ds, Bs, vP, vD, vB, rfl, hP1, hD1, hB1, lp1, ld1, lb1, hfr1, hB4⟩
    obtain ⟨gP, cP, rfl, _⟩ := own_slice hP1
    obtain ⟨gD, cD, rfl, _⟩ := own_slice hD1
    obtain ⟨gB, cB, rfl, _⟩ := own_slice hB1
    obtain ⟨x, hxe⟩ : ∃ x : Sd, (⟨Ps, Ds, Bs⟩ : Sd) = x := ⟨_, rfl⟩
    obtain ⟨A, hAe⟩ : ∃ A, atL (plainM l) = A := ⟨_, rfl⟩
    rw [hAe] at hfr1 HZ
    have hx : SdOk x s.size A := by rw [← hxe]; exact ⟨lp1, ld1, lb1, hfr1⟩
    have hv : SdV W4 (.agg #[.slice gP (s.size + 1) cP, .slice gD s.size cD, .slice gB s.size cB]) x s.size gP gD gB cP cD cB := by
      rw [← hxe]
      exact SdV.of lp1 ld1 lb1 hP1 hD1 hB1 (Below.refl _ _)
    have hbox := hv.box
    have hb1 := H1.out.trans (hB4.mono H1.out.size)
    have hb0 := hb1.trans (((Below.refl W4.heap.size W4).alloc (Nat.le_refl _) (.cells #[.slice gP (s.size + 1) cP, .slice gD s.size cD, .slice gB s.size cB] 43)).mono hb1.size)
    obtain ⟨WM, hWM⟩ : ∃ Z, W4.alloc (.cells #[.slice gP (s.size + 1) cP, .slice gD s.size cD, .slice gB s.size cB] 43) = Z := ⟨_, rfl⟩
    have HW := Lib.hid hWM
    rw [hWM] at hbox hb0
    have hfr0 : frR x s.size 0 = A := by unfold frR; rw [if_pos (Nat.zero_le _), Nat.sub_zero]; exact hx.fr
    have hA0 : AdP s A x s.size 0 .empty := ⟨by rw [hfr0, List.drop_zero]; cases runA A (bL s) <;> simp [bL_emp], by rw [hfr0]; obtain ⟨_, _, g1, _, g2, _⟩ := HZ.out.2.2; simp only [emp_size]; omega⟩
    have HX := Lib.hid (And.intro hbox (And.intro hx (And.intro hb0 hA0)))
    clear hv hbox hb0 hb1 hWM hx hB4 hP1 hD1 hB1 lp1 ld1 lb1 hfr1 hxe cS hA0 hfr0 hAe H1
    go_wp2
    rw [HW.out]
    obtain ⟨bx, hbx⟩ : ∃ b, W4.heap.size = b := ⟨_, rfl⟩
    rw [hbx] at HX
    rw [hbx]
    obtain ⟨hgP, hcP, hgD, hcD, hgB, hcB, hlenx⟩ := HX.out.1.hdr
    have Hlen := Lib.hid hlenx
    clear hbx hlenx HW
    go_loopw [10, 11] (fun v pv W => ∃ (p : Nat) (out : ByteArray), pv = .int .i64 p ∧ p ≤ s.size ∧ AdP s A x s.size p out ∧ W.ownsRow WM.heap.size 5 1 v out.size (Lib.strCells out) ∧ Below WM.heap.size WM W) (fun _ pv _ => s.size + 1 - (intOf pv).toNat)
    case atStart => exact ⟨0, .empty, rfl, by omega, HX.out.2.2.2, World.ownsRow_nil _ _ _ _, Below.refl _ _⟩
    case round =>
      obtain ⟨p, out, rfl, hp, hA, hrow, hB⟩ := hrel
      obtain ⟨h0c, h1c, h2c⟩ := Hlen.out _ hB
      obtain ⟨y, hy⟩ := frow x HX.out.2.1 hp
      obtain ⟨g2, r2, m2, hx1⟩ := HX.out.1.allP hy
      obtain ⟨ay, az⟩ := hx1 _ hB
      obtain ⟨ov, cv, rfl, _⟩ := own_slice hrow
      have lt1 : (p : Int) ≤ (s.size : Int) := by omega
      have jp : IntKind.i64.wrap ((p : Int) + 1) = ((p + 1 : Nat) : Int) := by rw [IntWalk.i64_in _ (by omega)]; omega
      have hy6 : out.size + y.size ≤ 65536 := by
        have h1 := hA.ot
        by_cases h : p < s.size
        · rw [frR_lt h hy, outA_append, (in_map_P _).2, bL_len] at h1; omega
        · obtain rfl : p = s.size := by omega
          rw [frR_eq hy, (in_map_P _).2, bL_len] at h1; omega
      have HB := Lib.hid (And.intro hrow hB)
      have HA := Lib.hid (And.intro hA hy)
      clear hA hy hx1 h0c h1c h2c hrow hB
      by_cases hF2 : p < s.size
      · have hQ := ad_put HA.out.1 hF2 HA.out.2
        obtain ⟨d, hd⟩ := drow x HX.out.2.1 hF2
        obtain ⟨g3, r3, m3, hx3⟩ := HX.out.1.allD hd
        have e1 : ((p : Int) == (s.size : Int)) = false := by rw [beq_eq_false_iff_ne]; omega
        have e2 : (p == s.size) = false := by rw [beq_eq_false_iff_ne]; omega
        have lt2 : (p : Int) < (s.size : Int) := by omega
        have hsz2 : (out ++ y).size = out.size + y.size := ByteArray.size_append
        have Hx3 := Lib.hid hx3
        cases d with
        | false =>
          have hK := ad_keep hQ hF2 hd
          have HK := Lib.hid (And.intro hK hsz2)
          clear hK hQ hd hx3 hsz2
          go_wp2_with (first | (at_builtin; refine wpList_append_own_at _ rfl _ _ 41 rfl WM.heap.size 5 i0 (.int .u8 0) 1 1 Try.underlying41 hi hz0 hz1 hz2 rfl (by decide) _ _ _ rfl (own_below HK2.out ((Below.refl w2.heap.size w2).alloc (Nat.le_refl _) (.cells #[.int .u8 (s[p]'hF2).toNat] 5))) ⟨w2.heap.size, 0, none⟩ 1 1 [.int .u8 (s[p]'hF2).toNat] rfl rfl (World.news_of_block (cs := #[.int .u8 (s[p]'hF2).toNat]) (t := 5) (fr := (0, 0)) HN.out) (fun x hx => by simp at hx; rcases hx with rfl; rfl) (by unfold maxLen; omega) (by omega) (by simp; have := HG.out.2.size; omega) ?_; intro v3 w3 hown3 hg3 _ hv3; obtain ⟨ov3, cv3, rfl, _⟩ := own_slice hown3; have HA3 := Lib.hid (And.intro hown3 ((HG.out.2.trans (((Below.refl w2.heap.size w2).alloc (Nat.le_refl _) (.cells #[.int .u8 (s[p]'hF2).toNat] 5)).mono HG.out.2.size)).grown hg3 (Nat.le_trans HG.out.2.size (by simp)) (fun r e => (HK2.out.lt r e).1))); clear hown3 hg3 hv3) | (at_builtin; refine Lib.wpList_append_own_string _ rfl _ _ 41 9 rfl WM.heap.size 5 i0 Try.underlying41 Try.underlying9 hi hz0 hz1 hz2 _ _ _ rfl HB.out.1 _ rfl (by unfold maxLen; omega) (by omega) HB.out.2.size ?_; intro v2 w2 r2' g2' hz9; clear hz9; obtain ⟨ov2, cv2, rfl, _⟩ := own_slice r2'; have HG := Lib.hid (And.intro r2' (HB.out.2.grown g2' HB.out.2.size (fun r e => (HB.out.1.lt r e).1))); clear r2' g2'; have hrow2 : w2.ownsRow WM.heap.size 5 1 (.slice ov2 (out.size + y.size) cv2) (out.size + y.size) (Lib.strCells (out ++ y)) := (by rw [strCells_app]; exact HG.out.1); have HK2 := Lib.hid hrow2; have HN := Lib.hid (Blk.new w2 #[.int .u8 (s[p]'hF2).toNat] 5); obtain ⟨d1, d2⟩ := Hx3.out _ HG.out.2; clear hrow2))
          go_roundw
          case rel =>
            refine ⟨p + 1, out ++ y ++ ⟨#[s[p]'hF2]⟩, by go_num, by omega, HK.out.1, ?_, HA3.out.2⟩
            have h1 := HA3.out.1
            have h2 : (out ++ y ++ ⟨#[s[p]'hF2]⟩).size = out.size + y.size + 1 := by rw [ByteArray.size_append, HK.out.2]; rfl
            rw [h2, strCells_app]
            exact h1
          case measure => simp [intOf] <;> omega
        | true =>
          obtain ⟨c0, hc⟩ : ∃ c, x.B[p]? = some c := ⟨_, List.getElem?_eq_getElem (by rw [HX.out.2.1.lB]; exact hF2)⟩
          obtain ⟨g4, r4, m4, hx4⟩ := HX.out.1.allB hc
          have Hx4 := Lib.hid hx4
          have hD := ad_drop hQ hF2 hd hc
          by_cases hcc : s[p]'hF2 = c0
          · rw [if_pos hcc] at hD
            have q1 : ((c0.toNat : Int) == ((s[p]'hF2).toNat : Int)) = true := by rw [hcc]; exact beq_self_eq_true _
            have q2 : (c0.toNat == (s[p]'hF2).toNat) = true := by rw [hcc]; exact beq_self_eq_true _
            have HK := Lib.hid (And.intro hD hsz2)
            clear hD hQ hd hx3 hsz2 hc hx4 hcc
            go_wp2_with (at_builtin; refine Lib.wpList_append_own_string _ rfl _ _ 41 9 rfl WM.heap.size 5 i0 Try.underlying41 Try.underlying9 hi hz0 hz1 hz2 _ _ _ rfl HB.out.1 _ rfl (by unfold maxLen; omega) (by omega) HB.out.2.size ?_; intro v2 w2 r2' g2' hz9; clear hz9; obtain ⟨ov2, cv2, rfl, _⟩ := own_slice r2'; have HG := Lib.hid (And.intro r2' (HB.out.2.grown g2' HB.out.2.size (fun r e => (HB.out.1.lt r e).1))); clear r2' g2'; have hrow2 : w2.ownsRow WM.heap.size 5 1 (.slice ov2 (out.size + y.size) cv2) (out.size + y.size) (Lib.strCells (out ++ y)) := (by rw [strCells_app]; exact HG.out.1); have HK2 := Lib.hid hrow2; obtain ⟨d1, d2⟩ := Hx3.out _ HG.out.2; obtain ⟨b1, b2⟩ := Hx4.out _ HG.out.2; clear hrow2)
            go_quiet (fail)
            generalize hU : World.drewN _ _ = U
            have hbU := (hU ▸ below_drewN _ _ : Below w2.heap.size w2 U)
            have HU := Lib.hid hbU
            clear hU hbU
            go_wp2
            go_roundw
            case rel => exact ⟨p + 1, out ++ y, by go_num, by omega, HK.out.1, by rw [HK.out.2]; exact own_below HK2.out HU.out, HG.out.2.trans (HU.out.mono HG.out.2.size)⟩
            case measure => simp [intOf] <;> omega
          · rw [if_neg hcc] at hD
            have q0 : c0.toNat ≠ (s[p]'hF2).toNat := fun e => hcc (UInt8.toNat_inj.1 e.symm)
            have q1 : ((c0.toNat : Int) == ((s[p]'hF2).toNat : Int)) = false := by rw [beq_eq_false_iff_ne]; omega
            have q2 : (c0.toNat == (s[p]'hF2).toNat) = false := by rw [beq_eq_false_iff_ne]; exact q0
            have eA := appF_none HZ.out.1 (HZ.out.2.1.symm.trans hD)
            have HE := Lib.hid eA
            clear hD hQ hd hx3 hsz2 hc hx4 hcc q0 eA
            go_wp2_with (at_builtin; refine Lib.wpList_append_own_string _ rfl _ _ 41 9 rfl WM.heap.size 5 i0 Try.underlying41 Try.underlying9 hi hz0 hz1 hz2 _ _ _ rfl HB.out.1 _ rfl (by unfold maxLen; omega) (by omega) HB.out.2.size ?_; intro v2 w2 r2' g2' hz9; clear hz9; obtain ⟨ov2, cv2, rfl, _⟩ := own_slice r2'; have HG := Lib.hid (And.intro r2' (HB.out.2.grown g2' HB.out.2.size (fun r e => (HB.out.1.lt r e).1))); clear r2' g2'; have hrow2 : w2.ownsRow WM.heap.size 5 1 (.slice ov2 (out.size + y.size) cv2) (out.size + y.size) (Lib.strCells (out ++ y)) := (by rw [strCells_app]; exact HG.out.1); have HK2 := Lib.hid hrow2; obtain ⟨d1, d2⟩ := Hx3.out _ HG.out.2; obtain ⟨b1, b2⟩ := Hx4.out _ HG.out.2; clear hrow2)
            go_quiet (fail)
            generalize hU : World.drewN _ _ = U
            have hbU := (hU ▸ below_drewN _ _ : Below w2.heap.size w2 U)
            have HU := Lib.hid hbU
            clear hU hbU
            go_wp2
            refine bodyPost_ret (results_tmp2 rfl _ _ _) rfl ?_
            exact ⟨by rw [HE.out]; rfl, HX.out.2.2.1.trans ((HG.out.2.trans (HU.out.mono HG.out.2.size)).mono HX.out.2.2.1.size)⟩
      · obtain rfl : p = s.size := by omega
        have hR := ad_fin HA.out.1 rfl HA.out.2
        have eA := appF_run HZ.out.1 (HZ.out.2.1.symm.trans hR)
        rw [bL_mk] at eA
        have HE := Lib.hid eA
        have e1 : ((s.size : Int) == (s.size : Int)) = true := beq_self_eq_true _
        have e2 : (s.size == s.size) = true := beq_self_eq_true _
        clear hR eA
        go_wp2_with (at_builtin; refine Lib.wpList_append_own_string _ rfl _ _ 41 9 rfl WM.heap.size 5 i0 Try.underlying41 Try.underlying9 hi hz0 hz1 hz2 _ _ _ rfl HB.out.1 _ rfl (by unfold maxLen; omega) (by omega) HB.out.2.size ?_; intro v2 w2 r2' g2' hz9; clear hz9; obtain ⟨ov2, cv2, rfl, _⟩ := own_slice r2'; have HG := Lib.hid (And.intro r2' (HB.out.2.grown g2' HB.out.2.size (fun r e => (HB.out.1.lt r e).1))); clear r2' g2'; have hrow2 : w2.ownsRow WM.heap.size 5 1 (.slice ov2 (out.size + y.size) cv2) (out.size + y.size) (Lib.strCells (out ++ y)) := (by rw [strCells_app]; exact HG.out.1); have hconv := conv_own (ByteArray.size_append) hrow2; clear hrow2)
        refine bodyPost_ret (results_tmp2 rfl _ _ _) rfl ?_
        exact ⟨by rw [HE.out]; rfl, HX.out.2.2.1.trans (HG.out.2.mono HX.out.2.2.1.size)⟩
  · have eA : appF s l = (.empty, 5) := by unfold appF; rw [hz]; simp only; rw [if_pos (by simpa using hF)]
    rw [eA]
    have e1 : ((F : Int) == (s.size : Int)) = false := by rw [beq_eq_false_iff_ne]; omega
    have e2 : (F == s.size) = false := by rw [beq_eq_false_iff_ne]; omega
    clear hz hr ho p1 hF
    go_enter Try.func11, Try.ntmps11
    go_wp2_with (fail)
    refine cZ.mono ?_
    rintro e W1 ⟨rfl, hB1⟩
    simp only [szD]
    have H1 := Lib.hid hB1
    clear hB1 cZ
    go_wp2
    refine bodyPost_ret (results_tmp2 rfl _ _ _) rfl ?_
    exact ⟨rfl, H1.out⟩
end Go.Proofs.Ytjccoiephdopkaa
