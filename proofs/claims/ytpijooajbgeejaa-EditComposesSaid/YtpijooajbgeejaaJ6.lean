/- Stage 27: the document's Carry. -/
import Derived.Test.YtpijooajbgeejaaJ5
namespace Go.Proofs.Ytpijooajbgeejaa
set_option linter.unusedVariables false
set_option linter.unusedSimpArgs false
open Go Go.RowKit Go.Shelf
set_option maxRecDepth 100000

/-- What the document's Carry hands back of two changes of as many bytes. -/
def CarrD (l1 l2 : List Sp) (w : World) (e : Ending) (w' : World) : Prop :=
  (carrA (atL (plainM l1)) (atL (plainM l2)) = none ∧ e = .returned (.tuple #[.slice none 0 0, .slice none 0 0, .int .i64 270]) ∧ Below w.heap.size w w') ∨
  (∃ U V, carrA (atL (plainM l1)) (atL (plainM l2)) = some (U, V) ∧ U.length ≤ 300000 ∧ V.length ≤ 300000 ∧
    ((65536 < outA U ∧ e = .returned (.tuple #[.slice none 0 0, .slice none 0 0, .int .i64 3]) ∧ Below w.heap.size w w') ∨
     (outA U ≤ 65536 ∧ ∃ v1 v2, e = .returned (.tuple #[v1, v2, .int .i64 0]) ∧ w'.ownsRow w.heap.size 46 3 v1 (nfA U).length ((nfA U).flatMap encS) ∧ w'.ownsRow w.heap.size 46 3 v2 (nfA V).length ((nfA V).flatMap encS) ∧ Below w.heap.size w w')))
theorem d2_new (W : World) : D2 W W.heap.size (W.heap.size + 1) (W.heap.size + 1 + 1) ((W.alloc (.cells #[.slice none 0 0, .string .empty, .string .empty] 70)).alloc (.cells #[.slice none 0 0, .string .empty, .string .empty] 70)) [] [] := by
  have b1 := (Below.refl W.heap.size W).alloc (Nat.le_refl _) (.cells #[.slice none 0 0, .string .empty, .string .empty] 70)
  have n1 := Blk.new W #[.slice none 0 0, .string .empty, .string .empty] 70
  obtain ⟨W1, hW1⟩ : ∃ X, W.alloc (.cells #[.slice none 0 0, .string .empty, .string .empty] 70) = X := ⟨_, rfl⟩
  have s1 : W1.heap.size = W.heap.size + 1 := by rw [← hW1]; simp
  rw [hW1] at b1 n1 ⊢
  have b2 := b1.alloc b1.size (.cells #[.slice none 0 0, .string .empty, .string .empty] 70)
  have n2 := Blk.new W1 #[.slice none 0 0, .string .empty, .string .empty] 70
  replace n1 := n1.alloc (.cells #[.slice none 0 0, .string .empty, .string .empty] 70)
  rw [s1] at n2
  exact ⟨.slice none 0 0, .slice none 0 0, ⟨n1, World.ownsRow_nil _ _ _ _, by omega, by simp [s1]⟩, ⟨n2, World.ownsRow_nil _ _ _ _, by omega, by simp [s1]⟩, fun q => .inl (fun e => by cases e), by omega, Nat.le_refl _, b2⟩
theorem d2_new' (W : World) {k : Nat} (hk : W.heap.size = k) : D2 W k (k + 1) (k + 1 + 1) ((W.alloc (.cells #[.slice none 0 0, .string .empty, .string .empty] 70)).alloc (.cells #[.slice none 0 0, .string .empty, .string .empty] 70)) [] [] := by
  subst hk; exact d2_new W
theorem frow (x : Sd) {F : Nat} {A : List Atm} (h : SdOk x F A) {p : Nat} (hp : p ≤ F) : ∃ s, x.P[p]? = some s := ⟨_, List.getElem?_eq_getElem (by rw [h.lP]; omega)⟩
theorem drow (x : Sd) {F : Nat} {A : List Atm} (h : SdOk x F A) {p : Nat} (hp : p < F) : ∃ s, x.D[p]? = some s := ⟨_, List.getElem?_eq_getElem (by rw [h.lD]; omega)⟩
theorem brow (x : Sd) {F : Nat} {A : List Atm} (h : SdOk x F A) {p : Nat} (hp : p < F) : ∃ s, x.B[p]? = some s := ⟨_, List.getElem?_eq_getElem (by rw [h.lB]; omega)⟩
set_option maxHeartbeats 16000000 in
theorem carryD_of (o1 o2 : Option Addr) (l1 l2 : List Sp) (c1 c2 F T G : Nat) (hn1 : l1.length ≤ 9223372036854775807) (ho1 : OkS l1) (hn2 : l2.length ≤ 9223372036854775807) (ho2 : OkS l2) (hz1 : sizeG l1 0 0 = some (F, T)) (hz2 : sizeG l2 0 0 = some (F, G)) (w : World) (hr1 : RowAt w encS 3 o1 l1) (hr2 : RowAt w encS 3 o2 l2) :
    Calls Try.prog 13 #[.slice o1 l1.length c1, .slice o2 l2.length c2] w (CarrD l1 l2 w) := by
  have p1 := plain_cu hz1
  have p2 := plain_cu hz2
  have cS1 := fun X (hX : Below w.heap.size w X) => sizesD_any l1 o1 c1 hn1 ho1 X (hr1.below encS_len (by decide) hX)
  have cS2 := fun X (hX : Below w.heap.size w X) => sizesD_any l2 o2 c2 hn2 ho2 X (hr2.below encS_len (by decide) hX)
  rw [hz1] at cS1
  rw [hz2] at cS2
  have cP1 := fun X (hX : Below w.heap.size w X) => sayx_any l1 o1 c1 F T hn1 ho1 hz1 X (hr1.below encS_len (by decide) hX)
  have cP2 := fun X (hX : Below w.heap.size w X) => sayx_any l2 o2 c2 F G hn2 ho2 hz2 X (hr2.below encS_len (by decide) hX)
  have hF6 : F ≤ 65536 := p1.2.2.2.1
  have HP := Lib.hid (And.intro p1 p2)
  have e0 : ((F : Int) == (F : Int)) = true := beq_self_eq_true _
  clear hz1 hz2 p1 p2 hr1 hr2 ho1 ho2
  go_enter Try.func13, Try.ntmps13
  go_wp2_with (fail)
  refine (cS1 _ (Below.refl _ _)).mono ?_
  rintro e W2 ⟨rfl, hB2⟩
  simp only [szD]
  have H2 := Lib.hid hB2
  clear hB2
  go_wp2_with (fail)
  refine (cS2 _ H2.out).mono ?_
  rintro e W3 ⟨rfl, hB3⟩
  simp only [szD]
  have H3 := Lib.hid (H2.out.trans (hB3.mono H2.out.size))
  clear hB3 H2
  go_wp2_with (fail)
  refine (cP1 _ H3.out).mono ?_
  rintro e W4 ⟨Ps, Ds, Bs, vP, vD, vB, rfl, hP1, hD1, hB1, lp1, ld1, lb1, hfr1, hB4⟩
  obtain ⟨oP, cP, rfl, _⟩ := own_slice hP1
  obtain ⟨oD, cD, rfl, _⟩ := own_slice hD1
  obtain ⟨oB, cB, rfl, _⟩ := own_slice hB1
  have H4 := Lib.hid (And.intro (H3.out.trans (hB4.mono H3.out.size)) (And.intro hP1 (And.intro hD1 hB1)))
  have HS1 := Lib.hid (And.intro lp1 (And.intro ld1 (And.intro lb1 hfr1)))
  clear hB4 hP1 hD1 hB1 lp1 ld1 lb1 hfr1
  go_wp2_with (fail)
  refine (cP2 _ H4.out.1).mono ?_
  rintro e W5 ⟨Qs, Es, Cs, uP, uD, uB, rfl, hP2, hD2, hB2, lp2, ld2, lb2, hfr2, hB5⟩
  obtain ⟨pP, dP, rfl, _⟩ := own_slice hP2
  obtain ⟨pD', dD, rfl, _⟩ := own_slice hD2
  obtain ⟨pB, dB, rfl, _⟩ := own_slice hB2
  have H5 := Lib.hid (And.intro (H4.out.1.trans (hB5.mono H4.out.1.size)) (And.intro hP2 (And.intro hD2 (And.intro hB2 hB5))))
  have HS2 := Lib.hid (And.intro lp2 (And.intro ld2 (And.intro lb2 hfr2)))
  clear hB5 hP2 hD2 hB2 lp2 ld2 lb2 hfr2 cS1 cS2 cP1 cP2 H3

  obtain ⟨x, hx⟩ : ∃ x : Sd, (⟨Ps, Ds, Bs⟩ : Sd) = x := ⟨_, rfl⟩
  obtain ⟨y, hy⟩ : ∃ y : Sd, (⟨Qs, Es, Cs⟩ : Sd) = y := ⟨_, rfl⟩
  have hokx : SdOk x F (atL (plainM l1)) := by rw [← hx]; exact ⟨HS1.out.1, HS1.out.2.1, HS1.out.2.2.1, HS1.out.2.2.2⟩
  have hoky : SdOk y F (atL (plainM l2)) := by rw [← hy]; exact ⟨HS2.out.1, HS2.out.2.1, HS2.out.2.2.1, HS2.out.2.2.2⟩
  have q1 := (Below.refl W5.heap.size W5).alloc (Nat.le_refl _) (.cells #[.slice oP (F + 1) cP, .slice oD F cD, .slice oB F cB] 64)
  have k1 := Blk.new W5 #[.slice oP (F + 1) cP, .slice oD F cD, .slice oB F cB] 64
  have q2 := q1.alloc q1.size (.cells #[.slice pP (F + 1) dP, .slice pD' F dD, .slice pB F dB] 64)
  have k2 := Blk.new (W5.alloc (.cells #[.slice oP (F + 1) cP, .slice oD F cD, .slice oB F cB] 64)) #[.slice pP (F + 1) dP, .slice pD' F dD, .slice pB F dB] 64
  replace k1 := k1.alloc (.cells #[.slice pP (F + 1) dP, .slice pD' F dD, .slice pB F dB] 64)
  obtain ⟨WS, hWS⟩ : ∃ Z, (W5.alloc (.cells #[.slice oP (F + 1) cP, .slice oD F cD, .slice oB F cB] 64)).alloc (.cells #[.slice pP (F + 1) dP, .slice pD' F dD, .slice pB F dB] 64) = Z := ⟨_, rfl⟩
  have hsz : WS.heap.size = W5.heap.size + 1 + 1 := by rw [← hWS]; simp
  have k3 : (W5.alloc (.cells #[.slice oP (F + 1) cP, .slice oD F cD, .slice oB F cB] 64)).heap.size = W5.heap.size + 1 := by simp
  rw [k3] at k2
  rw [hWS] at q2 k1 k2
  have hMx : SdM WS W5.heap.size x F := by
    rw [← hx]
    exact SdM.of HS1.out.1 HS1.out.2.1 HS1.out.2.2.1 H4.out.2.1 H4.out.2.2.1 H4.out.2.2.2 ((H5.out.2.2.2.2).trans (q2.mono H5.out.2.2.2.2.size)) k1
  have hMy : SdM WS (W5.heap.size + 1) y F := by
    rw [← hy]
    exact SdM.of HS2.out.1 HS2.out.2.1 HS2.out.2.2.1 H5.out.2.1 H5.out.2.2.1 H5.out.2.2.2.1 q2 k2
  have HX := Lib.hid (And.intro hokx (And.intro hMx (And.intro hoky hMy)))
  have HW := Lib.hid (H5.out.1.trans (q2.mono H5.out.1.size))
  have HI := Lib.hid (d2_new' WS hsz)
  have HC := Lib.hid (cd_start hokx hoky (by obtain ⟨_, _, _, _, _, _, g1⟩ := HP.out.1; obtain ⟨_, _, _, _, _, _, g2⟩ := HP.out.2; have := HP.out.1.2.2.2.2.1; have := HP.out.2.2.2.2.2.1; omega))
  have HWS := Lib.hid hWS
  have HSZ := Lib.hid hsz
  clear hokx hoky q1 k1 q2 k2 hWS hsz k3 hMx hMy hx hy H4 H5 HS1 HS2
  go_wp2_with (fail)
  rw [HWS.out]
  clear HWS
  go_loopw [17, 18] (fun zv pv W => ∃ (z p : Nat) (U V : List Atm), zv = .int .i64 z ∧ pv = .int .i64 p ∧ D2 WS (W5.heap.size + 1 + 1) (W5.heap.size + 1 + 1 + 1) (W5.heap.size + 1 + 1 + 1 + 1) W U V ∧ CdP (atL (plainM l1)) (atL (plainM l2)) x y F p U V z) (fun _ pv _ => F + 1 - (intOf pv).toNat)
  case atStart => exact ⟨0, 0, [], [], rfl, rfl, HI.out, HC.out⟩
  case round =>
    obtain ⟨z, p, U, V, rfl, rfl, hD, hC⟩ := hrel
    have hp := hC.le
    obtain ⟨s, hs⟩ := frow x HX.out.1 hp
    obtain ⟨t, ht⟩ := frow y HX.out.2.2.1 hp
    obtain ⟨hQ, b1, b2, b3⟩ := cd_put hC hs ht
    obtain ⟨g1, r1, m1, hx1⟩ := HX.out.2.1.allP hs
    obtain ⟨g2, r2, m2, hy1⟩ := HX.out.2.2.2.allP ht
    have Hx1 := Lib.hid hx1
    have Hy1 := Lib.hid hy1
    have HQ := Lib.hid hQ
    have hpF : (p : Int) ≤ (F : Int) := by omega
    have hp1 : (p : Int) < (F : Int) + 1 := by omega
    have hp2 : p < F + 1 := by omega
    have pn := (dk_bd U).2.1
    have pv := (dk_bd (V ++ List.replicate s.size .K)).2.1
    rw [List.length_append, List.length_replicate] at pv
    obtain ⟨pu, hpu⟩ : ∃ pu, (fdL U mk0).put = pu := ⟨_, rfl⟩
    obtain ⟨pw, hpw⟩ : ∃ pw, (fdL (V ++ List.replicate s.size .K) mk0).put = pw := ⟨_, rfl⟩
    rw [hpu] at pn
    rw [hpw] at pv
    have hys : pu.size + s.size ≤ 9223372036854775807 := by omega
    have hyt : pw.size + t.size ≤ 9223372036854775807 := by omega
    have js : IntKind.i64.wrap ((z : Int) + (s.size : Int)) = ((z + s.size : Nat) : Int) := by rw [IntWalk.i64_in _ (by omega)]; omega
    obtain ⟨z1, hz1⟩ : ∃ z1, z + s.size = z1 := ⟨_, rfl⟩
    rw [hz1] at js
    have js2 : IntKind.i64.wrap ((z1 : Int) + (t.size : Int)) = ((z1 + t.size : Nat) : Int) := by rw [IntWalk.i64_in _ (by omega)]; omega
    obtain ⟨z2, hz2⟩ : ∃ z2, z1 + t.size = z2 := ⟨_, rfl⟩
    rw [hz2] at js2
    have z26 : z2 ≤ 300000 := by omega
    have jp : IntKind.i64.wrap ((p : Int) + 1) = ((p + 1 : Nat) : Int) := by rw [IntWalk.i64_in _ (by omega)]; omega
    have HU : U.length + s.size + t.size ≤ 300000 := b1
    have HV : V.length + s.size + t.size ≤ 300000 := b2
    have hs6 : s.size ≤ 1000000 := by omega
    have ht6 : t.size ≤ 1000000 := by omega
    have hU1 : (U ++ (bL s).map Atm.P).length ≤ 900000 := by rw [List.length_append, List.length_map, bL_len]; omega
    have hV0 : V.length ≤ 900000 := by omega
    have hpu1 := hD.cell1
    rw [hpu] at hpu1
    obtain ⟨kc, kf⟩ := hpu1
    have HPU := Lib.hid (And.intro hpu hpw)
    have HZ := Lib.hid (And.intro hz1 hz2)
    have HD := Lib.hid hD
    obtain ⟨ax, ay⟩ := hx1 _ hD.low
    clear hD hC hs ht hQ hx1 hy1 hpu hpw hz1 hz2 b1 b2 b3 HU HV
    go_wp2
    refine wp_region_noPanic ?_
    refine wp_region_g (S := untilG [9] (fun X => Below wr.heap.size wr X)) (by kernel_rfl) ?_
    obtain ⟨X11, hX0⟩ : ∃ Z, wr.drew = Z := ⟨_, rfl⟩
    have T0 : Below wr.heap.size wr X11 := hX0 ▸ (Below.refl wr.heap.size wr).drew
    rw [hX0]
    clear hX0
    refine wpAnyG_take [0, 1, 7, 9] (i := 0) (v := (.pointer (some ⟨(W5.heap.size + 1 + 1), 1, none⟩))) rfl (by kernel_rfl) (by kernel_rfl) (by kernel_rfl) (by kernel_rfl) (by kernel_rfl) (by kernel_rfl) (by kernel_rfl) (by kernel_rfl) (fun _ _ _ h => h) (Or.inl ⟨by rfl, ?hy⟩) T0 ?_
    case hy =>
      intro X hX
      go_simp
    try simp only [Act.put, List.getElem_toArray, List.getElem_cons_zero, List.getElem_cons_succ, List.setIfInBounds_toArray, List.set_cons_zero, List.set_cons_succ]
    refine wpAnyG_take [1, 7, 9] (i := 1) (v := (.string pu)) rfl (by kernel_rfl) (by kernel_rfl) (by kernel_rfl) (by kernel_rfl) (by kernel_rfl) (by kernel_rfl) (by kernel_rfl) (by kernel_rfl) (fun _ _ _ h => h) (Or.inl ⟨by rfl, ?hy⟩) T0 ?_
    case hy =>
      intro X hX
      have e0 := at_below kc hX
      go_simp
    try simp only [Act.put, List.getElem_toArray, List.getElem_cons_zero, List.getElem_cons_succ, List.setIfInBounds_toArray, List.set_cons_zero, List.set_cons_succ]
    refine wpAnyG_take [2, 3, 5, 6, 7, 9] (i := 2) (v := (.pointer (some ⟨W5.heap.size, 0, none⟩))) rfl (by kernel_rfl) (by kernel_rfl) (by kernel_rfl) (by kernel_rfl) (by kernel_rfl) (by kernel_rfl) (by kernel_rfl) (by kernel_rfl) (fun _ _ _ h => h) (Or.inl ⟨by rfl, ?hy⟩) T0 ?_
    case hy =>
      intro X hX
      go_simp
    try simp only [Act.put, List.getElem_toArray, List.getElem_cons_zero, List.getElem_cons_succ, List.setIfInBounds_toArray, List.set_cons_zero, List.set_cons_succ]
    refine wpAnyG_take [3, 5, 6, 7, 9] (i := 3) (v := (.slice (some ⟨g1, r1, none⟩) (F + 1) m1)) rfl (by kernel_rfl) (by kernel_rfl) (by kernel_rfl) (by kernel_rfl) (by kernel_rfl) (by kernel_rfl) (by kernel_rfl) (by kernel_rfl) (fun _ _ _ h => h) (Or.inl ⟨by rfl, ?hy⟩) T0 ?_
    case hy =>
      intro X hX
      have e0 := at_below ax hX
      go_simp
    try simp only [Act.put, List.getElem_toArray, List.getElem_cons_zero, List.getElem_cons_succ, List.setIfInBounds_toArray, List.set_cons_zero, List.set_cons_succ]
    refine wpAnyG_take [4, 5, 6, 7, 9] (i := 4) (v := (.int .i64 p)) rfl (by kernel_rfl) (by kernel_rfl) (by kernel_rfl) (by kernel_rfl) (by kernel_rfl) (by kernel_rfl) (by kernel_rfl) (by kernel_rfl) (fun _ _ _ h => h) (Or.inl ⟨by rfl, ?hy⟩) T0 ?_
    case hy =>
      intro X hX
      go_simp
    try simp only [Act.put, List.getElem_toArray, List.getElem_cons_zero, List.getElem_cons_succ, List.setIfInBounds_toArray, List.set_cons_zero, List.set_cons_succ]
    refine wpAnyG_take [5, 6, 7, 9] (i := 5) (v := (.pointer (some ⟨g1, r1 + p, none⟩))) rfl (by kernel_rfl) (by kernel_rfl) (by kernel_rfl) (by kernel_rfl) (by kernel_rfl) (by kernel_rfl) (by kernel_rfl) (by kernel_rfl) (fun _ _ _ h => h) (Or.inl ⟨by rfl, ?hy⟩) T0 ?_
    case hy =>
      intro X hX
      (go_simp; try rfl)
    try simp only [Act.put, List.getElem_toArray, List.getElem_cons_zero, List.getElem_cons_succ, List.setIfInBounds_toArray, List.set_cons_zero, List.set_cons_succ]
    refine wpAnyG_take [6, 7, 9] (i := 6) (v := (.string s)) rfl (by kernel_rfl) (by kernel_rfl) (by kernel_rfl) (by kernel_rfl) (by kernel_rfl) (by kernel_rfl) (by kernel_rfl) (by kernel_rfl) (fun _ _ _ h => h) (Or.inl ⟨by rfl, ?hy⟩) T0 ?_
    case hy =>
      intro X hX
      have e0 := at_below ay hX
      go_simp
    try simp only [Act.put, List.getElem_toArray, List.getElem_cons_zero, List.getElem_cons_succ, List.setIfInBounds_toArray, List.set_cons_zero, List.set_cons_succ]
    refine wpAnyG_take [7, 9] (i := 7) (v := (.string (pu ++ s))) rfl (by kernel_rfl) (by kernel_rfl) (by kernel_rfl) (by kernel_rfl) (by kernel_rfl) (by kernel_rfl) (by kernel_rfl) (by kernel_rfl) (fun _ _ _ h => h) (Or.inl ⟨by rfl, ?hy⟩) T0 ?_
    case hy =>
      intro X hX
      go_simp
    try simp only [Act.put, List.getElem_toArray, List.getElem_cons_zero, List.getElem_cons_succ, List.setIfInBounds_toArray, List.set_cons_zero, List.set_cons_succ]
    have kc2 := at_below kc T0
    have kf2 : X11.frozen? ⟨(W5.heap.size + 1 + 1), 1, none⟩ = false := (HD.out.below T0).cell1.2
    refine wpAnyG_all (rs := [8]) (by kernel_rfl) (by simp) ?_
    intro i hi
    simp only [List.mem_cons, List.not_mem_nil, or_false] at hi
    subst hi
    refine wpOp_now rfl rfl ?_
    go_simp
    refine ⟨fun _ => T0, ?_⟩
    try simp only [Act.put, List.getElem_toArray, List.getElem_cons_zero, List.getElem_cons_succ, List.setIfInBounds_toArray, List.set_cons_zero, List.set_cons_succ]
    refine wpAnyG_all (rs := [9]) (by kernel_rfl) (by simp) ?_
    intro i hi
    simp only [List.mem_cons, List.not_mem_nil, or_false] at hi
    subst hi
    refine wpOp_now rfl rfl ?_
    go_simp
    refine ⟨fun h => (nomatch (show (false : Bool) = true from h)), ?_⟩
    refine wpAnyG_done (by kernel_rfl) ?_ _
    refine NoPanic.normal ?_
    have hE := (HD.out.below T0).put1 s
    rw [HPU.out.1] at hE
    obtain ⟨Y1, hY1⟩ : ∃ Z, X11.setCell ⟨(W5.heap.size + 1 + 1), 1, none⟩ (.string (pu ++ s)) = Z := ⟨_, rfl⟩
    rw [hY1] at hE ⊢
    obtain ⟨a1, a2⟩ := Hx1.out _ hE.low
    have HE := Lib.hid hE
    clear hE hY1 T0 kc kf kc2 kf2 ax ay
    go_wp2_with (fail)
    refine (d2_keep2 HE.out s.size hs6 hV0).mono ?_
    rintro e Y2 ⟨rfl, hE⟩
    obtain ⟨b1, b2⟩ := Hy1.out _ hE.low
    have HE2 := Lib.hid hE
    clear hE HE a1 a2
    go_wp2_with (fail)
    refine (d2_keep1 HE2.out t.size ht6 hU1).mono ?_
    rintro e Y3 ⟨rfl, hE⟩
    obtain ⟨b1, b2⟩ := Hy1.out _ hE.low
    obtain ⟨kc, kf⟩ := hE.cell2
    rw [HPU.out.2] at kc
    have HE3 := Lib.hid hE
    clear hE HE2
    go_wp2
    refine wp_region_noPanic ?_
    refine wp_region_g (S := untilG [9] (fun X => Below Y3.heap.size Y3 X)) (by kernel_rfl) ?_
    obtain ⟨X14, hX0⟩ : ∃ Z, Y3.drew = Z := ⟨_, rfl⟩
    have T0 : Below Y3.heap.size Y3 X14 := hX0 ▸ (Below.refl Y3.heap.size Y3).drew
    rw [hX0]
    clear hX0
    refine wpAnyG_take [0, 1, 7, 9] (i := 0) (v := (.pointer (some ⟨(W5.heap.size + 1 + 1 + 1), 1, none⟩))) rfl (by kernel_rfl) (by kernel_rfl) (by kernel_rfl) (by kernel_rfl) (by kernel_rfl) (by kernel_rfl) (by kernel_rfl) (by kernel_rfl) (fun _ _ _ h => h) (Or.inl ⟨by rfl, ?hy⟩) T0 ?_
    case hy =>
      intro X hX
      go_simp
    try simp only [Act.put, List.getElem_toArray, List.getElem_cons_zero, List.getElem_cons_succ, List.setIfInBounds_toArray, List.set_cons_zero, List.set_cons_succ]
    refine wpAnyG_take [1, 7, 9] (i := 1) (v := (.string pw)) rfl (by kernel_rfl) (by kernel_rfl) (by kernel_rfl) (by kernel_rfl) (by kernel_rfl) (by kernel_rfl) (by kernel_rfl) (by kernel_rfl) (fun _ _ _ h => h) (Or.inl ⟨by rfl, ?hy⟩) T0 ?_
    case hy =>
      intro X hX
      have e0 := at_below kc hX
      go_simp
    try simp only [Act.put, List.getElem_toArray, List.getElem_cons_zero, List.getElem_cons_succ, List.setIfInBounds_toArray, List.set_cons_zero, List.set_cons_succ]
    refine wpAnyG_take [2, 3, 5, 6, 7, 9] (i := 2) (v := (.pointer (some ⟨(W5.heap.size + 1), 0, none⟩))) rfl (by kernel_rfl) (by kernel_rfl) (by kernel_rfl) (by kernel_rfl) (by kernel_rfl) (by kernel_rfl) (by kernel_rfl) (by kernel_rfl) (fun _ _ _ h => h) (Or.inl ⟨by rfl, ?hy⟩) T0 ?_
    case hy =>
      intro X hX
      go_simp
    try simp only [Act.put, List.getElem_toArray, List.getElem_cons_zero, List.getElem_cons_succ, List.setIfInBounds_toArray, List.set_cons_zero, List.set_cons_succ]
    refine wpAnyG_take [3, 5, 6, 7, 9] (i := 3) (v := (.slice (some ⟨g2, r2, none⟩) (F + 1) m2)) rfl (by kernel_rfl) (by kernel_rfl) (by kernel_rfl) (by kernel_rfl) (by kernel_rfl) (by kernel_rfl) (by kernel_rfl) (by kernel_rfl) (fun _ _ _ h => h) (Or.inl ⟨by rfl, ?hy⟩) T0 ?_
    case hy =>
      intro X hX
      have e0 := at_below b1 hX
      go_simp
    try simp only [Act.put, List.getElem_toArray, List.getElem_cons_zero, List.getElem_cons_succ, List.setIfInBounds_toArray, List.set_cons_zero, List.set_cons_succ]
    refine wpAnyG_take [4, 5, 6, 7, 9] (i := 4) (v := (.int .i64 p)) rfl (by kernel_rfl) (by kernel_rfl) (by kernel_rfl) (by kernel_rfl) (by kernel_rfl) (by kernel_rfl) (by kernel_rfl) (by kernel_rfl) (fun _ _ _ h => h) (Or.inl ⟨by rfl, ?hy⟩) T0 ?_
    case hy =>
      intro X hX
      go_simp
    try simp only [Act.put, List.getElem_toArray, List.getElem_cons_zero, List.getElem_cons_succ, List.setIfInBounds_toArray, List.set_cons_zero, List.set_cons_succ]
    refine wpAnyG_take [5, 6, 7, 9] (i := 5) (v := (.pointer (some ⟨g2, r2 + p, none⟩))) rfl (by kernel_rfl) (by kernel_rfl) (by kernel_rfl) (by kernel_rfl) (by kernel_rfl) (by kernel_rfl) (by kernel_rfl) (by kernel_rfl) (fun _ _ _ h => h) (Or.inl ⟨by rfl, ?hy⟩) T0 ?_
    case hy =>
      intro X hX
      (go_simp; try rfl)
    try simp only [Act.put, List.getElem_toArray, List.getElem_cons_zero, List.getElem_cons_succ, List.setIfInBounds_toArray, List.set_cons_zero, List.set_cons_succ]
    refine wpAnyG_take [6, 7, 9] (i := 6) (v := (.string t)) rfl (by kernel_rfl) (by kernel_rfl) (by kernel_rfl) (by kernel_rfl) (by kernel_rfl) (by kernel_rfl) (by kernel_rfl) (by kernel_rfl) (fun _ _ _ h => h) (Or.inl ⟨by rfl, ?hy⟩) T0 ?_
    case hy =>
      intro X hX
      have e0 := at_below b2 hX
      go_simp
    try simp only [Act.put, List.getElem_toArray, List.getElem_cons_zero, List.getElem_cons_succ, List.setIfInBounds_toArray, List.set_cons_zero, List.set_cons_succ]
    refine wpAnyG_take [7, 9] (i := 7) (v := (.string (pw ++ t))) rfl (by kernel_rfl) (by kernel_rfl) (by kernel_rfl) (by kernel_rfl) (by kernel_rfl) (by kernel_rfl) (by kernel_rfl) (by kernel_rfl) (fun _ _ _ h => h) (Or.inl ⟨by rfl, ?hy⟩) T0 ?_
    case hy =>
      intro X hX
      go_simp
    try simp only [Act.put, List.getElem_toArray, List.getElem_cons_zero, List.getElem_cons_succ, List.setIfInBounds_toArray, List.set_cons_zero, List.set_cons_succ]
    have kc2 := at_below kc T0
    have kf2 : X14.frozen? ⟨(W5.heap.size + 1 + 1 + 1), 1, none⟩ = false := (HE3.out.below T0).cell2.2
    refine wpAnyG_all (rs := [8]) (by kernel_rfl) (by simp) ?_
    intro i hi
    simp only [List.mem_cons, List.not_mem_nil, or_false] at hi
    subst hi
    refine wpOp_now rfl rfl ?_
    go_simp
    refine ⟨fun _ => T0, ?_⟩
    try simp only [Act.put, List.getElem_toArray, List.getElem_cons_zero, List.getElem_cons_succ, List.setIfInBounds_toArray, List.set_cons_zero, List.set_cons_succ]
    refine wpAnyG_all (rs := [9]) (by kernel_rfl) (by simp) ?_
    intro i hi
    simp only [List.mem_cons, List.not_mem_nil, or_false] at hi
    subst hi
    refine wpOp_now rfl rfl ?_
    go_simp
    refine ⟨fun h => (nomatch (show (false : Bool) = true from h)), ?_⟩
    refine wpAnyG_done (by kernel_rfl) ?_ _
    refine NoPanic.normal ?_
    have hE := (HE3.out.below T0).put2 t
    rw [HPU.out.2] at hE
    obtain ⟨Y4, hY4⟩ : ∃ Z, X14.setCell ⟨(W5.heap.size + 1 + 1 + 1), 1, none⟩ (.string (pw ++ t)) = Z := ⟨_, rfl⟩
    rw [hY4] at hE ⊢
    obtain ⟨a1, a2⟩ := Hx1.out _ hE.low
    obtain ⟨b3, b4⟩ := Hy1.out _ hE.low
    have HE4 := Lib.hid hE
    clear hE hY4 T0 kc kf kc2 kf2 b1 b2 HE3
    go_wp2
    go_quiet (fail)
    generalize hU : World.drewN Y4 _ = Y5
    have HE5 := Lib.hid (HE4.out.below (hU ▸ below_drewN _ _))
    clear hU a1 a2 b3 b4 HE4
    by_cases hlt : p < F
    · obtain ⟨d1, hd1⟩ := drow x HX.out.1 hlt
      obtain ⟨d2, hd2⟩ := drow y HX.out.2.2.1 hlt
      obtain ⟨c1', hc1⟩ := brow x HX.out.1 hlt
      obtain ⟨c2', hc2⟩ := brow y HX.out.2.2.1 hlt
      obtain ⟨g3, r3, m3, hx2⟩ := HX.out.2.1.allD hd1
      obtain ⟨g4, r4, m4, hy2⟩ := HX.out.2.2.2.allD hd2
      obtain ⟨g5, r5, m5, hx3⟩ := HX.out.2.1.allB hc1
      obtain ⟨g6, r6, m6, hy3⟩ := HX.out.2.2.2.allB hc2
      have en : ((p : Int) == (F : Int)) = false := by rw [beq_eq_false_iff_ne]; omega
      have en2 : (p == F) = false := by rw [beq_eq_false_iff_ne]; omega
      have lt1 : (p : Int) < (F : Int) := by omega
      obtain ⟨a1, a2⟩ := hx2 _ HE5.out.low
      obtain ⟨a3, a4⟩ := hy2 _ HE5.out.low
      obtain ⟨a5, a6⟩ := hx3 _ HE5.out.low
      obtain ⟨a7, a8⟩ := hy3 _ HE5.out.low
      have hQ := HQ.out
      rw [show z + s.size + t.size = z2 from by rw [HZ.out.1, HZ.out.2]] at hQ
      have HQ2 := Lib.hid hQ
      have HUl := hQ.lu
      have HVl := hQ.lv
      rw [if_pos hlt] at HUl HVl
      have HUL := Lib.hid (show (U ++ (bL s).map Atm.P ++ List.replicate t.size Atm.K).length ≤ 900000 by omega)
      have HVL := Lib.hid (show (V ++ List.replicate s.size Atm.K ++ (bL t).map Atm.P).length ≤ 900000 by omega)
      have HH := Lib.hid (And.intro hd1 (And.intro hd2 (And.intro hc1 hc2)))
      have HFx := Lib.hid (And.intro hx2 (And.intro hy2 (And.intro hx3 hy3)))
      clear hx2 hy2 hx3 hy3 hd1 hd2 hc1 hc2 hQ HUl HVl hU1
      cases d1 with
      | true =>
        cases d2 with
        | true =>
          by_cases hcc : c1' = c2'
          · have ec : ((c1'.toNat : Int) == (c2'.toNat : Int)) = true := by rw [hcc]; exact beq_self_eq_true _
            have hC := cd_DD HQ2.out hlt HH.out.1 HH.out.2.1 HH.out.2.2.1 HH.out.2.2.2
            rw [if_pos hcc] at hC
            have HC := Lib.hid hC
            clear hC hcc
            go_wp2
            go_quiet (fail)
            generalize hU : World.drewN Y5 _ = Y6
            have HE6 := Lib.hid (HE5.out.below (hU ▸ below_drewN _ _))
            clear hU
            go_wp2
            go_roundw
            case rel => exact ⟨z2, p + 1, _, _, rfl, by go_num, HE6.out, HC.out⟩
            case measure => simp [intOf] <;> omega
          · have ec : ((c1'.toNat : Int) == (c2'.toNat : Int)) = false := by rw [beq_eq_false_iff_ne]; intro e; exact hcc (UInt8.toNat_inj.1 (by omega))
            have hC := cd_DD HQ2.out hlt HH.out.1 HH.out.2.1 HH.out.2.2.1 HH.out.2.2.2
            rw [if_neg hcc] at hC
            have HC := Lib.hid hC
            clear hC hcc
            go_wp2
            go_quiet (fail)
            generalize hU : World.drewN Y5 _ = Y6
            have HE6 := Lib.hid (HE5.out.below (hU ▸ below_drewN _ _))
            clear hU
            go_wp2
            refine bodyPost_ret (results_tmp3 rfl _ _ _) rfl ?_
            exact .inl ⟨HC.out, rfl, HW.out.trans (HE6.out.low.mono (by have := HW.out.size; omega))⟩
        | false =>
          have HC := Lib.hid (cd_DK HQ2.out hlt HH.out.1 HH.out.2.1 HH.out.2.2.1)
          go_wp2_with (fail)
          refine (d2_drop1 HE5.out c1' HUL.out).mono ?_
          rintro e Y6 ⟨rfl, hE⟩
          have HE6 := Lib.hid hE
          clear hE
          go_wp2
          go_roundw
          case rel => exact ⟨z2, p + 1, _, _, rfl, by go_num, HE6.out, HC.out⟩
          case measure => simp [intOf] <;> omega
      | false =>
        cases d2 with
        | true =>
          have HC := Lib.hid (cd_KD HQ2.out hlt HH.out.1 HH.out.2.1 HH.out.2.2.2)
          go_wp2_with (fail)
          refine (d2_drop2 HE5.out c2' HVL.out).mono ?_
          rintro e Y6 ⟨rfl, hE⟩
          have HE6 := Lib.hid hE
          clear hE
          go_wp2
          go_roundw
          case rel => exact ⟨z2, p + 1, _, _, rfl, by go_num, HE6.out, HC.out⟩
          case measure => simp [intOf] <;> omega
        | false =>
          have HC := Lib.hid (cd_KK HQ2.out hlt HH.out.1 HH.out.2.1)
          have jz3 : IntKind.i64.wrap ((z2 : Int) + 1) = ((z2 + 1 : Nat) : Int) := by rw [IntWalk.i64_in _ (by omega)]; omega
          go_wp2_with (fail)
          refine (d2_keep1 HE5.out 1 (by omega) HUL.out).mono ?_
          rintro e Y6 ⟨rfl, hE⟩
          have HE6 := Lib.hid hE
          clear hE
          go_wp2_with (fail)
          refine (d2_keep2 HE6.out 1 (by omega) HVL.out).mono ?_
          rintro e Y7 ⟨rfl, hE⟩
          have HE7 := Lib.hid hE
          clear hE HE6
          go_wp2
          go_roundw
          case rel => exact ⟨z2 + 1, p + 1, _, _, by first | rfl | go_num, by go_num, HE7.out, HC.out⟩
          case measure => simp [intOf] <;> omega
    · have en : ((p : Int) == (F : Int)) = true := by rw [beq_iff_eq]; omega
      have en2 : (p == F) = true := by rw [beq_iff_eq]; omega
      have hQ := HQ.out
      rw [show z + s.size + t.size = z2 from by rw [HZ.out.1, HZ.out.2]] at hQ
      have HQ2 := Lib.hid hQ
      have HEnd := Lib.hid (cd_end hQ hlt)
      have HUl := hQ.lu
      have HVl := hQ.lv
      rw [if_neg hlt] at HUl HVl
      have HUL := Lib.hid (show (U ++ (bL s).map Atm.P ++ List.replicate t.size Atm.K).length ≤ 300000 by omega)
      have HVL := Lib.hid (show (V ++ List.replicate s.size Atm.K ++ (bL t).map Atm.P).length ≤ 300000 by omega)
      clear hQ HUl HVl hU1 hlt
      by_cases hz6 : 65536 < z2
      · have d1 : decide ((65536 : Int) < (z2 : Int)) = true := decide_eq_true (by omega)
        have HZ6 := Lib.hid hz6
        clear hz6
        go_wp2
        refine bodyPost_ret (results_tmp3 rfl _ _ _) rfl ?_
        exact .inr ⟨_, _, HEnd.out, HUL.out, HVL.out, .inl ⟨by rw [← HQ2.out.sz]; exact HZ6.out, rfl, HW.out.trans (HE5.out.low.mono (by have := HW.out.size; omega))⟩⟩
      · have d1 : decide ((65536 : Int) < (z2 : Int)) = false := decide_eq_false (by omega)
        have HZ6 := Lib.hid hz6
        clear hz6
        go_wp2_with (fail)
        refine (d2_end1 HE5.out (by have := HUL.out; omega)).mono ?_
        rintro e Y6 ⟨rfl, v1, v2, hE⟩
        have HE6 := Lib.hid hE
        clear hE
        go_wp2_with (fail)
        refine (d2_end2 HE6.out (by have := HVL.out; omega)).mono ?_
        rintro e Y7 ⟨rfl, v3, hE⟩
        have e1 := hE.1.cells.1
        have e2 := hE.2.1.cells.1
        obtain ⟨ov1, cv1, rfl, _⟩ := own_slice hE.1.ro
        obtain ⟨ov2, cv2, rfl, _⟩ := own_slice hE.2.1.ro
        have HE7 := Lib.hid hE
        obtain ⟨N1, hN1⟩ : ∃ n, (nfA (U ++ (bL s).map Atm.P ++ List.replicate t.size Atm.K)).length = n := ⟨_, rfl⟩
        obtain ⟨N2, hN2⟩ : ∃ n, (nfA (V ++ List.replicate s.size Atm.K ++ (bL t).map Atm.P)).length = n := ⟨_, rfl⟩
        rw [hN1] at e1
        rw [hN2] at e2
        have HN := Lib.hid (And.intro hN1 hN2)
        clear hE HE6 hN1 hN2
        go_wp2
        go_quiet (fail)
        generalize hU : World.drewN Y7 _ = Y8
        have hb8 : Below Y7.heap.size Y7 Y8 := hU ▸ below_drewN _ _
        have HE8 := Lib.hid (And.intro (own_below HE7.out.1.ro hb8) (And.intro (own_below HE7.out.2.1.ro hb8) (HE7.out.2.2.2.2.2.trans (hb8.mono HE7.out.2.2.2.2.2.size))))
        clear hU hb8 HE7
        go_wp2
        refine bodyPost_ret (results_tmp3 rfl _ _ _) rfl ?_
        have hws := HW.out.size
        have hsz := HSZ.out
        exact .inr ⟨_, _, HEnd.out, HUL.out, HVL.out, .inr ⟨by rw [← HQ2.out.sz]; have := HZ6.out; omega, _, _, rfl, by rw [← HN.out.1]; exact own_base HE8.out.1 (by omega), by rw [← HN.out.2]; exact own_base HE8.out.2.1 (by omega), HW.out.trans (HE8.out.2.2.mono hws)⟩⟩
end Go.Proofs.Ytpijooajbgeejaa
