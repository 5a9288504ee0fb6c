/- Stage 27: the document's Compose. -/
import Derived.Test.YtpijooajbgeejaaM1
import Derived.Test.YtpijooajbgeejaaJ6
namespace Go.Proofs.Ytpijooajbgeejaa
set_option linter.unusedVariables false
set_option linter.unusedSimpArgs false
open Go Go.RowKit Go.Shelf
set_option maxRecDepth 100000

/-- What the document's Compose hands back of two changes that may be laid together. -/
def CompD (l1 l2 : List Sp) (w : World) (e : Ending) (w' : World) : Prop :=
  (compA (atL (plainM l1)) (atL (plainM l2)) = none ∧ e = .returned (.tuple #[.slice none 0 0, .int .i64 270]) ∧ Below w.heap.size w w') ∨
  (∃ C v, compA (atL (plainM l1)) (atL (plainM l2)) = some C ∧ e = .returned (.tuple #[v, .int .i64 0]) ∧ w'.ownsRow w.heap.size 46 3 v (nfA C).length ((nfA C).flatMap encS) ∧ Below w.heap.size w w')
theorem infoMid : (Try.prog.info? 68).map (fun i => (i.zero, i.size, i.bytes)) = some (some (.agg #[.int .i64 0, .int .u8 0]), 2, 16) := by kernel_rfl
theorem SdM.below {W X : World} {bx : Nat} {x : Sd} {F : Nat} (h : SdM W bx x F) (hX : Below W.heap.size W X) : SdM X bx x F := by
  obtain ⟨hl, gP, gD, gB, cP, cD, cB, h1, h2, h3, h4, h5⟩ := h
  exact ⟨Nat.lt_of_lt_of_le hl hX.size, gP, gD, gB, cP, cD, cB, h1.below' hX, h2.below encP_len (by decide) hX, h3.below encO_len (by decide) hX, RowAt.below (k := 1) (fun _ => rfl) (by decide) h4 hX, h5⟩
theorem SdM.hdr {W : World} {bx : Nat} {x : Sd} {F : Nat} (h : SdM W bx x F) : ∃ gP cP gD cD gB cB, ∀ X, Below W.heap.size W X → X.cell? ⟨bx, 0, none⟩ = some (.slice gP (F + 1) cP) ∧ X.cell? ⟨bx, 1, none⟩ = some (.slice gD F cD) ∧ X.cell? ⟨bx, 2, none⟩ = some (.slice gB F cB) := by
  obtain ⟨hl, gP, gD, gB, cP, cD, cB, h1, h2, h3, h4, h5⟩ := h
  exact ⟨gP, cP, gD, cD, gB, cB, fun X hX => ⟨at_below (show W.cell? ⟨bx, 0, none⟩ = some _ from h1.cell 0) hX, at_below (show W.cell? ⟨bx, 1, none⟩ = some _ from h1.cell 1) hX, at_below (show W.cell? ⟨bx, 2, none⟩ = some _ from h1.cell 2) hX⟩⟩
/-- One maker of the document's. -/
def D1 (w0 : World) (B b : Nat) (W : World) (A : List Atm) : Prop := ∃ v, DkA W B b v A ∧ w0.heap.size ≤ B ∧ Below w0.heap.size w0 W
section
variable {w0 W X : World} {B b : Nat} {A : List Atm}
theorem D1.below (h : D1 w0 B b W A) (hb : Below W.heap.size W X) : D1 w0 B b X A := by
  obtain ⟨v, h1, h2, h3⟩ := h
  exact ⟨v, h1.below hb, h2, h3.trans (hb.mono h3.size)⟩
theorem D1.low (h : D1 w0 B b W A) : Below w0.heap.size w0 W := by
  obtain ⟨v, h1, h2, h3⟩ := h
  exact h3
theorem d1_keep (h : D1 w0 B b W A) (n : Nat) (hn : n ≤ 1000000) (hA : A.length ≤ 900000) :
    Calls Try.prog 28 #[.pointer (some ⟨B, 0, none⟩), .int .i64 n] W fun e W' => e = .returned (.tuple #[]) ∧ D1 w0 B b W' (A ++ List.replicate n .K) := by
  obtain ⟨v, h1, h2, h3⟩ := h
  refine (dka_keep h1 n hn hA).mono ?_
  rintro e W' ⟨rfl, v', g1, g2⟩
  exact ⟨rfl, v', g1, h2, g2.belowK h1 h2 h3⟩
theorem d1_drop (h : D1 w0 B b W A) (c : UInt8) (hA : A.length ≤ 900000) :
    Calls Try.prog 27 #[.pointer (some ⟨B, 0, none⟩), .int .u8 c.toNat] W fun e W' => e = .returned (.tuple #[]) ∧ D1 w0 B b W' (A ++ [.D c]) := by
  obtain ⟨v, h1, h2, h3⟩ := h
  refine (dka_drop h1 c hA).mono ?_
  rintro e W' ⟨rfl, v', g1, g2⟩
  exact ⟨rfl, v', g1, h2, g2.belowK h1 h2 h3⟩
theorem d1_end (h : D1 w0 B b W A) (hA : A.length ≤ 900000) :
    Calls Try.prog 29 #[.pointer (some ⟨B, 0, none⟩)] W fun e W' => e = .returned (.tuple #[]) ∧ ∃ v, DkB W' B b v (nfA A) .empty .empty ∧ w0.heap.size ≤ B ∧ Below w0.heap.size w0 W' := by
  obtain ⟨v, h1, h2, h3⟩ := h
  refine (dka_end h1 hA).mono ?_
  rintro e W' ⟨rfl, v', g1, g2⟩
  exact ⟨rfl, v', g1, h2, g2.belowK h1 h2 h3⟩
theorem D1.put (h : D1 w0 B b W A) (s : ByteArray) : D1 w0 B b (W.setCell ⟨B, 1, none⟩ (.string ((fdL A mk0).put ++ s))) (A ++ (bL s).map .P) := by
  obtain ⟨v, h1, h2, h3⟩ := h
  exact ⟨v, h1.put s, h2, (KpD.set h1 1 (.string ((fdL A mk0).put ++ s))).belowK h1 h2 h3⟩
theorem D1.cell (h : D1 w0 B b W A) : W.cell? ⟨B, 1, none⟩ = some (.string (fdL A mk0).put) ∧ W.frozen? ⟨B, 1, none⟩ = false := by
  obtain ⟨v, h1, _⟩ := h
  exact ⟨(DkB.cells h1).2.1, DkB.blk h1 |>.frozen 1⟩
theorem D1.new (W : World) : D1 W W.heap.size (W.heap.size + 1) (W.alloc (.cells #[.slice none 0 0, .string .empty, .string .empty] 70)) [] :=
  ⟨.slice none 0 0, ⟨Blk.new W _ _, World.ownsRow_nil _ _ _ _, by omega, by simp⟩, Nat.le_refl _, (Below.refl W.heap.size W).alloc (Nat.le_refl _) _⟩
end
/-- What is still to be made, from a place on. -/
def mdR (x : Sd) (F p : Nat) : List Md := if p ≤ F then mdS x.P x.D (F - p) p else []
theorem mdR_lt {x : Sd} {F p : Nat} {s : ByteArray} {d : Bool} (hp : p < F) (hs : x.P[p]? = some s) (hd : x.D[p]? = some d) : mdR x F p = putsMd s ++ ((if d = true then [] else [⟨some p, 0⟩]) ++ mdR x F (p + 1)) := by
  obtain ⟨k, hk⟩ : ∃ k, F - p = k + 1 := ⟨F - p - 1, by omega⟩
  have e1 : mdR x F p = mdS x.P x.D (F - p) p := if_pos (by omega)
  have e2 : mdR x F (p + 1) = mdS x.P x.D (F - (p + 1)) (p + 1) := if_pos (by omega)
  rw [e1, e2, hk, md_succ, hs, hd, show F - (p + 1) = k by omega, List.append_assoc]
  rfl
theorem mdR_eq {x : Sd} {F : Nat} {s : ByteArray} (hs : x.P[F]? = some s) : mdR x F F = putsMd s ++ mdR x F (F + 1) := by
  unfold mdR
  rw [if_pos (Nat.le_refl _), if_neg (by omega), Nat.sub_self, md_zero, hs, List.append_nil]
  rfl
theorem mdR_end (x : Sd) (F : Nat) : mdR x F (F + 1) = [] := by unfold mdR; rw [if_neg (by omega)]
theorem putsMd_get {s : ByteArray} {k : Nat} (h : k < s.size) : (putsMd s).drop k = ⟨none, s[k]'h⟩ :: (putsMd s).drop (k + 1) := by
  unfold putsMd
  rw [List.drop_eq_getElem_cons (by rw [List.length_map, bL_len]; exact h), List.getElem_map]
  rfl
theorem putsMd_len (s : ByteArray) : (putsMd s).length = s.size := by unfold putsMd; rw [List.length_map, bL_len]
theorem m_get {W X : World} {o : Option Addr} {L : List Md} {q : Nat} {m : Md} (h : RowAt W encM 2 o L) (hq : L[q]? = some m) : ∃ g off, o = some ⟨g, off, none⟩ ∧ ∀ X, Below W.heap.size W X → X.cell? ⟨g, off + q * 2, none⟩ = some (.int .i64 (atM m)) ∧ X.cell? ⟨g, off + q * 2 + 1, none⟩ = some (.int .u8 m.c.toNat) := by
  obtain ⟨g, off, e, hc⟩ := h q m hq
  have h0 := hc 0 (by decide)
  have h1 := hc 1 (by decide)
  rw [Nat.add_zero] at h0
  exact ⟨g, off, e, fun X hX => ⟨at_below h0 hX, at_below h1 hX⟩⟩
set_option maxHeartbeats 16000000 in
theorem composeD_of (o1 o2 : Option Addr) (l1 l2 : List Sp) (c1 c2 F T G : Nat) (hn1 : l1.length ≤ 9223372036854775807) (ho1 : OkS l1) (hn2 : l2.length ≤ 9223372036854775807) (ho2 : OkS l2) (hz1 : sizeG l1 0 0 = some (F, T)) (hz2 : sizeG l2 0 0 = some (T, G)) (w : World) (hr1 : RowAt w encS 3 o1 l1) (hr2 : RowAt w encS 3 o2 l2) :
    Calls Try.prog 10 #[.slice o1 l1.length c1, .slice o2 l2.length c2] w (CompD l1 l2 w) := by
  obtain ⟨i0, hi, hz0, hzs, hzb⟩ := info_parts infoMid
  have p1 := plain_cu hz1
  have p2 := plain_cu hz2
  have cS1 := fun X (hX : Below w.heap.size w X) => sizesD_any l1 o1 c1 hn1 ho1 X (hr1.below encS_len (by decide) hX)
  have cS2 := fun X (hX : Below w.heap.size w X) => sizesD_any l2 o2 c2 hn2 ho2 X (hr2.below encS_len (by decide) hX)
  rw [hz1] at cS1
  rw [hz2] at cS2
  have cP1 := fun X (hX : Below w.heap.size w X) => sayx_any l1 o1 c1 F T hn1 ho1 hz1 X (hr1.below encS_len (by decide) hX)
  have cP2 := fun X (hX : Below w.heap.size w X) => sayx_any l2 o2 c2 T G hn2 ho2 hz2 X (hr2.below encS_len (by decide) hX)
  have hF6 : F ≤ 65536 := p1.2.2.2.1
  have hT6 : T ≤ 65536 := p1.2.2.2.2.1
  have hcan : NoDP (atL (plainM l1)) := by rw [plain_fd, nf_can]; exact noDP_can _ _ _
  have HP := Lib.hid (And.intro p1 (And.intro p2 hcan))
  have e0 : ((T : Int) == (T : Int)) = true := beq_self_eq_true _
  clear hz1 hz2 p1 p2 hr1 hr2 ho1 ho2 hcan
  go_enter Try.func10, Try.ntmps10
  go_wp2_with (fail)
  refine (cS1 _ (Below.refl _ _)).mono ?_
  rintro e W2 ⟨rfl, hB2⟩
  simp only [szD]
  have H2 := Lib.hid hB2
  clear hB2
  go_wp2_with (fail)
  refine (cS2 _ H2.out).mono ?_
  rintro e W3 ⟨rfl, hB3⟩
  simp only [szD]
  have H3 := Lib.hid (H2.out.trans (hB3.mono H2.out.size))
  clear hB3 H2
  go_wp2_with (fail)
  refine (cP1 _ H3.out).mono ?_
  rintro e W4 ⟨Ps, Ds, Bs, vP, vD, vB, rfl, hP1, hD1, hB1, lp1, ld1, lb1, hfr1, hB4⟩
  obtain ⟨oP, cP, rfl, _⟩ := own_slice hP1
  obtain ⟨oD, cD, rfl, _⟩ := own_slice hD1
  obtain ⟨oB, cB, rfl, _⟩ := own_slice hB1
  have H4 := Lib.hid (And.intro (H3.out.trans (hB4.mono H3.out.size)) (And.intro hP1 (And.intro hD1 hB1)))
  have HS1 := Lib.hid (And.intro lp1 (And.intro ld1 (And.intro lb1 hfr1)))
  clear hB4 hP1 hD1 hB1 lp1 ld1 lb1 hfr1
  go_wp2_with (fail)
  refine (cP2 _ H4.out.1).mono ?_
  rintro e W5 ⟨Qs, Es, Cs, uP, uD, uB, rfl, hP2, hD2, hB2, lp2, ld2, lb2, hfr2, hB5⟩
  obtain ⟨pP, dP, rfl, _⟩ := own_slice hP2
  obtain ⟨pD', dD, rfl, _⟩ := own_slice hD2
  obtain ⟨pB, dB, rfl, _⟩ := own_slice hB2
  have H5 := Lib.hid (And.intro (H4.out.1.trans (hB5.mono H4.out.1.size)) (And.intro hP2 (And.intro hD2 (And.intro hB2 hB5))))
  have HS2 := Lib.hid (And.intro lp2 (And.intro ld2 (And.intro lb2 hfr2)))
  clear hB5 hP2 hD2 hB2 lp2 ld2 lb2 hfr2 cS1 cS2 cP1 cP2 H3

  obtain ⟨x, hx⟩ : ∃ x : Sd, (⟨Ps, Ds, Bs⟩ : Sd) = x := ⟨_, rfl⟩
  obtain ⟨y, hy⟩ : ∃ y : Sd, (⟨Qs, Es, Cs⟩ : Sd) = y := ⟨_, rfl⟩
  have hokx : SdOk x F (atL (plainM l1)) := by rw [← hx]; exact ⟨HS1.out.1, HS1.out.2.1, HS1.out.2.2.1, HS1.out.2.2.2⟩
  have hoky : SdOk y T (atL (plainM l2)) := by rw [← hy]; exact ⟨HS2.out.1, HS2.out.2.1, HS2.out.2.2.1, HS2.out.2.2.2⟩
  have q1 := (Below.refl W5.heap.size W5).alloc (Nat.le_refl _) (.cells #[.slice oP (F + 1) cP, .slice oD F cD, .slice oB F cB] 64)
  have k1 := Blk.new W5 #[.slice oP (F + 1) cP, .slice oD F cD, .slice oB F cB] 64
  have q2 := q1.alloc q1.size (.cells #[.slice pP (T + 1) dP, .slice pD' T dD, .slice pB T dB] 64)
  have k2 := Blk.new (W5.alloc (.cells #[.slice oP (F + 1) cP, .slice oD F cD, .slice oB F cB] 64)) #[.slice pP (T + 1) dP, .slice pD' T dD, .slice pB T dB] 64
  replace k1 := k1.alloc (.cells #[.slice pP (T + 1) dP, .slice pD' T dD, .slice pB T dB] 64)
  obtain ⟨WS, hWS⟩ : ∃ Z, (W5.alloc (.cells #[.slice oP (F + 1) cP, .slice oD F cD, .slice oB F cB] 64)).alloc (.cells #[.slice pP (T + 1) dP, .slice pD' T dD, .slice pB T dB] 64) = Z := ⟨_, rfl⟩
  have hsz : WS.heap.size = W5.heap.size + 1 + 1 := by rw [← hWS]; simp
  have k3 : (W5.alloc (.cells #[.slice oP (F + 1) cP, .slice oD F cD, .slice oB F cB] 64)).heap.size = W5.heap.size + 1 := by simp
  rw [k3] at k2
  rw [hWS] at q2 k1 k2
  have hMx : SdM WS W5.heap.size x F := by
    rw [← hx]
    exact SdM.of HS1.out.1 HS1.out.2.1 HS1.out.2.2.1 H4.out.2.1 H4.out.2.2.1 H4.out.2.2.2 ((H5.out.2.2.2.2).trans (q2.mono H5.out.2.2.2.2.size)) k1
  have hMy : SdM WS (W5.heap.size + 1) y T := by
    rw [← hy]
    exact SdM.of HS2.out.1 HS2.out.2.1 HS2.out.2.2.1 H5.out.2.1 H5.out.2.2.1 H5.out.2.2.2.1 q2 k2
  obtain ⟨L0, hL0⟩ : ∃ L0, mdR x F 0 = L0 := ⟨_, rfl⟩
  have hLT : L0.length = T := by
    rw [← hL0]
    unfold mdR
    rw [if_pos (Nat.zero_le _), Nat.sub_zero]
    have h1 := md_out (Ps := x.P) (Ds := x.D) (Bs := x.B) F 0
    have h2 := hokx.fr
    unfold Sd.fr at h2
    rw [h2] at h1
    exact h1.trans HP.out.1.2.2.1
  have hun : unM x.B F L0 0 = atL (plainM l1) := by
    rw [← hL0, ← hokx.fr]
    unfold mdR
    rw [if_pos (Nat.zero_le _), Nat.sub_zero]
    exact (fr_un (Ps := x.P) (Ds := x.D) hokx.lB F 0 (by omega) (by have := hokx.fr; unfold Sd.fr at this; rw [this]; exact HP.out.2.2)).symm
  have hok0 : okM F L0 0 := by
    rw [← hL0]
    unfold mdR
    rw [if_pos (Nat.zero_le _), Nat.sub_zero]
    exact md_ok F 0 0 (by omega) (Nat.le_refl _)
  have HX := Lib.hid (And.intro hokx (And.intro hMx (And.intro hoky hMy)))
  have HW := Lib.hid (H5.out.1.trans (q2.mono H5.out.1.size))
  have HL := Lib.hid (And.intro hLT (And.intro hun (And.intro hok0 hL0)))
  have HWS := Lib.hid hWS
  have HSZ := Lib.hid hsz
  obtain ⟨hgP, hcP, hgD, hcD, hgB, hcB, hlenx⟩ := hMx.hdr
  have Hlen := Lib.hid hlenx
  clear hokx hoky q1 k1 q2 k2 hWS hsz k3 hMx hMy hx hy H4 H5 HS1 HS2 hLT hun hok0 hL0 hlenx
  go_wp2_with (fail)
  rw [HWS.out]
  clear HWS
  go_loopw [14, 15] (fun v pv W => ∃ (p : Nat) (M : List Md), pv = .int .i64 p ∧ p ≤ F + 1 ∧ M ++ mdR x F p = L0 ∧ W.ownsRow WS.heap.size 68 2 v M.length (M.flatMap encM) ∧ Below WS.heap.size WS W) (fun _ pv _ => F + 1 - (intOf pv).toNat)
  case atStart => exact ⟨0, [], rfl, by omega, HL.out.2.2.2, World.ownsRow_nil _ _ _ _, Below.refl _ _⟩
  case round =>
    obtain ⟨p, M, rfl, hp, hM, hrow, hB⟩ := hrel
    obtain ⟨h0c, h1c, h2c⟩ := Hlen.out _ hB
    obtain ⟨ol, cl, rfl, _⟩ := own_slice hrow
    by_cases hlt : p < F + 1
    · obtain ⟨s, hs⟩ := frow x HX.out.1 (show p ≤ F by omega)
      obtain ⟨g1, r1, m1, hx1⟩ := HX.out.2.1.allP hs
      obtain ⟨tl, htl, hn1', hn2'⟩ : ∃ tl, mdR x F p = putsMd s ++ tl ∧ (∀ d, p < F → x.D[p]? = some d → tl = (if d = true then [] else [⟨some p, 0⟩]) ++ mdR x F (p + 1)) ∧ (¬ p < F → tl = mdR x F (p + 1)) := by
        by_cases h : p < F
        · obtain ⟨d, hd⟩ := drow x HX.out.1 h
          exact ⟨_, mdR_lt h hs hd, fun d' _ hd' => by rw [hd] at hd'; cases hd'; rfl, fun hh => absurd h hh⟩
        · obtain rfl : p = F := by omega
          exact ⟨_, mdR_eq hs, fun d hh => absurd hh h, fun _ => rfl⟩
      rw [htl] at hM
      have Hx1 := Lib.hid hx1
      have HTL := Lib.hid (And.intro hn1' hn2')
      have H0 := Lib.hid (And.intro hM (And.intro hrow hB))
      obtain ⟨a1, a2⟩ := hx1 _ hB
      have lt1 : (p : Int) < (F : Int) + 1 := by omega
      have jp : IntKind.i64.wrap ((p : Int) + 1) = ((p + 1 : Nat) : Int) := by rw [IntWalk.i64_in _ (by omega)]; omega
      have hsL : s.size ≤ T := by
        have := congrArg List.length hM
        rw [HL.out.1] at this
        simp only [List.length_append, putsMd_len] at this
        omega
      clear hM hrow hB hx1 hs htl hn1' hn2' h0c h1c h2c
      go_wp2
      go_loopw [14, 16] (fun v kv Z => ∃ (k : Nat) (M : List Md), kv = .int .i64 k ∧ k ≤ s.size ∧ M ++ ((putsMd s).drop k ++ tl) = L0 ∧ Z.ownsRow WS.heap.size 68 2 v M.length (M.flatMap encM) ∧ Below WS.heap.size WS Z) (fun _ kv _ => s.size - (intOf kv).toNat)
      case atStart => exact ⟨0, M, rfl, by omega, H0.out.1, H0.out.2.1, H0.out.2.2⟩
      case round =>
        obtain ⟨k, M, rfl, hk, hM, hrow, hB⟩ := hrel
        obtain ⟨ol, cl, rfl, _⟩ := own_slice hrow
        have hML : M.length ≤ T := by
          have := congrArg List.length hM
          rw [HL.out.1] at this
          simp only [List.length_append] at this
          omega
        by_cases hks : k < s.size
        · obtain ⟨a1, a2⟩ := Hx1.out _ hB
          have ks1 : (k : Int) < (s.size : Int) := by omega
          have jk : IntKind.i64.wrap ((k : Int) + 1) = ((k + 1 : Nat) : Int) := by rw [IntWalk.i64_in _ (by omega)]; omega
          rw [putsMd_get hks] at hM
          have HM := Lib.hid hM
          have HB := Lib.hid (And.intro hrow hB)
          have HN := Lib.hid (Blk.new wr #[.int .i64 (-1), .int .u8 (s[k]'hks).toNat] 68)
          clear hM hrow hB
          go_wp2_with (at_builtin; refine wpList_append_own_at _ rfl _ _ 66 rfl WS.heap.size 68 i0 (.agg #[.int .i64 0, .int .u8 0]) 2 16 Try.underlying66 hi hz0 hzs hzb rfl (by decide) _ _ _ rfl (own_below HB.out.1 ((Below.refl wr.heap.size wr).alloc (Nat.le_refl _) (.cells #[.int .i64 (-1), .int .u8 (s[k]'hks).toNat] 68))) ⟨wr.heap.size, 0, none⟩ 1 1 [.int .i64 (-1), .int .u8 (s[k]'hks).toNat] rfl rfl (World.news_of_block (cs := #[.int .i64 (-1), .int .u8 (s[k]'hks).toNat]) (t := 68) (fr := (0, 0)) HN.out) (fun x hx => by simp at hx; rcases hx with rfl | rfl <;> rfl) (by unfold maxLen; omega) (by omega) (by simp; have := HB.out.2.size; omega) ?_; intro v3 w3 hown3 hg3 _ hv3; obtain ⟨ov3, cv3, rfl, _⟩ := own_slice hown3; have HA := Lib.hid (And.intro hown3 ((HB.out.2.trans (((Below.refl wr.heap.size wr).alloc (Nat.le_refl _) (.cells #[.int .i64 (-1), .int .u8 (s[k]'hks).toNat] 68)).mono HB.out.2.size)).grown hg3 (Nat.le_trans HB.out.2.size (by simp)) (fun r e => (HB.out.1.lt r e).1))); clear hown3 hg3 hv3)
          go_roundw
          case rel =>
            refine ⟨k + 1, M ++ [⟨none, s[k]'hks⟩], by go_num, by omega, by rw [List.append_assoc]; exact HM.out, ?_, HA.out.2⟩
            have := HA.out.1
            rw [List.length_append, List.flatMap_append]
            simpa [encM, atM] using this
          case measure => simp [intOf] <;> omega
        · obtain rfl : k = s.size := by omega
          have hdr : (putsMd s).drop s.size = [] := List.drop_of_length_le (by rw [putsMd_len]; exact Nat.le_refl _)
          rw [hdr, List.nil_append] at hM
          by_cases hpF : p < F
          · obtain ⟨d, hd⟩ := drow x HX.out.1 hpF
            obtain ⟨g3, r3, m3, hx3⟩ := HX.out.2.1.allD hd
            have htl := HTL.out.1 d hpF hd
            obtain ⟨a1, a2⟩ := Hx1.out _ hB
            obtain ⟨d1, d2⟩ := hx3 _ hB
            have lt2 : (p : Int) < (F : Int) := by omega
            cases d with
            | true =>
              rw [if_pos rfl, List.nil_append] at htl
              rw [htl] at hM
              have HM := Lib.hid (And.intro hM (And.intro hrow hB))
              clear hM hrow hB htl hx3 hd hdr
              go_wp2
              go_roundw
              case rel => exact ⟨p + 1, M, by go_num, by omega, HM.out.1, HM.out.2.1, HM.out.2.2⟩
              case measure => simp [intOf] <;> omega
            | false =>
              rw [if_neg (by simp)] at htl
              rw [htl] at hM
              have HM := Lib.hid hM
              have HB := Lib.hid (And.intro hrow hB)
              have HN := Lib.hid (Blk.new wr #[.int .i64 p, .int .u8 0] 68)
              clear hM hrow hB htl hx3 hd hdr
              go_wp2_with (at_builtin; refine wpList_append_own_at _ rfl _ _ 66 rfl WS.heap.size 68 i0 (.agg #[.int .i64 0, .int .u8 0]) 2 16 Try.underlying66 hi hz0 hzs hzb rfl (by decide) _ _ _ rfl (own_below HB.out.1 ((Below.refl wr.heap.size wr).alloc (Nat.le_refl _) (.cells #[.int .i64 p, .int .u8 0] 68))) ⟨wr.heap.size, 0, none⟩ 1 1 [.int .i64 p, .int .u8 0] rfl rfl (World.news_of_block (cs := #[.int .i64 p, .int .u8 0]) (t := 68) (fr := (0, 0)) HN.out) (fun x hx => by simp at hx; rcases hx with rfl | rfl <;> rfl) (by unfold maxLen; omega) (by omega) (by simp; have := HB.out.2.size; omega) ?_; intro v3 w3 hown3 hg3 _ hv3; obtain ⟨ov3, cv3, rfl, _⟩ := own_slice hown3; have HA := Lib.hid (And.intro hown3 ((HB.out.2.trans (((Below.refl wr.heap.size wr).alloc (Nat.le_refl _) (.cells #[.int .i64 p, .int .u8 0] 68)).mono HB.out.2.size)).grown hg3 (Nat.le_trans HB.out.2.size (by simp)) (fun r e => (HB.out.1.lt r e).1))); clear hown3 hg3 hv3)
              go_roundw
              case rel =>
                refine ⟨p + 1, M ++ [⟨some p, 0⟩], by go_num, by omega, by rw [List.append_assoc]; exact HM.out, ?_, HA.out.2⟩
                have := HA.out.1
                rw [List.length_append, List.flatMap_append]
                simpa [encM, atM] using this
              case measure => simp [intOf] <;> omega
          · have htl := HTL.out.2 hpF
            obtain rfl : p = F := by omega
            rw [htl] at hM
            obtain ⟨a1, a2⟩ := Hx1.out _ hB
            obtain ⟨h0c, h1c, h2c⟩ := Hlen.out _ hB
            have lt2 : ¬ (p : Int) < (p : Int) := by omega
            have HM := Lib.hid (And.intro hM (And.intro hrow hB))
            clear hM hrow hB htl hdr h0c h2c
            go_wp2
            go_roundw
            case rel => exact ⟨p + 1, M, by go_num, by omega, HM.out.1, HM.out.2.1, HM.out.2.2⟩
            case measure => simp [intOf] <;> omega
    · obtain rfl : p = F + 1 := by omega
      rw [mdR_end, List.append_nil] at hM
      subst hM
      have hMx := HX.out.2.1.below hB
      have hMy := HX.out.2.2.2.below hB
      have hro := RowAt.of_own encM_len hrow rfl
      have lt1 : ¬ (((F + 1 : Nat) : Int) < (F : Int) + 1) := by omega
      have hlT : M.length = T := HL.out.1
      have HLT := Lib.hid hlT
      have HB := Lib.hid (And.intro hB (And.intro hMx (And.intro hMy hro)))
      have HD0 := Lib.hid (D1.new wr)
      have HC0 : Hid (CmP (atL (plainM l1)) (atL (plainM l2)) x.B F y T 0 0 M []) := Lib.hid ⟨hlT, HL.out.2.2.1, ⟨[], by rw [HL.out.2.1, Nat.sub_zero, HX.out.2.2.1.fr]; cases compA (atL (plainM l1)) (atL (plainM l2)) <;> simp, Eqf.refl _⟩, by
        rw [HL.out.2.1, Nat.sub_zero, HX.out.2.2.1.fr]
        obtain ⟨_, _, _, _, _, _, g1⟩ := HP.out.1
        obtain ⟨_, _, _, _, g3, _, g2⟩ := HP.out.2.1
        show 0 + _ + _ ≤ _
        omega⟩
      rw [hlT]
      clear hrow hB hMx hMy hro hlT h1c h2c
      go_wp2
      obtain ⟨WM, hWM⟩ : ∃ Z, wr = Z := ⟨_, rfl⟩
      rw [hWM] at HB HD0 h0c ⊢
      clear hWM
      go_loopw [18, 19] (fun cv qv W => ∃ (c q : Nat) (Ad : List Atm), cv = .int .i64 c ∧ qv = .int .i64 q ∧ D1 WM WM.heap.size (WM.heap.size + 1) W Ad ∧ CmP (atL (plainM l1)) (atL (plainM l2)) x.B F y T q c (M.drop q) Ad) (fun _ qv _ => T + 1 - (intOf qv).toNat)
      case atStart => exact ⟨0, 0, [], rfl, rfl, HD0.out, HC0.out⟩
      case round =>
        obtain ⟨c, q, Ad, rfl, rfl, hD, hC⟩ := hrel
        have hq : q ≤ T := by have := hC.ln; omega
        obtain ⟨s, hs⟩ := frow y HX.out.2.2.1 hq
        obtain ⟨g2, r2, m2, hy1⟩ := HB.out.2.2.1.allP hs
        have hAd : Ad.length ≤ 300000 := by have := hC.sz; omega
        have hsz : s.size ≤ 300000 := by
          have h1 := hC.sz
          have h2 : s.size ≤ (y.fr (T - q) q).length := by
            by_cases h : q < T
            · rw [fr_lt h, pP_get hs]; simp only [List.length_append, List.length_map, bL_len]; omega
            · rw [show T - q = 0 by omega, fr_end, pP_get hs]; simp only [List.length_map, bL_len]; omega
          omega
        have pn := (dk_bd Ad).2.1
        obtain ⟨pu, hpu⟩ : ∃ pu, (fdL Ad mk0).put = pu := ⟨_, rfl⟩
        rw [hpu] at pn
        have hys : pu.size + s.size ≤ 9223372036854775807 := by omega
        have hqT : (q : Int) ≤ (T : Int) := by omega
        have hq1 : (q : Int) < (T : Int) + 1 := by omega
        have hq2 : q < T + 1 := by omega
        have jq : IntKind.i64.wrap ((q : Int) + 1) = ((q + 1 : Nat) : Int) := by rw [IntWalk.i64_in _ (by omega)]; omega
        have hpu1 := hD.cell
        rw [hpu] at hpu1
        obtain ⟨kc, kf⟩ := hpu1
        obtain ⟨ay, az⟩ := hy1 _ hD.low
        have HD := Lib.hid hD
        have HC := Lib.hid hC
        have HS := Lib.hid hs
        have HPU := Lib.hid hpu
        clear hD hC hs hpu hy1 h0c
        go_wp2
        refine wp_region_noPanic ?_
        refine wp_region_g (S := untilG [9] (fun X => Below wr.heap.size wr X)) (by kernel_rfl) ?_
        obtain ⟨X21, hX0⟩ : ∃ Z, wr.drew = Z := ⟨_, rfl⟩
        have T0 : Below wr.heap.size wr X21 := hX0 ▸ (Below.refl wr.heap.size wr).drew
        rw [hX0]
        clear hX0
        refine wpAnyG_take [0, 1, 7, 9] (i := 0) (v := (.pointer (some ⟨WM.heap.size, 1, none⟩))) rfl (by kernel_rfl) (by kernel_rfl) (by kernel_rfl) (by kernel_rfl) (by kernel_rfl) (by kernel_rfl) (by kernel_rfl) (by kernel_rfl) (fun _ _ _ h => h) (Or.inl ⟨by rfl, ?hy⟩) T0 ?_
        case hy =>
          intro X hX
          go_simp
        try simp only [Act.put, List.getElem_toArray, List.getElem_cons_zero, List.getElem_cons_succ, List.setIfInBounds_toArray, List.set_cons_zero, List.set_cons_succ]
        refine wpAnyG_take [1, 7, 9] (i := 1) (v := (.string pu)) rfl (by kernel_rfl) (by kernel_rfl) (by kernel_rfl) (by kernel_rfl) (by kernel_rfl) (by kernel_rfl) (by kernel_rfl) (by kernel_rfl) (fun _ _ _ h => h) (Or.inl ⟨by rfl, ?hy⟩) T0 ?_
        case hy =>
          intro X hX
          have e0 := at_below kc hX
          go_simp
        try simp only [Act.put, List.getElem_toArray, List.getElem_cons_zero, List.getElem_cons_succ, List.setIfInBounds_toArray, List.set_cons_zero, List.set_cons_succ]
        refine wpAnyG_take [2, 3, 5, 6, 7, 9] (i := 2) (v := (.pointer (some ⟨(W5.heap.size + 1), 0, none⟩))) rfl (by kernel_rfl) (by kernel_rfl) (by kernel_rfl) (by kernel_rfl) (by kernel_rfl) (by kernel_rfl) (by kernel_rfl) (by kernel_rfl) (fun _ _ _ h => h) (Or.inl ⟨by rfl, ?hy⟩) T0 ?_
        case hy =>
          intro X hX
          go_simp
        try simp only [Act.put, List.getElem_toArray, List.getElem_cons_zero, List.getElem_cons_succ, List.setIfInBounds_toArray, List.set_cons_zero, List.set_cons_succ]
        refine wpAnyG_take [3, 5, 6, 7, 9] (i := 3) (v := (.slice (some ⟨g2, r2, none⟩) (T + 1) m2)) rfl (by kernel_rfl) (by kernel_rfl) (by kernel_rfl) (by kernel_rfl) (by kernel_rfl) (by kernel_rfl) (by kernel_rfl) (by kernel_rfl) (fun _ _ _ h => h) (Or.inl ⟨by rfl, ?hy⟩) T0 ?_
        case hy =>
          intro X hX
          have e0 := at_below ay hX
          go_simp
        try simp only [Act.put, List.getElem_toArray, List.getElem_cons_zero, List.getElem_cons_succ, List.setIfInBounds_toArray, List.set_cons_zero, List.set_cons_succ]
        refine wpAnyG_take [4, 5, 6, 7, 9] (i := 4) (v := (.int .i64 q)) rfl (by kernel_rfl) (by kernel_rfl) (by kernel_rfl) (by kernel_rfl) (by kernel_rfl) (by kernel_rfl) (by kernel_rfl) (by kernel_rfl) (fun _ _ _ h => h) (Or.inl ⟨by rfl, ?hy⟩) T0 ?_
        case hy =>
          intro X hX
          go_simp
        try simp only [Act.put, List.getElem_toArray, List.getElem_cons_zero, List.getElem_cons_succ, List.setIfInBounds_toArray, List.set_cons_zero, List.set_cons_succ]
        refine wpAnyG_take [5, 6, 7, 9] (i := 5) (v := (.pointer (some ⟨g2, r2 + q, none⟩))) rfl (by kernel_rfl) (by kernel_rfl) (by kernel_rfl) (by kernel_rfl) (by kernel_rfl) (by kernel_rfl) (by kernel_rfl) (by kernel_rfl) (fun _ _ _ h => h) (Or.inl ⟨by rfl, ?hy⟩) T0 ?_
        case hy =>
          intro X hX
          (go_simp; try rfl)
        try simp only [Act.put, List.getElem_toArray, List.getElem_cons_zero, List.getElem_cons_succ, List.setIfInBounds_toArray, List.set_cons_zero, List.set_cons_succ]
        refine wpAnyG_take [6, 7, 9] (i := 6) (v := (.string s)) rfl (by kernel_rfl) (by kernel_rfl) (by kernel_rfl) (by kernel_rfl) (by kernel_rfl) (by kernel_rfl) (by kernel_rfl) (by kernel_rfl) (fun _ _ _ h => h) (Or.inl ⟨by rfl, ?hy⟩) T0 ?_
        case hy =>
          intro X hX
          have e0 := at_below az hX
          go_simp
        try simp only [Act.put, List.getElem_toArray, List.getElem_cons_zero, List.getElem_cons_succ, List.setIfInBounds_toArray, List.set_cons_zero, List.set_cons_succ]
        refine wpAnyG_take [7, 9] (i := 7) (v := (.string (pu ++ s))) rfl (by kernel_rfl) (by kernel_rfl) (by kernel_rfl) (by kernel_rfl) (by kernel_rfl) (by kernel_rfl) (by kernel_rfl) (by kernel_rfl) (fun _ _ _ h => h) (Or.inl ⟨by rfl, ?hy⟩) T0 ?_
        case hy =>
          intro X hX
          go_simp
        try simp only [Act.put, List.getElem_toArray, List.getElem_cons_zero, List.getElem_cons_succ, List.setIfInBounds_toArray, List.set_cons_zero, List.set_cons_succ]
        have kc2 := at_below kc T0
        have kf2 : X21.frozen? ⟨WM.heap.size, 1, none⟩ = false := (HD.out.below T0).cell.2
        refine wpAnyG_all (rs := [8]) (by kernel_rfl) (by simp) ?_
        intro i hi
        simp only [List.mem_cons, List.not_mem_nil, or_false] at hi
        subst hi
        refine wpOp_now rfl rfl ?_
        go_simp
        refine ⟨fun _ => T0, ?_⟩
        try simp only [Act.put, List.getElem_toArray, List.getElem_cons_zero, List.getElem_cons_succ, List.setIfInBounds_toArray, List.set_cons_zero, List.set_cons_succ]
        refine wpAnyG_all (rs := [9]) (by kernel_rfl) (by simp) ?_
        intro i hi
        simp only [List.mem_cons, List.not_mem_nil, or_false] at hi
        subst hi
        refine wpOp_now rfl rfl ?_
        go_simp
        refine ⟨fun h => (nomatch (show (false : Bool) = true from h)), ?_⟩
        refine wpAnyG_done (by kernel_rfl) ?_ _
        refine NoPanic.normal ?_
        have hE := HD.out.below T0 |>.put s
        rw [HPU.out] at hE
        obtain ⟨Y1, hY1⟩ : ∃ Z, X21.setCell ⟨WM.heap.size, 1, none⟩ (.string (pu ++ s)) = Z := ⟨_, rfl⟩
        rw [hY1] at hE ⊢
        have HE := Lib.hid hE
        clear hE hY1 T0 kc kf kc2 kf2 ay az
        by_cases hlt : q < T
        · obtain ⟨m, hm⟩ : ∃ m, M[q]? = some m := ⟨_, List.getElem?_eq_getElem (by rw [HLT.out]; exact hlt)⟩
          obtain ⟨gl, fl, rfl, hmc⟩ := m_get (X := WM) HB.out.2.2.2 hm
          have hdrop : M.drop q = m :: M.drop (q + 1) := (List.drop_eq_getElem_cons (by rw [HLT.out]; exact hlt)).trans (by rw [(List.getElem?_eq_some_iff.1 hm).2])
          obtain ⟨d2, hd2⟩ := drow y HX.out.2.2.1 hlt
          obtain ⟨e2, he2⟩ := brow y HX.out.2.2.1 hlt
          obtain ⟨g4, r4, m4, hy2⟩ := HB.out.2.2.1.allD hd2
          obtain ⟨g6, r6, m6, hy3⟩ := HB.out.2.2.1.allB he2
          have en : ((q : Int) == (T : Int)) = false := by rw [beq_eq_false_iff_ne]; omega
          have en2 : (q == T) = false := by rw [beq_eq_false_iff_ne]; omega
          have lt1 : (q : Int) < (T : Int) := by omega
          have hC := HC.out
          rw [hdrop] at hC
          have HC2 := Lib.hid hC
          obtain ⟨b1, b2⟩ := hmc _ HE.out.low
          obtain ⟨b3, b4⟩ := hy2 _ HE.out.low
          obtain ⟨b5, b6⟩ := hy3 _ HE.out.low
          have Hmc := Lib.hid hmc
          have Hy2 := Lib.hid hy2
          have Hy3 := Lib.hid hy3
          have HH := Lib.hid (And.intro hd2 he2)
          have hA1 : (Ad ++ (bL s).map Atm.P).length ≤ 600000 := by rw [List.length_append, List.length_map, bL_len]; omega
          clear hC hdrop hm hmc hy2 hy3 hd2 he2
          obtain ⟨mk, mc⟩ := m
          cases mk with
          | none =>
            rw [show atM ⟨none, mc⟩ = -1 from rfl] at b1
            simp only at b2
            cases d2 with
            | false =>
              have HN := Lib.hid (cm_putK HC2.out hlt HS.out HH.out.1)
              have pn2 := (dk_bd (Ad ++ (bL s).map Atm.P)).2.1
              obtain ⟨pw, hpw⟩ : ∃ pu, (fdL (Ad ++ (bL s).map Atm.P) mk0).put = pu := ⟨_, rfl⟩
              rw [hpw] at pn2
              have hsz1 : (9223372036854775807 < pw.size + 1) = False := eq_false (by omega)
              obtain ⟨kc, kf⟩ := HE.out.cell
              rw [hpw] at kc
              have HPW := Lib.hid hpw
              clear hpw
              go_wp2
              refine wp_region_noPanic ?_
              refine wp_region_g (S := untilG [11] (fun X => Below Y1.heap.size Y1 X)) (by kernel_rfl) ?_
              obtain ⟨X5, hX0⟩ : ∃ Z, Y1.drew = Z := ⟨_, rfl⟩
              have T0 : Below Y1.heap.size Y1 X5 := hX0 ▸ (Below.refl Y1.heap.size Y1).drew
              rw [hX0]
              clear hX0
              refine wpAnyG_take [0, 1, 9, 11] (i := 0) (v := (.pointer (some ⟨WM.heap.size, 1, none⟩))) rfl (by kernel_rfl) (by kernel_rfl) (by kernel_rfl) (by kernel_rfl) (by kernel_rfl) (by kernel_rfl) (by kernel_rfl) (by kernel_rfl) (fun _ _ _ h => h) (Or.inl ⟨by rfl, ?hy⟩) T0 ?_
              case hy =>
                intro X hX
                go_simp
              try simp only [Act.put, List.getElem_toArray, List.getElem_cons_zero, List.getElem_cons_succ, List.setIfInBounds_toArray, List.set_cons_zero, List.set_cons_succ]
              refine wpAnyG_take [1, 9, 11] (i := 1) (v := (.string pw)) rfl (by kernel_rfl) (by kernel_rfl) (by kernel_rfl) (by kernel_rfl) (by kernel_rfl) (by kernel_rfl) (by kernel_rfl) (by kernel_rfl) (fun _ _ _ h => h) (Or.inl ⟨by rfl, ?hy⟩) T0 ?_
              case hy =>
                intro X hX
                have e0 := at_below kc hX
                go_simp
              try simp only [Act.put, List.getElem_toArray, List.getElem_cons_zero, List.getElem_cons_succ, List.setIfInBounds_toArray, List.set_cons_zero, List.set_cons_succ]
              refine wpAnyG_take [2, 4, 5, 6, 7, 8, 9, 11] (i := 2) (v := (.slice (some ⟨gl, fl, none⟩) T cl)) rfl (by kernel_rfl) (by kernel_rfl) (by kernel_rfl) (by kernel_rfl) (by kernel_rfl) (by kernel_rfl) (by kernel_rfl) (by kernel_rfl) (fun _ _ _ h => h) (Or.inl ⟨by rfl, ?hy⟩) T0 ?_
              case hy =>
                intro X hX
                go_simp
              try simp only [Act.put, List.getElem_toArray, List.getElem_cons_zero, List.getElem_cons_succ, List.setIfInBounds_toArray, List.set_cons_zero, List.set_cons_succ]
              refine wpAnyG_take [3, 4, 5, 6, 7, 8, 9, 11] (i := 3) (v := (.int .i64 q)) rfl (by kernel_rfl) (by kernel_rfl) (by kernel_rfl) (by kernel_rfl) (by kernel_rfl) (by kernel_rfl) (by kernel_rfl) (by kernel_rfl) (fun _ _ _ h => h) (Or.inl ⟨by rfl, ?hy⟩) T0 ?_
              case hy =>
                intro X hX
                go_simp
              try simp only [Act.put, List.getElem_toArray, List.getElem_cons_zero, List.getElem_cons_succ, List.setIfInBounds_toArray, List.set_cons_zero, List.set_cons_succ]
              refine wpAnyG_take [4, 5, 6, 7, 8, 9, 11] (i := 4) (v := (.pointer (some ⟨gl, fl + q * 2, none⟩))) rfl (by kernel_rfl) (by kernel_rfl) (by kernel_rfl) (by kernel_rfl) (by kernel_rfl) (by kernel_rfl) (by kernel_rfl) (by kernel_rfl) (fun _ _ _ h => h) (Or.inl ⟨by rfl, ?hy⟩) T0 ?_
              case hy =>
                intro X hX
                (go_simp; try rfl)
              try simp only [Act.put, List.getElem_toArray, List.getElem_cons_zero, List.getElem_cons_succ, List.setIfInBounds_toArray, List.set_cons_zero, List.set_cons_succ]
              refine wpAnyG_take [5, 6, 7, 8, 9, 11] (i := 5) (v := (.pointer (some ⟨gl, fl + q * 2 + 1, none⟩))) rfl (by kernel_rfl) (by kernel_rfl) (by kernel_rfl) (by kernel_rfl) (by kernel_rfl) (by kernel_rfl) (by kernel_rfl) (by kernel_rfl) (fun _ _ _ h => h) (Or.inl ⟨by rfl, ?hy⟩) T0 ?_
              case hy =>
                intro X hX
                (go_simp; try rfl)
              try simp only [Act.put, List.getElem_toArray, List.getElem_cons_zero, List.getElem_cons_succ, List.setIfInBounds_toArray, List.set_cons_zero, List.set_cons_succ]
              refine wpAnyG_take [6, 7, 8, 9, 11] (i := 6) (v := (.int .u8 mc.toNat)) rfl (by kernel_rfl) (by kernel_rfl) (by kernel_rfl) (by kernel_rfl) (by kernel_rfl) (by kernel_rfl) (by kernel_rfl) (by kernel_rfl) (fun _ _ _ h => h) (Or.inl ⟨by rfl, ?hy⟩) T0 ?_
              case hy =>
                intro X hX
                have e0 := at_below b2 hX
                go_simp
              try simp only [Act.put, List.getElem_toArray, List.getElem_cons_zero, List.getElem_cons_succ, List.setIfInBounds_toArray, List.set_cons_zero, List.set_cons_succ]
              refine wpAnyG_all (rs := [7]) (by kernel_rfl) (by simp) ?_
              intro i hi
              simp only [List.mem_cons, List.not_mem_nil, or_false] at hi
              subst hi
              refine wpOp_now rfl rfl ?_
              go_simp
              have T1 := T0.alloc T0.size (.cells #[.int .u8 mc.toNat] 5)
              have hrow := row_one X5 Y1.heap.size mc T0.size
              refine ⟨fun _ => T1, ?_⟩
              try simp only [Act.put, List.getElem_toArray, List.getElem_cons_zero, List.getElem_cons_succ, List.setIfInBounds_toArray, List.set_cons_zero, List.set_cons_succ]
              have ec := conv_own rfl hrow
              refine wpAnyG_all (rs := [8]) (by kernel_rfl) (by simp) ?_
              intro i hi
              simp only [List.mem_cons, List.not_mem_nil, or_false] at hi
              subst hi
              refine wpOp_now rfl rfl ?_
              go_simp
              refine ⟨fun _ => T1, ?_⟩
              try simp only [Act.put, List.getElem_toArray, List.getElem_cons_zero, List.getElem_cons_succ, List.setIfInBounds_toArray, List.set_cons_zero, List.set_cons_succ]
              refine wpAnyG_all (rs := [9]) (by kernel_rfl) (by simp) ?_
              intro i hi
              simp only [List.mem_cons, List.not_mem_nil, or_false] at hi
              subst hi
              refine wpOp_now rfl rfl ?_
              go_simp
              refine ⟨fun _ => T1, ?_⟩
              try simp only [Act.put, List.getElem_toArray, List.getElem_cons_zero, List.getElem_cons_succ, List.setIfInBounds_toArray, List.set_cons_zero, List.set_cons_succ]
              have kc2 := at_below kc T1
              have kf2 : (X5.alloc (.cells #[.int .u8 mc.toNat] 5)).frozen? ⟨WM.heap.size, 1, none⟩ = false := (HE.out.below T1).cell.2
              refine wpAnyG_all (rs := [10]) (by kernel_rfl) (by simp) ?_
              intro i hi
              simp only [List.mem_cons, List.not_mem_nil, or_false] at hi
              subst hi
              refine wpOp_now rfl rfl ?_
              go_simp
              refine ⟨fun _ => T1, ?_⟩
              try simp only [Act.put, List.getElem_toArray, List.getElem_cons_zero, List.getElem_cons_succ, List.setIfInBounds_toArray, List.set_cons_zero, List.set_cons_succ]
              refine wpAnyG_all (rs := [11]) (by kernel_rfl) (by simp) ?_
              intro i hi
              simp only [List.mem_cons, List.not_mem_nil, or_false] at hi
              subst hi
              refine wpOp_now rfl rfl ?_
              go_simp
              refine ⟨fun h => (nomatch (show (false : Bool) = true from h)), ?_⟩
              refine wpAnyG_done (by kernel_rfl) ?_ _
              refine NoPanic.normal ?_
              have hE2 := HE.out.below T1 |>.put ⟨#[mc]⟩
              rw [HPW.out] at hE2
              have HE2 := Lib.hid hE2
              clear hE2 T0 T1 hrow ec kc kf kc2 kf2
              go_wp2
              go_roundw
              case rel => exact ⟨c, q + 1, _, rfl, by go_num, HE2.out, HN.out⟩
              case measure => simp [intOf] <;> omega
            | true =>
              by_cases hcc : mc = e2
              · have ec : ((e2.toNat : Int) == (mc.toNat : Int)) = true := by rw [hcc]; exact beq_self_eq_true _
                have hN := cm_putD HC2.out hlt HS.out HH.out.1 HH.out.2
                rw [if_pos hcc] at hN
                have HN := Lib.hid hN
                clear hN hcc
                go_wp2
                go_quiet (fail)
                generalize hU : World.drewN Y1 _ = Y6
                have HE6 := Lib.hid (HE.out.below (hU ▸ below_drewN _ _))
                clear hU
                go_wp2
                go_roundw
                case rel => exact ⟨c, q + 1, _, rfl, by go_num, HE6.out, HN.out⟩
                case measure => simp [intOf] <;> omega
              · have ec : ((e2.toNat : Int) == (mc.toNat : Int)) = false := by rw [beq_eq_false_iff_ne]; intro e; exact hcc (UInt8.toNat_inj.1 (by omega))
                have hN := cm_putD HC2.out hlt HS.out HH.out.1 HH.out.2
                rw [if_neg hcc] at hN
                have HN := Lib.hid hN
                clear hN hcc
                go_wp2
                go_quiet (fail)
                generalize hU : World.drewN Y1 _ = Y6
                have HE6 := Lib.hid (HE.out.below (hU ▸ below_drewN _ _))
                clear hU
                go_wp2
                refine bodyPost_ret (results_tmp2 rfl _ _ _) rfl ?_
                have hws := HW.out.size
                have hbs := HB.out.1.size
                exact .inl ⟨HN.out, rfl, HW.out.trans ((HB.out.1.trans (HE6.out.low.mono hbs)).mono hws)⟩
          | some k =>
            rw [show atM ⟨some k, mc⟩ = (k : Int) from rfl] at b1
            have hkok : c ≤ k ∧ k < F := ⟨HC2.out.ok.1, HC2.out.ok.2.1⟩
            have jk : IntKind.i64.wrap ((k : Int) + 1) = ((k + 1 : Nat) : Int) := by rw [IntWalk.i64_in _ (by omega)]; omega
            have nk : ¬ (k : Int) < 0 := by omega
            have HN := Lib.hid (cm_keep HC2.out hlt HS.out d2 HH.out.1 e2 HH.out.2)
            go_wp2
            go_loopw [18] (fun cv Z => ∃ c' : Nat, cv = .int .i64 c' ∧ c ≤ c' ∧ c' ≤ k ∧ D1 WM WM.heap.size (WM.heap.size + 1) Z (Ad ++ (bL s).map Atm.P ++ dsF x.B c c')) (fun cv _ => k - (intOf cv).toNat)
            case atStart => exact ⟨c, rfl, Nat.le_refl _, hkok.1, by rw [dsF_nil, List.append_nil]; exact HE.out⟩
            case round =>
              obtain ⟨c', rfl, hc1, hc2, hD⟩ := hrel
              have hdl : (dsF x.B c c').length ≤ 65536 := by unfold dsF; rw [List.length_map, List.length_take]; omega
              have hA2 : (Ad ++ (bL s).map Atm.P ++ dsF x.B c c').length ≤ 900000 := by rw [List.length_append]; omega
              obtain ⟨b1, b2⟩ := Hmc.out _ hD.low
              rw [show atM ⟨some k, mc⟩ = (k : Int) from rfl] at b1
              by_cases hck : c' < k
              · obtain ⟨bb, hbb⟩ := brow x HX.out.1 (show c' < F by omega)
                obtain ⟨g5, r5, m5, hx3⟩ := HB.out.2.1.allB hbb
                obtain ⟨b7, b8⟩ := hx3 _ hD.low
                have ltc : (c' : Int) < (k : Int) := by omega
                have ltF : (c' : Int) < (F : Int) := by omega
                have jc : IntKind.i64.wrap ((c' : Int) + 1) = ((c' + 1 : Nat) : Int) := by rw [IntWalk.i64_in _ (by omega)]; omega
                have hsn : dsF x.B c (c' + 1) = dsF x.B c c' ++ [.D bb] := by rw [dsF_snoc hc1 (by rw [HX.out.1.lB]; omega), hbb]; rfl
                have HD2 := Lib.hid hD
                have HSN := Lib.hid hsn
                clear hD hx3 hbb hsn
                go_wp2_with (fail)
                refine (d1_drop HD2.out bb hA2).mono ?_
                rintro e Z2 ⟨rfl, hE3⟩
                have HE3 := Lib.hid hE3
                clear hE3
                go_wp2
                go_roundw
                case rel => exact ⟨c' + 1, by go_num, by omega, by omega, by rw [HSN.out, ← List.append_assoc]; exact HE3.out⟩
                case measure => simp [intOf] <;> omega
              · obtain rfl : c' = k := by omega
                have ltc : ¬ (c' : Int) < (c' : Int) := by omega
                obtain ⟨b3, b4⟩ := Hy2.out _ hD.low
                obtain ⟨b5, b6⟩ := Hy3.out _ hD.low
                have HD2 := Lib.hid hD
                clear hD
                cases d2 with
                | true =>
                  go_wp2_with (fail)
                  refine (d1_drop HD2.out e2 hA2).mono ?_
                  rintro e Z2 ⟨rfl, hE3⟩
                  have HE3 := Lib.hid hE3
                  clear hE3
                  go_wp2
                  go_roundw
                  case rel => exact ⟨c' + 1, q + 1, _, by go_num, by go_num, HE3.out, HN.out⟩
                  case measure => simp [intOf] <;> omega
                | false =>
                  go_wp2_with (fail)
                  refine (d1_keep HD2.out 1 (by omega) hA2).mono ?_
                  rintro e Z2 ⟨rfl, hE3⟩
                  have HE3 := Lib.hid hE3
                  clear hE3
                  go_wp2
                  go_roundw
                  case rel => exact ⟨c' + 1, q + 1, _, by go_num, by go_num, HE3.out, HN.out⟩
                  case measure => simp [intOf] <;> omega
        · have en : ((q : Int) == (T : Int)) = true := by rw [beq_iff_eq]; omega
          have en2 : (q == T) = true := by rw [beq_iff_eq]; omega
          have hC := HC.out
          rw [List.drop_of_length_le (by rw [HLT.out]; omega)] at hC
          obtain ⟨C, hC1, hC2⟩ := cm_end hC hlt HS.out
          have hcF : c ≤ F := hC.ok
          have HEnd := Lib.hid (And.intro hC1 hC2)
          have hA1 : (Ad ++ (bL s).map Atm.P).length ≤ 600000 := by rw [List.length_append, List.length_map, bL_len]; omega
          clear hC hC1 hC2 hlt
          go_wp2
          go_loopw [18] (fun cv Z => ∃ c' : Nat, cv = .int .i64 c' ∧ c ≤ c' ∧ c' ≤ F ∧ D1 WM WM.heap.size (WM.heap.size + 1) Z (Ad ++ (bL s).map Atm.P ++ dsF x.B c c')) (fun cv _ => F - (intOf cv).toNat)
          case atStart => exact ⟨c, rfl, Nat.le_refl _, hcF, by rw [dsF_nil, List.append_nil]; exact HE.out⟩
          case round =>
            obtain ⟨c', rfl, hc1, hc2, hD⟩ := hrel
            have hdl : (dsF x.B c c').length ≤ 65536 := by unfold dsF; rw [List.length_map, List.length_take]; omega
            have hA2 : (Ad ++ (bL s).map Atm.P ++ dsF x.B c c').length ≤ 900000 := by rw [List.length_append]; omega
            obtain ⟨h0c, h1c, h2c⟩ := Hlen.out _ (HB.out.1.trans (hD.low.mono HB.out.1.size))
            by_cases hck : c' < F
            · obtain ⟨bb, hbb⟩ := brow x HX.out.1 hck
              obtain ⟨g5, r5, m5, hx3⟩ := HB.out.2.1.allB hbb
              obtain ⟨b7, b8⟩ := hx3 _ hD.low
              have ltF : (c' : Int) < (F : Int) := by omega
              have jc : IntKind.i64.wrap ((c' : Int) + 1) = ((c' + 1 : Nat) : Int) := by rw [IntWalk.i64_in _ (by omega)]; omega
              have hsn : dsF x.B c (c' + 1) = dsF x.B c c' ++ [.D bb] := by rw [dsF_snoc hc1 (by rw [HX.out.1.lB]; omega), hbb]; rfl
              have HD2 := Lib.hid hD
              have HSN := Lib.hid hsn
              clear hD hx3 hbb hsn h0c h2c
              go_wp2_with (fail)
              refine (d1_drop HD2.out bb hA2).mono ?_
              rintro e Z2 ⟨rfl, hE3⟩
              have HE3 := Lib.hid hE3
              clear hE3
              go_wp2
              go_roundw
              case rel => exact ⟨c' + 1, by go_num, by omega, by omega, by rw [HSN.out, ← List.append_assoc]; exact HE3.out⟩
              case measure => simp [intOf] <;> omega
            · obtain rfl : c' = F := by omega
              have ltF : ¬ (c' : Int) < (c' : Int) := by omega
              have HD2 := Lib.hid hD
              clear hD h0c h2c
              go_wp2_with (fail)
              refine (d1_end HD2.out hA2).mono ?_
              rintro e Z2 ⟨rfl, v, hE3, _, hlow⟩
              obtain ⟨e1, _, _⟩ := hE3.cells
              have hnf := eqf_nf HEnd.out.2
              rw [← hnf] at hE3
              obtain ⟨ov, cv, rfl, _⟩ := own_slice hE3.ro
              have HE3 := Lib.hid (And.intro hE3 hlow)
              clear hE3 hlow hnf
              go_wp2
              refine bodyPost_ret (results_tmp2 rfl _ _ _) rfl ?_
              have hws := HW.out.size
              have hbs := HB.out.1.size
              exact .inr ⟨C, _, HEnd.out.1, rfl, own_base HE3.out.1.ro (by omega), HW.out.trans ((HB.out.1.trans (HE3.out.2.mono hbs)).mono hws)⟩
end Go.Proofs.Ytpijooajbgeejaa
