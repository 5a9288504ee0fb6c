/- Stage 27: the document's Whole. -/
import Derived.Test.YtjccoiephdopkaaZ25
namespace Go.Proofs.Ytjccoiephdopkaa
set_option linter.unusedVariables false
set_option linter.unusedSimpArgs false
open Go Go.RowKit Go.Shelf
set_option maxRecDepth 100000

def gI : Option Nat → Int
  | none => -1
  | some g => g
theorem g_get {W : World} {g0 : Nat} {gs : List (Option Nat)} {p : Nat} {u : Option Nat} (h : RowAt W encG 1 (some ⟨g0, 0, none⟩) gs) (hp : gs[p]? = some u) : ∀ X, Below W.heap.size W X → X.cell? ⟨g0, p, none⟩ = some (.int .i64 (gI u)) := by
  intro X hX
  obtain ⟨g, off, e, hc⟩ := h p u hp
  cases e
  have h0 := hc 0 (by decide)
  rw [Nat.mul_one, Nat.zero_add, Nat.add_zero] at h0
  have : (encG u)[0]? = some (.int .i64 (gI u)) := by cases u <;> rfl
  rw [this] at h0
  exact at_below h0 hX
theorem gI_ge (u : Option Nat) : decide ((0 : Int) ≤ gI u) = u.isSome := by cases u <;> simp [gI]
theorem gI_eq (u : Option Nat) (m : Nat) : (gI u == (m : Int)) = decide (u = some m) := by
  cases u with
  | none => rw [Bool.eq_iff_iff, beq_iff_eq, decide_eq_true_iff]; simp only [gI]; constructor <;> intro h <;> first | omega | cases h
  | some g => rw [Bool.eq_iff_iff, beq_iff_eq, decide_eq_true_iff]; simp only [gI, Option.some.injEq]; omega
theorem D1.two {w0 W : World} {B b : Nat} {A : List Atm} (h : D1 w0 B b W A) (x y : ByteArray) {pu dr : ByteArray} (h1 : (fdL A mk0).put = pu) (h2 : (fdL A mk0).drop = dr) :
    D1 w0 B b ((W.setCell ⟨B, 1, none⟩ (.string (pu ++ x))).setCell ⟨B, 2, none⟩ (.string (dr ++ y))) (A ++ (bL x).map .P ++ (bL y).map .D) := by
  have g1 := (h.put x).drp y
  have e : (fdL (A ++ (bL x).map .P) mk0).drop = (fdL A mk0).drop := by
    have := (row_put x (fdL A mk0)).2.2
    rw [puts_fd, ← fdL_app] at this
    exact this
  rw [e, h1, h2] at g1
  exact g1
theorem pu_le {A : List Atm} {n : Nat} (h : A.length ≤ n) : (fdL A mk0).put.size ≤ n ∧ (fdL A mk0).drop.size ≤ n := by
  have := dk_bd A
  omega
/-- How the loop over the pieces stands. -/
def WhR (s t : ByteArray) (gs : List (Option Nat)) (WM : World) (B b : Nat) (va vb vj vi : Value) (W : World) : Prop :=
  ∃ (i q j : Nat), va = .int .i64 (upW s t gs q).a ∧ vb = .int .i64 (upW s t gs q).b ∧ vj = .int .i64 j ∧ vi = .int .i64 i ∧ Eg s i q ∧ JP t gs j q ∧ D1 WM B b W (upW s t gs q).A
set_option maxHeartbeats 8000000 in
theorem wholeD_any (s : ByteArray) (l : List Sp) (o : Option Addr) (c : Nat) (hn : l.length ≤ 9223372036854775807) (hs : s.size ≤ 9223372036854775807) (ho : OkS l) (h0 : (appF s l).2 = 0) (w : World) (hr : RowAt w encS 3 o l) :
    Calls Try.prog 19 #[.string s, .slice o l.length c] w fun e w' => ∃ v, e = .returned v ∧ w'.ownsRow w.heap.size 54 3 v (whO s l).length ((whO s l).flatMap encS) ∧ Below w.heap.size w w' := by
  obtain ⟨T, hz, hrun⟩ := appF_ok h0
  have hbd := plain_cu hz
  have hs6 : s.size ≤ 65536 := hbd.2.2.2.1
  have cA := applyD_any s l o c _ _ hn hs ho hz w hr
  have cS := fun X (hX : Below w.heap.size w X) => sayx_any l o c _ _ hn ho hz X (hr.below encS_len (by decide) hX)
  obtain ⟨t, ht⟩ : ∃ t, (appF s l).1 = t := ⟨_, rfl⟩
  rw [h0, ht] at cA
  rw [ht] at hrun
  have hPk := plain_ok hz
  have hrn : runA (atL (plainM l)) (bL s) = some (bL t, []) := by rw [hPk.2.2.2]; exact hrun
  have hrl := run_len hrn
  rw [bL_len, bL_len, List.length_nil] at hrl
  have hsz := sizeG_in _ 0 0 _ _ hPk.1
  have ht6 : t.size ≤ 65536 := by have := hbd.2.2.2.2.1; omega
  have hgs := GsK.of hrn
  obtain ⟨A, hA⟩ : ∃ A, atL (plainM l) = A := ⟨_, rfl⟩
  obtain ⟨gs, hgse⟩ : ∃ gs, gsA A 0 = gs := ⟨_, rfl⟩
  rw [hA] at hgs hrl
  rw [hgse] at hgs
  have hwh : whO s l = nfA (finW s t (upW s t gs s.size)) := by unfold whO whA; rw [ht, hA, hgse]
  have hG := Lib.hid (And.intro hgs (And.intro hgse (And.intro hwh hrl)))
  have hAe := Lib.hid hA
  have cP1 := SZ.piecesD_any s (by omega)
  have cP2 := SZ.piecesD_any t (by omega)
  clear hr ho h0 hz hrun hbd ht hPk hrn hrl hsz hgs hgse hwh hA
  go_enter Try.func19, Try.ntmps19
  go_wp2_with (fail)
  refine cA.mono ?_
  rintro e W1 ⟨rfl, hB1⟩
  have H1 := Lib.hid hB1
  clear hB1 cA
  go_wp2_with (fail)
  refine (cS _ H1.out).mono ?_
  rintro e W4 ⟨Ps, Ds, Bs, vP, vD, vB, rfl, hP1, hD1, hB1, lp1, ld1, lb1, hfr1, hB4⟩
  obtain ⟨gP, cP, rfl, _⟩ := own_slice hP1
  obtain ⟨gD, cD, rfl, _⟩ := own_slice hD1
  obtain ⟨gB, cB, rfl, _⟩ := own_slice hB1
  obtain ⟨x, hxe⟩ : ∃ x : Sd, (⟨Ps, Ds, Bs⟩ : Sd) = x := ⟨_, rfl⟩
  have hx : SdOk x s.size A := by rw [← hxe, ← hAe.out]; exact ⟨lp1, ld1, lb1, hfr1⟩
  have hv : SdV W4 (.agg #[.slice gP (s.size + 1) cP, .slice gD s.size cD, .slice gB s.size cB]) x s.size gP gD gB cP cD cB := by
    rw [← hxe]
    exact SdV.of lp1 ld1 lb1 hP1 hD1 hB1 (Below.refl _ _)
  have hbox := hv.box
  have hb1 := H1.out.trans (hB4.mono H1.out.size)
  have hb0 := hb1.trans (((Below.refl W4.heap.size W4).alloc (Nat.le_refl _) (.cells #[.slice gP (s.size + 1) cP, .slice gD s.size cD, .slice gB s.size cB] 43)).mono hb1.size)
  obtain ⟨WA, hWA⟩ : ∃ Z, W4.alloc (.cells #[.slice gP (s.size + 1) cP, .slice gD s.size cD, .slice gB s.size cB] 43) = Z := ⟨_, rfl⟩
  have HW := Lib.hid hWA
  rw [hWA] at hbox hb0
  obtain ⟨bx, hbx⟩ : ∃ b, W4.heap.size = b := ⟨_, rfl⟩
  rw [hbx] at hbox
  have HBX := Lib.hid hbx
  have HX := Lib.hid (And.intro hbox (And.intro hx hb0))
  clear hv hbox hb0 hb1 hWA hx hB4 hP1 hD1 hB1 lp1 ld1 lb1 hfr1 hxe cS hbx H1
  go_wp2_with (fail)
  rw [HW.out, HBX.out]
  refine (cP1 _).mono ?_
  rintro e w1 ⟨v1, rfl, r1, b1⟩
  clear cP1
  go_wp2_with (fail)
  refine (cP2 _).mono ?_
  rintro e w2 ⟨v2, rfl, r2, b2⟩
  clear cP2
  have r1' := own_below r1 b2
  obtain ⟨o1, c1, rfl, _⟩ := own_slice r1'
  obtain ⟨o2, c2, rfl, _⟩ := own_slice r2
  have q1 : RowAt w2 (encQ s) 4 o1 (posns s) := RowAt.of_own (enc := encQ s) (l := posns s) (k := 4) (fun _ => rfl) r1' rfl
  have q2 : RowAt w2 (encQ t) 4 o2 (posns t) := RowAt.of_own (enc := encQ t) (l := posns t) (k := 4) (fun _ => rfl) r2 rfl
  have hb12 := b1.trans (b2.mono b1.size)
  have hmi := make_ints w2 s.size (by omega)
  have hr0 := rowI0 w2 w2.heap.size s.size (Nat.le_refl _) hs6
  have hbI := (Below.refl w2.heap.size w2).alloc (Nat.le_refl _) (.cells (madeCells #[.int .i64 0] s.size) 3)
  have HQ := Lib.hid (And.intro q1 (And.intro q2 (And.intro hb12 (And.intro hr0 hbI))))
  have lS := posns_len s
  have lT := posns_len t
  clear q1 q2 r1 r1' r2 b1 b2 hb12 hr0 hbI
  obtain ⟨L1, hL1⟩ : ∃ n, (posns s).length = n := ⟨_, rfl⟩
  obtain ⟨L2, hL2⟩ : ∃ n, (posns t).length = n := ⟨_, rfl⟩
  rw [hL1] at lS ⊢
  rw [hL2] at lT ⊢
  have HL := Lib.hid (And.intro hL1 hL2)
  clear hL1 hL2
  go_wp2
  obtain ⟨g0, hg0⟩ : ∃ g, w2.heap.size = g := ⟨_, rfl⟩
  obtain ⟨W0, hW0⟩ : ∃ Z, w2.alloc (.cells (madeCells #[.int .i64 0] s.size) 3) = Z := ⟨_, rfl⟩
  rw [hW0] at HQ
  rw [hg0, hW0]
  have HG0 := Lib.hid hg0
  have hsd0 := HX.out.1.below HQ.out.2.2.1
  obtain ⟨hgP, hcP, hgD, hcD, hgB, hcB, hlenx⟩ := hsd0.hdr
  have Hlen := Lib.hid hlenx
  have HSD := Lib.hid hsd0
  have hA0 : GoP gs x s.size 0 0 [] := ⟨Nat.zero_le _, rfl, by rw [← hG.out.2.1, show frR x s.size 0 = A by (unfold frR; rw [if_pos (Nat.zero_le _), Nat.sub_zero]; exact HX.out.2.1.fr)]; rfl, by rw [show frR x s.size 0 = A by (unfold frR; rw [if_pos (Nat.zero_le _), Nat.sub_zero]; exact HX.out.2.1.fr)]; have := hG.out.2.2.2.2; omega⟩
  have HA0 := Lib.hid hA0
  clear hmi hg0 hW0 hsd0 hlenx hA0
  go_loopw [11, 12] (fun av pv W => ∃ (p at' : Nat) (G : List (Option Nat)), pv = .int .i64 p ∧ av = .int .i64 at' ∧ GoP gs x s.size p at' G ∧ GoesB W g0 g0 s.size G (List.replicate (s.size - p) (.int .i64 0)) ∧ Below w2.heap.size w2 W) (fun _ pv _ => s.size - (intOf pv).toNat)
  case atStart => exact ⟨0, 0, [], rfl, rfl, HA0.out, by rw [← HG0.out]; exact HQ.out.2.2.2.1, HQ.out.2.2.2.2⟩
  case round =>
    obtain ⟨p, at', G, rfl, rfl, hP, hR, hB⟩ := hrel
    have hp := hP.le
    by_cases hlt : p < s.size
    · obtain ⟨y, hy⟩ := frow x HX.out.2.1 hp
      obtain ⟨g2, r2, m2, hx1⟩ := HSD.out.allP hy
      obtain ⟨ay, az⟩ := hx1 _ hB
      obtain ⟨hQ, hy6⟩ := go_put hP hlt hy
      obtain ⟨d, hd⟩ := drow x HX.out.2.1 hlt
      obtain ⟨g3, r3, m3, hx3⟩ := HSD.out.allD hd
      have hB2 : Below w2.heap.size w2 (wr.setCell ⟨g0, p, none⟩ (.int .i64 (-1))) := hB.setCell (p := ⟨g0, p, none⟩) (by have := HG0.out; show w2.heap.size ≤ g0; omega) _
      obtain ⟨d1, d2⟩ := hx3 _ hB2
      rw [rep_cons hlt] at hR
      obtain ⟨kc, kf⟩ := hR.cell hP.len hlt
      have hR2 := hR.set hP.len hlt (.int .i64 (-1))
      obtain ⟨kc2, kf2⟩ := hR2.cell hP.len hlt
      have lt1 : (p : Int) < (s.size : Int) := by omega
      have jp : IntKind.i64.wrap ((p : Int) + 1) = ((p + 1 : Nat) : Int) := by rw [IntWalk.i64_in _ (by omega)]; omega
      obtain ⟨E, hE⟩ : ∃ E, at' + y.size = E := ⟨_, rfl⟩
      rw [hE] at hQ hy6
      have jE : IntKind.i64.wrap ((at' : Int) + (y.size : Int)) = (E : Int) := by rw [IntWalk.i64_in _ (by omega)]; omega
      have jE1 : IntKind.i64.wrap ((E : Int) + 1) = ((E + 1 : Nat) : Int) := by rw [IntWalk.i64_in _ (by omega)]; omega
      have hl := hP.len
      cases d with
      | false =>
        obtain ⟨hK, hK6⟩ := go_keep hQ hl hlt hd
        have hR3 := (hR2.set hl hlt (.int .i64 E)).snoc (u := some E) rfl
        have hB3 : Below w2.heap.size w2 ((wr.setCell ⟨g0, p, none⟩ (.int .i64 (-1))).setCell ⟨g0, p, none⟩ (.int .i64 E)) := hB2.setCell (p := ⟨g0, p, none⟩) (by have := HG0.out; show w2.heap.size ≤ g0; omega) _
        have HK := Lib.hid (And.intro hK (And.intro hR3 hB3))
        clear hK hR3 hB3 hB2 hR2 hR hQ hP hx1 hx3 hy hd hB hE hl
        go_wp2
        go_roundw
        case rel => exact ⟨p + 1, E + 1, _, by go_num, by go_num, HK.out.1, HK.out.2.1, HK.out.2.2⟩
        case measure => simp [intOf] <;> omega
      | true =>
        obtain ⟨c0, hc⟩ : ∃ c, x.B[p]? = some c := ⟨_, List.getElem?_eq_getElem (by rw [HX.out.2.1.lB]; exact hlt)⟩
        have hK := go_drop hQ hl hlt hd hc
        have hR3 := hR2.snoc (u := none) rfl
        have HK := Lib.hid (And.intro hK (And.intro hR3 hB2))
        clear hK hR3 hB2 hR2 hR hQ hP hx1 hx3 hy hd hB hE hl hc
        go_wp2
        go_roundw
        case rel => exact ⟨p + 1, E, _, by go_num, rfl, HK.out.1, HK.out.2.1, HK.out.2.2⟩
        case measure => simp [intOf] <;> omega
    · obtain rfl : p = s.size := by omega
      obtain ⟨y, hy⟩ := frow x HX.out.2.1 (Nat.le_refl _)
      have hfin := go_fin hP hy
      subst hfin
      rw [Nat.sub_self, List.replicate_zero] at hR
      unfold GoesB at hR
      rw [List.append_nil] at hR
      have hgr : RowAt wr encG 1 (some ⟨g0, 0, none⟩) gs := RowAt.of_own encG_len hR hG.out.1.len
      have hq1 := RowAt.below (enc := encQ s) (k := 4) (fun _ => rfl) (by decide) HQ.out.1 hB
      have hq2 := RowAt.below (enc := encQ t) (k := 4) (fun _ => rfl) (by decide) HQ.out.2.1 hB
      have HR := Lib.hid (And.intro hgr (And.intro hq1 (And.intro hq2 (HX.out.2.2.trans ((HQ.out.2.2.1.trans (hB.mono HQ.out.2.2.1.size)).mono HX.out.2.2.size)))))
      have HD0 := Lib.hid (D1.new wr)
      clear hgr hq1 hq2 hR hP hB hy Hlen
      go_wp2
      obtain ⟨WM, hWM⟩ : ∃ Z, wr = Z := ⟨_, rfl⟩
      rw [hWM] at HR HD0 ⊢
      obtain ⟨B, hBB⟩ : ∃ b, WM.heap.size = b := ⟨_, rfl⟩
      rw [hBB] at HD0 ⊢
      have HBB := Lib.hid hBB
      clear hWM hBB
      go_loopw [14, 15, 16, 17] (fun va vb vj vi W => WhR s t gs WM B (B + 1) va vb vj vi W) (fun _ _ _ vi _ => L1 - (intOf vi).toNat)
      case atStart => exact ⟨0, 0, 0, by rw [upW_zero]; rfl, by rw [upW_zero]; rfl, rfl, rfl, eg_start s, ⟨Nat.zero_le _, fun i x hi => absurd hi (Nat.not_lt_zero _)⟩, by rw [upW_zero]; exact HD0.out⟩
      case round =>
        obtain ⟨i, q, j, rfl, rfl, rfl, rfl, hE, hJ, hD⟩ := hrel
        have hWo := upW_ok hG.out.1 q (eg_edB hE)
        have hle := hWo.len
        obtain ⟨X0, hX0⟩ : ∃ z, upW s t gs q = z := ⟨_, rfl⟩
        rw [hX0] at hWo hle hD ⊢
        obtain ⟨Ad, a1, b1⟩ := X0
        simp only at hle hD ⊢
        have z1 := hWo.ac
        have z2 := hWo.sz
        have z3 := hWo.bt
        simp only at z1 z2 z3
        by_cases hi : i < L1
        · have hiL : i < (posns s).length := by rw [HL.out.1]; exact hi
          obtain ⟨e1, e2⟩ := (eg_at hE).1 hiL
          have hmem := eg_mem hE hiL
          have hEn := eg_next hE hiL
          have hstep := upW_step (s := s) (t := t) (gs := gs) hmem
          rw [hX0] at hstep
          obtain ⟨gk, rk, rfl, hk⟩ := q_get HR.out.2.1 e1
          obtain ⟨u, hu⟩ : ∃ u, gs[q]? = some u := ⟨_, List.getElem?_eq_getElem (by rw [hG.out.1.len]; exact e2)⟩
          have hgq := g_get HR.out.1 hu
          have hwp := wd_pos s q
          have hwl := wd_le s q
          have hwf := wd_fits s q e2
          have hT1 := fun (h : rB gs q (wd s q) = false) => rB_tk (t := t) h
          have hT2 := fun (h : rB gs q (wd s q) = true) => rB_tk2 (s := s) (t := t) h
          obtain ⟨wq, hwq⟩ : ∃ z, wd s q = z := ⟨_, rfl⟩
          rw [hwq] at hk hwp hwl hwf hstep hEn hT1 hT2
          obtain ⟨z, hz⟩ : ∃ z, gI u = z := ⟨_, rfl⟩
          have hz0 := gI_ge u
          rw [hz] at hz0 hgq
          obtain ⟨bu, hbu⟩ : ∃ b, u.isSome = b := ⟨_, rfl⟩
          rw [hbu] at hz0
          have hr1 : rB gs q 1 = bu := by rw [rB_one hu, hbu]
          obtain ⟨k0, k1⟩ := hk _ hD.low
          have kg := hgq _ hD.low
          have hiI : (i : Int) < (L1 : Int) := by omega
          have hiN : (0 : Int) ≤ (i : Int) := by omega
          have ji : IntKind.i64.wrap ((i : Int) + 1) = ((i + 1 : Nat) : Int) := by rw [IntWalk.i64_in _ (by omega)]; omega
          have hqI : (q : Int) < (s.size : Int) := by omega
          have HN := Lib.hid (And.intro hEn (And.intro hstep (And.intro hT1 (And.intro hT2 (And.intro hwq (And.intro hJ (And.intro hz hu)))))))
          have HK := Lib.hid (And.intro hk hgq)
          have HWo := Lib.hid hWo
          have HD := Lib.hid hD
          have HR1 := Lib.hid hr1
          clear hEn hstep hT1 hT2 hwq hJ hk hgq hWo hD hr1 hE hmem hu hz hbu hX0 e1 e2 hiL
          go_wp2
          go_loopw [19, 20] (fun vr vn W => ∃ (n : Nat) (r : Bool), vn = .int .i64 n ∧ vr = .bool r ∧ 1 ≤ n ∧ n ≤ wq ∧ rB gs q n = r ∧ D1 WM B (B + 1) W Ad) (fun _ vn _ => wq - (intOf vn).toNat)
          case atStart => exact ⟨1, bu, rfl, rfl, Nat.le_refl _, hwp, HR1.out, HD.out⟩
          case round =>
            obtain ⟨n, r, rfl, rfl, hn1, hnw, hrB, hD⟩ := hrel
            obtain ⟨k0, k1⟩ := HK.out.1 _ hD.low
            have kg := HK.out.2 _ hD.low
            have HD2 := Lib.hid hD
            by_cases hnl : n < wq
            · have hnI : (n : Int) < (wq : Int) := by omega
              have jn : IntKind.i64.wrap ((n : Int) + 1) = ((n + 1 : Nat) : Int) := by rw [IntWalk.i64_in _ (by omega)]; omega
              cases r with
              | false =>
                have hnx := rB_next_no (by omega) hrB
                have HX9 := Lib.hid hnx
                clear hnx hrB hD
                go_wp2
                go_quiet (fail)
                generalize hU : World.drewN _ _ = U
                have hDU := HD2.out.below (hU ▸ below_drewN _ _ : Below wr.heap.size wr U)
                have HDU := Lib.hid hDU
                clear hU hDU
                go_wp2
                go_roundw
                case rel => exact ⟨n + 1, false, by go_num, rfl, by omega, by omega, HX9.out, HDU.out⟩
                case measure => simp [intOf] <;> omega
              | true =>
                obtain ⟨g, hg1, hg2⟩ := rB_next (by omega) hrB
                obtain ⟨u2, hu2⟩ : ∃ u, gs[q + n]? = some u := ⟨_, List.getElem?_eq_getElem (by rw [hG.out.1.len]; omega)⟩
                have hg3 := hg2 u2 hu2
                have kg2 := g_get HR.out.1 hu2 _ hD.low
                have hgt := (hG.out.1.same q g hg1).2
                have hzg : z = (g : Int) := by
                  have h1 := HN.out.2.2.2.2.2.2.2
                  rw [hg1] at h1
                  cases h1
                  exact HN.out.2.2.2.2.2.2.1.symm
                subst hzg
                obtain ⟨z2, hz2⟩ : ∃ z, gI u2 = z := ⟨_, rfl⟩
                have hze := gI_eq u2 (g + n)
                rw [hz2] at hze kg2
                rw [← hg3] at hze
                obtain ⟨r2, hr2⟩ : ∃ r, rB gs q (n + 1) = r := ⟨_, rfl⟩
                rw [hr2] at hze
                obtain ⟨gn, hgn⟩ : ∃ m, g + n = m := ⟨_, rfl⟩
                rw [hgn] at hze
                obtain ⟨qn, hqn⟩ : ∃ m, q + n = m := ⟨_, rfl⟩
                rw [hqn] at kg2
                have jq : IntKind.i64.wrap ((q : Int) + (n : Int)) = (qn : Int) := by rw [IntWalk.i64_in _ (by omega)]; omega
                have jg : IntKind.i64.wrap ((g : Int) + (n : Int)) = (gn : Int) := by rw [IntWalk.i64_in _ (by omega)]; omega
                have hqnI : (qn : Int) < (s.size : Int) := by omega
                have hqn0 : (0 : Int) ≤ (qn : Int) := by omega
                have HX9 := Lib.hid hr2
                clear hg1 hg2 hg3 hu2 hrB hD hr2 hgn hqn hgt hz2
                go_wp2
                go_quiet (fail)
                generalize hU : World.drewN _ _ = U
                have hDU := HD2.out.below (hU ▸ below_drewN _ _ : Below wr.heap.size wr U)
                have HDU := Lib.hid hDU
                clear hU hDU
                go_wp2
                go_roundw
                case rel => exact ⟨n + 1, r2, by go_num, rfl, by omega, by omega, HX9.out, HDU.out⟩
                case measure => simp [intOf] <;> omega
            · obtain rfl : n = wq := by omega
              cases r with
              | false =>
                have hno := stepW_no (x := ⟨Ad, a1, b1⟩) (HN.out.2.2.1 hrB)
                have HZ := Lib.hid (HN.out.2.1.trans hno)
                clear hno hrB hD
                go_wp2
                go_roundw
                case rel => exact ⟨i + 1, q + n, j, by rw [HZ.out], by rw [HZ.out], rfl, by go_num, HN.out.1, HN.out.2.2.2.2.2.1.mono (by omega), by rw [HZ.out]; exact HD2.out⟩
                case measure => simp [intOf] <;> omega
              | true =>
                obtain ⟨g, hg1, hg2, hg3⟩ := HN.out.2.2.2.1 hrB
                have hgt := (hG.out.1.same q g hg1).2
                have hzg : z = (g : Int) := by
                  have h1 := HN.out.2.2.2.2.2.2.2
                  rw [hg1] at h1
                  cases h1
                  exact HN.out.2.2.2.2.2.2.1.symm
                subst hzg
                have hJG : JG t j g := ⟨HN.out.2.2.2.2.2.1.1, fun i x hi hx => HN.out.2.2.2.2.2.1.2 i x hi hx q g (Nat.le_refl _) hg1⟩
                have hb1g : b1 ≤ g := HWo.out.nx q g (Nat.le_refl _) hg1
                have HGG := Lib.hid (And.intro hg1 (And.intro hg2 (And.intro hg3 hJG)))
                clear hg1 hg2 hg3 hrB hD hJG
                go_wp2
                go_loopw [16] (fun vj W => ∃ (j' : Nat), vj = .int .i64 j' ∧ JG t j' g ∧ D1 WM B (B + 1) W Ad) (fun vj _ => L2 - (intOf vj).toNat)
                case atStart => exact ⟨j, rfl, HGG.out.2.2.2, HD2.out⟩
                case round =>
                  obtain ⟨j', rfl, hJG, hD⟩ := hrel
                  obtain ⟨k0, k1⟩ := HK.out.1 _ hD.low
                  have kg := HK.out.2 _ hD.low
                  have HD3 := Lib.hid hD
                  have hj0 : (0 : Int) ≤ (j' : Int) := by omega
                  have hjL := hJG.1
                  rw [HL.out.2] at hjL
                  have jj : IntKind.i64.wrap ((j' : Int) + 1) = ((j' + 1 : Nat) : Int) := by rw [IntWalk.i64_in _ (by omega)]; omega
                  have hno := fun h => stepW_no (x := ⟨Ad, a1, b1⟩) (HGG.out.2.2.1 h)
                  have HNO := Lib.hid hno
                  clear hno
                  by_cases hjl : j' < L2
                  · have hjd : decide ((j' : Int) < (L2 : Int)) = true := decide_eq_true (by omega)
                    have hjd2 : decide (j' < L2) = true := decide_eq_true hjl
                    have hjI : (j' : Int) < (L2 : Int) := by omega
                    have hjg : decide ((L2 : Int) ≤ (j' : Int)) = false := decide_eq_false (by omega)
                    have hjg2 : decide (L2 ≤ j') = false := decide_eq_false (by omega)
                    obtain ⟨xx, hxx⟩ : ∃ x, (posns t)[j']? = some x := ⟨_, List.getElem?_eq_getElem (by rw [HL.out.2]; exact hjl)⟩
                    obtain ⟨gl, rl, rfl, hl⟩ := q_get HR.out.2.2.1 hxx
                    obtain ⟨l0, l1⟩ := hl _ hD.low
                    have HLL := Lib.hid hl
                    by_cases hxg : xx < g
                    · have hxd : decide ((xx : Int) < (g : Int)) = true := decide_eq_true (by omega)
                      have hxd2 : decide (xx < g) = true := decide_eq_true hxg
                      have HJ2 := Lib.hid (jg_next hJG hxx hxg)
                      clear hJG hxx hl hxg hD
                      go_wp2
                      go_quiet (fail)
                      generalize hU : World.drewN _ _ = U
                      have hDU := HD3.out.below (hU ▸ below_drewN _ _ : Below wr.heap.size wr U)
                      have HDU := Lib.hid hDU
                      clear hU hDU
                      go_wp2
                      go_roundw
                      case rel => exact ⟨j' + 1, by go_num, HJ2.out, HDU.out⟩
                      case measure => simp [intOf] <;> omega
                    · have hxd : decide ((xx : Int) < (g : Int)) = false := decide_eq_false (by omega)
                      have hxd2 : decide (xx < g) = false := decide_eq_false hxg
                      have hat := jg_at hJG hxx hxg
                      have HJP := Lib.hid (jp_of (s := s) hG.out.1 hJG HGG.out.1)
                      by_cases hxe : xx = g
                      · subst hxe
                        have hxb : ((xx : Int) == (xx : Int)) = true := beq_self_eq_true _
                        obtain ⟨wv, hwv⟩ : ∃ z, wd t xx = z := ⟨_, rfl⟩
                        rw [hwv] at l1
                        have HWV := Lib.hid hwv
                        by_cases hww : wv = n
                        · subst hww
                          have hww2 : ((wv : Int) == (wv : Int)) = true := beq_self_eq_true _
                          have htk := HGG.out.2.1 ⟨hat.2 rfl, hwv⟩
                          have hyes := stepW_yes (x := ⟨Ad, a1, b1⟩) htk
                          rw [HN.out.2.2.2.2.1] at hyes
                          simp only at hyes
                          have HZ := Lib.hid (HN.out.2.1.trans hyes)
                          clear hJG hxx hl hxg hD hat htk hyes hwv
                          go_wp2
                          go_quiet (fail)
                          generalize hU : World.drewN _ _ = U
                          have hDU := HD3.out.below (hU ▸ below_drewN _ _ : Below wr.heap.size wr U)
                          have HDU := Lib.hid hDU
                          clear hU hDU l0 l1 k0 k1 kg
                          obtain ⟨k0, k1⟩ := HK.out.1 _ HDU.out.low
                          have kg := HK.out.2 _ HDU.out.low
                          obtain ⟨l0, l1⟩ := HLL.out _ HDU.out.low
                          rw [HWV.out] at l1
                          go_wp2
                          go_quiet (fail)
                          generalize hU : World.drewN _ _ = U2
                          have hDU := HDU.out.below (hU ▸ below_drewN _ _ : Below U.heap.size U U2)
                          have HDU2 := Lib.hid hDU
                          clear hU hDU k0 k1 kg l0 l1
                          have kg := HK.out.2 _ HDU2.out.low
                          have s1 : (0 : Int) ≤ (b1 : Int) := by omega
                          have s2 : (b1 : Int) ≤ (xx : Int) := by omega
                          have s3 : (xx : Int) ≤ (t.size : Int) := by omega
                          have s4 : (0 : Int) ≤ (a1 : Int) := by omega
                          have s5 : (a1 : Int) ≤ (q : Int) := by omega
                          have s6 : (q : Int) ≤ (s.size : Int) := by omega
                          have f1 : (t.extract b1 xx).size ≤ 65536 := by rw [ByteArray.size_extract]; omega
                          have f2 : (s.extract a1 q).size ≤ 65536 := by rw [ByteArray.size_extract]; omega
                          have hpl := pu_le (A := Ad) (n := 200000) (by omega)
                          obtain ⟨pu, hpu⟩ : ∃ z, (fdL Ad mk0).put = z := ⟨_, rfl⟩
                          obtain ⟨dr, hdr⟩ : ∃ z, (fdL Ad mk0).drop = z := ⟨_, rfl⟩
                          rw [hpu, hdr] at hpl
                          have p1 : pu.size + (t.extract b1 xx).size ≤ 9223372036854775807 := by omega
                          have p2 : dr.size + (s.extract a1 q).size ≤ 9223372036854775807 := by omega
                          have p3 : pu.size + (min xx t.size - b1) ≤ 9223372036854775807 := by omega
                          have p4 : dr.size + (min q s.size - a1) ≤ 9223372036854775807 := by omega
                          have kp := HDU2.out.cell.1
                          have kd := HDU2.out.cell2
                          rw [hpu] at kp
                          rw [hdr] at kd
                          have HPU := Lib.hid (And.intro hpu hdr)
                          clear hpu hdr hpl
                          go_wp2
                          
                          refine wp_region_noPanic ?_
                          refine wp_region_g (S := untilG [20] (fun X => X.cell? ⟨B, 2, none⟩ = some (.string dr))) (by kernel_rfl) ?_
                          obtain ⟨X21, hX21⟩ : ∃ Z, U2.drew = Z := ⟨_, rfl⟩
                          have TX : Below U2.heap.size U2 X21 := hX21 ▸ (Below.refl U2.heap.size U2).drew
                          rw [hX21]
                          clear hX21
                          have T0 := at_below kd TX
                          refine wpAnyG_take [10, 11, 16, 20] (i := 10) (v := (.pointer (some ⟨B, 2, none⟩))) rfl (by kernel_rfl) (by kernel_rfl) (by kernel_rfl) (by kernel_rfl) (by kernel_rfl) (by kernel_rfl) (by kernel_rfl) (by kernel_rfl) (fun _ _ _ h => h) (Or.inl ⟨by rfl, ?hy⟩) T0 ?_
                          case hy =>
                            intro X hX
                            go_simp
                          try simp only [Act.put, List.getElem_toArray, List.getElem_cons_zero, List.getElem_cons_succ, List.setIfInBounds_toArray, List.set_cons_zero, List.set_cons_succ]
                          refine wpAnyG_take [11, 16, 20] (i := 11) (v := (.string dr)) rfl (by kernel_rfl) (by kernel_rfl) (by kernel_rfl) (by kernel_rfl) (by kernel_rfl) (by kernel_rfl) (by kernel_rfl) (by kernel_rfl) (fun _ _ _ h => h) (Or.inl ⟨by rfl, ?hy⟩) T0 ?_
                          case hy =>
                            intro X hX
                            have e0 := hX
                            go_simp
                          try simp only [Act.put, List.getElem_toArray, List.getElem_cons_zero, List.getElem_cons_succ, List.setIfInBounds_toArray, List.set_cons_zero, List.set_cons_succ]
                          refine wpAnyG_take [12, 15, 16, 20] (i := 12) (v := (.string s)) rfl (by kernel_rfl) (by kernel_rfl) (by kernel_rfl) (by kernel_rfl) (by kernel_rfl) (by kernel_rfl) (by kernel_rfl) (by kernel_rfl) (fun _ _ _ h => h) (Or.inl ⟨by rfl, ?hy⟩) T0 ?_
                          case hy =>
                            intro X hX
                            go_simp
                          try simp only [Act.put, List.getElem_toArray, List.getElem_cons_zero, List.getElem_cons_succ, List.setIfInBounds_toArray, List.set_cons_zero, List.set_cons_succ]
                          refine wpAnyG_take [13, 15, 16, 20] (i := 13) (v := (.int .i64 a1)) rfl (by kernel_rfl) (by kernel_rfl) (by kernel_rfl) (by kernel_rfl) (by kernel_rfl) (by kernel_rfl) (by kernel_rfl) (by kernel_rfl) (fun _ _ _ h => h) (Or.inl ⟨by rfl, ?hy⟩) T0 ?_
                          case hy =>
                            intro X hX
                            go_simp
                          try simp only [Act.put, List.getElem_toArray, List.getElem_cons_zero, List.getElem_cons_succ, List.setIfInBounds_toArray, List.set_cons_zero, List.set_cons_succ]
                          refine wpAnyG_take [14, 15, 16, 20] (i := 14) (v := (.int .i64 q)) rfl (by kernel_rfl) (by kernel_rfl) (by kernel_rfl) (by kernel_rfl) (by kernel_rfl) (by kernel_rfl) (by kernel_rfl) (by kernel_rfl) (fun _ _ _ h => h) (Or.inl ⟨by rfl, ?hy⟩) T0 ?_
                          case hy =>
                            intro X hX
                            go_simp
                          try simp only [Act.put, List.getElem_toArray, List.getElem_cons_zero, List.getElem_cons_succ, List.setIfInBounds_toArray, List.set_cons_zero, List.set_cons_succ]
                          refine wpAnyG_take [15, 16, 20] (i := 15) (v := (.string (s.extract a1 q))) rfl (by kernel_rfl) (by kernel_rfl) (by kernel_rfl) (by kernel_rfl) (by kernel_rfl) (by kernel_rfl) (by kernel_rfl) (by kernel_rfl) (fun _ _ _ h => h) (Or.inl ⟨by rfl, ?hy⟩) T0 ?_
                          case hy =>
                            intro X hX
                            go_simp
                          try simp only [Act.put, List.getElem_toArray, List.getElem_cons_zero, List.getElem_cons_succ, List.setIfInBounds_toArray, List.set_cons_zero, List.set_cons_succ]
                          refine wpAnyG_take [16, 20] (i := 16) (v := (.string (dr ++ s.extract a1 q))) rfl (by kernel_rfl) (by kernel_rfl) (by kernel_rfl) (by kernel_rfl) (by kernel_rfl) (by kernel_rfl) (by kernel_rfl) (by kernel_rfl) (fun _ _ _ h => h) (Or.inl ⟨by rfl, ?hy⟩) T0 ?_
                          case hy =>
                            intro X hX
                            go_simp
                          try simp only [Act.put, List.getElem_toArray, List.getElem_cons_zero, List.getElem_cons_succ, List.setIfInBounds_toArray, List.set_cons_zero, List.set_cons_succ]
                          have TB := T0
                          clear T0
                          have T0 := TX
                          refine wpAnyG_both (k1 := [18]) (T1 := fun X => Below U2.heap.size U2 X) ?_
                          refine wpAnyG_take2 [0, 1, 9, 18] (k1 := [18]) (k2 := [20]) (i := 0) (v := (.pointer (some ⟨B, 1, none⟩))) rfl (by kernel_rfl) (by kernel_rfl) (by kernel_rfl) (by kernel_rfl) (by kernel_rfl) (by kernel_rfl) (by kernel_rfl) (by kernel_rfl) (by kernel_rfl) (fun _ _ _ h => h) (Or.inl ⟨by rfl, ?hy⟩) T0 TB ?_
                          case hy =>
                            intro X hX
                            go_simp
                          try simp only [Act.put, List.getElem_toArray, List.getElem_cons_zero, List.getElem_cons_succ, List.setIfInBounds_toArray, List.set_cons_zero, List.set_cons_succ]
                          refine wpAnyG_take2 [1, 9, 18] (k1 := [18]) (k2 := [20]) (i := 1) (v := (.string pu)) rfl (by kernel_rfl) (by kernel_rfl) (by kernel_rfl) (by kernel_rfl) (by kernel_rfl) (by kernel_rfl) (by kernel_rfl) (by kernel_rfl) (by kernel_rfl) (fun _ _ _ h => h) (Or.inl ⟨by rfl, ?hy⟩) T0 TB ?_
                          case hy =>
                            intro X hX
                            have e0 := at_below kp hX
                            go_simp
                          try simp only [Act.put, List.getElem_toArray, List.getElem_cons_zero, List.getElem_cons_succ, List.setIfInBounds_toArray, List.set_cons_zero, List.set_cons_succ]
                          refine wpAnyG_take2 [2, 8, 9, 18] (k1 := [18]) (k2 := [20]) (i := 2) (v := (.string t)) rfl (by kernel_rfl) (by kernel_rfl) (by kernel_rfl) (by kernel_rfl) (by kernel_rfl) (by kernel_rfl) (by kernel_rfl) (by kernel_rfl) (by kernel_rfl) (fun _ _ _ h => h) (Or.inl ⟨by rfl, ?hy⟩) T0 TB ?_
                          case hy =>
                            intro X hX
                            go_simp
                          try simp only [Act.put, List.getElem_toArray, List.getElem_cons_zero, List.getElem_cons_succ, List.setIfInBounds_toArray, List.set_cons_zero, List.set_cons_succ]
                          refine wpAnyG_take2 [3, 8, 9, 18] (k1 := [18]) (k2 := [20]) (i := 3) (v := (.int .i64 b1)) rfl (by kernel_rfl) (by kernel_rfl) (by kernel_rfl) (by kernel_rfl) (by kernel_rfl) (by kernel_rfl) (by kernel_rfl) (by kernel_rfl) (by kernel_rfl) (fun _ _ _ h => h) (Or.inl ⟨by rfl, ?hy⟩) T0 TB ?_
                          case hy =>
                            intro X hX
                            go_simp
                          try simp only [Act.put, List.getElem_toArray, List.getElem_cons_zero, List.getElem_cons_succ, List.setIfInBounds_toArray, List.set_cons_zero, List.set_cons_succ]
                          refine wpAnyG_take2 [4, 6, 7, 8, 9, 18] (k1 := [18]) (k2 := [20]) (i := 4) (v := (.slice (some ⟨g0, 0, none⟩) s.size s.size)) rfl (by kernel_rfl) (by kernel_rfl) (by kernel_rfl) (by kernel_rfl) (by kernel_rfl) (by kernel_rfl) (by kernel_rfl) (by kernel_rfl) (by kernel_rfl) (fun _ _ _ h => h) (Or.inl ⟨by rfl, ?hy⟩) T0 TB ?_
                          case hy =>
                            intro X hX
                            go_simp
                          try simp only [Act.put, List.getElem_toArray, List.getElem_cons_zero, List.getElem_cons_succ, List.setIfInBounds_toArray, List.set_cons_zero, List.set_cons_succ]
                          refine wpAnyG_take2 [5, 6, 7, 8, 9, 18] (k1 := [18]) (k2 := [20]) (i := 5) (v := (.int .i64 q)) rfl (by kernel_rfl) (by kernel_rfl) (by kernel_rfl) (by kernel_rfl) (by kernel_rfl) (by kernel_rfl) (by kernel_rfl) (by kernel_rfl) (by kernel_rfl) (fun _ _ _ h => h) (Or.inl ⟨by rfl, ?hy⟩) T0 TB ?_
                          case hy =>
                            intro X hX
                            go_simp
                          try simp only [Act.put, List.getElem_toArray, List.getElem_cons_zero, List.getElem_cons_succ, List.setIfInBounds_toArray, List.set_cons_zero, List.set_cons_succ]
                          refine wpAnyG_take2 [6, 7, 8, 9, 18] (k1 := [18]) (k2 := [20]) (i := 6) (v := (.pointer (some ⟨g0, q, none⟩))) rfl (by kernel_rfl) (by kernel_rfl) (by kernel_rfl) (by kernel_rfl) (by kernel_rfl) (by kernel_rfl) (by kernel_rfl) (by kernel_rfl) (by kernel_rfl) (fun _ _ _ h => h) (Or.inl ⟨by rfl, ?hy⟩) T0 TB ?_
                          case hy =>
                            intro X hX
                            (go_simp; try rfl)
                          try simp only [Act.put, List.getElem_toArray, List.getElem_cons_zero, List.getElem_cons_succ, List.setIfInBounds_toArray, List.set_cons_zero, List.set_cons_succ]
                          refine wpAnyG_take2 [7, 8, 9, 18] (k1 := [18]) (k2 := [20]) (i := 7) (v := (.int .i64 xx)) rfl (by kernel_rfl) (by kernel_rfl) (by kernel_rfl) (by kernel_rfl) (by kernel_rfl) (by kernel_rfl) (by kernel_rfl) (by kernel_rfl) (by kernel_rfl) (fun _ _ _ h => h) (Or.inl ⟨by rfl, ?hy⟩) T0 TB ?_
                          case hy =>
                            intro X hX
                            have e0 := at_below kg hX
                            go_simp
                          try simp only [Act.put, List.getElem_toArray, List.getElem_cons_zero, List.getElem_cons_succ, List.setIfInBounds_toArray, List.set_cons_zero, List.set_cons_succ]
                          refine wpAnyG_take2 [8, 9, 18] (k1 := [18]) (k2 := [20]) (i := 8) (v := (.string (t.extract b1 xx))) rfl (by kernel_rfl) (by kernel_rfl) (by kernel_rfl) (by kernel_rfl) (by kernel_rfl) (by kernel_rfl) (by kernel_rfl) (by kernel_rfl) (by kernel_rfl) (fun _ _ _ h => h) (Or.inl ⟨by rfl, ?hy⟩) T0 TB ?_
                          case hy =>
                            intro X hX
                            go_simp
                          try simp only [Act.put, List.getElem_toArray, List.getElem_cons_zero, List.getElem_cons_succ, List.setIfInBounds_toArray, List.set_cons_zero, List.set_cons_succ]
                          refine wpAnyG_take2 [9, 18] (k1 := [18]) (k2 := [20]) (i := 9) (v := (.string (pu ++ t.extract b1 xx))) rfl (by kernel_rfl) (by kernel_rfl) (by kernel_rfl) (by kernel_rfl) (by kernel_rfl) (by kernel_rfl) (by kernel_rfl) (by kernel_rfl) (by kernel_rfl) (fun _ _ _ h => h) (Or.inl ⟨by rfl, ?hy⟩) T0 TB ?_
                          case hy =>
                            intro X hX
                            go_simp
                          try simp only [Act.put, List.getElem_toArray, List.getElem_cons_zero, List.getElem_cons_succ, List.setIfInBounds_toArray, List.set_cons_zero, List.set_cons_succ]
                          refine wpAnyG_all (rs := [17]) (by kernel_rfl) (by simp) ?_
                          intro i hi
                          simp only [List.mem_cons, List.not_mem_nil, or_false] at hi
                          subst hi
                          refine wpOp_now rfl rfl ?_
                          go_simp
                          refine ⟨⟨fun _ => T0, fun _ => TB⟩, ?_⟩
                          try simp only [Act.put, List.getElem_toArray, List.getElem_cons_zero, List.getElem_cons_succ, List.setIfInBounds_toArray, List.set_cons_zero, List.set_cons_succ]
                          have kc2 := at_below kp T0
                          have kf2 := HDU2.out.froz T0 1
                          have hD5 := (HDU2.out.below T0).put (t.extract b1 xx)
                          rw [HPU.out.1] at hD5
                          have kc3 : (X21.setCell ⟨B, 1, none⟩ (.string (pu ++ t.extract b1 xx))).cell? ⟨B, 2, none⟩ = some (.string dr) := by
                            have h1 := hD5.cell2
                            have h2 := (row_put (t.extract b1 xx) (fdL Ad mk0)).2.2
                            rw [puts_fd, ← fdL_app, HPU.out.2] at h2
                            rw [h2] at h1
                            exact h1
                          have kf3 := hD5.froz (Below.refl _ _) 2
                          have hD6 := (HDU2.out.below T0).two (t.extract b1 xx) (s.extract a1 q) HPU.out.1 HPU.out.2
                          have HD6 := Lib.hid hD6
                          clear hD5 hD6
                          refine wpAnyG_all (rs := [18]) (by kernel_rfl) (by simp) ?_
                          intro i hi
                          simp only [List.mem_cons, List.not_mem_nil, or_false] at hi
                          subst hi
                          refine wpOp_now rfl rfl ?_
                          go_simp
                          refine ⟨⟨fun h => (nomatch (show (false : Bool) = true from h)), fun _ => kc3⟩, ?_⟩
                          try simp only [Act.put, List.getElem_toArray, List.getElem_cons_zero, List.getElem_cons_succ, List.setIfInBounds_toArray, List.set_cons_zero, List.set_cons_succ]
                          refine wpAnyG_all (rs := [19]) (by kernel_rfl) (by simp) ?_
                          intro i hi
                          simp only [List.mem_cons, List.not_mem_nil, or_false] at hi
                          subst hi
                          refine wpOp_now rfl rfl ?_
                          go_simp
                          refine ⟨⟨fun h => (nomatch (show (false : Bool) = true from h)), fun _ => kc3⟩, ?_⟩
                          try simp only [Act.put, List.getElem_toArray, List.getElem_cons_zero, List.getElem_cons_succ, List.setIfInBounds_toArray, List.set_cons_zero, List.set_cons_succ]
                          refine wpAnyG_all (rs := [20]) (by kernel_rfl) (by simp) ?_
                          intro i hi
                          simp only [List.mem_cons, List.not_mem_nil, or_false] at hi
                          subst hi
                          refine wpOp_now rfl rfl ?_
                          go_simp
                          refine ⟨⟨fun h => (nomatch (show (false : Bool) = true from h)), fun h => (nomatch (show (false : Bool) = true from h))⟩, ?_⟩
                          refine wpAnyG_done (by kernel_rfl) ?_ _
                          refine NoPanic.normal ?_
                          obtain ⟨Y1, hY1⟩ : ∃ Z, (X21.setCell ⟨B, 1, none⟩ (.string (pu ++ t.extract b1 xx))).setCell ⟨B, 2, none⟩ (.string (dr ++ s.extract a1 q)) = Z := ⟨_, rfl⟩
                          rw [hY1] at HD6 ⊢
                          clear hY1 T0 TB TX kp kd kg kc2 kf2 kc3 kf3
                          obtain ⟨k0, k1⟩ := HK.out.1 _ HD6.out.low
                          go_wp2_with (fail)
                          refine (d1_keep HD6.out wv (by omega) (by simp only [List.length_append, List.length_map, bL_len]; omega)).mono ?_
                          rintro e V ⟨rfl, hV⟩
                          have HV := Lib.hid hV
                          clear hV k0 k1
                          obtain ⟨k0, k1⟩ := HK.out.1 _ HV.out.low
                          have kg := HK.out.2 _ HV.out.low
                          obtain ⟨Qn, hQn⟩ : ∃ z, q + wv = z := ⟨_, rfl⟩
                          obtain ⟨Gn, hGn⟩ : ∃ z, xx + wv = z := ⟨_, rfl⟩
                          have jQ : IntKind.i64.wrap ((q : Int) + (wv : Int)) = (Qn : Int) := by rw [IntWalk.i64_in _ (by omega)]; omega
                          have jG : IntKind.i64.wrap ((xx : Int) + (wv : Int)) = (Gn : Int) := by rw [IntWalk.i64_in _ (by omega)]; omega
                          have HQG := Lib.hid (And.intro hQn hGn)
                          clear hQn hGn
                          go_wp2
                          go_quiet (fail)
                          generalize hU : World.drewN _ _ = U3
                          have hDU := HV.out.below (hU ▸ below_drewN _ _ : Below V.heap.size V U3)
                          have HDU3 := Lib.hid hDU
                          clear hU hDU
                          go_wp2
                          go_roundw
                          case rel => exact ⟨i + 1, q + wv, j', by rw [HZ.out, ← HQG.out.1], by rw [HZ.out, ← HQG.out.2], rfl, by go_num, HN.out.1, HJP.out.mono (by omega), by rw [HZ.out]; exact HDU3.out⟩
                          case measure => simp [intOf] <;> omega
                        · have hww2 : ((wv : Int) == (n : Int)) = false := by rw [beq_eq_false_iff_ne]; omega
                          have hww3 : ¬ (wv : Int) = (n : Int) := by omega
                          have hZ0 := HNO.out (fun hh => hww (hwv.symm.trans hh.2))
                          have HZ := Lib.hid (HN.out.2.1.trans hZ0)
                          clear hJG hxx hl hxg hD hat hwv hZ0
                          go_wp2
                          go_quiet (fail)
                          generalize hU : World.drewN _ _ = U
                          have hDU := HD3.out.below (hU ▸ below_drewN _ _ : Below wr.heap.size wr U)
                          have HDU := Lib.hid hDU
                          clear hU hDU k0 k1 kg l0 l1
                          obtain ⟨k0, k1⟩ := HK.out.1 _ HDU.out.low
                          have kg := HK.out.2 _ HDU.out.low
                          obtain ⟨l0, l1⟩ := HLL.out _ HDU.out.low
                          rw [HWV.out] at l1
                          go_wp2
                          go_quiet (fail)
                          generalize hU : World.drewN _ _ = U2
                          have hDU := HDU.out.below (hU ▸ below_drewN _ _ : Below U.heap.size U U2)
                          have HDU2 := Lib.hid hDU
                          clear hU hDU
                          go_wp2
                          go_roundw
                          case rel => exact ⟨i + 1, q + n, j', by rw [HZ.out], by rw [HZ.out], rfl, by go_num, HN.out.1, HJP.out.mono (by omega), by rw [HZ.out]; exact HDU2.out⟩
                          case measure => simp [intOf] <;> omega
                      · have hxb : ((xx : Int) == (g : Int)) = false := by rw [beq_eq_false_iff_ne]; omega
                        have hxb3 : ¬ (xx : Int) = (g : Int) := by omega
                        have hZ0 := HNO.out (fun hh => hxe (hat.1 hh.1))
                        have HZ := Lib.hid (HN.out.2.1.trans hZ0)
                        clear hJG hxx hl hxg hD hat hZ0
                        go_wp2
                        go_quiet (fail)
                        generalize hU : World.drewN _ _ = U
                        have hDU := HD3.out.below (hU ▸ below_drewN _ _ : Below wr.heap.size wr U)
                        have HDU := Lib.hid hDU
                        clear hU hDU k0 k1 kg l0 l1
                        obtain ⟨k0, k1⟩ := HK.out.1 _ HDU.out.low
                        have kg := HK.out.2 _ HDU.out.low
                        obtain ⟨l0, l1⟩ := HLL.out _ HDU.out.low
                        go_wp2
                        go_quiet (fail)
                        generalize hU : World.drewN _ _ = U2
                        have hDU := HDU.out.below (hU ▸ below_drewN _ _ : Below U.heap.size U U2)
                        have HDU2 := Lib.hid hDU
                        clear hU hDU
                        go_wp2
                        go_roundw
                        case rel => exact ⟨i + 1, q + n, j', by rw [HZ.out], by rw [HZ.out], rfl, by go_num, HN.out.1, HJP.out.mono (by omega), by rw [HZ.out]; exact HDU2.out⟩
                        case measure => simp [intOf] <;> omega
                  · have hjd : decide ((j' : Int) < (L2 : Int)) = false := decide_eq_false (by omega)
                    have hjd2 : decide (j' < L2) = false := decide_eq_false hjl
                    have hjg : decide ((L2 : Int) ≤ (j' : Int)) = true := decide_eq_true (by omega)
                    have hjg2 : decide (L2 ≤ j') = true := decide_eq_true (by omega)
                    have hout := jg_out hJG (by rw [HL.out.2]; exact hjl)
                    have hZ0 := HNO.out (fun hh => hout hh.1)
                    have HZ := Lib.hid (HN.out.2.1.trans hZ0)
                    have HJP := Lib.hid (jp_of (s := s) hG.out.1 hJG HGG.out.1)
                    clear hJG hD hout hZ0
                    go_wp2
                    go_quiet (fail)
                    generalize hU : World.drewN _ _ = U
                    have hDU := HD3.out.below (hU ▸ below_drewN _ _ : Below wr.heap.size wr U)
                    have HDU := Lib.hid hDU
                    clear hU hDU k0 k1 kg
                    obtain ⟨k0, k1⟩ := HK.out.1 _ HDU.out.low
                    have kg := HK.out.2 _ HDU.out.low
                    go_wp2
                    go_quiet (fail)
                    generalize hU : World.drewN _ _ = U2
                    have hDU := HDU.out.below (hU ▸ below_drewN _ _ : Below U.heap.size U U2)
                    have HDU2 := Lib.hid hDU
                    clear hU hDU
                    go_wp2
                    go_roundw
                    case rel => exact ⟨i + 1, q + n, j', by rw [HZ.out], by rw [HZ.out], rfl, by go_num, HN.out.1, HJP.out.mono (by omega), by rw [HZ.out]; exact HDU2.out⟩
                    case measure => simp [intOf] <;> omega
        · have hqe := (eg_at hE).2 (by rw [HL.out.1]; exact hi)
          subst hqe
          have hwh := hG.out.2.2.1
          rw [hX0] at hwh
          simp only [finW] at hwh
          have s1 : (0 : Int) ≤ (b1 : Int) := by omega
          have s2 : (b1 : Int) ≤ (t.size : Int) := by omega
          have s4 : (0 : Int) ≤ (a1 : Int) := by omega
          have s5 : (a1 : Int) ≤ (s.size : Int) := by omega
          have f1 : (t.extract b1 t.size).size ≤ 65536 := by rw [ByteArray.size_extract]; omega
          have f2 : (s.extract a1 s.size).size ≤ 65536 := by rw [ByteArray.size_extract]; omega
          have hpl := pu_le (A := Ad) (n := 200000) (by omega)
          obtain ⟨pu, hpu⟩ : ∃ z, (fdL Ad mk0).put = z := ⟨_, rfl⟩
          obtain ⟨dr, hdr⟩ : ∃ z, (fdL Ad mk0).drop = z := ⟨_, rfl⟩
          rw [hpu, hdr] at hpl
          have p1 : pu.size + (t.extract b1 t.size).size ≤ 9223372036854775807 := by omega
          have p2 : dr.size + (s.extract a1 s.size).size ≤ 9223372036854775807 := by omega
          have p3 : pu.size + (t.size - b1) ≤ 9223372036854775807 := by omega
          have p4 : dr.size + (s.size - a1) ≤ 9223372036854775807 := by omega
          have kp := hD.cell.1
          have kd := hD.cell2
          rw [hpu] at kp
          rw [hdr] at kd
          have HPU := Lib.hid (And.intro hpu hdr)
          have HD := Lib.hid hD
          have HWh := Lib.hid hwh
          have hiI : ¬ (i : Int) < (L1 : Int) := by omega
          clear hpu hdr hpl hD hwh hWo hE hJ hX0
          go_wp2
          refine wp_region_noPanic ?_
          refine wp_region_g (S := untilG [15] (fun X => X.cell? ⟨B, 2, none⟩ = some (.string dr))) (by kernel_rfl) ?_
          obtain ⟨X21, hX21⟩ : ∃ Z, wr.drew = Z := ⟨_, rfl⟩
          have TX : Below wr.heap.size wr X21 := hX21 ▸ (Below.refl wr.heap.size wr).drew
          rw [hX21]
          clear hX21
          have T0 := at_below kd TX
          refine wpAnyG_take [6, 7, 11, 15] (i := 6) (v := (.pointer (some ⟨B, 2, none⟩))) rfl (by kernel_rfl) (by kernel_rfl) (by kernel_rfl) (by kernel_rfl) (by kernel_rfl) (by kernel_rfl) (by kernel_rfl) (by kernel_rfl) (fun _ _ _ h => h) (Or.inl ⟨by rfl, ?hy⟩) T0 ?_
          case hy =>
            intro X hX
            go_simp
          try simp only [Act.put, List.getElem_toArray, List.getElem_cons_zero, List.getElem_cons_succ, List.setIfInBounds_toArray, List.set_cons_zero, List.set_cons_succ]
          refine wpAnyG_take [7, 11, 15] (i := 7) (v := (.string dr)) rfl (by kernel_rfl) (by kernel_rfl) (by kernel_rfl) (by kernel_rfl) (by kernel_rfl) (by kernel_rfl) (by kernel_rfl) (by kernel_rfl) (fun _ _ _ h => h) (Or.inl ⟨by rfl, ?hy⟩) T0 ?_
          case hy =>
            intro X hX
            have e0 := hX
            go_simp
          try simp only [Act.put, List.getElem_toArray, List.getElem_cons_zero, List.getElem_cons_succ, List.setIfInBounds_toArray, List.set_cons_zero, List.set_cons_succ]
          refine wpAnyG_take [8, 10, 11, 15] (i := 8) (v := (.string s)) rfl (by kernel_rfl) (by kernel_rfl) (by kernel_rfl) (by kernel_rfl) (by kernel_rfl) (by kernel_rfl) (by kernel_rfl) (by kernel_rfl) (fun _ _ _ h => h) (Or.inl ⟨by rfl, ?hy⟩) T0 ?_
          case hy =>
            intro X hX
            go_simp
          try simp only [Act.put, List.getElem_toArray, List.getElem_cons_zero, List.getElem_cons_succ, List.setIfInBounds_toArray, List.set_cons_zero, List.set_cons_succ]
          refine wpAnyG_take [9, 10, 11, 15] (i := 9) (v := (.int .i64 a1)) rfl (by kernel_rfl) (by kernel_rfl) (by kernel_rfl) (by kernel_rfl) (by kernel_rfl) (by kernel_rfl) (by kernel_rfl) (by kernel_rfl) (fun _ _ _ h => h) (Or.inl ⟨by rfl, ?hy⟩) T0 ?_
          case hy =>
            intro X hX
            go_simp
          try simp only [Act.put, List.getElem_toArray, List.getElem_cons_zero, List.getElem_cons_succ, List.setIfInBounds_toArray, List.set_cons_zero, List.set_cons_succ]
          refine wpAnyG_take [10, 11, 15] (i := 10) (v := (.string (s.extract a1 s.size))) rfl (by kernel_rfl) (by kernel_rfl) (by kernel_rfl) (by kernel_rfl) (by kernel_rfl) (by kernel_rfl) (by kernel_rfl) (by kernel_rfl) (fun _ _ _ h => h) (Or.inl ⟨by rfl, ?hy⟩) T0 ?_
          case hy =>
            intro X hX
            go_simp
          try simp only [Act.put, List.getElem_toArray, List.getElem_cons_zero, List.getElem_cons_succ, List.setIfInBounds_toArray, List.set_cons_zero, List.set_cons_succ]
          refine wpAnyG_take [11, 15] (i := 11) (v := (.string (dr ++ s.extract a1 s.size))) rfl (by kernel_rfl) (by kernel_rfl) (by kernel_rfl) (by kernel_rfl) (by kernel_rfl) (by kernel_rfl) (by kernel_rfl) (by kernel_rfl) (fun _ _ _ h => h) (Or.inl ⟨by rfl, ?hy⟩) T0 ?_
          case hy =>
            intro X hX
            go_simp
          try simp only [Act.put, List.getElem_toArray, List.getElem_cons_zero, List.getElem_cons_succ, List.setIfInBounds_toArray, List.set_cons_zero, List.set_cons_succ]
          have TB := T0
          clear T0
          have T0 := TX
          refine wpAnyG_both (k1 := [13]) (T1 := fun X => Below wr.heap.size wr X) ?_
          refine wpAnyG_take2 [0, 1, 5, 13] (k1 := [13]) (k2 := [15]) (i := 0) (v := (.pointer (some ⟨B, 1, none⟩))) rfl (by kernel_rfl) (by kernel_rfl) (by kernel_rfl) (by kernel_rfl) (by kernel_rfl) (by kernel_rfl) (by kernel_rfl) (by kernel_rfl) (by kernel_rfl) (fun _ _ _ h => h) (Or.inl ⟨by rfl, ?hy⟩) T0 TB ?_
          case hy =>
            intro X hX
            go_simp
          try simp only [Act.put, List.getElem_toArray, List.getElem_cons_zero, List.getElem_cons_succ, List.setIfInBounds_toArray, List.set_cons_zero, List.set_cons_succ]
          refine wpAnyG_take2 [1, 5, 13] (k1 := [13]) (k2 := [15]) (i := 1) (v := (.string pu)) rfl (by kernel_rfl) (by kernel_rfl) (by kernel_rfl) (by kernel_rfl) (by kernel_rfl) (by kernel_rfl) (by kernel_rfl) (by kernel_rfl) (by kernel_rfl) (fun _ _ _ h => h) (Or.inl ⟨by rfl, ?hy⟩) T0 TB ?_
          case hy =>
            intro X hX
            have e0 := at_below kp hX
            go_simp
          try simp only [Act.put, List.getElem_toArray, List.getElem_cons_zero, List.getElem_cons_succ, List.setIfInBounds_toArray, List.set_cons_zero, List.set_cons_succ]
          refine wpAnyG_take2 [2, 4, 5, 13] (k1 := [13]) (k2 := [15]) (i := 2) (v := (.string t)) rfl (by kernel_rfl) (by kernel_rfl) (by kernel_rfl) (by kernel_rfl) (by kernel_rfl) (by kernel_rfl) (by kernel_rfl) (by kernel_rfl) (by kernel_rfl) (fun _ _ _ h => h) (Or.inl ⟨by rfl, ?hy⟩) T0 TB ?_
          case hy =>
            intro X hX
            go_simp
          try simp only [Act.put, List.getElem_toArray, List.getElem_cons_zero, List.getElem_cons_succ, List.setIfInBounds_toArray, List.set_cons_zero, List.set_cons_succ]
          refine wpAnyG_take2 [3, 4, 5, 13] (k1 := [13]) (k2 := [15]) (i := 3) (v := (.int .i64 b1)) rfl (by kernel_rfl) (by kernel_rfl) (by kernel_rfl) (by kernel_rfl) (by kernel_rfl) (by kernel_rfl) (by kernel_rfl) (by kernel_rfl) (by kernel_rfl) (fun _ _ _ h => h) (Or.inl ⟨by rfl, ?hy⟩) T0 TB ?_
          case hy =>
            intro X hX
            go_simp
          try simp only [Act.put, List.getElem_toArray, List.getElem_cons_zero, List.getElem_cons_succ, List.setIfInBounds_toArray, List.set_cons_zero, List.set_cons_succ]
          refine wpAnyG_take2 [4, 5, 13] (k1 := [13]) (k2 := [15]) (i := 4) (v := (.string (t.extract b1 t.size))) rfl (by kernel_rfl) (by kernel_rfl) (by kernel_rfl) (by kernel_rfl) (by kernel_rfl) (by kernel_rfl) (by kernel_rfl) (by kernel_rfl) (by kernel_rfl) (fun _ _ _ h => h) (Or.inl ⟨by rfl, ?hy⟩) T0 TB ?_
          case hy =>
            intro X hX
            go_simp
          try simp only [Act.put, List.getElem_toArray, List.getElem_cons_zero, List.getElem_cons_succ, List.setIfInBounds_toArray, List.set_cons_zero, List.set_cons_succ]
          refine wpAnyG_take2 [5, 13] (k1 := [13]) (k2 := [15]) (i := 5) (v := (.string (pu ++ t.extract b1 t.size))) rfl (by kernel_rfl) (by kernel_rfl) (by kernel_rfl) (by kernel_rfl) (by kernel_rfl) (by kernel_rfl) (by kernel_rfl) (by kernel_rfl) (by kernel_rfl) (fun _ _ _ h => h) (Or.inl ⟨by rfl, ?hy⟩) T0 TB ?_
          case hy =>
            intro X hX
            go_simp
          try simp only [Act.put, List.getElem_toArray, List.getElem_cons_zero, List.getElem_cons_succ, List.setIfInBounds_toArray, List.set_cons_zero, List.set_cons_succ]
          refine wpAnyG_all (rs := [12]) (by kernel_rfl) (by simp) ?_
          intro i hi
          simp only [List.mem_cons, List.not_mem_nil, or_false] at hi
          subst hi
          refine wpOp_now rfl rfl ?_
          go_simp
          refine ⟨⟨fun _ => T0, fun _ => TB⟩, ?_⟩
          try simp only [Act.put, List.getElem_toArray, List.getElem_cons_zero, List.getElem_cons_succ, List.setIfInBounds_toArray, List.set_cons_zero, List.set_cons_succ]
          have kc2 := at_below kp T0
          have kf2 := HD.out.froz T0 1
          have hD5 := (HD.out.below T0).put (t.extract b1 t.size)
          rw [HPU.out.1] at hD5
          have kc3 : (X21.setCell ⟨B, 1, none⟩ (.string (pu ++ t.extract b1 t.size))).cell? ⟨B, 2, none⟩ = some (.string dr) := by
            have h1 := hD5.cell2
            have h2 := (row_put (t.extract b1 t.size) (fdL Ad mk0)).2.2
            rw [puts_fd, ← fdL_app, HPU.out.2] at h2
            rw [h2] at h1
            exact h1
          have kf3 := hD5.froz (Below.refl _ _) 2
          have hD6 := (HD.out.below T0).two (t.extract b1 t.size) (s.extract a1 s.size) HPU.out.1 HPU.out.2
          have HD6 := Lib.hid hD6
          clear hD5 hD6
          refine wpAnyG_all (rs := [13]) (by kernel_rfl) (by simp) ?_
          intro i hi
          simp only [List.mem_cons, List.not_mem_nil, or_false] at hi
          subst hi
          refine wpOp_now rfl rfl ?_
          go_simp
          refine ⟨⟨fun h => (nomatch (show (false : Bool) = true from h)), fun _ => kc3⟩, ?_⟩
          try simp only [Act.put, List.getElem_toArray, List.getElem_cons_zero, List.getElem_cons_succ, List.setIfInBounds_toArray, List.set_cons_zero, List.set_cons_succ]
          refine wpAnyG_all (rs := [14]) (by kernel_rfl) (by simp) ?_
          intro i hi
          simp only [List.mem_cons, List.not_mem_nil, or_false] at hi
          subst hi
          refine wpOp_now rfl rfl ?_
          go_simp
          refine ⟨⟨fun h => (nomatch (show (false : Bool) = true from h)), fun _ => kc3⟩, ?_⟩
          try simp only [Act.put, List.getElem_toArray, List.getElem_cons_zero, List.getElem_cons_succ, List.setIfInBounds_toArray, List.set_cons_zero, List.set_cons_succ]
          refine wpAnyG_all (rs := [15]) (by kernel_rfl) (by simp) ?_
          intro i hi
          simp only [List.mem_cons, List.not_mem_nil, or_false] at hi
          subst hi
          refine wpOp_now rfl rfl ?_
          go_simp
          refine ⟨⟨fun h => (nomatch (show (false : Bool) = true from h)), fun h => (nomatch (show (false : Bool) = true from h))⟩, ?_⟩
          refine wpAnyG_done (by kernel_rfl) ?_ _
          refine NoPanic.normal ?_
          obtain ⟨Y1, hY1⟩ : ∃ Z, (X21.setCell ⟨B, 1, none⟩ (.string (pu ++ t.extract b1 t.size))).setCell ⟨B, 2, none⟩ (.string (dr ++ s.extract a1 s.size)) = Z := ⟨_, rfl⟩
          rw [hY1] at HD6 ⊢
          clear hY1 T0 TB TX kp kd kc2 kf2 kc3 kf3
          go_wp2_with (fail)
          refine (d1_end HD6.out (by simp only [List.length_append, List.length_map, bL_len]; omega)).mono ?_
          rintro e V ⟨rfl, u, h1, h2, h3⟩
          rw [← HWh.out] at h1
          obtain ⟨c0, c1', c2'⟩ := DkB.cells h1
          have hu := own_base h1.ro (show w.heap.size ≤ B + 1 by have := HBB.out; have := HR.out.2.2.2.size; omega)
          have HU := Lib.hid (And.intro hu (HR.out.2.2.2.trans (h3.mono HR.out.2.2.2.size)))
          clear h1 h2 h3 hu
          go_wp2
          go_ret
          exact ⟨_, rfl, HU.out.1, HU.out.2⟩
end Go.Proofs.Ytjccoiephdopkaa
