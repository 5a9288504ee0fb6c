/- RunesCounts: the law's call, at every text. -/
import Derived.Test.YtgpnheaefagfiaaPu
import Derived.Test.YtgpnheaefagfiaaRt
import Derived.Test.YtgpnheaefagfiaaWk
import Derived.Maps.AppendAt
namespace Go.Proofs.Ytgpnheaefagfiaa
set_option linter.unusedVariables false
set_option linter.unusedSimpArgs false
open Go Go.RowKit
set_option maxRecDepth 100000

def CtRel (N b m : Nat) (L : List Nat) (M : List (Nat × Nat × Bool)) (Z0 B1 B5 B6 B7 B8 : Nat) (vw va vb vc vd : Value) (w : World) (i : Value) (wr : World) : Prop :=
  ∃ k : Nat, i = .int .i64 k ∧ k ≤ N ∧ (∃ xs, wr.ownsRow B5 3 1 va b xs) ∧ wr.ownsRow B1 3 1 vw b (ints L) ∧ wr.ownsRow B6 3 1 vb b (ints L) ∧ (∃ ys, wr.ownsRow B7 51 3 vc m ys) ∧ wr.ownsRow B8 51 3 vd m (pts M) ∧ Below w.heap.size w wr ∧ Z0 ≤ wr.heap.size
/-- In the first block, or behind Z. -/
def Near (v : Value) (lo hi Z : Nat) : Prop := ∀ g, v.ownBlock = some g → (lo ≤ g ∧ g < hi) ∨ Z ≤ g
theorem near_apart {v u : Value} {lo hi Z p q : Nat} (hv : Near v lo hi Z) (hu : ∀ g, u.ownBlock = some g → p ≤ g ∧ g < q) (h1 : hi ≤ p ∨ q ≤ lo) (hq : q ≤ Z) : u.ownBlock = none ∨ u.ownBlock ≠ v.ownBlock := by
  cases hb : u.ownBlock with
  | none => exact .inl rfl
  | some g =>
    right
    intro e
    have := hu g hb
    have := hv g e.symm
    omega
theorem near_next {v v' : Value} {lo hi Z n : Nat} (hv : Near v lo hi Z) (hat : v'.ownBlock = v.ownBlock ∨ v'.ownBlock = some n) (hn : Z ≤ n) : Near v' lo hi Z := by
  intro g hg
  rcases hat with e | e
  · exact hv g (e ▸ hg)
  · rw [e] at hg; cases hg; exact .inr hn
def CtRel3 (b m : Nat) (L : List Nat) (M : List (Nat × Nat × Bool)) (B1 B5 B6 B7 B8 B9 Z : Nat) (vw vb vd : Value) (w : World) (a c i : Value) (wr : World) : Prop :=
  ∃ k : Nat, i = .int .i64 k ∧ k ≤ 70 ∧ (∃ xs, wr.ownsRow B5 3 1 a (b + k) xs) ∧ (∃ ys, wr.ownsRow B7 51 3 c (m + k) ys) ∧ Near a B5 B6 Z ∧ Near c B7 B8 Z ∧ wr.ownsRow B1 3 1 vw b (ints L) ∧ wr.ownsRow B6 3 1 vb b (ints L) ∧ wr.ownsRow B8 51 3 vd m (pts M) ∧ Below w.heap.size w wr ∧ Z ≤ wr.heap.size
theorem allR_bad0 (s : ByteArray) : allR s = ((badC s : Nat) == 0) := by
  unfold allR badC
  induction posns s with
  | nil => rfl
  | cons x l ih => cases h : bk s x <;> simp_all
theorem allR_bad (s : ByteArray) : allR s = (((badC s : Nat) : Int) == 0) := by
  rw [allR_bad0]
  cases h : badC s with
  | zero => rfl
  | succ k => rw [show (k + 1 == 0) = false from rfl, eq_comm, beq_eq_false_iff_ne]; omega
theorem bad_len (s : ByteArray) : (brL s (posns s)).length = badC s := rfl

set_option maxHeartbeats 4000000 in
theorem counts_any (s : ByteArray) (hs : s.size ≤ 1048576) (w : World) :
    Calls Try.prog 5 #[.string s] w fun e w' => e = .returned (.bool true) ∧ Below w.heap.size w w' := by
  have cC := count_any s (by omega)
  have cR := right_any s (by omega)
  have cb := brokenL_any s hs
  have cB := brokenR_any s hs
  have cp := partsL_any s hs
  have cQ := partsR_any s hs
  have cP := piecesR_any s hs
  have hall := allR_bad s
  have hbl := bad_len s
  have hnl := posns_len s
  have hL0 := brL_le s (posns s)
  have hM0 := prL_len s (posns s)
  unfold BkPost at cb cB
  unfold PtPost at cp cQ
  obtain ⟨L, hL⟩ : ∃ L, brL s (posns s) = L := ⟨_, rfl⟩
  obtain ⟨M, hM⟩ : ∃ M, prL s (posns s) = M := ⟨_, rfl⟩
  obtain ⟨n, hn⟩ : ∃ n, (posns s).length = n := ⟨_, rfl⟩
  obtain ⟨b, hb⟩ : ∃ b, badC s = b := ⟨_, rfl⟩
  rw [hL] at cb cB hbl hL0
  rw [hM] at cp cQ hM0
  rw [hn] at cC hnl hL0 hM0
  unfold PsPost at cP
  simp only [hn] at cP
  rw [hb] at cC hbl hall
  obtain ⟨m, hm⟩ : ∃ m, M.length = m := ⟨_, rfl⟩
  simp only [hbl] at cb cB hL0
  simp only [hm] at cp cQ hM0
  rw [hall] at cR
  have HLb := Lib.hid hbl
  have HN := Lib.hid hn
  have HM := Lib.hid hm
  clear hall hL hM hn hb hbl hm
  go_enter Try.func5, Try.ntmps5
  have mk := trivial
  go_wp2_with (go_at_call 15; clear mk; refine (wakes_any _).mono ?_; rintro e w1 ⟨rfl, hb1⟩)
  have s1 := hb1.size
  have B1 := hb1
  clear hb1
  have mk := trivial
  go_wp2_with (go_at_call 23; clear mk; refine (cB _).mono ?_; rintro e w2 ⟨vw, rfl, rvw_2, hb2⟩; obtain ⟨ovw, cvw, rfl, hvw⟩ := own_slice rvw_2)
  have s2 := hb2.size
  have tvw := fun g e => (rvw_2.lt g e)
  have B2 := B1.trans (hb2.mono B1.size)
  clear hb2 B1
  have mk := trivial
  go_wp2_with (go_at_call 24; clear mk; refine (cC _).mono ?_; rintro e w3 ⟨rfl, hb3⟩)
  have s3 := hb3.size
  have rvw_3 := own_below rvw_2 hb3
  have B3 := B2.trans (hb3.mono B2.size)
  clear rvw_2
  clear hb3 B2
  have mk := trivial
  go_wp2_with (go_at_call 19; clear mk; refine (cP _).mono ?_; rintro e w4 ⟨vp, rfl, rvp_4, hb4⟩; obtain ⟨ovp, cvp, rfl, hvp⟩ := own_slice rvp_4)
  have s4 := hb4.size
  have tvp := fun g e => (rvp_4.lt g e)
  have rvw_4 := own_below rvw_3 hb4
  have B4 := B3.trans (hb4.mono B3.size)
  clear rvw_3
  clear hb4 B3
  have mk := trivial
  go_wp2_with (go_at_call 25; clear mk; refine (cR _).mono ?_; rintro e w5 ⟨rfl, hb5⟩)
  have s5 := hb5.size
  have rvw_5 := own_below rvw_4 hb5
  have rvp_5 := own_below rvp_4 hb5
  have B5 := B4.trans (hb5.mono B4.size)
  clear rvw_4
  clear rvp_4
  clear hb5 B4
  have mk := trivial
  go_wp2_with (go_at_call 26; clear mk; refine (cb _).mono ?_; rintro e w6 ⟨va, rfl, rva_6, hb6⟩; obtain ⟨ova, cva, rfl, hva⟩ := own_slice rva_6)
  have s6 := hb6.size
  have tva := fun g e => (rva_6.lt g e)
  have rvw_6 := own_below rvw_5 hb6
  have rvp_6 := own_below rvp_5 hb6
  have B6 := B5.trans (hb6.mono B5.size)
  clear rvw_5
  clear rvp_5
  clear hb6 B5
  have mk := trivial
  go_wp2_with (go_at_call 26; clear mk; refine (cb _).mono ?_; rintro e w7 ⟨vb, rfl, rvb_7, hb7⟩; obtain ⟨ovb, cvb, rfl, hvb⟩ := own_slice rvb_7)
  have s7 := hb7.size
  have tvb := fun g e => (rvb_7.lt g e)
  have rvw_7 := own_below rvw_6 hb7
  have rvp_7 := own_below rvp_6 hb7
  have rva_7 := own_below rva_6 hb7
  have B7 := B6.trans (hb7.mono B6.size)
  clear rvw_6
  clear rvp_6
  clear rva_6
  clear hb7 B6
  have mk := trivial
  go_wp2_with (go_at_call 27; clear mk; refine (cp _).mono ?_; rintro e w8 ⟨vc, rfl, rvc_8, hb8⟩; obtain ⟨ovc, cvc, rfl, hvc⟩ := own_slice rvc_8)
  have s8 := hb8.size
  have tvc := fun g e => (rvc_8.lt g e)
  have rvw_8 := own_below rvw_7 hb8
  have rvp_8 := own_below rvp_7 hb8
  have rva_8 := own_below rva_7 hb8
  have rvb_8 := own_below rvb_7 hb8
  have B8 := B7.trans (hb8.mono B7.size)
  clear rvw_7
  clear rvp_7
  clear rva_7
  clear rvb_7
  clear hb8 B7
  have mk := trivial
  go_wp2_with (go_at_call 27; clear mk; refine (cp _).mono ?_; rintro e w9 ⟨vd, rfl, rvd_9, hb9⟩; obtain ⟨ovd, cvd, rfl, hvd⟩ := own_slice rvd_9)
  have s9 := hb9.size
  have tvd := fun g e => (rvd_9.lt g e)
  have rvw_9 := own_below rvw_8 hb9
  have rvp_9 := own_below rvp_8 hb9
  have rva_9 := own_below rva_8 hb9
  have rvb_9 := own_below rvb_8 hb9
  have rvc_9 := own_below rvc_8 hb9
  have B9 := B8.trans (hb9.mono B8.size)
  clear rvw_8
  clear rvp_8
  clear rva_8
  clear rvb_8
  clear rvc_8
  clear hb9 B8
  have mk := trivial
  go_wp2_with (go_at_call 28; clear mk; refine (ints_any L _ _ _ _ (by rw [HLb.out]; omega) _ (by rw [HLb.out]; exact rva_9) (by rw [HLb.out]; exact rvw_9)).mono ?_; rintro e w10 ⟨rfl, hb10⟩)
  have s10 := hb10.size
  have rvw_10 := own_below rvw_9 hb10
  have rvp_10 := own_below rvp_9 hb10
  have rva_10 := own_below rva_9 hb10
  have rvb_10 := own_below rvb_9 hb10
  have rvc_10 := own_below rvc_9 hb10
  have rvd_10 := own_below rvd_9 hb10
  have B10 := B9.trans (hb10.mono B9.size)
  clear rvw_9
  clear rvp_9
  clear rva_9
  clear rvb_9
  clear rvc_9
  clear rvd_9
  clear hb10 B9
  have mk := trivial
  go_wp2_with (go_at_call 30; clear mk; refine (cQ _).mono ?_; rintro e w11 ⟨ve, rfl, rve_11, hb11⟩; obtain ⟨ove, cve, rfl, hve⟩ := own_slice rve_11)
  have s11 := hb11.size
  have tve := fun g e => (rve_11.lt g e)
  have rvw_11 := own_below rvw_10 hb11
  have rvp_11 := own_below rvp_10 hb11
  have rva_11 := own_below rva_10 hb11
  have rvb_11 := own_below rvb_10 hb11
  have rvc_11 := own_below rvc_10 hb11
  have rvd_11 := own_below rvd_10 hb11
  have B11 := B10.trans (hb11.mono B10.size)
  clear rvw_10
  clear rvp_10
  clear rva_10
  clear rvb_10
  clear rvc_10
  clear rvd_10
  clear hb11 B10
  have mk := trivial
  go_wp2_with (go_at_call 29; clear mk; refine (parts_any M _ _ _ _ (by rw [HM.out]; omega) _ (by rw [HM.out]; exact rvc_11) (by rw [HM.out]; exact rve_11)).mono ?_; rintro e w12 ⟨rfl, hb12⟩)
  have s12 := hb12.size
  have rvw_12 := own_below rvw_11 hb12
  have rvp_12 := own_below rvp_11 hb12
  have rva_12 := own_below rva_11 hb12
  have rvb_12 := own_below rvb_11 hb12
  have rvc_12 := own_below rvc_11 hb12
  have rvd_12 := own_below rvd_11 hb12
  have rve_12 := own_below rve_11 hb12
  have B12 := B11.trans (hb12.mono B11.size)
  clear rvw_11
  clear rvp_11
  clear rva_11
  clear rvb_11
  clear rvc_11
  clear rvd_11
  clear rve_11
  clear hb12 B11
  go_wp2
  clear cP cC cR
  go_loopw [61] (fun i wr => CtRel b b m L M w12.heap.size w1.heap.size w5.heap.size w6.heap.size w7.heap.size w8.heap.size (.slice ovw b cvw) (.slice ova b cva) (.slice ovb b cvb) (.slice ovc m cvc) (.slice ovd m cvd) w i wr) (fun i _ => b - (intOf i).toNat)
  case atStart => exact ⟨0, rfl, Nat.zero_le _, ⟨_, rva_12⟩, rvw_12, rvb_12, ⟨_, rvc_12⟩, rvd_12, B12, Nat.le_refl _⟩
  case round =>
    clear rva_12 rvw_12 rvb_12 rvc_12 rvd_12 B12 rvp_12 rve_12
    obtain ⟨k, rfl, hk, ⟨xs, ra⟩, rw0, rb, ⟨ys, rc⟩, rd, hB, hZ0⟩ := hrel
    by_cases hlt : k < b
    · have hlti : (k : Int) < (b : Int) := by omega
      obtain ⟨g, rfl⟩ := hva (by omega)
      obtain ⟨g1, g2⟩ := tva g rfl
      obtain ⟨u, hu⟩ : ∃ u, wr.cell? ⟨g, k, none⟩ = some u := ⟨_, (ra.cellAt k (by omega)).trans (List.getElem?_eq_getElem (by rw [ra.1]; omega))⟩
      have hf := ra.frozenAt k
      obtain ⟨st, sg⟩ := ra.stored k (.int .i64 (-7))
      go_wp2
      go_roundw
      case rel =>
        refine ⟨k + 1, by go_num, by omega, ⟨_, st⟩, rw0.kept sg ?_, rb.kept sg ?_, ⟨_, rc.kept sg ?_⟩, rd.kept sg ?_, hB.setCell (p := ⟨g, k, none⟩) (by have := ra.lt g rfl; show w.heap.size ≤ g; omega) _, by simpa using hZ0⟩
        · right; intro e; have h1 := tvw g e; omega
        · right; intro e; have h1 := tvb g e; omega
        · right; intro e; have h1 := tvc g e; omega
        · right; intro e; have h1 := tvd g e; omega
      case measure => simp [intOf]; omega
    · have hkb : b = k := by omega
      subst hkb
      go_wp2
      go_loopw [70] (fun i wq => CtRel m b m L M w12.heap.size w1.heap.size w5.heap.size w6.heap.size w7.heap.size w8.heap.size (.slice ovw b cvw) (.slice ova b cva) (.slice ovb b cvb) (.slice ovc m cvc) (.slice ovd m cvd) w i wq) (fun i _ => m - (intOf i).toNat)
      case atStart => exact ⟨0, rfl, Nat.zero_le _, ⟨_, ra⟩, rw0, rb, ⟨_, rc⟩, rd, hB, hZ0⟩
      case round =>
        clear ra rw0 rb rc rd hB hZ0
        obtain ⟨k, rfl, hk, ⟨xs, ra⟩, rw0, rb, ⟨ys, rc⟩, rd, hB, hZ0⟩ := hrel
        by_cases hlt : k < m
        · have hlti : (k : Int) < (m : Int) := by omega
          obtain ⟨g, rfl⟩ := hvc (by omega)
          obtain ⟨g1, g2⟩ := tvc g rfl
          obtain ⟨u0, hu0⟩ : ∃ u, wr.cell? ⟨g, k * 3, none⟩ = some u := ⟨_, (rc.cellAt (k * 3) (by omega)).trans (List.getElem?_eq_getElem (by rw [rc.1]; omega))⟩
          have hf0 := rc.frozenAt (k * 3)
          obtain ⟨u1, hu1⟩ : ∃ u, wr.cell? ⟨g, k * 3 + 1, none⟩ = some u := ⟨_, (rc.cellAt (k * 3 + 1) (by omega)).trans (List.getElem?_eq_getElem (by rw [rc.1]; omega))⟩
          have hf1 := rc.frozenAt (k * 3 + 1)
          obtain ⟨u2, hu2⟩ : ∃ u, wr.cell? ⟨g, k * 3 + 2, none⟩ = some u := ⟨_, (rc.cellAt (k * 3 + 2) (by omega)).trans (List.getElem?_eq_getElem (by rw [rc.1]; omega))⟩
          have hf2 := rc.frozenAt (k * 3 + 2)
          obtain ⟨st0, sg0⟩ := rc.stored (k * 3) (.int .i64 (-7))
          obtain ⟨st1, sg1⟩ := st0.stored (k * 3 + 1) (.int .i64 0)
          obtain ⟨st2, sg2⟩ := st1.stored (k * 3 + 2) (.bool false)
          go_wp2
          go_roundw
          case rel =>
            have hg : w.heap.size ≤ g := by omega
            refine ⟨k + 1, by go_num, by omega, ⟨_, ((ra.kept sg0 ?_).kept sg1 ?_).kept sg2 ?_⟩, ((rw0.kept sg0 ?_).kept sg1 ?_).kept sg2 ?_, ((rb.kept sg0 ?_).kept sg1 ?_).kept sg2 ?_, ⟨_, st2⟩, ((rd.kept sg0 ?_).kept sg1 ?_).kept sg2 ?_, ((hB.setCell (p := ⟨g, k * 3, none⟩) hg _).setCell (p := ⟨g, k * 3 + 1, none⟩) hg _).setCell (p := ⟨g, k * 3 + 2, none⟩) hg _, by simpa using hZ0⟩
            · right; intro e; have h1 := tva g e; omega
            · right; intro e; have h1 := tva g e; omega
            · right; intro e; have h1 := tva g e; omega
            · right; intro e; have h1 := tvw g e; omega
            · right; intro e; have h1 := tvw g e; omega
            · right; intro e; have h1 := tvw g e; omega
            · right; intro e; have h1 := tvb g e; omega
            · right; intro e; have h1 := tvb g e; omega
            · right; intro e; have h1 := tvb g e; omega
            · right; intro e; have h1 := tvd g e; omega
            · right; intro e; have h1 := tvd g e; omega
            · right; intro e; have h1 := tvd g e; omega
          case measure => simp [intOf]; omega
        · have hkb : m = k := by omega
          subst hkb
          go_wp2
          obtain ⟨Z, hZe⟩ : ∃ Z, wr.heap.size = Z := ⟨_, rfl⟩
          have z9 : w9.heap.size ≤ Z := by omega
          have HZ := Lib.hid hZe
          clear hZe
          obtain ⟨i0, hi, hz0, hz1, hz2⟩ := info_parts infoI
          obtain ⟨j0, ji, jz0, jz1, jz2⟩ := info_parts infoPt
          go_wp2
          go_loopw [6, 8, 12] (fun a c i wq => CtRel3 b m L M w1.heap.size w5.heap.size w6.heap.size w7.heap.size w8.heap.size w9.heap.size Z (.slice ovw b cvw) (.slice ovb b cvb) (.slice ovd m cvd) w a c i wq) (fun _ _ i _ => 70 - (intOf i).toNat)
          case atStart => exact ⟨0, rfl, by omega, ⟨_, ra⟩, ⟨_, rc⟩, fun g e => .inl (tva g e), fun g e => .inl (tvc g e), rw0, rb, rd, hB, by rw [HZ.out]; exact Nat.le_refl _⟩
          case round =>
            clear ra rw0 rb rc rd hB HZ
            obtain ⟨k, rfl, hk, ⟨xs, ra⟩, ⟨ys, rc⟩, na, nc, rw0, rb, rd, hB, hZ⟩ := hrel
            obtain ⟨oa, ca, rfl, _⟩ := own_slice ra
            obtain ⟨oc, cc, rfl, _⟩ := own_slice rc
            by_cases hlt : k < 70
            · have hlti : (k : Int) < 70 := by omega
              go_wp2_with (first | (at_builtin; refine wpList_append_own_at _ rfl _ _ 39 rfl w5.heap.size 3 i0 (.int .i64 0) 1 8 Try.underlying39 hi hz0 hz1 hz2 rfl (by decide) _ _ _ rfl (ra.alloc _) ⟨_, 0, none⟩ 1 1 [.int .i64 (-7)] rfl rfl (cell_one_new _ _ _) (fun x hx => by simp at hx; subst hx; rfl) (by unfold maxLen; omega) (by omega) (by simp; omega) ?_; intro va1 w21 ra1 hg1 _ hat1; have rc1 := (rc.alloc _).kept hg1 (rows_apart rc ra (by decide)); obtain ⟨g1, c1, rfl⟩ := ownsRow_succ ra1) | (at_builtin; refine wpList_append_own_at _ rfl _ _ 44 rfl w7.heap.size 51 j0 (.agg #[.int .i64 0, .int .i64 0, .bool false]) 3 24 Try.underlying44 ji jz0 jz1 jz2 rfl (by decide) _ _ _ rfl (rc1.alloc _) ⟨_, 0, none⟩ 1 1 [.int .i64 0, .int .i64 0, .bool false] rfl rfl (World.news_of_block (cs := #[.int .i64 0, .int .i64 0, .bool false]) (t := 51) (fr := (0, 0)) (World.alloc_heap_new w21 _)) (fun x hx => by simp at hx; rcases hx with rfl | rfl | rfl <;> rfl) (by unfold maxLen; omega) (by omega) (by have := hg1.size; simp at this ⊢; omega) ?_; intro vc1 w22 rc2 hg2 _ hat2; obtain ⟨g2, c2, rfl⟩ := ownsRow_succ rc2))
              have rb2 := ((((rb.alloc _).kept hg1 (near_apart na tvb (by omega) (by omega))).alloc _).kept hg2 (near_apart nc tvb (by omega) (by omega)))
              have rw2 := ((((rw0.alloc _).kept hg1 (near_apart na tvw (by omega) (by omega))).alloc _).kept hg2 (near_apart nc tvw (by omega) (by omega)))
              have rd2 := ((((rd.alloc _).kept hg1 (near_apart na tvd (by omega) (by omega))).alloc _).kept hg2 (near_apart nc tvd (by omega) (by omega)))
              have ra2 := (ra1.alloc _).kept hg2 (rows_apart ra1 rc1 (by decide))
              have hB2 := ((hB.alloc hB.size _).grown hg1 (by have := hB.size; simp; omega) (fun j hj => by have := hB.size; rcases na j hj with h | h <;> omega))
              have hs1 : wr.heap.size < w21.heap.size := by have := hg1.size; simp at this; omega
              have hs2 : w21.heap.size < w22.heap.size := by have := hg2.size; simp at this; omega
              have hB3 := (hB2.alloc hB2.size (.cells #[.int .i64 0, .int .i64 0, .bool false] 51)).grown hg2 (by have := hB2.size; simp; omega) (fun j hj => by have := hB.size; rcases nc j hj with h | h <;> omega)
              go_roundw
              case rel => exact ⟨k + 1, by go_num, by omega, ⟨_, ra2⟩, ⟨_, rc2⟩, near_next na hat1 (by simp; omega), near_next nc hat2 (by simp; omega), rw2, rb2, rd2, hB3, by omega⟩
              case measure => simp [intOf]; omega
            · have hkb : k = 70 := by omega
              subst hkb
              have rvb_12 := rb; have rvw_12 := rw0; have rvd_12 := rd; have B12 := hB
              clear rb rw0 rd hB ra rc na nc
              have fa : decide ((70 : Int) ≤ (b : Int) + 70) = true := decide_eq_true (by omega)
              have fc : decide ((70 : Int) ≤ (m : Int) + 70) = true := decide_eq_true (by omega)
              have mk := trivial
              go_wp2_with (go_at_call 28; clear mk; refine (ints_any L _ _ _ _ (by rw [HLb.out]; omega) _ (by rw [HLb.out]; exact rvb_12) (by rw [HLb.out]; exact rvw_12)).mono ?_; rintro e w13 ⟨rfl, hb13⟩)
              have s13 := hb13.size
              have rvb_13 := own_below rvb_12 hb13
              have rvw_13 := own_below rvw_12 hb13
              have rvd_13 := own_below rvd_12 hb13
              have B13 := B12.trans (hb13.mono B12.size)
              clear rvb_12
              clear rvw_12
              clear rvd_12
              clear hb13 B12
              have mk := trivial
              go_wp2_with (go_at_call 30; clear mk; refine (cQ _).mono ?_; rintro e w14 ⟨ve2, rfl, rve2_14, hb14⟩; obtain ⟨ove2, cve2, rfl, hve2⟩ := own_slice rve2_14)
              have s14 := hb14.size
              have tve2 := fun g e => (rve2_14.lt g e)
              have rvb_14 := own_below rvb_13 hb14
              have rvw_14 := own_below rvw_13 hb14
              have rvd_14 := own_below rvd_13 hb14
              have B14 := B13.trans (hb14.mono B13.size)
              clear rvb_13
              clear rvw_13
              clear rvd_13
              clear hb14 B13
              have mk := trivial
              go_wp2_with (go_at_call 29; clear mk; refine (parts_any M _ _ _ _ (by rw [HM.out]; omega) _ (by rw [HM.out]; exact rvd_14) (by rw [HM.out]; exact rve2_14)).mono ?_; rintro e w15 ⟨rfl, hb15⟩)
              have s15 := hb15.size
              have rvb_15 := own_below rvb_14 hb15
              have rvw_15 := own_below rvw_14 hb15
              have rvd_15 := own_below rvd_14 hb15
              have rve2_15 := own_below rve2_14 hb15
              have B15 := B14.trans (hb15.mono B14.size)
              clear rvb_14
              clear rvw_14
              clear rvd_14
              clear rve2_14
              clear hb15 B14
              have mk := trivial
              go_wp2_with (go_at_call 26; clear mk; refine (cb _).mono ?_; rintro e w16 ⟨va2, rfl, rva2_16, hb16⟩; obtain ⟨ova2, cva2, rfl, hva2⟩ := own_slice rva2_16)
              have s16 := hb16.size
              have tva2 := fun g e => (rva2_16.lt g e)
              have rvb_16 := own_below rvb_15 hb16
              have rvw_16 := own_below rvw_15 hb16
              have rvd_16 := own_below rvd_15 hb16
              have rve2_16 := own_below rve2_15 hb16
              have B16 := B15.trans (hb16.mono B15.size)
              clear rvb_15
              clear rvw_15
              clear rvd_15
              clear rve2_15
              clear hb16 B15
              have mk := trivial
              go_wp2_with (go_at_call 28; clear mk; refine (ints_any L _ _ _ _ (by rw [HLb.out]; omega) _ (by rw [HLb.out]; exact rva2_16) (by rw [HLb.out]; exact rvw_16)).mono ?_; rintro e w17 ⟨rfl, hb17⟩)
              have s17 := hb17.size
              have rvb_17 := own_below rvb_16 hb17
              have rvw_17 := own_below rvw_16 hb17
              have rvd_17 := own_below rvd_16 hb17
              have rve2_17 := own_below rve2_16 hb17
              have rva2_17 := own_below rva2_16 hb17
              have B17 := B16.trans (hb17.mono B16.size)
              clear rvb_16
              clear rvw_16
              clear rvd_16
              clear rve2_16
              clear rva2_16
              clear hb17 B16
              have mk := trivial
              go_wp2_with (go_at_call 27; clear mk; refine (cp _).mono ?_; rintro e w18 ⟨vc2, rfl, rvc2_18, hb18⟩; obtain ⟨ovc2, cvc2, rfl, hvc2⟩ := own_slice rvc2_18)
              have s18 := hb18.size
              have tvc2 := fun g e => (rvc2_18.lt g e)
              have rvb_18 := own_below rvb_17 hb18
              have rvw_18 := own_below rvw_17 hb18
              have rvd_18 := own_below rvd_17 hb18
              have rve2_18 := own_below rve2_17 hb18
              have rva2_18 := own_below rva2_17 hb18
              have B18 := B17.trans (hb18.mono B17.size)
              clear rvb_17
              clear rvw_17
              clear rvd_17
              clear rve2_17
              clear rva2_17
              clear hb18 B17
              have mk := trivial
              go_wp2_with (go_at_call 29; clear mk; refine (parts_any M _ _ _ _ (by rw [HM.out]; omega) _ (by rw [HM.out]; exact rvc2_18) (by rw [HM.out]; exact rvd_18)).mono ?_; rintro e w19 ⟨rfl, hb19⟩)
              have s19 := hb19.size
              have rvb_19 := own_below rvb_18 hb19
              have rvw_19 := own_below rvw_18 hb19
              have rvd_19 := own_below rvd_18 hb19
              have rve2_19 := own_below rve2_18 hb19
              have rva2_19 := own_below rva2_18 hb19
              have rvc2_19 := own_below rvc2_18 hb19
              have B19 := B18.trans (hb19.mono B18.size)
              clear rvb_18
              clear rvw_18
              clear rvd_18
              clear rve2_18
              clear rva2_18
              clear rvc2_18
              clear hb19 B18
              have mk := trivial
              go_wp2_with (go_at_call 15; clear mk; refine (wakes_any _).mono ?_; rintro e w20 ⟨rfl, hb20⟩)
              have s20 := hb20.size
              have rvb_20 := own_below rvb_19 hb20
              have rvw_20 := own_below rvw_19 hb20
              have rvd_20 := own_below rvd_19 hb20
              have rve2_20 := own_below rve2_19 hb20
              have rva2_20 := own_below rva2_19 hb20
              have rvc2_20 := own_below rvc2_19 hb20
              have B20 := B19.trans (hb20.mono B19.size)
              clear rvb_19
              clear rvw_19
              clear rvd_19
              clear rve2_19
              clear rva2_19
              clear rvc2_19
              clear hb20 B19
              go_wp2
              go_ret
              exact ⟨rfl, B20⟩
end Go.Proofs.Ytgpnheaefagfiaa
