/- Several texts in one. -/
import Derived.Test.YtjccoiephdopkaaIo
import Derived.Test.YtjccoiephdopkaaZ23
import Derived.Test.YtjccoiephdopkaaZ02
import Derived.Deep.Slices
import Derived.Deep.Fields
import Derived.Carry
import Derived.ProofKit
import Derived.OpenShut
import Derived.JoinedCond
import Derived.Lib.SmallJoins
/- Stage 27: the law EditApplies. -/
namespace Go.Proofs.Ytjccoiephdopkaa
set_option linter.unusedVariables false
set_option linter.unusedSimpArgs false
open Go Go.RowKit Go.Shelf
set_option maxRecDepth 100000

theorem wh_facts {s : ByteArray} {l : List Sp} (h0 : (appF s l).2 = 0) : s.size ≤ 65536 ∧ (appF s l).1.size ≤ 65536 ∧ appF s (whO s l) = ((appF s l).1, 0) ∧ OkS (whO s l) ∧ (whO s l).length ≤ 131072 ∧ PreS true (EdB s) (whO s l) 0 ∧ PreS false (EdB (appF s l).1) (whO s l) 0 ∧ (∀ x ∈ whO s l, kindN x ≠ 0) ∧ szF true (whO s l) ≤ 65536 ∧ szF false (whO s l) ≤ 65536 := by
  obtain ⟨T, hz, hrun⟩ := appF_ok h0
  have hbd := plain_cu hz
  have hPk := plain_ok hz
  have hrn : runA (atL (plainM l)) (bL s) = some (bL (appF s l).1, []) := by rw [hPk.2.2.2]; exact hrun
  have hrl := run_len hrn
  rw [bL_len, bL_len, List.length_nil] at hrl
  have hsz := sizeG_in _ 0 0 _ _ hPk.1
  have ht6 : (appF s l).1.size ≤ 65536 := by omega
  have hs6 : s.size ≤ 65536 := hbd.2.2.2.1
  obtain ⟨w1, w2, w3⟩ := whA_ok (GsK.of hrn)
  have h1 := appF_nf w1 hs6 (by rw [bL_len]; exact ht6)
  rw [bL_mk] at h1
  have h2 := nf_ok (A := whA s (appF s l).1 (gsA (atL (plainM l)) 0)) (by omega) (by rw [h1.2.2, bL_len]; exact ht6)
  have h3 := nf_eq (whA s (appF s l).1 (gsA (atL (plainM l)) 0))
  refine ⟨hs6, ht6, h1.1, h2.2.1, h2.2.2, w2, w3, h3.2, ?_, ?_⟩
  · show inA (atL (nfA _)) ≤ _
    rw [h3.1.inn, h1.2.1]; exact hs6
  · show outA (atL (nfA _)) ≤ _
    rw [h3.1.out, h1.2.2, bL_len]; exact ht6
theorem sz_takeP (b : Bool) {L : List Sp} {k : Nat} {x : Sp} (hx : L[k]? = some x) : szF b (L.take (k + 1)) = szF b (L.take k) + szF b [x] := by
  rw [List.take_add_one, hx, szF_app]; rfl
theorem sz_le (b : Bool) (L : List Sp) (k : Nat) : szF b (L.take k) ≤ szF b L := by
  have : szF b L = szF b (L.take k) + szF b (L.drop k) := by rw [← szF_app, List.take_append_drop]
  omega
set_option maxHeartbeats 8000000 in
theorem whole_law (s : ByteArray) (l : List Sp) (o : Option Addr) (c : Nat) (hs : s.size ≤ 9223372036854775807) (hn : l.length ≤ 9223372036854775807) (ho : OkS l) (w : World) (hr : RowAt w encS 3 o l) :
    Calls Try.prog 7 #[.string s, .slice o l.length c] w fun e w' => e = .returned (.bool true) ∧ Below w.heap.size w w' := by
  have HR := Lib.hid (And.intro hr ho)
  have cR := ref_any l o c hn ho w hr
  clear hr ho
  go_enter Try.func7, Try.ntmps7
  go_wp2_with (fail)
  refine cR.mono ?_
  rintro e W2 (⟨hrf, rfl, hB2⟩ | ⟨hrf, v, rfl, hrow, hB2⟩)
  · have H2 := Lib.hid hB2
    clear hB2 hrf cR
    go_wp2
    go_ret
    exact ⟨rfl, H2.out⟩
  · obtain ⟨om, cm, rfl, _⟩ := own_slice hrow
    have H2 := Lib.hid (And.intro hB2 (RowAt.of_own encS_len hrow rfl))
    clear hB2 hrf hrow cR
    by_cases h8 : 5000 < s.size
    · have d8 : decide ((5000 : Int) < (s.size : Int)) = true := decide_eq_true (by omega)
      go_wp2
      go_ret
      exact ⟨rfl, H2.out.1⟩
    · have d8 : decide ((5000 : Int) < (s.size : Int)) = false := decide_eq_false (by omega)
      have cS := sizesD_any l om cm hn HR.out.2 _ H2.out.2
      cases hz : sizeG l 0 0 with
      | none =>
        rw [hz] at cS
        have hA := appF_none2 (s := s) hz
        clear hz
        go_wp2_with (fail)
        refine cS.mono ?_
        rintro e W3 ⟨rfl, hB3⟩
        simp only [szD]
        have H3 := Lib.hid (H2.out.1.trans (hB3.mono H2.out.1.size))
        clear hB3 cS
        have cW := whole_no s l o c hs hn HR.out.2 (by rw [hA]; simp) _ (HR.out.1.below encS_len (by decide) H3.out)
        rw [hA] at cW
        go_wp2_with (fail)
        refine cW.mono ?_
        rintro e W4 ⟨rfl, hB4⟩
        have H4 := Lib.hid (H3.out.trans (hB4.mono H3.out.size))
        clear hB4 H3 cW
        go_wp2_with (fail)
        refine (live_any _).mono ?_
        rintro e W5 ⟨rfl, hB5⟩
        have H5 := Lib.hid (H4.out.trans (hB5.mono H4.out.size))
        clear hB5
        go_wp2
        go_ret
        exact ⟨rfl, H5.out⟩
      | some ft =>
        obtain ⟨F, T⟩ := ft
        rw [hz] at cS
        have HZ := Lib.hid hz
        clear hz
        go_wp2_with (fail)
        refine cS.mono ?_
        rintro e W3 ⟨rfl, hB3⟩
        simp only [szD]
        have H3 := Lib.hid (And.intro (H2.out.1.trans (hB3.mono H2.out.1.size)) (H2.out.2.below encS_len (by decide) hB3))
        clear hB3 cS H2
        by_cases h0 : (appF s l).2 = 0
        · obtain ⟨hs6, ht6, hap, hok, hll, hp1, hp2, hkd, hz1, hz2⟩ := wh_facts h0
          have cW := whole_ok s l o c hs hn HR.out.2 h0 _ (HR.out.1.below encS_len (by decide) H3.out.1)
          have cD := fun X (hX : Below W3.heap.size W3 X) => applyD_any s l om cm F T hn hs HR.out.2 HZ.out X (H3.out.2.below encS_len (by decide) hX)
          have cV := fun X (hX : Below W3.heap.size W3 X) => wholeD_any s l om cm hn hs HR.out.2 h0 X (H3.out.2.below encS_len (by decide) hX)
          obtain ⟨t, ht⟩ : ∃ t, (appF s l).1 = t := ⟨_, rfl⟩
          obtain ⟨L, hL⟩ : ∃ L, whO s l = L := ⟨_, rfl⟩
          rw [h0, ht] at cD
          rw [ht] at hap hp2 ht6
          rw [hL] at hap hok hll hp1 hp2 hkd hz1 hz2 cW cV
          have HF := Lib.hid (And.intro hp1 (And.intro hp2 (And.intro hkd (And.intro hz1 hz2))))
          have HA := Lib.hid (And.intro hap hok)
          clear ht hL hap hok hp1 hp2 hkd hz1 hz2 h0
          go_wp2_with (fail)
          refine cW.mono ?_
          rintro e W4 ⟨v, rfl, hv, hB4⟩
          obtain ⟨ox, cx, rfl, _⟩ := own_slice hv
          have H4 := Lib.hid (And.intro hB4 (RowAt.of_own encS_len hv rfl))
          clear hB4 hv cW
          go_wp2_with (fail)
          refine (cD _ H4.out.1).mono ?_
          rintro e W5 ⟨rfl, hB5⟩
          have H5 := Lib.hid (And.intro (H4.out.1.trans (hB5.mono H4.out.1.size)) (H4.out.2.below encS_len (by decide) hB5))
          clear hB5 cD H4
          go_wp2_with (fail)
          refine (cV _ H5.out.1).mono ?_
          rintro e W6 ⟨v, rfl, hv, hB6⟩
          obtain ⟨oy, cy, rfl, _⟩ := own_slice hv
          have H6 := Lib.hid (And.intro (H5.out.1.trans (hB6.mono H5.out.1.size)) (And.intro (H5.out.2.below encS_len (by decide) hB6) (RowAt.of_own encS_len hv rfl)))
          clear hB6 hv cV H5
          go_wp2_with (fail)
          refine (same_any L ox oy cx cy (by omega) _ H6.out.2.1 H6.out.2.2).mono ?_
          rintro e W7 ⟨rfl, hB7⟩
          have H7 := Lib.hid (And.intro (H6.out.1.trans (hB7.mono H6.out.1.size)) (H6.out.2.1.below encS_len (by decide) hB7))
          clear hB7 H6
          go_wp2_with (fail)
          refine (apply_any s L ox cx (by omega) hs HA.out.2 _ H7.out.2).mono ?_
          rintro e W8 ⟨rfl, hB8⟩
          rw [HA.out.1]
          have H8 := Lib.hid (And.intro (H3.out.1.trans ((H7.out.1.trans (hB8.mono H7.out.1.size)).mono H3.out.1.size)) (H7.out.2.below encS_len (by decide) hB8))
          have q1 : (t.toList == t.toList) = true := beq_self_eq_true _
          clear hB8 H7
          go_wp2
          go_loopw [15, 16, 17] (fun av bv iv W => ∃ k : Nat, iv = .int .i64 k ∧ av = .int .i64 (szF true (L.take k)) ∧ bv = .int .i64 (szF false (L.take k)) ∧ k ≤ L.length ∧ Below W8.heap.size W8 W) (fun _ _ iv _ => L.length - (intOf iv).toNat)
          case atStart => exact ⟨0, rfl, by rw [List.take_zero, szF_nil]; rfl, by rw [List.take_zero, szF_nil]; rfl, by omega, Below.refl _ _⟩
          case round =>
            obtain ⟨k, rfl, rfl, rfl, hk, hB⟩ := hrel
            by_cases hlt : k < L.length
            · obtain ⟨x, hx⟩ : ∃ x, L[k]? = some x := ⟨_, List.getElem?_eq_getElem hlt⟩
              obtain ⟨g, off, rfl, hc⟩ := H8.out.2 k x hx
              have hcb : ∀ X, Below W8.heap.size W8 X → X.cell? ⟨g, off + k * 3, none⟩ = some (.int .i64 x.k) ∧ X.cell? ⟨g, off + k * 3 + 1, none⟩ = some (.string x.d) ∧ X.cell? ⟨g, off + k * 3 + 2, none⟩ = some (.string x.p) := fun X hX => by
                obtain ⟨c0, c1, c2⟩ := get3 (l := L) hc
                exact ⟨at_below c0 hX, at_below c1 hX, at_below c2 hX⟩
              have hkx := HF.out.2.2.1 x (List.mem_of_getElem? hx)
              have hxk := kind_pos hkx
              have t1 := sz_takeP true hx
              have t2 := sz_takeP false hx
              rw [(sz_step x).1] at t1
              rw [(sz_step x).2] at t2
              have u1 := sz_le true L (k + 1)
              have u2 := sz_le false L (k + 1)
              have u3 := HF.out.2.2.2.1
              have u4 := HF.out.2.2.2.2
              have g1 := HF.out.1 k hk
              have g2 := HF.out.2.1 k hk
              have g3 := HF.out.1 (k + 1) hlt
              have g4 := HF.out.2.1 (k + 1) hlt
              rw [Nat.zero_add] at g1 g2 g3 g4
              obtain ⟨kk, d, p⟩ := x
              simp only at hxk t1 t2 hcb
              obtain ⟨kn, rfl⟩ : ∃ kn : Nat, kk = kn := ⟨kk.toNat, by omega⟩
              rw [Int.toNat_natCast] at t1 t2
              obtain ⟨I, hIe⟩ : ∃ I, szF true (L.take k) = I := ⟨_, rfl⟩
              obtain ⟨O, hOe⟩ : ∃ O, szF false (L.take k) = O := ⟨_, rfl⟩
              obtain ⟨J, hJe⟩ : ∃ J, szF true (L.take (k + 1)) = J := ⟨_, rfl⟩
              obtain ⟨P, hPe⟩ : ∃ P, szF false (L.take (k + 1)) = P := ⟨_, rfl⟩
              rw [hIe, hJe] at t1
              rw [hOe, hPe] at t2
              rw [hIe] at g1 ⊢
              rw [hOe] at g2 ⊢
              rw [hJe] at g3 u1
              rw [hPe] at g4 u2
              obtain ⟨kd, hkd⟩ : ∃ z, kn + d.size = z := ⟨_, rfl⟩
              obtain ⟨kp, hkp⟩ : ∃ z, kn + p.size = z := ⟨_, rfl⟩
              have w1 : IntKind.i64.wrap ((kn : Int) + (d.size : Int)) = (kd : Int) := by rw [IntWalk.i64_in _ (by omega)]; omega
              have w2 : IntKind.i64.wrap ((kn : Int) + (p.size : Int)) = (kp : Int) := by rw [IntWalk.i64_in _ (by omega)]; omega
              have w3 : IntKind.i64.wrap ((I : Int) + (kd : Int)) = (J : Int) := by rw [IntWalk.i64_in _ (by omega)]; omega
              have w4 : IntKind.i64.wrap ((O : Int) + (kp : Int)) = (P : Int) := by rw [IntWalk.i64_in _ (by omega)]; omega
              have j5 : IntKind.i64.wrap ((k : Int) + 1) = ((k + 1 : Nat) : Int) := by rw [IntWalk.i64_in _ (by omega)]; omega
              have hkl : (k : Int) < (L.length : Int) := by omega
              have hk0 : (0 : Int) ≤ (k : Int) := by omega
              have HC := Lib.hid hcb
              have HB := Lib.hid hB
              have HJ := Lib.hid (And.intro hJe hPe)
              by_cases hpos : 0 < kn
              · have hdp : d = .empty ∧ p = .empty := by
                  rcases kind_three (kn : Int) d p with h0 | ⟨h1, h2, h3, h4⟩ | ⟨h1, h2, h3, h4⟩ | ⟨h1, h2, h3, h4⟩
                  · exact absurd h0 hkx
                  · exact ⟨h2, h3⟩
                  · omega
                  · omega
                have hd0 : d.size = 0 := by rw [hdp.1]; rfl
                have hp0 : p.size = 0 := by rw [hdp.2]; rfl
                have w5 : IntKind.i64.wrap ((I : Int) + (kn : Int)) = (J : Int) := by rw [IntWalk.i64_in _ (by omega)]; omega
                have w6 : IntKind.i64.wrap ((O : Int) + (kn : Int)) = (P : Int) := by rw [IntWalk.i64_in _ (by omega)]; omega
                have dp : decide ((0 : Int) < (kn : Int)) = true := decide_eq_true (by omega)
                have dp2 : decide (0 < kn) = true := decide_eq_true hpos
                have cE1 := edge_any s I (by omega) g1
                have cE2 := edge_any t O ht6 g2
                have cE3 := edge_any s J (by omega) g3
                have cE4 := edge_any t P ht6 g4
                obtain ⟨c0, c1, c2⟩ := HC.out _ hB
                clear hdp hd0 hp0 hkx hxk t1 t2 u1 u2 u3 u4 g1 g2 g3 g4 hkd hkp hcb hB hc hx hIe hOe hJe hPe
                go_wp2_with (fail)
                refine (cE1 _).mono ?_
                rintro e V1 ⟨rfl, hb⟩
                have HB1 := Lib.hid (HB.out.trans (hb.mono HB.out.size))
                clear hb c0 c1 c2 cE1
                obtain ⟨c0, c1, c2⟩ := HC.out _ HB1.out
                go_wp2_with (fail)
                refine (cE2 _).mono ?_
                rintro e V2 ⟨rfl, hb⟩
                have HB2 := Lib.hid (HB1.out.trans (hb.mono HB1.out.size))
                clear hb c0 c1 c2 cE2 HB1
                obtain ⟨c0, c1, c2⟩ := HC.out _ HB2.out
                go_wp2_with (fail)
                refine (cE3 _).mono ?_
                rintro e V3 ⟨rfl, hb⟩
                have HB3 := Lib.hid (HB2.out.trans (hb.mono HB2.out.size))
                clear hb c0 c1 c2 cE3 HB2
                obtain ⟨c0, c1, c2⟩ := HC.out _ HB3.out
                go_wp2_with (fail)
                refine (cE4 _).mono ?_
                rintro e V4 ⟨rfl, hb⟩
                have HB4 := Lib.hid (HB3.out.trans (hb.mono HB3.out.size))
                clear hb c0 c1 c2 cE4 HB3
                obtain ⟨c0, c1, c2⟩ := HC.out _ HB4.out
                go_wp2
                go_quiet (fail)
                generalize hU : World.drewN _ _ = U
                have HU := Lib.hid (HB4.out.trans ((hU ▸ below_drewN _ _ : Below V4.heap.size V4 U).mono HB4.out.size))
                clear hU c0 c1 c2
                obtain ⟨c0, c1, c2⟩ := HC.out _ HU.out
                go_wp2
                go_quiet (fail)
                generalize hU : World.drewN _ _ = U2
                have HU2 := Lib.hid (HU.out.trans ((hU ▸ below_drewN _ _ : Below U.heap.size U U2).mono HU.out.size))
                clear hU c0 c1 c2
                go_wp2
                go_roundw
                case rel => exact ⟨k + 1, by go_num, by rw [HJ.out.1], by rw [HJ.out.2], by omega, HU2.out⟩
                case measure => simp [intOf] <;> omega
              · have dp : decide ((0 : Int) < (kn : Int)) = false := decide_eq_false (by omega)
                have dp2 : decide (0 < kn) = false := decide_eq_false hpos
                obtain ⟨c0, c1, c2⟩ := HC.out _ hB
                clear hkx hxk t1 t2 u1 u2 u3 u4 g1 g2 g3 g4 hkd hkp hcb hB hc hx hIe hOe hJe hPe
                go_wp2
                go_quiet (fail)
                generalize hU : World.drewN _ _ = U
                have HU := Lib.hid (HB.out.trans ((hU ▸ below_drewN _ _ : Below wr.heap.size wr U).mono HB.out.size))
                clear hU c0 c1 c2
                obtain ⟨c0, c1, c2⟩ := HC.out _ HU.out
                go_wp2
                go_quiet (fail)
                generalize hU : World.drewN _ _ = U2
                have HU2 := Lib.hid (HU.out.trans ((hU ▸ below_drewN _ _ : Below U.heap.size U U2).mono HU.out.size))
                clear hU c0 c1 c2
                go_wp2
                go_roundw
                case rel => exact ⟨k + 1, by go_num, by rw [HJ.out.1], by rw [HJ.out.2], by omega, HU2.out⟩
                case measure => simp [intOf] <;> omega
            · obtain rfl : k = L.length := by omega
              have HB := Lib.hid (H8.out.1.trans (hB.mono H8.out.1.size))
              clear hB
              go_wp2
              go_ret
              exact ⟨rfl, HB.out⟩
        · have hE := appF_emp h0
          have cW := whole_no s l o c hs hn HR.out.2 h0 _ (HR.out.1.below encS_len (by decide) H3.out.1)
          have cD := fun X (hX : Below W3.heap.size W3 X) => applyD_any s l om cm F T hn hs HR.out.2 HZ.out X (H3.out.2.below encS_len (by decide) hX)
          obtain ⟨n1, hN1⟩ : ∃ n, (appF s l).2 = n := ⟨_, rfl⟩
          rw [hN1] at cW h0
          rw [hE, hN1] at cD
          have e1 : ((n1 : Int) == 0) = false := by rw [beq_eq_false_iff_ne]; omega
          have e1' : (n1 == 0) = false := by rw [beq_eq_false_iff_ne]; omega
          have e2 : ((n1 : Int) == (n1 : Int)) = true := beq_self_eq_true _
          clear hE hN1 h0
          go_wp2_with (fail)
          refine cW.mono ?_
          rintro e W4 ⟨rfl, hB4⟩
          have H4 := Lib.hid hB4
          clear hB4 cW
          go_wp2_with (fail)
          refine (cD _ H4.out).mono ?_
          rintro e W5 ⟨rfl, hB5⟩
          have H5 := Lib.hid (H3.out.1.trans ((H4.out.trans (hB5.mono H4.out.size)).mono H3.out.1.size))
          clear hB5 cD H4
          go_wp2_with (fail)
          refine (live_any _).mono ?_
          rintro e W6 ⟨rfl, hB6⟩
          have H6 := Lib.hid (H5.out.trans (hB6.mono H5.out.size))
          clear hB6
          go_wp2
          go_ret
          exact ⟨rfl, H6.out⟩
set_option maxHeartbeats 4000000 in
theorem applies_law (s : ByteArray) (l : List Sp) (o : Option Addr) (c : Nat) (hs : s.size ≤ 9223372036854775807) (hn : l.length ≤ 9223372036854775807) (ho : OkS l) (w : World) (hr : RowAt w encS 3 o l) :
    Calls Try.prog 3 #[.string s, .slice o l.length c] w fun e w' => e = .returned (.bool true) ∧ Below w.heap.size w w' := by
  have HR := Lib.hid (And.intro hr ho)
  clear hr ho
  go_enter Try.func3, Try.ntmps3
  go_wp2_with (fail)
  refine (live_any _).mono ?_
  rintro e W1 ⟨rfl, hB1⟩
  have H1 := Lib.hid hB1
  clear hB1
  go_wp2_with (fail)
  refine (applies_any s l o c hs hn HR.out.2 _ (HR.out.1.below encS_len (by decide) H1.out)).mono ?_
  rintro e W2 ⟨rfl, hB2⟩
  have H2 := Lib.hid (H1.out.trans (hB2.mono H1.out.size))
  clear hB2 H1
  go_wp2_with (fail)
  refine (inverts_any s l o c hs hn HR.out.2 _ (HR.out.1.below encS_len (by decide) H2.out)).mono ?_
  rintro e W3 ⟨rfl, hB3⟩
  have H3 := Lib.hid (H2.out.trans (hB3.mono H2.out.size))
  clear hB3 H2
  go_wp2_with (fail)
  refine (whole_law s l o c hs hn HR.out.2 _ (HR.out.1.below encS_len (by decide) H3.out)).mono ?_
  rintro e W4 ⟨rfl, hB4⟩
  have H4 := Lib.hid (H3.out.trans (hB4.mono H3.out.size))
  clear hB4 H3
  go_wp2
  go_ret
  exact ⟨rfl, H4.out⟩
end Go.Proofs.Ytjccoiephdopkaa

/- Stage 27: a change that came in, opened. -/
namespace Go.Proofs.Ytjccoiephdopkaa
set_option linter.unusedVariables false
set_option linter.unusedSimpArgs false
open Go Go.ChangeShapes Go.WideShapes Go.ChangeAt Go.RowKit Go.Deep
set_option maxRecDepth 100000

theorem add_at (b o k : Nat) : (⟨b, o, none⟩ : Addr).add k = ⟨b, o + k, none⟩ := by
  unfold Addr.add
  by_cases h : k = 0
  · subst h; simp
  · simp [h]
theorem laidOut : laidOutB Try.prog = true := by kernel_rfl
theorem cellsInt : Try.prog.cellsOf 3 = 1 := by kernel_rfl
theorem cellsString : Try.prog.cellsOf 9 = 1 := by kernel_rfl
theorem cellsStep : Try.prog.cellsOf 29 = 3 := by kernel_rfl
/-- A slice that came in: nil, or with room. -/
def NForm (o : Option Addr) (n cap : Nat) : Prop := (o = none ∧ cap = 0 ∧ n = 0) ∨ ∃ a, o = some a ∧ n ≤ cap ∧ cap ≤ 9223372036854775807
theorem list_of {α : Type} {n : Nat} {P : Nat → α → Prop} (h : ∀ i, i < n → ∃ x, P i x) : ∃ l : List α, l.length = n ∧ ∀ i x, l[i]? = some x → P i x := by
  induction n with
  | zero => exact ⟨[], rfl, fun i x h => by simp at h⟩
  | succ n ih =>
    obtain ⟨l, hl, hp⟩ := ih fun i hi => h i (by omega)
    obtain ⟨x, hx⟩ := h n (by omega)
    refine ⟨l ++ [x], by simp [hl], fun i y hy => ?_⟩
    by_cases hi : i < l.length
    · rw [List.getElem?_append_left hi] at hy; exact hp i y hy
    · rw [List.getElem?_append_right (by omega)] at hy
      have h0 : i - l.length = 0 := by
        have := (List.getElem?_eq_some_iff.1 hy).1
        simp at this; omega
      rw [h0] at hy
      simp at hy
      subst hy
      have : i = n := by omega
      rw [this]; exact hx
theorem maxLen_eq : maxLen = 9223372036854775807 := rfl
section
variable {H : Type} {enc : TypeId × Value → H} {w : World} {base : Nat} {held : Bool}
theorem wAll_mem {P : Program} {e : TypeId} {d : DataW H} {n : Nat} : ∀ {ds : List (DataW H)}, d ∈ ds → n ∈ d.weights P e → n ∈ DataW.weightsAll P e ds
  | [], h, _ => by cases h
  | d0 :: r, h, hn => by
    simp only [DataW.weightsAll, List.mem_append]
    rcases List.mem_cons.1 h with rfl | h
    · exact .inl hn
    · exact .inr (wAll_mem h hn)
theorem open_step {fuel : Nat} {cs : List Value} {x : DataW H × List MemPlace} (h : DataW.trod enc Try.prog w base (fun _ => true) held fuel 29 cs = some x) : ∃ y : Sp, cs = encS y ∧ (y.k ≤ 9223372036854775807 ∧ -9223372036854775808 ≤ y.k) ∧ ∀ B, (∀ n ∈ x.1.weights Try.prog 29, n ≤ B) → y.d.size ≤ B ∧ y.p.size ≤ B := by
  obtain ⟨xs, n, _, hx, hlen, hxl, hq⟩ := DataW.trod_struct Try.underlying29 h
  rw [cellsStep] at hlen
  match cs, hlen with
  | [c0, c1, c2], _ =>
    match xs, hxl with
    | [y0, y1, y2], _ =>
      have h0 := hq 0 _ rfl
      have h1 := hq 1 _ rfl
      have h2 := hq 2 _ rfl
      simp [cellsInt, cellsString] at h0 h1 h2
      obtain ⟨a, e0, g0, b0⟩ := DataW.trod_int Try.underlying3 h0
      obtain ⟨b, e1, g1, b1⟩ := DataW.trod_string Try.underlying9 h1
      obtain ⟨c, e2, g2, c1⟩ := DataW.trod_string Try.underlying9 h2
      simp at e0 e1 e2
      subst e0 e1 e2
      refine ⟨⟨a, b, c⟩, rfl, ?_, fun B hB => ?_⟩
      · exact ⟨(bounds_i64 b0).2, (bounds_i64 b0).1⟩
      · rw [hx] at hB
        simp only [DataW.weights, Try.underlying29, DataW.weightsEach, List.map_cons, List.map_nil, g0, g1, g2] at hB
        have z1 := hB b.data.toList.length (by simp)
        have z2 := hB c.data.toList.length (by simp)
        rw [Array.length_toList] at z1 z2
        exact ⟨z1, z2⟩
theorem open_steps {fuel : Nat} {cs : List Value} {x : DataW H × List MemPlace} (h : DataW.trod enc Try.prog w base (fun _ => true) held fuel 22 cs = some x) :
    ∃ (o : Option Addr) (l : List Sp) (cap : Nat), cs = [.slice o l.length cap] ∧ RowAt w encS 3 o l ∧ NForm o l.length cap ∧ l.length ≤ 9223372036854775807 ∧ (∀ y ∈ l, y.k ≤ 9223372036854775807 ∧ -9223372036854775808 ≤ y.k) ∧ ∀ B, (∀ n ∈ x.1.weights Try.prog 22, n ≤ B) → ∀ y ∈ l, y.d.size ≤ B ∧ y.p.size ≤ B := by
  rcases open_slice Try.underlying22 h with ⟨rfl, rfl⟩ | ⟨a, len, cap, m, n, D, Pl, rfl, hb, hl, hm, hmm, rfl, hx⟩
  · exact ⟨none, [], 0, rfl, fun i x h => by simp at h, .inl ⟨rfl, rfl, rfl⟩, by simp, (fun y hy => by cases hy), (fun B hB y hy => by cases hy)⟩
  · simp only [if_true] at hmm
    subst hmm
    rw [maxLen_eq] at hm
    have hs : 0 < len → a.spot = none := fun h0 => by
      obtain ⟨cs', hc, ht⟩ := hx 0 (by omega)
      obtain ⟨y, rfl, _, _⟩ := open_step ht
      rw [cellsStep] at hc
      obtain ⟨_, _, hat⟩ := World.cells?_some hc
      have h1 : w.cell? ((a.add (0 * 3)).add 0) = some (.int .i64 y.k) := (hat 0 (by decide)).trans rfl
      have h2 := World.cell?_spot h1
      simpa [Addr.add] using h2
    by_cases h0 : 0 < len
    · have hs := hs h0
      obtain ⟨ab, ao, sp⟩ := a
      simp only at hs
      subst hs
      have each : ∀ i, i < len → ∃ y : Sp, (∀ j, j < 3 → w.cell? ⟨ab, ao + i * 3 + j, none⟩ = (encS y)[j]?) ∧ (y.k ≤ 9223372036854775807 ∧ -9223372036854775808 ≤ y.k) ∧ ∀ B, (∀ n ∈ (D i).weights Try.prog 29, n ≤ B) → y.d.size ≤ B ∧ y.p.size ≤ B := by
        intro i hi
        obtain ⟨cs', hc, ht⟩ := hx i (by omega)
        obtain ⟨y, rfl, hyd, hyp⟩ := open_step ht
        rw [cellsStep] at hc
        obtain ⟨_, _, hat⟩ := World.cells?_some hc
        refine ⟨y, fun j hj => ?_, hyd, hyp⟩
        have := hat j hj
        rwa [add_at, add_at] at this
      obtain ⟨l, hll, hp⟩ := list_of each
      exact ⟨some ⟨ab, ao, none⟩, l, _, by rw [hll], fun i y hy => ⟨ab, ao, rfl, (hp i y hy).1⟩, .inr ⟨_, rfl, by rw [hll]; exact hl, hm⟩, by rw [hll]; omega, (fun y hy => by obtain ⟨i, hi⟩ := List.getElem?_of_mem hy; exact (hp i y hi).2.1), (fun B hB y hy => by
        obtain ⟨i, hi⟩ := List.getElem?_of_mem hy
        have hil : i < len := by have := (List.getElem?_eq_some_iff.1 hi).1; omega
        refine (hp i y hi).2.2 B fun n hn => hB n ?_
        simp only [DataW.weights, Try.underlying22]
        exact List.mem_cons_of_mem _ (List.mem_append_left _ (wAll_mem (List.mem_map.2 ⟨i, List.mem_range.2 hil, rfl⟩) hn)))⟩
    · obtain rfl : len = 0 := by omega
      exact ⟨some a, [], _, rfl, fun i x h => by simp at h, .inr ⟨a, rfl, hl, hm⟩, by simp, (fun y hy => by cases hy), (fun B hB y hy => by cases hy)⟩
end
end Go.Proofs.Ytjccoiephdopkaa
