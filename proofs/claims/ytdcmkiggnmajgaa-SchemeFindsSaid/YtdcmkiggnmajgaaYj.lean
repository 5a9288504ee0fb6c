/- Stage 16: the law SchemeFound: without a fault. -/
import Derived.Test.YtdcmkiggnmajgaaXi
import Derived.Test.YtdcmkiggnmajgaaYc
import Derived.Test.YtdcmkiggnmajgaaYe
import Derived.Deep.CutRange
namespace Go.Proofs.Ytdcmkiggnmajgaa.Pr
set_option linter.unusedVariables false
set_option linter.unusedSimpArgs false
open Go Go.RowKit Go.Shelf
set_option maxRecDepth 100000

set_option maxHeartbeats 16000000 in
theorem foundB3c (s : Sc) (ks : List ByteArray) (ol os o : Option Addr) (cl cs c : Nat) (hn : s.L.length ≤ 9223372036854775807) (hm : s.S.length ≤ 9223372036854775807) (hk1 : ks.length ≤ 9223372036854775807) (hz : ∀ t ∈ ks, t.size ≤ maxLen) (hfk : NForm o ks.length c) (hmay : mayB s = true) (hlen : ks.length = s.L.length) (hne : fltT s.L ks s.L.length = []) (hok : ¬ (512 < ks.length ∨ 25 < cntF (keyL ks) ks.length)) (hs : 201 < ks.length) (w : World) (hr : RowAt w encR 2 ol s.L) (ht : RowAt w encI 1 os s.S) (hk : RowAt w encT 1 o ks) :
    Calls Try.prog 11 #[.agg #[.slice ol s.L.length cl, .slice os s.S.length cs], .slice o ks.length c] w fun e w' => e = .returned (.bool true) ∧ Below w.heap.size w w' := by
  have hB0 := (Below.refl _ w).alloc (Nat.le_refl _) (.cells #[.slice ol s.L.length cl, .slice os s.S.length cs] 25)
  have bS := Blk.new w #[.slice ol s.L.length cl, .slice os s.S.length cs] 25
  have H := Lib.hid (And.intro bS hB0)
  have HR := Lib.hid (And.intro hr (And.intro ht hk))
  clear bS hB0 hr ht hk
  have HNO := Lib.hid (And.intro hmay (And.intro hlen hne))
  clear hmay hlen hne
  have cF := found_any ks o c hk1 hz
  go_enter Try.func11, Try.ntmps11
  go_wp2_with (fail)
  refine (wakes_any _).mono ?_
  rintro e w1 ⟨rfl, hB⟩
  replace H := Lib.hid (And.intro (H.out.1.below' hB) (H.out.2.trans (hB.mono H.out.2.size)))
  clear hB
  have x0 : w1.cell? ⟨w.heap.size, 0, none⟩ = some (.slice ol s.L.length cl) := H.out.1.cell 0
  have x1 : w1.cell? ⟨w.heap.size, 1, none⟩ = some (.slice os s.S.length cs) := H.out.1.cell 1
  have hok1 : ¬ 512 < ks.length := fun h => hok (.inl h)
  have hok2 : ¬ 25 < cntF (keyL ks) ks.length := fun h => hok (.inr h)
  have hR : fndR ks = (fndS ks, 0) := by unfold fndR; rw [if_neg hok1, if_neg hok2]
  rw [hR] at cF
  simp only at cF
  have hxm := fnd_may hok1 hok2
  clear hR hok
  go_wp2_with (fail)
  refine (cF _ (HR.out.2.2.below encT_len (by decide) H.out.2)).mono ?_
  rintro e w2 ⟨vl, vs, rfl, hO1, hO2, hB⟩
  obtain ⟨ol1, os1, cl1, cs1, rfl, rfl, hO⟩ := OB.new (t := fndS ks) hO1 hO2
  replace H := Lib.hid (And.intro (H.out.1.below' hB) (H.out.2.trans (hB.mono H.out.2.size)))
  have hA := (Below.refl w2.heap.size w2).alloc (Nat.le_refl _) (.cells #[.slice ol1 (fndS ks).L.length cl1, .slice os1 (fndS ks).S.length cs1] 25)
  replace H := Lib.hid (And.intro (H.out.1.below' hA) (H.out.2.trans (hA.mono H.out.2.size)))
  have HO := Lib.hid hO
  clear hB hO1 hO2 hA hO x0 x1
  obtain ⟨V, hV⟩ : ∃ V, w2.alloc (.cells #[.slice ol1 (fndS ks).L.length cl1, .slice os1 (fndS ks).S.length cs1] 25) = V := ⟨_, rfl⟩
  obtain ⟨b1, hb1⟩ : ∃ b, w2.heap.size = b := ⟨_, rfl⟩
  rw [hV] at H
  rw [hV, hb1] at HO
  have x0 : V.cell? ⟨w.heap.size, 0, none⟩ = some (.slice ol s.L.length cl) := H.out.1.cell 0
  have x1 : V.cell? ⟨w.heap.size, 1, none⟩ = some (.slice os s.S.length cs) := H.out.1.cell 1
  have z0 : V.cell? ⟨b1, 0, none⟩ = some (.slice ol1 (fndS ks).L.length cl1) := HO.out.b.cell 0
  have z1 : V.cell? ⟨b1, 1, none⟩ = some (.slice os1 (fndS ks).S.length cs1) := HO.out.b.cell 1
  have hxl : ks.length = (fndS ks).L.length := (fndL_len ks).symm
  have hflt : fltT (fndS ks).L ks (fndS ks).L.length = [] := by rw [← hxl]; exact fnd_flt ks
  have hXL := Lib.hid hxl
  clear hxl hok1 hok2
  go_wp2_with (fail)
  try rw [hV, hb1]
  try rw [hV]
  clear hV hb1
  refine (faults_any (fndS ks) ks ol1 os1 o cl1 cs1 c hfk hxm hXL.out _ HO.out.o.rowL HO.out.o.rowS (HR.out.2.2.below encT_len (by decide) H.out.2)).mono ?_
  rintro e w3 ⟨v, rfl, hvr, hB⟩
  rw [hflt] at hvr
  obtain ⟨ov, cv, rfl, _⟩ := own_slice hvr
  replace H := Lib.hid (And.intro (H.out.1.below' hB) (H.out.2.trans (hB.mono H.out.2.size)))
  replace HO := Lib.hid (HO.out.below hB)
  clear hB hvr x0 x1 z0 z1 hflt hxm
  have x0 : w3.cell? ⟨w.heap.size, 0, none⟩ = some (.slice ol s.L.length cl) := H.out.1.cell 0
  have x1 : w3.cell? ⟨w.heap.size, 1, none⟩ = some (.slice os s.S.length cs) := H.out.1.cell 1
  simp only [List.length_nil]
  have HK := Lib.hid (And.intro hfk hz)
  go_wp2
  go_loopw [41] (fun i X => ∃ k : Nat, i = .int .i64 k ∧ k ≤ ks.length ∧ k ≤ 201 ∧ Below w3.heap.size w3 X) (fun i _ => ks.length - (intOf i).toNat)
  case atStart => exact ⟨0, rfl, Nat.zero_le _, Nat.zero_le _, Below.refl _ _⟩
  case round =>
    obtain ⟨k, rfl, hk, hk2, hB⟩ := hrel
    obtain ⟨V, hV⟩ : ∃ V, V = wr := ⟨_, rfl⟩
    subst hV
    by_cases hlt : k < ks.length
    · obtain ⟨t, ht⟩ : ∃ t, ks[k]? = some t := ⟨_, List.getElem?_eq_getElem hlt⟩
      obtain ⟨gk, offk, rfl, _⟩ := (HR.out.2.2.below encT_len (by decide) H.out.2) k t ht
      obtain ⟨g1, off1, rfl, _⟩ := HO.out.o.rowL k _ (fndL_at ht)
      have hkc : k ≤ c := by
        rcases HK.out.1 with ⟨h, _, _⟩ | ⟨_, _, h, _⟩
        · cases h
        · omega
      have hcx : c ≤ 9223372036854775807 := by
        rcases HK.out.1 with ⟨h, _, _⟩ | ⟨_, _, _, h⟩
        · cases h
        · exact h
      have HT := Lib.hid ht
      have HBV := Lib.hid hB
      clear ht hB
      go_wp2
      go_loopw [48] (fun i X => ∃ j : Nat, i = .int .i64 j ∧ j ≤ k ∧ Below w3.heap.size w3 X) (fun i _ => k - (intOf i).toNat)
      case atStart => exact ⟨0, rfl, Nat.zero_le _, HBV.out⟩
      case round =>
        obtain ⟨j, rfl, hj, hB⟩ := hrel
        by_cases hjk : j < k
        · obtain ⟨u, hu⟩ : ∃ u, ks[j]? = some u := ⟨_, List.getElem?_eq_getElem (by omega)⟩
          obtain ⟨_, _, e1, c1⟩ := ((HR.out.2.2.below encT_len (by decide) H.out.2).below encT_len (by decide) hB) k t HT.out
          obtain ⟨_, _, e2, c2⟩ := ((HR.out.2.2.below encT_len (by decide) H.out.2).below encT_len (by decide) hB) j u hu
          obtain ⟨_, _, e3, c3⟩ := (HO.out.o.rowL.below encR_len (by decide) hB) k _ (fndL_at HT.out)
          obtain ⟨_, _, e4, c4⟩ := (HO.out.o.rowL.below encR_len (by decide) hB) j _ (fndL_at hu)
          cases e1
          cases e2
          cases e3
          cases e4
          have p1 := c1 0 (by decide)
          have p2 := c2 0 (by decide)
          have p3 := c3 0 (by decide)
          have p4 := c4 0 (by decide)
          simp only [encR, encT, List.getElem?_cons_succ, List.getElem?_cons_zero, Nat.add_zero, Nat.mul_one] at p1 p2 p3 p4
          have b0 := (HO.out.b.below' hB).cell 0
          simp only [List.getElem?_toArray, List.getElem?_cons_zero] at b0
          have hsame := fnd_same HT.out hu
          have hl1 : (k : Int) < ((fndS ks).L.length : Int) := by rw [show (fndS ks).L.length = ks.length from fndL_len ks]; omega
          have hl2 : (j : Int) < ((fndS ks).L.length : Int) := by rw [show (fndS ks).L.length = ks.length from fndL_len ks]; omega
          have hl3 : (k : Int) < (ks.length : Int) := by omega
          have hl4 : (j : Int) < (ks.length : Int) := by omega
          obtain ⟨ca, hca⟩ : ∃ ca, cntF (keyL ks) (kIx ks t) = ca := ⟨_, rfl⟩
          obtain ⟨cb, hcb⟩ : ∃ cb, cntF (keyL ks) (kIx ks u) = cb := ⟨_, rfl⟩
          rw [hca] at p3 hsame
          rw [hcb] at p4 hsame
          have HBJ := Lib.hid hB
          clear c1 c2 c3 c4 hB hu hca hcb
          by_cases htu : t = u
          · have hab : ca = cb := hsame.2 htu
            subst htu
            subst hab
            have f1 : (t.toList == t.toList) = true := by simp
            have f2 : ((ca : Int) == (ca : Int)) = true := by simp
            clear hsame
            go_wp2
            go_quiet (fail)
            go_wp2
            go_roundw
            case rel => exact ⟨j + 1, by go_num, by omega, HBJ.out.trans ((below_drewN _ _).mono HBJ.out.size)⟩
            case measure => simp [intOf]; omega
          · have hab : ca ≠ cb := fun e => htu (hsame.1 e)
            have f1 : (t.toList == u.toList) = false := str_ne htu
            have f2 : ((ca : Int) == (cb : Int)) = false := by rw [beq_eq_false_iff_ne]; omega
            have f3 : (ca == cb) = false := by rw [beq_eq_false_iff_ne]; exact hab
            clear hsame
            go_wp2
            go_quiet (fail)
            go_wp2
            go_roundw
            case rel => exact ⟨j + 1, by go_num, by omega, HBJ.out.trans ((below_drewN _ _).mono HBJ.out.size)⟩
            case measure => simp [intOf]; omega
        · obtain rfl : j = k := by omega
          by_cases h200 : 200 < j
          · have d1 : decide ((200 : Int) < (j : Int)) = true := decide_eq_true (by omega)
            have d2 : decide (200 < j) = true := decide_eq_true h200
            have x0 : wr.cell? ⟨w.heap.size, 0, none⟩ = some (.slice ol s.L.length cl) := at_below x0 hB
            have x1 : wr.cell? ⟨w.heap.size, 1, none⟩ = some (.slice os s.S.length cs) := at_below x1 hB
            replace H := Lib.hid (And.intro (H.out.1.below (hB.mono (Nat.le_refl _)) H.out.1.lt) (H.out.2.trans (hB.mono H.out.2.size)))
            have hfk := HK.out.1
            clear hB HBV HT hj hjk hk hlt hkc hcx
            have cN := faults_any s ks ol os (some ⟨gk, offk, none⟩) cl cs c hfk HNO.out.1 HNO.out.2.1 wr (HR.out.1.below encR_len (by decide) H.out.2) (HR.out.2.1.below encI_len (by decide) H.out.2) (HR.out.2.2.below encT_len (by decide) H.out.2)
            go_wp2_with (fail)
            refine cN.mono ?_
            rintro e w7 ⟨v, rfl, hvr, hB⟩
            rw [HNO.out.2.2] at hvr
            obtain ⟨ov, cv, rfl, _⟩ := own_slice hvr
            replace H := Lib.hid (And.intro (H.out.1.below' hB) (H.out.2.trans (hB.mono H.out.2.size)))
            clear hB x0 x1 cN hvr
            simp only [List.length_nil]
            go_wp2
            go_loopw [125] (fun i X => ∃ k : Nat, i = .int .i64 k ∧ k ≤ ks.length ∧ Below w7.heap.size w7 X) (fun i _ => ks.length - (intOf i).toNat)
            case atStart => exact ⟨0, rfl, Nat.zero_le _, Below.refl _ _⟩
            case round =>
              obtain ⟨k, rfl, hk, hB⟩ := hrel
              obtain ⟨V5, hV5⟩ : ∃ V, V = wr := ⟨_, rfl⟩
              subst hV5
              by_cases hlt : k < ks.length
              · obtain ⟨t, ht⟩ : ∃ t, ks[k]? = some t := ⟨_, List.getElem?_eq_getElem hlt⟩
                obtain ⟨x, hx⟩ : ∃ x, s.L[k]? = some x := ⟨_, List.getElem?_eq_getElem (by have := HNO.out.2.1; omega)⟩
                obtain ⟨gk, offk, e9, _⟩ := (HR.out.2.2.below encT_len (by decide) H.out.2) k t ht
                cases e9
                obtain ⟨gl, offl, rfl, _⟩ := (HR.out.1.below encR_len (by decide) H.out.2) k x hx
                have hkc : k ≤ c := by
                  rcases hfk with ⟨h, _, _⟩ | ⟨_, _, h, _⟩
                  · cases h
                  · omega
                have hcx : c ≤ 9223372036854775807 := by
                  rcases hfk with ⟨h, _, _⟩ | ⟨_, _, _, h⟩
                  · cases h
                  · exact h
                have HT := Lib.hid (And.intro ht hx)
                have HBV := Lib.hid hB
                have hkS : k < s.L.length := by have := HNO.out.2.1; omega
                clear ht hx hB
                go_wp2
                go_loopw [132] (fun i X => ∃ j : Nat, i = .int .i64 j ∧ j ≤ k ∧ Below w7.heap.size w7 X) (fun i _ => k - (intOf i).toNat)
                case atStart => exact ⟨0, rfl, Nat.zero_le _, HBV.out⟩
                case round =>
                  obtain ⟨j, rfl, hj, hB⟩ := hrel
                  by_cases hjk : j < k
                  · obtain ⟨u, hu⟩ : ∃ u, ks[j]? = some u := ⟨_, List.getElem?_eq_getElem (by omega)⟩
                    obtain ⟨y, hy⟩ : ∃ y, s.L[j]? = some y := ⟨_, List.getElem?_eq_getElem (by omega)⟩
                    obtain ⟨_, _, e1, c1⟩ := ((HR.out.2.2.below encT_len (by decide) H.out.2).below encT_len (by decide) hB) k t HT.out.1
                    obtain ⟨_, _, e2, c2⟩ := ((HR.out.2.2.below encT_len (by decide) H.out.2).below encT_len (by decide) hB) j u hu
                    obtain ⟨_, _, e3, c3⟩ := ((HR.out.1.below encR_len (by decide) H.out.2).below encR_len (by decide) hB) k x HT.out.2
                    obtain ⟨_, _, e4, c4⟩ := ((HR.out.1.below encR_len (by decide) H.out.2).below encR_len (by decide) hB) j y hy
                    cases e1
                    cases e2
                    cases e3
                    cases e4
                    have hcl := flt_clean HNO.out.2.1 HNO.out.2.2 hjk HT.out.2 hy HT.out.1 hu
                    have p1 := c1 0 (by decide)
                    have p2 := c2 0 (by decide)
                    have p3 := c3 0 (by decide)
                    have p4 := c4 0 (by decide)
                    simp only [encR, encT, List.getElem?_cons_succ, List.getElem?_cons_zero, Nat.add_zero, Nat.mul_one] at p1 p2 p3 p4
                    have x0 := (H.out.1.below' hB).cell 0
                    simp only [List.getElem?_toArray, List.getElem?_cons_zero] at x0
                    have hl1 : (k : Int) < (s.L.length : Int) := by omega
                    have hl2 : (j : Int) < (s.L.length : Int) := by omega
                    have hl3 : (k : Int) < (ks.length : Int) := by omega
                    have hl4 : (j : Int) < (ks.length : Int) := by omega
                    obtain ⟨ca, hca⟩ : ∃ ca, x.c = ca := ⟨_, rfl⟩
                    obtain ⟨cb, hcb⟩ : ∃ cb, y.c = cb := ⟨_, rfl⟩
                    rw [hca] at p3 hcl
                    rw [hcb] at p4 hcl
                    have HBJ := Lib.hid hB
                    clear c1 c2 c3 c4 hB hu hy hca hcb
                    by_cases hc1 : ca < 0
                    · have hne := hcl.2 hc1
                      have f1 : (t.toList == u.toList) = false := str_ne hne
                      have d1 : decide ((0 : Int) ≤ ca) = false := decide_eq_false (by omega)
                      have d2 : decide (ca < 0) = true := decide_eq_true hc1
                      clear hcl hne
                      go_wp2
                      go_quiet (fail)
                      generalize hU : World.drewN wr _ = U
                      have hUb : Below wr.heap.size wr U := hU ▸ below_drewN _ _
                      have HBU := Lib.hid (HBJ.out.trans (hUb.mono HBJ.out.size))
                      have p1 := at_below p1 hUb
                      have p2 := at_below p2 hUb
                      have p3 := at_below p3 hUb
                      have p4 := at_below p4 hUb
                      have x0 := at_below x0 hUb
                      clear hUb hU
                      go_wp2
                      go_quiet (fail)
                      go_wp2
                      go_roundw
                      case rel => exact ⟨j + 1, by go_num, by omega, HBU.out.trans ((below_drewN _ _).mono HBU.out.size)⟩
                      case measure => simp [intOf]; omega
                    · have d1 : decide ((0 : Int) ≤ ca) = true := decide_eq_true (by omega)
                      have d2 : decide (ca < 0) = false := decide_eq_false (by omega)
                      by_cases hc2 : cb < 0
                      · have d3 : decide ((0 : Int) ≤ cb) = false := decide_eq_false (by omega)
                        have f2 : (ca == cb) = false := by rw [beq_eq_false_iff_ne]; omega
                        clear hcl
                        go_wp2
                        go_quiet (fail)
                        generalize hU : World.drewN wr _ = U
                        have hUb : Below wr.heap.size wr U := hU ▸ below_drewN _ _
                        have HBU := Lib.hid (HBJ.out.trans (hUb.mono HBJ.out.size))
                        have p1 := at_below p1 hUb
                        have p2 := at_below p2 hUb
                        have p3 := at_below p3 hUb
                        have p4 := at_below p4 hUb
                        have x0 := at_below x0 hUb
                        clear hUb hU
                        go_wp2
                        go_quiet (fail)
                        go_wp2
                        go_roundw
                        case rel => exact ⟨j + 1, by go_num, by omega, HBU.out.trans ((below_drewN _ _).mono HBU.out.size)⟩
                        case measure => simp [intOf]; omega
                      · have d3 : decide ((0 : Int) ≤ cb) = true := decide_eq_true (by omega)
                        have hiff := hcl.1 (by omega) (by omega)
                        clear hcl
                        by_cases hcc : ca = cb
                        · have htu := hiff.1 hcc
                          subst htu
                          subst hcc
                          have f1 : (t.toList == t.toList) = true := by simp
                          have f2 : (ca == ca) = true := by simp
                          clear hiff
                          go_wp2
                          go_quiet (fail)
                          generalize hU : World.drewN wr _ = U
                          have hUb : Below wr.heap.size wr U := hU ▸ below_drewN _ _
                          have HBU := Lib.hid (HBJ.out.trans (hUb.mono HBJ.out.size))
                          have p1 := at_below p1 hUb
                          have p2 := at_below p2 hUb
                          have p3 := at_below p3 hUb
                          have p4 := at_below p4 hUb
                          have x0 := at_below x0 hUb
                          clear hUb hU
                          go_wp2
                          go_quiet (fail)
                          go_wp2
                          go_roundw
                          case rel => exact ⟨j + 1, by go_num, by omega, HBU.out.trans ((below_drewN _ _).mono HBU.out.size)⟩
                          case measure => simp [intOf]; omega
                        · have htu : t ≠ u := fun e => hcc (hiff.2 e)
                          have f1 : (t.toList == u.toList) = false := str_ne htu
                          have f2 : (ca == cb) = false := by rw [beq_eq_false_iff_ne]; exact hcc
                          clear hiff
                          go_wp2
                          go_quiet (fail)
                          generalize hU : World.drewN wr _ = U
                          have hUb : Below wr.heap.size wr U := hU ▸ below_drewN _ _
                          have HBU := Lib.hid (HBJ.out.trans (hUb.mono HBJ.out.size))
                          have p1 := at_below p1 hUb
                          have p2 := at_below p2 hUb
                          have p3 := at_below p3 hUb
                          have p4 := at_below p4 hUb
                          have x0 := at_below x0 hUb
                          clear hUb hU
                          go_wp2
                          go_quiet (fail)
                          go_wp2
                          go_roundw
                          case rel => exact ⟨j + 1, by go_num, by omega, HBU.out.trans ((below_drewN _ _).mono HBU.out.size)⟩
                          case measure => simp [intOf]; omega
                  · obtain rfl : j = k := by omega
                    have HBJ := Lib.hid hB
                    clear hB
                    go_wp2
                    go_roundw
                    case rel => exact ⟨j + 1, by go_num, by omega, HBJ.out⟩
                    case measure => simp [intOf]; omega
              · obtain rfl : k = ks.length := by omega
                have HE := Lib.hid (H.out.2.trans (hB.mono H.out.2.size))
                clear hB
                go_wp2_with (fail)
                refine (wakes_any _).mono ?_
                rintro e w8 ⟨rfl, hB⟩
                have HF := Lib.hid (HE.out.trans (hB.mono HE.out.size))
                clear hB
                go_wp2
                go_ret
                exact ⟨rfl, HF.out⟩
          · have d1 : decide ((200 : Int) < (j : Int)) = false := decide_eq_false (by omega)
            have d2 : decide (200 < j) = false := decide_eq_false h200
            have HBJ := Lib.hid hB
            clear hB
            go_wp2
            go_roundw
            case rel => exact ⟨j + 1, by go_num, by omega, by omega, HBJ.out⟩
            case measure => simp [intOf]; omega
    · exfalso; omega
end Go.Proofs.Ytdcmkiggnmajgaa.Pr
