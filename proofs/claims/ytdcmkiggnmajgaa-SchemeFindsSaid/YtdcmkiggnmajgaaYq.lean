/- Stage 16: the law SchemeFinds: Y. -/
import Derived.Test.YtdcmkiggnmajgaaXi
import Derived.Test.YtdcmkiggnmajgaaYl
import Derived.Test.YtdcmkiggnmajgaaYm
import Derived.Test.YtdcmkiggnmajgaaYn
namespace Go.Proofs.Ytdcmkiggnmajgaa.Pr
set_option linter.unusedVariables false
set_option linter.unusedSimpArgs false
open Go Go.RowKit Go.Shelf
set_option maxRecDepth 100000

set_option maxHeartbeats 16000000 in
theorem findsY (s : Sc) (ks : List ByteArray) (ol os o : Option Addr) (cl cs c : Nat) (hn : s.L.length ≤ 9223372036854775807) (hm : s.S.length ≤ 9223372036854775807) (hk1 : ks.length ≤ 8796093021952) (hz : ∀ t ∈ ks, t.size ≤ maxLen) (hfk : NForm o ks.length c) (hmay : mayB s = true) (hlen : ks.length = s.L.length) (w : World) (hr : RowAt w encR 2 ol s.L) (ht : RowAt w encI 1 os s.S) (hk : RowAt w encT 1 o ks) :
    Calls Try.prog 7 #[.agg #[.slice ol s.L.length cl, .slice os s.S.length cs], .slice o ks.length c] w fun e w' => e = .returned (.bool true) ∧ Below w.heap.size w w' := by
  have hB0 := (Below.refl _ w).alloc (Nat.le_refl _) (.cells #[.slice ol s.L.length cl, .slice os s.S.length cs] 25)
  have bS := Blk.new w #[.slice ol s.L.length cl, .slice os s.S.length cs] 25
  have H := Lib.hid (And.intro bS hB0)
  have HR := Lib.hid (And.intro hr (And.intro ht hk))
  clear bS hB0 hr ht hk
  have cM := fun W h1' h2' => may_any s ol os cl cs hn hm W h1' h2'
  rw [hmay] at cM
  have HM := Lib.hid (And.intro hmay hlen)
  have hL5 := (may_parts hmay).1
  have e1 : ((s.L.length : Int) != (ks.length : Int)) = false := by rw [← hlen]; simp
  have e2 : (s.L.length != ks.length) = false := by rw [← hlen]; simp
  clear hmay hlen
  have hkm : ks.length ≤ 9223372036854775807 := by omega
  have hfl : (fullT ks 20).length = ks.length + 20 := by simp [fullT]
  have HFL := Lib.hid hfl
  obtain ⟨q, hq⟩ : ∃ q, (fndR ks).2 = q := ⟨_, rfl⟩
  have cF := fun o c W h => found_any ks o c hkm hz W h
  have cG := fun W h => refFound_any ks o c hkm W h
  rw [hq] at cG
  simp only [hq] at cF
  have hxs : (fndR ks).1.L.length ≤ 9223372036854775807 ∧ (fndR ks).1.S.length ≤ 9223372036854775807 := by
    unfold fndR
    split
    · simp
    · split
      · simp
      · refine ⟨by show (fndL ks).length ≤ _; rw [fndL_len]; exact hkm, ?_⟩
        unfold fndS
        simp only
        split <;> simp
  have cE := fun ol os ol' os' cl cs cl' cs' W h1' h2' h3' h4' => equal_any (fndR ks).1 (fndR ks).1 ol os ol' os' cl cs cl' cs' hxs.1 hxs.2 W h1' h2' h3' h4'
  rw [eqB_self] at cE
  clear hq hfl hxs
  go_enter Try.func7, Try.ntmps7
  go_wp2_with (fail)
  refine (wakes_any _).mono ?_
  rintro e w1 ⟨rfl, hB⟩
  replace H := Lib.hid (And.intro (H.out.1.below' hB) (H.out.2.trans (hB.mono H.out.2.size)))
  clear hB
  have s0 : w1.cell? ⟨w.heap.size, 0, none⟩ = some (.slice ol s.L.length cl) := H.out.1.cell 0
  have s1 : w1.cell? ⟨w.heap.size, 1, none⟩ = some (.slice os s.S.length cs) := H.out.1.cell 1
  go_wp2_with (fail)
  refine (texts_any ks o c hfk hk1 _ (HR.out.2.2.below encT_len (by decide) H.out.2)).mono ?_
  rintro e w2 ⟨v, rfl, hO, hB⟩
  obtain ⟨og, cg, rfl, hog⟩ := own_slice hO
  obtain ⟨g, rfl⟩ := hog (by omega)
  have hfg := own_form hO
  have hrf : RowAt w2 encT 1 (some ⟨g, 0, none⟩) (fullT ks 20) := by
    have h := hO
    rw [← HFL.out] at h
    exact RowAt.of_own encT_len h rfl
  have HT := Lib.hid hrf
  replace H := Lib.hid (And.intro (H.out.1.below' hB) (H.out.2.trans (hB.mono H.out.2.size)))
  clear hB hO hrf hog s0 s1
  have hcg : ks.length + 20 ≤ cg ∧ cg ≤ 9223372036854775807 := by
    rcases hfg with ⟨h, _, _⟩ | ⟨_, _, h1, h2⟩
    · cases h
    · exact ⟨h1, h2⟩
  obtain ⟨hcg1, hcg2⟩ := hcg
  have hcgN : ks.length ≤ cg := by omega
  have HTK : Hid (∀ W, RowAt W encT 1 (some ⟨g, 0, none⟩) (fullT ks 20) → RowAt W encT 1 (some ⟨g, 0, none⟩) ks) := Lib.hid (fun W h j x hj => h j x (by unfold fullT; rw [List.getElem?_append_left (List.getElem?_eq_some_iff.1 hj).1]; exact hj))
  have hfg2 : NForm (some ⟨g, 0, none⟩) ks.length cg := .inr ⟨_, rfl, by omega, hcg2⟩
  have HFG := Lib.hid hfg2
  clear hfg hfg2
  have s0 : w2.cell? ⟨w.heap.size, 0, none⟩ = some (.slice ol s.L.length cl) := H.out.1.cell 0
  have s1 : w2.cell? ⟨w.heap.size, 1, none⟩ = some (.slice os s.S.length cs) := H.out.1.cell 1
  go_wp2_with (fail)
  refine (cF (some ⟨g, 0, none⟩) cg _ (HTK.out _ HT.out)).mono ?_
  rintro e w3 ⟨vl, vs, rfl, hO1, hO2, hB⟩
  obtain ⟨ol1, os1, cl1, cs1, rfl, rfl, hO⟩ := OB.new (t := (fndR ks).1) hO1 hO2
  replace H := Lib.hid (And.intro (H.out.1.below' hB) (H.out.2.trans (hB.mono H.out.2.size)))
  replace HT := Lib.hid (HT.out.below encT_len (by decide) hB)
  have hA := (Below.refl w3.heap.size w3).alloc (Nat.le_refl _) (.cells #[.slice ol1 (fndR ks).1.L.length cl1, .slice os1 (fndR ks).1.S.length cs1] 25)
  replace H := Lib.hid (And.intro (H.out.1.below' hA) (H.out.2.trans (hA.mono H.out.2.size)))
  replace HT := Lib.hid (HT.out.below encT_len (by decide) hA)
  have HX := Lib.hid hO
  clear hB hO1 hO2 hA hO s0 s1
  obtain ⟨V3, hV⟩ : ∃ V, w3.alloc (.cells #[.slice ol1 (fndR ks).1.L.length cl1, .slice os1 (fndR ks).1.S.length cs1] 25) = V := ⟨_, rfl⟩
  obtain ⟨bx, hbx⟩ : ∃ b, w3.heap.size = b := ⟨_, rfl⟩
  rw [hV] at H HT
  rw [hV, hbx] at HX
  have s0 : V3.cell? ⟨w.heap.size, 0, none⟩ = some (.slice ol s.L.length cl) := H.out.1.cell 0
  have s1 : V3.cell? ⟨w.heap.size, 1, none⟩ = some (.slice os s.S.length cs) := H.out.1.cell 1
  have x0 : V3.cell? ⟨bx, 0, none⟩ = some (.slice ol1 (fndR ks).1.L.length cl1) := HX.out.b.cell 0
  have x1 : V3.cell? ⟨bx, 1, none⟩ = some (.slice os1 (fndR ks).1.S.length cs1) := HX.out.b.cell 1
  go_wp2_with (fail)
  try rw [hV, hbx]
  try rw [hV]
  clear hV hbx
  refine (cG _ (HR.out.2.2.below encT_len (by decide) H.out.2)).mono ?_
  rintro e w4 ⟨vl, vs, rfl, hO1, hO2, hB⟩
  obtain ⟨ol2, os2, cl2, cs2, rfl, rfl, hO⟩ := OB.new (t := (fndR ks).1) hO1 hO2
  replace H := Lib.hid (And.intro (H.out.1.below' hB) (H.out.2.trans (hB.mono H.out.2.size)))
  replace HT := Lib.hid (HT.out.below encT_len (by decide) hB)
  replace HX := Lib.hid (HX.out.below hB)
  have hA := (Below.refl w4.heap.size w4).alloc (Nat.le_refl _) (.cells #[.slice ol2 (fndR ks).1.L.length cl2, .slice os2 (fndR ks).1.S.length cs2] 25)
  replace H := Lib.hid (And.intro (H.out.1.below' hA) (H.out.2.trans (hA.mono H.out.2.size)))
  replace HT := Lib.hid (HT.out.below encT_len (by decide) hA)
  replace HX := Lib.hid (HX.out.below hA)
  have HY := Lib.hid hO
  clear hB hO1 hO2 hA hO s0 s1 x0 x1
  obtain ⟨V4, hV⟩ : ∃ V, w4.alloc (.cells #[.slice ol2 (fndR ks).1.L.length cl2, .slice os2 (fndR ks).1.S.length cs2] 25) = V := ⟨_, rfl⟩
  obtain ⟨by_, hby⟩ : ∃ b, w4.heap.size = b := ⟨_, rfl⟩
  rw [hV] at H HT HX
  rw [hV, hby] at HY
  have s0 : V4.cell? ⟨w.heap.size, 0, none⟩ = some (.slice ol s.L.length cl) := H.out.1.cell 0
  have s1 : V4.cell? ⟨w.heap.size, 1, none⟩ = some (.slice os s.S.length cs) := H.out.1.cell 1
  have x0 : V4.cell? ⟨bx, 0, none⟩ = some (.slice ol1 (fndR ks).1.L.length cl1) := HX.out.b.cell 0
  have x1 : V4.cell? ⟨bx, 1, none⟩ = some (.slice os1 (fndR ks).1.S.length cs1) := HX.out.b.cell 1
  have y0 : V4.cell? ⟨by_, 0, none⟩ = some (.slice ol2 (fndR ks).1.L.length cl2) := HY.out.b.cell 0
  have y1 : V4.cell? ⟨by_, 1, none⟩ = some (.slice os2 (fndR ks).1.S.length cs2) := HY.out.b.cell 1
  go_wp2_with (fail)
  try rw [hV, hby]
  try rw [hV]
  clear hV hby
  refine (cE ol1 os1 ol2 os2 cl1 cs1 cl2 cs2 _ HX.out.o.rowL HX.out.o.rowS HY.out.o.rowL HY.out.o.rowS).mono ?_
  rintro e w5 ⟨rfl, hB⟩
  replace H := Lib.hid (And.intro (H.out.1.below' hB) (H.out.2.trans (hB.mono H.out.2.size)))
  replace HT := Lib.hid (HT.out.below encT_len (by decide) hB)
  replace HX := Lib.hid (HX.out.below hB)
  replace HY := Lib.hid (HY.out.below hB)
  clear hB s0 s1 x0 x1 y0 y1
  have s0 : w5.cell? ⟨w.heap.size, 0, none⟩ = some (.slice ol s.L.length cl) := H.out.1.cell 0
  have s1 : w5.cell? ⟨w.heap.size, 1, none⟩ = some (.slice os s.S.length cs) := H.out.1.cell 1
  have x0 : w5.cell? ⟨bx, 0, none⟩ = some (.slice ol1 (fndR ks).1.L.length cl1) := HX.out.b.cell 0
  have x1 : w5.cell? ⟨bx, 1, none⟩ = some (.slice os1 (fndR ks).1.S.length cs1) := HX.out.b.cell 1
  have y0 : w5.cell? ⟨by_, 0, none⟩ = some (.slice ol2 (fndR ks).1.L.length cl2) := HY.out.b.cell 0
  have y1 : w5.cell? ⟨by_, 1, none⟩ = some (.slice os2 (fndR ks).1.S.length cs2) := HY.out.b.cell 1
  go_wp2_with (fail)
  refine (stayed_any ks (some ⟨g, 0, none⟩) o cg c hk1 _ HT.out (HR.out.2.2.below encT_len (by decide) H.out.2)).mono ?_
  rintro e w6 ⟨rfl, hB⟩
  replace H := Lib.hid (And.intro (H.out.1.below' hB) (H.out.2.trans (hB.mono H.out.2.size)))
  replace HT := Lib.hid (HT.out.below encT_len (by decide) hB)
  replace HX := Lib.hid (HX.out.below hB)
  replace HY := Lib.hid (HY.out.below hB)
  clear hB s0 s1 x0 x1 y0 y1
  have s0 : w6.cell? ⟨w.heap.size, 0, none⟩ = some (.slice ol s.L.length cl) := H.out.1.cell 0
  have s1 : w6.cell? ⟨w.heap.size, 1, none⟩ = some (.slice os s.S.length cs) := H.out.1.cell 1
  have x0 : w6.cell? ⟨bx, 0, none⟩ = some (.slice ol1 (fndR ks).1.L.length cl1) := HX.out.b.cell 0
  have x1 : w6.cell? ⟨bx, 1, none⟩ = some (.slice os1 (fndR ks).1.S.length cs1) := HX.out.b.cell 1
  have y0 : w6.cell? ⟨by_, 0, none⟩ = some (.slice ol2 (fndR ks).1.L.length cl2) := HY.out.b.cell 0
  have y1 : w6.cell? ⟨by_, 1, none⟩ = some (.slice os2 (fndR ks).1.S.length cs2) := HY.out.b.cell 1
  clear x0 x1 y0 y1 HX HY cE cF cG
  go_wp2_with (fail)
  refine wp_region_noPanic ?_
  refine wp_region_g (S := untilG [] (fun X => Below w6.heap.size w6 X)) (by kernel_rfl) ?_
  have T0 : Below w6.heap.size w6 w6.drew := (Below.refl _ _).drew
  obtain ⟨X0, hX0⟩ : ∃ X, w6.drew = X := ⟨_, rfl⟩
  rw [hX0] at T0 ⊢
  clear hX0
  refine wpAnyG_take [0, 5, 6, 7, 8, 9, 10] (i := 0) (v := (.agg #[.slice ol s.L.length cl, .slice os s.S.length cs])) rfl (by kernel_rfl) (by kernel_rfl) (by kernel_rfl) (by kernel_rfl) (by kernel_rfl) (by kernel_rfl) (by kernel_rfl) (by kernel_rfl) (fun _ _ _ h => h) (Or.inl ⟨by rfl, ?hy⟩) T0 ?_
  case hy =>
    intro X hX
    have e0 := at_below s0 hX
    have e1 := at_below s1 hX
    go_simp
  try simp only [Act.put, List.getElem_toArray, List.getElem_cons_zero, List.getElem_cons_succ, List.setIfInBounds_toArray, List.set_cons_zero, List.set_cons_succ]
  refine wpAnyG_take [1, 4, 5, 6, 7, 8, 9, 10] (i := 1) (v := (.slice (some ⟨g, 0, none⟩) (ks.length + 20) cg)) rfl (by kernel_rfl) (by kernel_rfl) (by kernel_rfl) (by kernel_rfl) (by kernel_rfl) (by kernel_rfl) (by kernel_rfl) (by kernel_rfl) (fun _ _ _ h => h) (Or.inl ⟨by rfl, ?hy⟩) T0 ?_
  case hy =>
    intro X hX
    go_simp
  try simp only [Act.put, List.getElem_toArray, List.getElem_cons_zero, List.getElem_cons_succ, List.setIfInBounds_toArray, List.set_cons_zero, List.set_cons_succ]
  refine wpAnyG_take [2, 3, 4, 5, 6, 7, 8, 9, 10] (i := 2) (v := (.slice o ks.length c)) rfl (by kernel_rfl) (by kernel_rfl) (by kernel_rfl) (by kernel_rfl) (by kernel_rfl) (by kernel_rfl) (by kernel_rfl) (by kernel_rfl) (fun _ _ _ h => h) (Or.inl ⟨by rfl, ?hy⟩) T0 ?_
  case hy =>
    intro X hX
    go_simp
  try simp only [Act.put, List.getElem_toArray, List.getElem_cons_zero, List.getElem_cons_succ, List.setIfInBounds_toArray, List.set_cons_zero, List.set_cons_succ]
  refine wpAnyG_take [3, 4, 5, 6, 7, 8, 9, 10] (i := 3) (v := (.int .i64 (ks.length : Nat))) rfl (by kernel_rfl) (by kernel_rfl) (by kernel_rfl) (by kernel_rfl) (by kernel_rfl) (by kernel_rfl) (by kernel_rfl) (by kernel_rfl) (fun _ _ _ h => h) (Or.inl ⟨by rfl, ?hy⟩) T0 ?_
  case hy =>
    intro X hX
    go_simp
  try simp only [Act.put, List.getElem_toArray, List.getElem_cons_zero, List.getElem_cons_succ, List.setIfInBounds_toArray, List.set_cons_zero, List.set_cons_succ]
  refine wpAnyG_take [4, 5, 6, 7, 8, 9, 10] (i := 4) (v := (.slice (some ⟨g, 0, none⟩) ks.length cg)) rfl (by kernel_rfl) (by kernel_rfl) (by kernel_rfl) (by kernel_rfl) (by kernel_rfl) (by kernel_rfl) (by kernel_rfl) (by kernel_rfl) (fun _ _ _ h => h) (Or.inl ⟨by rfl, ?hy⟩) T0 ?_
  case hy =>
    intro X hX
    go_simp
  try simp only [Act.put, List.getElem_toArray, List.getElem_cons_zero, List.getElem_cons_succ, List.setIfInBounds_toArray, List.set_cons_zero, List.set_cons_succ]
  refine wpAnyG_all (rs := [5]) (by kernel_rfl) (by simp) ?_
  intro i hi
  simp only [List.mem_cons, List.not_mem_nil, or_false] at hi
  subst hi
  refine wpOp_now rfl rfl ?_
  go_simp
  refine (faults_any s ks ol os (some ⟨g, 0, none⟩) cl cs cg HFG.out HM.out.1 HM.out.2 _ ((HR.out.1.below encR_len (by decide) H.out.2).below encR_len (by decide) T0) ((HR.out.2.1.below encI_len (by decide) H.out.2).below encI_len (by decide) T0) (HTK.out _ (HT.out.below encT_len (by decide) T0))).mono ?_
  rintro e Y5 ⟨v, rfl, hv, hB⟩
  obtain ⟨ov, cv, rfl, _⟩ := own_slice hv
  replace T0 := T0.trans (hB.mono T0.size)
  clear hB
  refine ⟨fun _ => T0, ?_⟩
  try simp only [Act.put, List.getElem_toArray, List.getElem_cons_zero, List.getElem_cons_succ, List.setIfInBounds_toArray, List.set_cons_zero, List.set_cons_succ]
  refine wpAnyG_take [6, 7, 8, 9, 10] (i := 6) (v := (.tuple #[(.slice ov (fltT s.L ks s.L.length).length cv), (.int .i64 0)])) rfl (by kernel_rfl) (by kernel_rfl) (by kernel_rfl) (by kernel_rfl) (by kernel_rfl) (by kernel_rfl) (by kernel_rfl) (by kernel_rfl) (fun _ _ _ h => h) (Or.inl ⟨by rfl, ?hy⟩) T0 ?_
  case hy =>
    intro X hX
    go_simp
  try simp only [Act.put, List.getElem_toArray, List.getElem_cons_zero, List.getElem_cons_succ, List.setIfInBounds_toArray, List.set_cons_zero, List.set_cons_succ]
  refine wpAnyG_take [7, 9] (i := 7) (v := (.slice ov (fltT s.L ks s.L.length).length cv)) rfl (by kernel_rfl) (by kernel_rfl) (by kernel_rfl) (by kernel_rfl) (by kernel_rfl) (by kernel_rfl) (by kernel_rfl) (by kernel_rfl) (fun _ _ _ h => h) (Or.inl ⟨by rfl, ?hy⟩) T0 ?_
  case hy =>
    intro X hX
    go_simp
  try simp only [Act.put, List.getElem_toArray, List.getElem_cons_zero, List.getElem_cons_succ, List.setIfInBounds_toArray, List.set_cons_zero, List.set_cons_succ]
  refine wpAnyG_take [8, 10] (i := 8) (v := (.int .i64 0)) rfl (by kernel_rfl) (by kernel_rfl) (by kernel_rfl) (by kernel_rfl) (by kernel_rfl) (by kernel_rfl) (by kernel_rfl) (by kernel_rfl) (fun _ _ _ h => h) (Or.inl ⟨by rfl, ?hy⟩) T0 ?_
  case hy =>
    intro X hX
    go_simp
  try simp only [Act.put, List.getElem_toArray, List.getElem_cons_zero, List.getElem_cons_succ, List.setIfInBounds_toArray, List.set_cons_zero, List.set_cons_succ]
  refine wpAnyG_all (rs := [9]) (by kernel_rfl) (by simp) ?_
  intro i hi
  simp only [List.mem_cons, List.not_mem_nil, or_false] at hi
  subst hi
  refine wpOp_now rfl rfl ?_
  go_simp
  refine ⟨fun _ => T0, ?_⟩
  try simp only [Act.put, List.getElem_toArray, List.getElem_cons_zero, List.getElem_cons_succ, List.setIfInBounds_toArray, List.set_cons_zero, List.set_cons_succ]
  refine wpAnyG_all (rs := [10]) (by kernel_rfl) (by simp) ?_
  intro i hi
  simp only [List.mem_cons, List.not_mem_nil, or_false] at hi
  subst hi
  refine wpOp_now rfl rfl ?_
  go_simp
  refine ⟨fun _ => T0, ?_⟩
  try simp only [Act.put, List.getElem_toArray, List.getElem_cons_zero, List.getElem_cons_succ, List.setIfInBounds_toArray, List.set_cons_zero, List.set_cons_succ]
  refine wpAnyG_done (by kernel_rfl) ?_ _
  refine NoPanic.normal ?_
  replace H := Lib.hid (And.intro (H.out.1.below' T0) (H.out.2.trans (T0.mono H.out.2.size)))
  replace HT := Lib.hid (HT.out.below encT_len (by decide) T0)
  clear s0 s1
  have s0 : Y5.cell? ⟨w.heap.size, 0, none⟩ = some (.slice ol s.L.length cl) := H.out.1.cell 0
  have s1 : Y5.cell? ⟨w.heap.size, 1, none⟩ = some (.slice os s.S.length cs) := H.out.1.cell 1
  have HV := Lib.hid hv
  clear hv T0
  go_wp2_with (fail)
  refine (stayed_any ks (some ⟨g, 0, none⟩) o cg c hk1 _ HT.out (HR.out.2.2.below encT_len (by decide) H.out.2)).mono ?_
  rintro e w7 ⟨rfl, hB⟩
  replace H := Lib.hid (And.intro (H.out.1.below' hB) (H.out.2.trans (hB.mono H.out.2.size)))
  replace HT := Lib.hid (HT.out.below encT_len (by decide) hB)
  replace HV := Lib.hid (own_below HV.out hB)
  clear hB s0 s1
  have s0 : w7.cell? ⟨w.heap.size, 0, none⟩ = some (.slice ol s.L.length cl) := H.out.1.cell 0
  have s1 : w7.cell? ⟨w.heap.size, 1, none⟩ = some (.slice os s.S.length cs) := H.out.1.cell 1
  go_wp2_with (fail)
  refine (cM _ (HR.out.1.below encR_len (by decide) H.out.2) (HR.out.2.1.below encI_len (by decide) H.out.2)).mono ?_
  rintro e w8 ⟨rfl, hB⟩
  replace H := Lib.hid (And.intro (H.out.1.below' hB) (H.out.2.trans (hB.mono H.out.2.size)))
  replace HT := Lib.hid (HT.out.below encT_len (by decide) hB)
  replace HV := Lib.hid (own_below HV.out hB)
  clear hB s0 s1
  have s0 : w8.cell? ⟨w.heap.size, 0, none⟩ = some (.slice ol s.L.length cl) := H.out.1.cell 0
  have s1 : w8.cell? ⟨w.heap.size, 1, none⟩ = some (.slice os s.S.length cs) := H.out.1.cell 1
  go_wp2_with (fail)
  refine (refFaults_any s ks ol os o cl cs c HM.out.1 HM.out.2 _ (HR.out.1.below encR_len (by decide) H.out.2) (HR.out.2.2.below encT_len (by decide) H.out.2)).mono ?_
  rintro e w9 ⟨v, rfl, hv, hB⟩
  obtain ⟨ou, cu, rfl, _⟩ := own_slice hv
  replace H := Lib.hid (And.intro (H.out.1.below' hB) (H.out.2.trans (hB.mono H.out.2.size)))
  have hv1 := own_below HV.out hB
  have hr1 := RowAt.of_own encC_len hv1 rfl
  have hr2 := RowAt.of_own encC_len hv rfl
  obtain ⟨N, hN⟩ : ∃ N, (fltT s.L ks s.L.length).length = N := ⟨_, rfl⟩
  have HQ := Lib.hid (And.intro hr1 (And.intro hr2 hN))
  rw [hN]
  have hNl := fltT_len s.L ks s.L.length
  rw [hN] at hNl
  have e1 : ((N : Int) != (N : Int)) = false := by simp
  clear hB hv hv1 hr1 hr2 hN s0 s1
  go_wp2
  go_loopw [94] (fun i X => ∃ k : Nat, i = .int .i64 k ∧ k ≤ N ∧ Below w9.heap.size w9 X) (fun i _ => N - (intOf i).toNat)
  case atStart => exact ⟨0, rfl, Nat.zero_le _, Below.refl _ _⟩
  case round =>
    obtain ⟨k, rfl, hk, hB⟩ := hrel
    by_cases hlt : k < N
    · obtain ⟨⟨xa, xb, xe⟩, hx⟩ : ∃ x, (fltT s.L ks s.L.length)[k]? = some x := ⟨_, List.getElem?_eq_getElem (by rw [HQ.out.2.2]; exact hlt)⟩
      obtain ⟨g1, off1, rfl, c1⟩ := (HQ.out.1.below encC_len (by decide) hB) _ _ hx
      obtain ⟨g2, off2, rfl, c2⟩ := (HQ.out.2.1.below encC_len (by decide) hB) _ _ hx
      have p0 := c1 0 (by decide)
      have p1 := c1 1 (by decide)
      have p2 := c1 2 (by decide)
      have p3 := c2 0 (by decide)
      have p4 := c2 1 (by decide)
      have p5 := c2 2 (by decide)
      simp only [encC, List.getElem?_cons_succ, List.getElem?_cons_zero, Nat.add_zero] at p0 p1 p2 p3 p4 p5
      have hkN : (k : Int) < (N : Int) := by omega
      have HBJ := Lib.hid hB
      clear c1 c2 hB hx
      go_wp2
      go_quiet (fail)
      go_wp2
      go_roundw
      case rel => exact ⟨k + 1, by go_num, by omega, HBJ.out.trans ((below_drewN _ _).mono HBJ.out.size)⟩
      case measure => simp [intOf]; omega
    · obtain rfl : k = N := by omega
      have HE := Lib.hid (H.out.2.trans (hB.mono H.out.2.size))
      clear hB
      go_wp2_with (fail)
      refine (wakes_any _).mono ?_
      rintro e w10 ⟨rfl, hB⟩
      have HF := Lib.hid (HE.out.trans (hB.mono HE.out.size))
      clear hB
      go_wp2
      go_ret
      exact ⟨rfl, HF.out⟩
end Go.Proofs.Ytdcmkiggnmajgaa.Pr
