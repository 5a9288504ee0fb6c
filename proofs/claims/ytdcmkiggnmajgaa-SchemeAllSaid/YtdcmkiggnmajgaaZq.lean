/- Stage 16: the law SchemeAll, its walk. -/
import Derived.Test.YtdcmkiggnmajgaaZp
namespace Go.Proofs.Ytdcmkiggnmajgaa
set_option linter.unusedVariables false
set_option linter.unusedSimpArgs false
open Go Go.RowKit Go.Shelf
set_option maxRecDepth 100000
attribute [local go_sem] Oper.semAt_some

set_option maxHeartbeats 16000000 in
theorem all_in (n : Int) (w : World) :
    CallsIn Fence.wide 11 Try.prog 10 #[.int .i64 n] w fun e w' => e = .returned (.bool true) ∧ Below w.heap.size w w' := by
  refine callsIn_of_wp_marks Try.func10 rfl trivial ?_ rfl
  simp only [Try.ntmps10, List.size_toArray, List.length_cons, List.length_nil, Nat.reduceAdd, Nat.reduceSub, Array.replicate_succ, Array.replicate_zero, List.push_toArray, List.append_toArray, List.nil_append, List.cons_append]
  refine wpIn_wide.2 ?_
  have b1 := (Blk.new w #[.int .i64 n] 3).alloc (.cells #[.bool false] 4)
  have b2 := Blk.new (w.alloc (.cells #[.int .i64 n] 3)) #[.bool false] 4
  have hB0 := ((Below.refl _ w).alloc (Nat.le_refl _) (.cells #[.int .i64 n] 3)).alloc (by simp) (.cells #[.bool false] 4)
  simp only [World.size_alloc] at b2
  go_wp2_with (fail)
  refine (wakes_any _).mono ?_
  rintro e V0 ⟨rfl, hB⟩
  have hBV := hB0.trans (hB.mono hB0.size)
  have hVs := hB.size
  simp only [World.size_alloc] at hVs
  obtain ⟨z, hz, hz0, hz1⟩ := umod n 26 (by decide) (by decide)
  obtain ⟨zn, rfl⟩ : ∃ zn : Nat, z = (zn : Int) := ⟨z.toNat, by omega⟩
  have g1 := b1.below' hB
  have g2 := b2.below' hB
  have c1 : V0.cell? ⟨w.heap.size, 0, none⟩ = some (.int .i64 n) := g1.cell 0
  have f1 := g1.frozen 0
  have c2 : V0.cell? ⟨w.heap.size + 1, 0, none⟩ = some (.bool false) := g2.cell 0
  have f2 := g2.frozen 0
  have HV := Lib.hid (And.intro hBV (And.intro g1 g2))
  clear hB hBV b1 b2 hB0 g1 g2
  go_wp2_with (fail)
  refine (all_any _ _).mono ?_
  rintro e Vx ⟨rfl, rfl⟩
  have hsz : (V0.setCell ⟨w.heap.size, 0, none⟩ (.int .i64 zn)).heap.size = V0.heap.size := by simp
  rw [hsz]
  have g1 := (HV.out.2.1.set 0 (.int .i64 zn)).alloc (.cells #[.int .i64 zn] 3)
  have g2 := (HV.out.2.2.other (B' := w.heap.size) (by omega) 0 (.int .i64 zn)).alloc (.cells #[.int .i64 zn] 3)
  have gA := Blk.new (V0.setCell ⟨w.heap.size, 0, none⟩ (.int .i64 zn)) #[.int .i64 zn] 3
  rw [hsz] at gA
  have hBV : Below w.heap.size w ((V0.setCell ⟨w.heap.size, 0, none⟩ (.int .i64 zn)).alloc (.cells #[.int .i64 zn] 3)) := (HV.out.1.setCell (p := ⟨w.heap.size, 0, none⟩) (Nat.le_refl _) _).alloc (by rw [hsz]; omega) _
  have hVs2 : ((V0.setCell ⟨w.heap.size, 0, none⟩ (.int .i64 zn)).alloc (.cells #[.int .i64 zn] 3)).heap.size = V0.heap.size + 1 := by simp
  obtain ⟨V, hV⟩ : ∃ V, (V0.setCell ⟨w.heap.size, 0, none⟩ (.int .i64 zn)).alloc (.cells #[.int .i64 zn] 3) = V := ⟨_, rfl⟩
  obtain ⟨BA, hBA⟩ : ∃ B, V0.heap.size = B := ⟨_, rfl⟩
  rw [hV] at g1 g2 gA hBV hVs2 ⊢
  rw [hBA] at gA hVs hVs2 ⊢
  simp only [List.setIfInBounds_toArray, List.set_cons_zero] at g1
  have HV2 := Lib.hid (And.intro hBV (And.intro g1 (And.intro g2 (And.intro gA hVs2))))
  have hzn : zn ≤ 25 := by omega
  have hnil : ∀ (b : Nat) (W : World), (binOp .eql 70 (.func (.func 71) #[] #[.pointer (some ⟨b, 0, none⟩)]) .nilFunc).run Try.prog W = .ok (.bool false) W := fun _ _ => by kernel_rfl
  clear HV g1 g2 gA hBV hsz hV hBA hz hz0 hz1 hVs2 c1 f1 c2 f2
  go_wp2_with (fail)
  refine wp_loop_m (QaM n zn w V BA) 2 (QaM.mk [] 0 rfl List.Pairwise.nil (fun _ h => by cases h) (Below.refl _ _) rfl) ?_
  rintro m a W ⟨Ds, j, f, hjm, hpw, hD, hB, rfl⟩
  have HD := Lib.hid (And.intro hpw hD)
  have HB := Lib.hid hB
  clear hpw hD hB
  by_cases hj2 : j < 2
  · have d0 : decide ((j : Int) < 2) = true := decide_eq_true (by omega)
    go_wp2_with (fail)
    have hT1 : 1 ≤ tT zn 0 := tT_pos _ _ (by omega)
    have hT2 : tT zn 0 ≤ 4638590332229999353 := tT_le _ _ (by omega)
    have gA := (HV2.out.2.2.2.1.below' HB.out).alloc (.cells #[.int .i64 0] 3)
    have g1 := (HV2.out.2.1.below' HB.out)
    have g2 := (HV2.out.2.2.1.below' HB.out)
    have gK := Blk.new W #[.int .i64 0] 3
    have gB := (Below.refl W.heap.size W).alloc (Nat.le_refl _) (.cells #[.int .i64 0] 3)
    have hXs : (W.alloc (.cells #[.int .i64 0] 3)).heap.size = W.heap.size + 1 := by simp
    have hVW := HB.out.size
    have hV3 := HV2.out.2.2.2.2
    obtain ⟨X, hX⟩ : ∃ X, W.alloc (.cells #[.int .i64 0] 3) = X := ⟨_, rfl⟩
    rw [hX] at gA gK gB hXs ⊢
    refine range_cutP 2 (RA W zn) ?_ (fun _ _ h => h) ?_
    · refine (wpIn_wide (n := 11)).1 ?_
      have enters := enters_of Try.func71 (by kernel_rfl) rfl
      refine wpIn_range_s (α := Value × Value) (n := 11) (gf := 71) (lb := #[.pointer (some ⟨BA, 0, none⟩)]) rfl (by omega) rfl trivial (fun _ _ => enters _ _)
        (all_seq zn hzn BA X gA) (fun _ _ _ _ _ => trivial) (fun h g => KpS.trans h g) (fun x W' o o' h1 h2 _ => kps_put h1 h2 o') (fun _ => rfl)
        (IA W) (IxA W) (iA_ab (by omega)) (ixA_ab (by omega)) ⟨by simp, gB, gK⟩
        (AAs (fun q x => #[.int .i64 n, .pointer (some ⟨w.heap.size, 0, none⟩), .pointer (some ⟨w.heap.size + 1, 0, none⟩), .func (.func 71) #[] #[.pointer (some ⟨BA, 0, none⟩)], .int .i64 j, .pointer (some ⟨W.heap.size, 0, none⟩), .pointer (some ⟨q, 0, none⟩), f 7, f 8, f 9, f 10, f 11, f 12, f 13, f 14, f 15, f 16, .int .i64 j, .bool true, f 19, f 20, .func (.func 71) #[] #[.pointer (some ⟨BA, 0, none⟩)], .agg #[x.1, x.2], f 23, f 24, f 25, f 26, f 27, f 28, f 29, f 30, f 31, f 32, f 33, f 34, f 35, f 36, f 37, f 38, f 39, f 40, f 41, f 42, f 43, f 44, f 45, f 46, f 47, f 48]) zn X.heap.size) (fun pre x a' W' l o o' h ho hc => h.put l o o' ho hc) ?_ ?_ ?_ ?_
      · intro l pre x Y K hI hdue hK
        obtain ⟨vl, vs⟩ := x
        obtain ⟨ol, cl, rfl, _⟩ := own_slice hdue.2.1
        obtain ⟨os, cs, rfl, _⟩ := own_slice hdue.2.2
        have hb := (Below.refl Y.heap.size Y).alloc (Nat.le_refl _) (.cells #[.slice ol zn cl, .slice os (unS zn).length cs] 25)
        have gS := Blk.new Y #[.slice ol zn cl, .slice os (unS zn).length cs] 25
        have hF : ∀ f, (Fence.wide.inRound l).fn f := fun _ => trivial
        have hYs : X.heap.size ≤ Y.heap.size := by have := Blk.lt hI.2.2; omega
        have HK := Lib.hid hK
        have HS := Lib.hid (And.intro hI (And.intro hdue (And.intro hb (And.intro gS hYs))))
        clear hK hI hdue hb gS hYs
        gi_wp2
        exact HK.out _ _ (kf_below HS.out.2.2.1) (kps_below HS.out.2.2.1) ⟨HS.out.1.1, HS.out.1.2.1.trans (HS.out.2.2.1.mono HS.out.1.2.1.size), Blk.below' HS.out.1.2.2 HS.out.2.2.1⟩ ⟨_, rfl, HS.out.2.2.2.2, HS.out.2.2.2.1, dueS_below HS.out.2.1 HS.out.2.2.1⟩
      · intro l pre x a' Y hl hI hA hN
        obtain ⟨q, rfl, hq, gS, hdue⟩ := hA
        obtain ⟨vl, vs⟩ := x
        obtain ⟨ol, cl, rfl, _⟩ := own_slice hdue.2.1
        obtain ⟨os, cs, rfl, _⟩ := own_slice hdue.2.2
        obtain ⟨hp3, hbY, gKY⟩ := hI
        obtain ⟨s0, s1⟩ := schemeB gS
        have c1 : Y.cell? ⟨w.heap.size, 0, none⟩ = some (.int .i64 zn) := (g1.below' hbY).cell 0
        have cK : Y.cell? ⟨W.heap.size, 0, none⟩ = some (.int .i64 pre.length) := gKY.cell 0
        have hF : ∀ f, (Fence.wide.inRound l).fn f := fun _ => trivial
        have d1 : decide ((tT zn 0 : Int) ≤ (pre.length : Int)) = false := decide_eq_false (by omega)
        have d2 : decide (tT zn 0 ≤ pre.length) = false := decide_eq_false (by omega)
        have HU := Lib.hid hdue
        have HY := Lib.hid (And.intro hbY (And.intro gKY gS))
        clear hdue hbY gKY gS gA gK gB g2
        gi_wp2_with (fail)
        refine round_g (S := untilG [] (fun Z => Below Y.heap.size Y Z)) (by kernel_rfl) (by kernel_rfl) (noOut (fun _ _ h => h)) ?_
        obtain ⟨Y0, hY0⟩ : ∃ Z, Y.drew = Z := ⟨_, rfl⟩
        have T0 : Below Y.heap.size Y Y0 := hY0 ▸ (Below.refl Y.heap.size Y).drew
        rw [hY0]
        clear hY0
        refine wpAnyG_take [0, 3, 4, 5, 6, 7, 8, 9, 10, 11] (i := 0) (v := (.int .i64 pre.length)) rfl (by kernel_rfl) (by kernel_rfl) (by kernel_rfl) (by kernel_rfl) (by kernel_rfl) (by kernel_rfl) (by kernel_rfl) (by kernel_rfl) (fun _ _ _ h => h) (Or.inl ⟨by rfl, ?hy⟩) T0 ?_
        case hy =>
          intro X hX
          have e0 := at_below cK hX
          go_simp
        try simp only [Act.put, List.getElem_toArray, List.getElem_cons_zero, List.getElem_cons_succ, List.setIfInBounds_toArray, List.set_cons_zero, List.set_cons_succ]
        refine wpAnyG_take [1, 2, 3, 4, 5, 6, 7, 8, 9, 10, 11] (i := 1) (v := (.int .i64 zn)) rfl (by kernel_rfl) (by kernel_rfl) (by kernel_rfl) (by kernel_rfl) (by kernel_rfl) (by kernel_rfl) (by kernel_rfl) (by kernel_rfl) (fun _ _ _ h => h) (Or.inl ⟨by rfl, ?hy⟩) T0 ?_
        case hy =>
          intro X hX
          have e0 := at_below c1 hX
          go_simp
        try simp only [Act.put, List.getElem_toArray, List.getElem_cons_zero, List.getElem_cons_succ, List.setIfInBounds_toArray, List.set_cons_zero, List.set_cons_succ]
        refine wpAnyG_all (rs := [2]) (by kernel_rfl) (by simp) ?_
        intro i hi
        simp only [List.mem_cons, List.not_mem_nil, or_false] at hi
        subst hi
        refine wpOp_now rfl rfl ?_
        go_simp
        refine (refCount_any zn (tT zn 0) hzn (Lib.hid rfl) _).mono ?_
        rintro e Y1 ⟨rfl, hb1⟩
        replace T0 := T0.trans (hb1.mono T0.size)
        clear hb1
        refine ⟨fun _ => T0, ?_⟩
        try simp only [Act.put, List.getElem_toArray, List.getElem_cons_zero, List.getElem_cons_succ, List.setIfInBounds_toArray, List.set_cons_zero, List.set_cons_succ]
        refine wpAnyG_take [3, 4, 5, 6, 7, 8, 9, 10, 11] (i := 3) (v := (.bool false)) rfl (by kernel_rfl) (by kernel_rfl) (by kernel_rfl) (by kernel_rfl) (by kernel_rfl) (by kernel_rfl) (by kernel_rfl) (by kernel_rfl) (fun _ _ _ h => h) (Or.inl ⟨by rfl, ?hy⟩) T0 ?_
        case hy =>
          intro X hX
          go_simp
        try simp only [Act.put, List.getElem_toArray, List.getElem_cons_zero, List.getElem_cons_succ, List.setIfInBounds_toArray, List.set_cons_zero, List.set_cons_succ]
        refine wpAnyG_take [4, 5, 6, 7, 8, 9, 10, 11] (i := 4) (v := (.bool false)) rfl (by kernel_rfl) (by kernel_rfl) (by kernel_rfl) (by kernel_rfl) (by kernel_rfl) (by kernel_rfl) (by kernel_rfl) (by kernel_rfl) (fun _ _ _ h => h) (Or.inl ⟨by rfl, ?hy⟩) T0 ?_
        case hy =>
          intro X hX
          go_simp
        try simp only [Act.put, List.getElem_toArray, List.getElem_cons_zero, List.getElem_cons_succ, List.setIfInBounds_toArray, List.set_cons_zero, List.set_cons_succ]
        refine wpAnyG_take [5, 9, 10, 11] (i := 5) (v := (.agg #[.slice ol zn cl, .slice os (unS zn).length cs])) rfl (by kernel_rfl) (by kernel_rfl) (by kernel_rfl) (by kernel_rfl) (by kernel_rfl) (by kernel_rfl) (by kernel_rfl) (by kernel_rfl) (fun _ _ _ h => h) (Or.inl ⟨by rfl, ?hy⟩) T0 ?_
        case hy =>
          intro X hX
          have e0 := at_below s0 hX
          have e1 := at_below s1 hX
          go_simp
        try simp only [Act.put, List.getElem_toArray, List.getElem_cons_zero, List.getElem_cons_succ, List.setIfInBounds_toArray, List.set_cons_zero, List.set_cons_succ]
        refine wpAnyG_take [6, 8, 9, 10, 11] (i := 6) (v := (.int .i64 zn)) rfl (by kernel_rfl) (by kernel_rfl) (by kernel_rfl) (by kernel_rfl) (by kernel_rfl) (by kernel_rfl) (by kernel_rfl) (by kernel_rfl) (fun _ _ _ h => h) (Or.inl ⟨by rfl, ?hy⟩) T0 ?_
        case hy =>
          intro X hX
          have e0 := at_below c1 hX
          go_simp
        try simp only [Act.put, List.getElem_toArray, List.getElem_cons_zero, List.getElem_cons_succ, List.setIfInBounds_toArray, List.set_cons_zero, List.set_cons_succ]
        refine wpAnyG_take [7, 8, 9, 10, 11] (i := 7) (v := (.int .i64 pre.length)) rfl (by kernel_rfl) (by kernel_rfl) (by kernel_rfl) (by kernel_rfl) (by kernel_rfl) (by kernel_rfl) (by kernel_rfl) (by kernel_rfl) (fun _ _ _ h => h) (Or.inl ⟨by rfl, ?hy⟩) T0 ?_
        case hy =>
          intro X hX
          have e0 := at_below cK hX
          go_simp
        try simp only [Act.put, List.getElem_toArray, List.getElem_cons_zero, List.getElem_cons_succ, List.setIfInBounds_toArray, List.set_cons_zero, List.set_cons_succ]
        refine wpAnyG_all (rs := [8]) (by kernel_rfl) (by simp) ?_
        intro i hi
        simp only [List.mem_cons, List.not_mem_nil, or_false] at hi
        subst hi
        refine wpOp_open rfl (by rfl) ?_
        go_simp
        refine (refUnrank_any zn pre.length hzn (by omega) _).mono ?_
        rintro e Y2 ⟨vl2, vs2, rfl, hr1, hr2, hb2⟩
        obtain ⟨ol2, cl2, rfl, _⟩ := own_slice hr1
        obtain ⟨os2, cs2, rfl, _⟩ := own_slice hr2
        replace T0 := T0.trans (hb2.mono T0.size)
        clear hb2
        refine ⟨fun _ => T0, ?_⟩
        try simp only [Act.put, List.getElem_toArray, List.getElem_cons_zero, List.getElem_cons_succ, List.setIfInBounds_toArray, List.set_cons_zero, List.set_cons_succ]
        refine wpAnyG_all (rs := [9]) (by kernel_rfl) (by simp) ?_
        intro i hi
        simp only [List.mem_cons, List.not_mem_nil, or_false] at hi
        subst hi
        refine wpOp_open rfl (by rfl) ?_
        go_simp
        refine (equal_un zn pre.length hzn _ _ _ _ _ _ _ _ _ (RowAt.of_own encR_len (own_below HU.out.2.1 T0) (unr_len _ _ _)) (RowAt.of_own encI_len (own_below HU.out.2.2 T0) rfl) (RowAt.of_own encR_len hr1 (unr_len _ _ _)) (RowAt.of_own encI_len hr2 rfl)).mono ?_
        rintro e Y3 ⟨rfl, hb3⟩
        replace T0 := T0.trans (hb3.mono T0.size)
        clear hb3 hr1 hr2
        refine ⟨fun _ => T0, ?_⟩
        try simp only [Act.put, List.getElem_toArray, List.getElem_cons_zero, List.getElem_cons_succ, List.setIfInBounds_toArray, List.set_cons_zero, List.set_cons_succ]
        refine wpAnyG_take [10, 11] (i := 10) (v := (.bool false)) rfl (by kernel_rfl) (by kernel_rfl) (by kernel_rfl) (by kernel_rfl) (by kernel_rfl) (by kernel_rfl) (by kernel_rfl) (by kernel_rfl) (fun _ _ _ h => h) (Or.inl ⟨by rfl, ?hy⟩) T0 ?_
        case hy =>
          intro X hX
          go_simp
        try simp only [Act.put, List.getElem_toArray, List.getElem_cons_zero, List.getElem_cons_succ, List.setIfInBounds_toArray, List.set_cons_zero, List.set_cons_succ]
        refine wpAnyG_take [11] (i := 11) (v := (.bool false)) rfl (by kernel_rfl) (by kernel_rfl) (by kernel_rfl) (by kernel_rfl) (by kernel_rfl) (by kernel_rfl) (by kernel_rfl) (by kernel_rfl) (fun _ _ _ h => h) (Or.inl ⟨by rfl, ?hy⟩) T0 ?_
        case hy =>
          intro X hX
          go_simp
        try simp only [Act.put, List.getElem_toArray, List.getElem_cons_zero, List.getElem_cons_succ, List.setIfInBounds_toArray, List.set_cons_zero, List.set_cons_succ]
        refine wpAnyG_done (by kernel_rfl) ?_ _
        have c1b := at_below c1 T0
        have ckb := at_below cK T0
        clear s0 s1 c1 cK
        by_cases hzz : zn = 0
        · have d3 : decide ((0 : Int) < (zn : Int)) = false := decide_eq_false (by omega)
          have d4 : decide (0 < zn) = false := decide_eq_false (by omega)
          obtain ⟨Z, hZ⟩ : ∃ Z, Y3 = Z := ⟨_, rfl⟩
          subst hZ
          have kZ : KeepsFrom X.heap.size Y Y3 := kf_below T0
          have pZ : KpS X.heap.size BA (.slice ol zn cl, .slice os (unS zn).length cs) Y Y3 := kps_below T0
          have bZ := HY.out.1.trans (T0.mono HY.out.1.size)
          have gZ := Blk.below' HY.out.2.1 T0
          clear T0
          have k4 : Y3.cell? ⟨W.heap.size, 0, none⟩ = some (.int .i64 pre.length) := gZ.cell 0
          have k5 := gZ.frozen 0
          have gZ1 := gZ.set 0 (.int .i64 ((pre.length : Int) + 1))
          simp only [List.setIfInBounds_toArray, List.set_cons_zero] at gZ1
          have j1 : IntKind.i64.wrap ((pre.length : Int) + 1) = (pre.length : Int) + 1 := IntWalk.i64_in _ (by omega)
          have HZ := Lib.hid (And.intro (kZ.trans (kf_set (ib := W.heap.size) 0 (.int .i64 ((pre.length : Int) + 1)))) (And.intro (KpS.trans pZ (kps_set (K := W.heap.size) (by omega) (by omega) 0 (.int .i64 ((pre.length : Int) + 1)))) (And.intro (bZ.setCell (p := ⟨W.heap.size, 0, none⟩) (Nat.le_refl _) (.int .i64 ((pre.length : Int) + 1))) gZ1)))
          clear kZ pZ bZ gZ gZ1
          by_cases hk : pre.length + 1 = 300
          · have e1 : ((pre.length : Int) + 1 == 300) = true := by rw [beq_iff_eq]; omega
            gi_wp2
            refine ⟨HZ.out.1, rfl, by simp [hk], HZ.out.2.2.1, ?_⟩
            have h := HZ.out.2.2.2
            rw [show ((pre.length : Int) + 1) = ((300 : Nat) : Int) from by omega] at h ⊢
            exact h
          · have e1 : ((pre.length : Int) + 1 == 300) = false := by rw [beq_eq_false_iff_ne]; omega
            gi_wp2
            refine ⟨HZ.out.1, HZ.out.2.1, by simp; omega, HZ.out.2.2.1, ?_⟩
            have h := HZ.out.2.2.2
            rw [List.length_append]
            exact h
        · have d3 : decide ((0 : Int) < (zn : Int)) = true := decide_eq_true (by omega)
          have d4 : decide (0 < zn) = true := decide_eq_true (by omega)
          obtain ⟨t0, t1⟩ := schemeB (Blk.below' HY.out.2.2 T0)
          have HT0 := Lib.hid T0
          clear T0
          gi_wp2_with (fail)
          have hu := dueS_below HU.out HT0.out
          have ln := unS_len zn
          refine ((callsIn_wide.2 (spoil_any (.slice ol zn cl) (.slice os (unS zn).length cs) zn (unS zn).length X.heap.size _ _ (by omega) (by omega) _ (by have := hq; have := HT0.out.size; have := Blk.lt HY.out.2.2; omega) hu.2.1 hu.2.2)).inRound _).mono ?_
          rintro e Z ⟨rfl, hG⟩
          have kZ : KeepsFrom X.heap.size Y Z := (kf_below HT0.out).trans (gr2_kf hG (own_isCells hu.2.1) (own_isCells hu.2.2))
          have pZ : KpS X.heap.size BA (.slice ol zn cl, .slice os (unS zn).length cs) Y Z := KpS.trans (kps_below HT0.out) (gr2_kp hG)
          have l1 : ∀ g, (Value.slice ol zn cl).ownBlock = some g → W.heap.size + 1 ≤ g := fun g hg => by have := (hu.2.1.lt g hg).1; omega
          have l2 : ∀ g, (Value.slice os (unS zn).length cs).ownBlock = some g → W.heap.size + 1 ≤ g := fun g hg => by have := (hu.2.2.lt g hg).1; omega
          have bY3 := HY.out.1.trans (HT0.out.mono HY.out.1.size)
          have bZ := gr2_below bY3 hG bY3.size (fun g hg => by have := l1 g hg; omega) (fun g hg => by have := l2 g hg; omega)
          have gZ : Blk Z W.heap.size #[.int .i64 pre.length] 3 := (hG.2.2.2.2 _ (Blk.lt (Blk.below' HY.out.2.1 HT0.out)) (fun e => by have := l1 _ e.symm; omega) (fun e => by have := l2 _ e.symm; omega)).trans (Blk.below' HY.out.2.1 HT0.out)
          clear hG hu l1 l2 bY3 t0 t1
          have k4 : Z.cell? ⟨W.heap.size, 0, none⟩ = some (.int .i64 pre.length) := gZ.cell 0
          have k5 := gZ.frozen 0
          have gZ1 := gZ.set 0 (.int .i64 ((pre.length : Int) + 1))
          simp only [List.setIfInBounds_toArray, List.set_cons_zero] at gZ1
          have j1 : IntKind.i64.wrap ((pre.length : Int) + 1) = (pre.length : Int) + 1 := IntWalk.i64_in _ (by omega)
          have HZ := Lib.hid (And.intro (kZ.trans (kf_set (ib := W.heap.size) 0 (.int .i64 ((pre.length : Int) + 1)))) (And.intro (KpS.trans pZ (kps_set (K := W.heap.size) (by omega) (by omega) 0 (.int .i64 ((pre.length : Int) + 1)))) (And.intro (bZ.setCell (p := ⟨W.heap.size, 0, none⟩) (Nat.le_refl _) (.int .i64 ((pre.length : Int) + 1))) gZ1)))
          clear kZ pZ bZ gZ gZ1
          by_cases hk : pre.length + 1 = 300
          · have e1 : ((pre.length : Int) + 1 == 300) = true := by rw [beq_iff_eq]; omega
            gi_wp2
            refine ⟨HZ.out.1, rfl, by simp [hk], HZ.out.2.2.1, ?_⟩
            have h := HZ.out.2.2.2
            rw [show ((pre.length : Int) + 1) = ((300 : Nat) : Int) from by omega] at h ⊢
            exact h
          · have e1 : ((pre.length : Int) + 1 == 300) = false := by rw [beq_eq_false_iff_ne]; omega
            gi_wp2
            refine ⟨HZ.out.1, HZ.out.2.1, by simp; omega, HZ.out.2.2.1, ?_⟩
            have h := HZ.out.2.2.2
            rw [List.length_append]
            exact h
      · intro D xs Y hD hS hI hk
        refine ⟨.inl rfl, D, ⟨by omega, hk, hI.2.1, ?_⟩, rfl⟩
        have h1 := hI.1
        rw [show min 300 (tT zn 0) = xs.length from by rw [← hS]; omega]
        exact hI.2.2
      · rintro D c pre Y hD hSp ⟨rfl, h3, h4, h5⟩ hk
        refine wpIn_exit ?_
        refine ⟨.inr rfl, D, ⟨by omega, hk, h4, ?_⟩, rfl⟩
        rw [show min 300 (tT zn 0) = 300 from by omega]
        exact h5
    · intro D Y hR
      obtain ⟨hD, hk, hbY, gY⟩ := hR
      obtain ⟨T, hT⟩ : ∃ T, tT zn 0 = T := ⟨_, rfl⟩
      rw [hT] at gY hT1 hT2
      have HT := Lib.hid hT
      have c1 : Y.cell? ⟨w.heap.size, 0, none⟩ = some (.int .i64 zn) := (g1.below' hbY).cell 0
      have cK : Y.cell? ⟨W.heap.size, 0, none⟩ = some (.int .i64 (min 300 T : Nat)) := gY.cell 0
      have HR := Lib.hid (And.intro hD (And.intro hk hbY))
      clear hT hD hk hbY gY gA g1 g2 gK gB hXs hVW hV3 hX
      dsimp only
      go_wp2_with (fail)
      refine wp_region_noPanic ?_
      refine wp_region_g (S := untilG [] (fun Z => Below Y.heap.size Y Z)) (by kernel_rfl) ?_
      obtain ⟨Y0, hY0⟩ : ∃ Z, Y.drew = Z := ⟨_, rfl⟩
      have T0 : Below Y.heap.size Y Y0 := hY0 ▸ (Below.refl Y.heap.size Y).drew
      rw [hY0]
      clear hY0
      refine wpAnyG_take [0, 4] (i := 0) (v := (.int .i64 (min 300 T : Nat))) rfl (by kernel_rfl) (by kernel_rfl) (by kernel_rfl) (by kernel_rfl) (by kernel_rfl) (by kernel_rfl) (by kernel_rfl) (by kernel_rfl) (fun _ _ _ h => h) (Or.inl ⟨by rfl, ?hy⟩) T0 ?_
      case hy =>
        intro X hX
        have e0 := at_below cK hX
        go_simp
      try simp only [Act.put, List.getElem_toArray, List.getElem_cons_zero, List.getElem_cons_succ, List.setIfInBounds_toArray, List.set_cons_zero, List.set_cons_succ]
      refine wpAnyG_take [1, 2, 3, 4] (i := 1) (v := (.int .i64 zn)) rfl (by kernel_rfl) (by kernel_rfl) (by kernel_rfl) (by kernel_rfl) (by kernel_rfl) (by kernel_rfl) (by kernel_rfl) (by kernel_rfl) (fun _ _ _ h => h) (Or.inl ⟨by rfl, ?hy⟩) T0 ?_
      case hy =>
        intro X hX
        have e0 := at_below c1 hX
        go_simp
      try simp only [Act.put, List.getElem_toArray, List.getElem_cons_zero, List.getElem_cons_succ, List.setIfInBounds_toArray, List.set_cons_zero, List.set_cons_succ]
      refine wpAnyG_all (rs := [2]) (by kernel_rfl) (by simp) ?_
      intro i hi
      simp only [List.mem_cons, List.not_mem_nil, or_false] at hi
      subst hi
      refine wpOp_now rfl rfl ?_
      go_simp
      refine (refCount_any zn T hzn HT.out _).mono ?_
      rintro e Y1 ⟨rfl, hb1⟩
      replace T0 := T0.trans (hb1.mono T0.size)
      clear hb1
      refine ⟨fun _ => T0, ?_⟩
      try simp only [Act.put, List.getElem_toArray, List.getElem_cons_zero, List.getElem_cons_succ, List.setIfInBounds_toArray, List.set_cons_zero, List.set_cons_succ]
      refine wpAnyG_take [3, 4] (i := 3) (v := (.int .i64 (min 300 T : Nat))) rfl (by kernel_rfl) (by kernel_rfl) (by kernel_rfl) (by kernel_rfl) (by kernel_rfl) (by kernel_rfl) (by kernel_rfl) (by kernel_rfl) (fun _ _ _ h => h) (Or.inl ⟨by rfl, ?hy⟩) T0 ?_
      case hy =>
        intro X hX
        by_cases h3 : T < 300 <;> simp [go_sem, h3] <;> omega
      try simp only [Act.put, List.getElem_toArray, List.getElem_cons_zero, List.getElem_cons_succ, List.setIfInBounds_toArray, List.set_cons_zero, List.set_cons_succ]
      refine wpAnyG_take [4] (i := 4) (v := (.bool false)) rfl (by kernel_rfl) (by kernel_rfl) (by kernel_rfl) (by kernel_rfl) (by kernel_rfl) (by kernel_rfl) (by kernel_rfl) (by kernel_rfl) (fun _ _ _ h => h) (Or.inl ⟨by rfl, ?hy⟩) T0 ?_
      case hy =>
        intro X hX
        go_simp
      try simp only [Act.put, List.getElem_toArray, List.getElem_cons_zero, List.getElem_cons_succ, List.setIfInBounds_toArray, List.set_cons_zero, List.set_cons_succ]
      refine wpAnyG_done (by kernel_rfl) ?_ _
      refine NoPanic.normal ?_
      have H6 : Hid (Below V.heap.size V Y1 ∧ (D :: Ds).Pairwise (· > ·) ∧ ∀ E ∈ D :: Ds, V.heap.size ≤ E ∧ Y1.heap[E]? = some (.deferred (some []))) := Lib.hid (by
        have hO := HR.out.2.2.trans (T0.mono HR.out.2.2.size)
        refine ⟨HB.out.trans (hO.mono HB.out.size), List.pairwise_cons.2 ⟨fun E hE => ?_, HD.out.1⟩, fun E hE => ?_⟩
        · have h1 := (Array.getElem?_eq_some_iff.1 (HD.out.2 E hE).2).1
          have h2 := HR.out.1
          show E < D
          omega
        · rcases List.mem_cons.1 hE with rfl | hE
          · have h1 := HB.out.size
            have h2 := HR.out.1
            exact ⟨by omega, (T0.block _ (Array.getElem?_eq_some_iff.1 HR.out.2.1).1).trans HR.out.2.1⟩
          · obtain ⟨h1, h2⟩ := HD.out.2 E hE
            exact ⟨h1, (hO.block E (Array.getElem?_eq_some_iff.1 h2).1).trans h2⟩)
      clear T0 cK c1
      go_wp2
      exact ⟨m - 1, by omega, QaM.mk (D :: Ds) (j + 1) (by omega) H6.out.2.1 H6.out.2.2 H6.out.1 rfl⟩
  · have d0 : decide ((j : Int) < 2) = false := decide_eq_false (by omega)
    go_wp2_with (fail)
    refine (wakes_any _).mono ?_
    rintro e Z ⟨rfl, hbZ⟩
    have HZ := Lib.hid hbZ
    clear hbZ
    have b6 := (HV2.out.2.2.1.below' HB.out).below' HZ.out
    have c6 : Z.cell? ⟨w.heap.size + 1, 0, none⟩ = some (.bool false) := b6.cell 0
    have f6 := b6.frozen 0
    have g6 : (Z.setCell ⟨w.heap.size + 1, 0, none⟩ (.bool true)).cell? ⟨w.heap.size + 1, 0, none⟩ = some (.bool true) := (b6.set 0 (.bool true)).cell 0
    have HG := Lib.hid g6
    clear b6 g6
    go_wp2
    exact all_end HD.out.1 HD.out.2 HB.out HV2.out.1 HZ.out (by have := HV2.out.2.2.2.2; omega) HG.out rfl
theorem all_law (n : Int) (w : World) : Calls Try.prog 10 #[.int .i64 n] w fun e w' => e = .returned (.bool true) ∧ Below w.heap.size w w' := callsIn_wide.1 (all_in n w)
end Go.Proofs.Ytdcmkiggnmajgaa
