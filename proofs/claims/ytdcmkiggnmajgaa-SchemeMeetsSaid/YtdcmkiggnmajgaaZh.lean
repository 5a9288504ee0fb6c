/- Stage 16: SchemeMeets at schemes that may be. -/
import Derived.Test.YtdcmkiggnmajgaaZg
import Derived.Test.YtdcmkiggnmajgaaYv
import Derived.Test.YtdcmkiggnmajgaaZb
import Derived.Test.YtdcmkiggnmajgaaZe
namespace Go.Proofs.Ytdcmkiggnmajgaa.Pr
set_option linter.unusedVariables false
set_option linter.unusedSimpArgs false
open Go Go.RowKit Go.Shelf
set_option maxRecDepth 100000

theorem togR_len (s t : Sc) (f : Nat → Nat) : (togR s t f).1.L.length ≤ s.L.length ∧ (togR s t f).1.S.length ≤ s.S.length := by
  unfold togR
  split <;> simp [togL_len]

set_option maxHeartbeats 16000000 in
theorem meets_yes (s t : Sc) (ol os ol' os' : Option Addr) (cl cs cl' cs' : Nat) (hn : s.L.length ≤ 8796093021952) (hm : s.S.length ≤ 17592186043904) (hn' : t.L.length ≤ 8796093021952) (hm' : t.S.length ≤ 17592186043904) (hfl : NForm ol s.L.length cl) (hfs : NForm os s.S.length cs) (hfl' : NForm ol' t.L.length cl') (hfs' : NForm os' t.S.length cs') (hms : mayB s = true) (hmt : mayB t = true) (hlen : t.L.length = s.L.length) (w : World) (hr : RowAt w encR 2 ol s.L) (ht : RowAt w encI 1 os s.S) (hr' : RowAt w encR 2 ol' t.L) (ht' : RowAt w encI 1 os' t.S) :
    Calls Try.prog 8 #[.agg #[.slice ol s.L.length cl, .slice os s.S.length cs], .agg #[.slice ol' t.L.length cl', .slice os' t.S.length cs']] w fun e w' => e = .returned (.bool true) ∧ Below w.heap.size w w' := by
  obtain ⟨h1, h2, h3⟩ := may_parts hms
  obtain ⟨h1', _, h3'⟩ := may_parts hmt
  have HLEN := Lib.hid hlen
  clear hlen
  have hB0 := ((Below.refl _ w).alloc (Nat.le_refl _) (.cells #[.slice ol s.L.length cl, .slice os s.S.length cs] 25)).alloc (by simp) (.cells #[.slice ol' t.L.length cl', .slice os' t.S.length cs'] 25)
  have bA := (Blk.new w #[.slice ol s.L.length cl, .slice os s.S.length cs] 25).alloc (.cells #[.slice ol' t.L.length cl', .slice os' t.S.length cs'] 25)
  have bB := Blk.new (w.alloc (.cells #[.slice ol s.L.length cl, .slice os s.S.length cs] 25)) #[.slice ol' t.L.length cl', .slice os' t.S.length cs'] 25
  rw [World.size_alloc] at bB
  have HA := Lib.hid bA
  have HBb := Lib.hid bB
  have HB := Lib.hid hB0
  have HR := Lib.hid (And.intro (And.intro hr ht) (And.intro hr' ht'))
  clear bA bB hB0 hr ht hr' ht'
  go_enter Try.func8, Try.ntmps8
  go_wp2_with (fail)
  refine (wakes_any _).mono ?_
  rintro e w1 ⟨rfl, hB⟩
  replace HA := Lib.hid (HA.out.below' hB)
  replace HBb := Lib.hid (HBb.out.below' hB)
  replace HB := Lib.hid (HB.out.trans (hB.mono HB.out.size))
  clear hB
  have HA0 : w1.cell? ⟨w.heap.size, 0, none⟩ = some (.slice ol s.L.length cl) := HA.out.cell 0
  have HA1 : w1.cell? ⟨w.heap.size, 1, none⟩ = some (.slice os s.S.length cs) := HA.out.cell 1
  have HBb0 : w1.cell? ⟨w.heap.size + 1, 0, none⟩ = some (.slice ol' t.L.length cl') := HBb.out.cell 0
  have HBb1 : w1.cell? ⟨w.heap.size + 1, 1, none⟩ = some (.slice os' t.S.length cs') := HBb.out.cell 1
  have hw2 : w.heap.size + 2 ≤ w1.heap.size := by have := HBb.out.lt; omega
  go_wp2_with (fail)
  refine wp_cutV (α := (Option Addr × Option Addr × Nat × Nat × Nat) × (Option Addr × Option Addr × Nat × Nat × Nat)) (fun v X => TwoS X w1.heap.size v.1.1 v.1.2.1 v.1.2.2.1 v.1.2.2.2.1 s v.2.1 v.2.2.1 v.2.2.2.1 v.2.2.2.2.1 t ∧ Blk X v.1.2.2.2.2 #[.slice v.1.1 s.L.length v.1.2.2.1, .slice v.1.2.1 s.S.length v.1.2.2.2.1] 25 ∧ Blk X v.2.2.2.2.2 #[.slice v.2.1 t.L.length v.2.2.2.1, .slice v.2.2.1 t.S.length v.2.2.2.2.1] 25 ∧ Below w1.heap.size w1 X) (fun v => [(19, .agg #[.slice ol s.L.length cl, .slice os s.S.length cs]), (20, .agg #[.slice v.1.1 s.L.length v.1.2.2.1, .slice v.1.2.1 s.S.length v.1.2.2.2.1]), (21, .agg #[.slice ol' t.L.length cl', .slice os' t.S.length cs']), (22, .agg #[.slice v.2.1 t.L.length v.2.2.2.1, .slice v.2.2.1 t.S.length v.2.2.2.2.1]), (5, .pointer (some ⟨v.1.2.2.2.2, 0, none⟩)), (6, .pointer (some ⟨v.2.2.2.2.2, 0, none⟩))]) ?_ ?_
  · refine wp_region_noPanic ?_
    refine wp_region_g (S := untilG [] (fun X => Below w1.heap.size w1 X)) (by kernel_rfl) ?_
    have T0 : Below w1.heap.size w1 w1.drew := (Below.refl _ _).drew
    obtain ⟨X0, hX0⟩ : ∃ X, w1.drew = X := ⟨_, rfl⟩
    rw [hX0] at T0 ⊢
    clear hX0
    refine wpAnyG_take [0, 1, 6] (i := 0) (v := (.agg #[.slice ol s.L.length cl, .slice os s.S.length cs])) rfl (by kernel_rfl) (by kernel_rfl) (by kernel_rfl) (by kernel_rfl) (by kernel_rfl) (by kernel_rfl) (by kernel_rfl) (by kernel_rfl) (fun _ _ _ h => h) (Or.inl ⟨by rfl, ?hy⟩) T0 ?_
    case hy =>
      intro X hX
      have e0 := at_below HA0 hX
      have e1 := at_below HA1 hX
      go_simp
    try simp only [Act.put, List.getElem_toArray, List.getElem_cons_zero, List.getElem_cons_succ, List.setIfInBounds_toArray, List.set_cons_zero, List.set_cons_succ]
    refine wpAnyG_take [2, 3, 7] (i := 2) (v := (.agg #[.slice ol' t.L.length cl', .slice os' t.S.length cs'])) rfl (by kernel_rfl) (by kernel_rfl) (by kernel_rfl) (by kernel_rfl) (by kernel_rfl) (by kernel_rfl) (by kernel_rfl) (by kernel_rfl) (fun _ _ _ h => h) (Or.inl ⟨by rfl, ?hy⟩) T0 ?_
    case hy =>
      intro X hX
      have e0 := at_below HBb0 hX
      have e1 := at_below HBb1 hX
      go_simp
    try simp only [Act.put, List.getElem_toArray, List.getElem_cons_zero, List.getElem_cons_succ, List.setIfInBounds_toArray, List.set_cons_zero, List.set_cons_succ]
    refine wpAnyG_all (rs := [1, 4, 5]) (by kernel_rfl) (by simp) ?_
    intro i hi
    simp only [List.mem_cons, List.not_mem_nil, or_false] at hi
    rcases hi with rfl | rfl | rfl
    · skip
      refine wpOp_now rfl rfl ?_
      go_simp
      refine (copy_any s ol os cl cs hfl hfs hn hm _ (HR.out.1.1.below encR_len (by decide) (HB.out.trans (T0.mono HB.out.size))) (HR.out.1.2.below encI_len (by decide) (HB.out.trans (T0.mono HB.out.size)))).mono ?_
      rintro e Y1 ⟨vl, vs, rfl, hO1, hO2, hB⟩
      obtain ⟨olx, osx, clx, csx, rfl, rfl, hx⟩ := OwS.of (t := s) hO1 hO2
      have hpx := T0.size
      have hqx := hB.size
      obtain ⟨px, hpex⟩ : ∃ k, X0.heap.size = k := ⟨_, rfl⟩
      obtain ⟨qx, hqex⟩ : ∃ k, Y1.heap.size = k := ⟨_, rfl⟩
      rw [hpex, hqex] at hx
      rw [hpex] at hpx
      have hlex : qx ≤ Y1.heap.size := by omega
      rw [hpex, hqex] at hqx
      replace T0 := T0.trans (hB.mono T0.size)
      clear hB hO1 hO2 hpex hqex
      refine ⟨fun _ => T0, ?_⟩
      try simp only [Act.put, List.getElem_toArray, List.getElem_cons_zero, List.getElem_cons_succ, List.setIfInBounds_toArray, List.set_cons_zero, List.set_cons_succ]
      refine wpAnyG_all (rs := [3, 4, 5]) (by kernel_rfl) (by simp) ?_
      intro i hi
      simp only [List.mem_cons, List.not_mem_nil, or_false] at hi
      rcases hi with rfl | rfl | rfl
      · skip
        refine wpOp_now rfl rfl ?_
        go_simp
        refine (copy_any t ol' os' cl' cs' hfl' hfs' hn' hm' _ (HR.out.2.1.below encR_len (by decide) (HB.out.trans (T0.mono HB.out.size))) (HR.out.2.2.below encI_len (by decide) (HB.out.trans (T0.mono HB.out.size)))).mono ?_
        rintro e Y3 ⟨vl, vs, rfl, hO1, hO2, hB⟩
        obtain ⟨oly, osy, cly, csy, rfl, rfl, hy⟩ := OwS.of (t := t) hO1 hO2
        have hpy := T0.size
        have hqy := hB.size
        obtain ⟨py, hpey⟩ : ∃ k, Y1.heap.size = k := ⟨_, rfl⟩
        obtain ⟨qy, hqey⟩ : ∃ k, Y3.heap.size = k := ⟨_, rfl⟩
        have hqp : qx ≤ py := by omega
        rw [hpey, hqey] at hy
        rw [hpey] at hpy
        have hley : qy ≤ Y3.heap.size := by omega
        rw [hpey, hqey] at hqy
        replace T0 := T0.trans (hB.mono T0.size)
        replace hx := hx.below hB
        clear hB hO1 hO2 hpey hqey
        refine ⟨fun _ => T0, ?_⟩
        try simp only [Act.put, List.getElem_toArray, List.getElem_cons_zero, List.getElem_cons_succ, List.setIfInBounds_toArray, List.set_cons_zero, List.set_cons_succ]
        refine wpAnyG_all (rs := [4, 5]) (by kernel_rfl) (by simp) ?_
        intro i hi
        simp only [List.mem_cons, List.not_mem_nil, or_false] at hi
        rcases hi with rfl | rfl
        · skip
          refine wpOp_now rfl rfl ?_
          go_simp
          have d4 := Blk.new Y3 #[.slice none 0 0, .slice none 0 0] 25
          have l4 := T0.size
          have hAA := (Below.refl Y3.heap.size Y3).alloc (Nat.le_refl _) (.cells #[.slice none 0 0, .slice none 0 0] 25)
          replace T0 := T0.trans (hAA.mono T0.size)
          replace hx := hx.below hAA
          replace hy := hy.below hAA
          have z4 : Y3.heap.size < (Y3.alloc (.cells #[.slice none 0 0, .slice none 0 0] 25)).heap.size := by simp
          replace hley : qy ≤ (Y3.alloc (.cells #[.slice none 0 0, .slice none 0 0] 25)).heap.size := by simp; omega
          obtain ⟨b4, hb4⟩ : ∃ b, Y3.heap.size = b := ⟨_, rfl⟩
          obtain ⟨Y4, hVY4⟩ : ∃ X, Y3.alloc (.cells #[.slice none 0 0, .slice none 0 0] 25) = X := ⟨_, rfl⟩
          rw [hVY4] at T0 z4 d4 hx hy hley
          rw [hb4] at d4 l4 z4
          try rw [hVY4, hb4]
          try rw [hVY4]
          clear hAA hVY4 hb4
          refine ⟨fun _ => T0, ?_⟩
          try simp only [Act.put, List.getElem_toArray, List.getElem_cons_zero, List.getElem_cons_succ, List.setIfInBounds_toArray, List.set_cons_zero, List.set_cons_succ]
          refine wpAnyG_all (rs := [5]) (by kernel_rfl) (by simp) ?_
          intro i hi
          simp only [List.mem_cons, List.not_mem_nil, or_false] at hi
          subst hi
          refine wpOp_now rfl rfl ?_
          go_simp
          have d5 := Blk.new Y4 #[.slice none 0 0, .slice none 0 0] 25
          have l5 := T0.size
          have lt5 : b4 < Y4.heap.size := d4.lt
          have hAA := (Below.refl Y4.heap.size Y4).alloc (Nat.le_refl _) (.cells #[.slice none 0 0, .slice none 0 0] 25)
          replace T0 := T0.trans (hAA.mono T0.size)
          replace hx := hx.below hAA
          replace hy := hy.below hAA
          replace d4 := d4.below' hAA
          have z5 : Y4.heap.size < (Y4.alloc (.cells #[.slice none 0 0, .slice none 0 0] 25)).heap.size := by simp
          replace hley : qy ≤ (Y4.alloc (.cells #[.slice none 0 0, .slice none 0 0] 25)).heap.size := by simp; omega
          obtain ⟨b5, hb5⟩ : ∃ b, Y4.heap.size = b := ⟨_, rfl⟩
          obtain ⟨Y5, hVY5⟩ : ∃ X, Y4.alloc (.cells #[.slice none 0 0, .slice none 0 0] 25) = X := ⟨_, rfl⟩
          rw [hVY5] at T0 z5 d5 hx hy d4 hley
          rw [hb5] at d5 l5 z5 lt5
          try rw [hVY5, hb5]
          try rw [hVY5]
          clear hAA hVY5 hb5
          refine ⟨fun _ => T0, ?_⟩
          try simp only [Act.put, List.getElem_toArray, List.getElem_cons_zero, List.getElem_cons_succ, List.setIfInBounds_toArray, List.set_cons_zero, List.set_cons_succ]
          have ne45 : b4 ≠ b5 := by omega
          have u0 := d4.cell 0
          have u1 := d4.cell 1
          have u2 := d4.frozen 0
          have u3 := d4.frozen 1
          have v0 := d5.cell 0
          have v1 := d5.cell 1
          have v2 := d5.frozen 0
          have v3 := d5.frozen 1
          simp only [List.getElem?_toArray, List.getElem?_cons_succ, List.getElem?_cons_zero] at u0 u1 v0 v1
          have T1 := (T0.setCell (p := ⟨b4, 0, none⟩) l4 (.slice olx s.L.length clx)).setCell (p := ⟨b4, 1, none⟩) l4 (.slice osx s.S.length csx)
          have e4 := (d4.set 0 (.slice olx s.L.length clx)).set 1 (.slice osx s.S.length csx)
          have e5 := (d5.other ne45.symm 0 (.slice olx s.L.length clx)).other ne45.symm 1 (.slice osx s.S.length csx)
          have ex := (hx.blk d4 0 (.slice olx s.L.length clx)).blk (d4.set 0 _) 1 (.slice osx s.S.length csx)
          have ey := (hy.blk d4 0 (.slice olx s.L.length clx)).blk (d4.set 0 _) 1 (.slice osx s.S.length csx)
          simp only [List.setIfInBounds_toArray, List.set_cons_zero, List.set_cons_succ] at e4
          have hz1 : qy ≤ ((Y5.setCell ⟨b4, 0, none⟩ (.slice olx s.L.length clx)).setCell ⟨b4, 1, none⟩ (.slice osx s.S.length csx)).heap.size := by simp; omega
          obtain ⟨Z1, hZ1⟩ : ∃ X, (Y5.setCell ⟨b4, 0, none⟩ (.slice olx s.L.length clx)).setCell ⟨b4, 1, none⟩ (.slice osx s.S.length csx) = X := ⟨_, rfl⟩
          rw [hZ1] at T1 e4 e5 ex ey hz1
          refine wpAnyG_all (rs := [6]) (by kernel_rfl) (by simp) ?_
          intro i hi
          simp only [List.mem_cons, List.not_mem_nil, or_false] at hi
          subst hi
          refine wpOp_now rfl rfl ?_
          go_simp
          try rw [hZ1]
          clear hZ1 u0 u1 u2 u3 v0 v1 v2 v3
          refine ⟨fun _ => T1, ?_⟩
          try simp only [Act.put, List.getElem_toArray, List.getElem_cons_zero, List.getElem_cons_succ, List.setIfInBounds_toArray, List.set_cons_zero, List.set_cons_succ]
          have v0 := e5.cell 0
          have v1 := e5.cell 1
          have v2 := e5.frozen 0
          have v3 := e5.frozen 1
          simp only [List.getElem?_toArray, List.getElem?_cons_succ, List.getElem?_cons_zero] at v0 v1
          have T2 := (T1.setCell (p := ⟨b5, 0, none⟩) l5 (.slice oly t.L.length cly)).setCell (p := ⟨b5, 1, none⟩) l5 (.slice osy t.S.length csy)
          have f5 := (e5.set 0 (.slice oly t.L.length cly)).set 1 (.slice osy t.S.length csy)
          have f4 := (e4.other ne45 0 (.slice oly t.L.length cly)).other ne45 1 (.slice osy t.S.length csy)
          have fx := (ex.blk e5 0 (.slice oly t.L.length cly)).blk (e5.set 0 _) 1 (.slice osy t.S.length csy)
          have fy := (ey.blk e5 0 (.slice oly t.L.length cly)).blk (e5.set 0 _) 1 (.slice osy t.S.length csy)
          simp only [List.setIfInBounds_toArray, List.set_cons_zero, List.set_cons_succ] at f5
          have hz2 : qy ≤ ((Z1.setCell ⟨b5, 0, none⟩ (.slice oly t.L.length cly)).setCell ⟨b5, 1, none⟩ (.slice osy t.S.length csy)).heap.size := by simp; omega
          obtain ⟨Z2, hZ2⟩ : ∃ X, (Z1.setCell ⟨b5, 0, none⟩ (.slice oly t.L.length cly)).setCell ⟨b5, 1, none⟩ (.slice osy t.S.length csy) = X := ⟨_, rfl⟩
          rw [hZ2] at T2 f5 f4 fx fy hz2
          refine wpAnyG_all (rs := [7]) (by kernel_rfl) (by simp) ?_
          intro i hi
          simp only [List.mem_cons, List.not_mem_nil, or_false] at hi
          subst hi
          refine wpOp_now rfl rfl ?_
          go_simp
          try rw [hZ2]
          clear hZ2 v0 v1 v2 v3
          refine ⟨fun _ => T2, ?_⟩
          try simp only [Act.put, List.getElem_toArray, List.getElem_cons_zero, List.getElem_cons_succ, List.setIfInBounds_toArray, List.set_cons_zero, List.set_cons_succ]
          refine wpAnyG_done (by kernel_rfl) ?_ _
          refine NoPanic.normal ?_
          exact ⟨rfl, ((olx, osx, clx, csx, b4), (oly, osy, cly, csy, b5)), by kernel_rfl, ⟨px, qx, py, qy, ⟨by omega, hqx, hqp, hqy, hz2⟩, fx, fy⟩, f4, f5, T2⟩
        · skip
          refine wpOp_now rfl rfl ?_
          go_simp
          have d5 := Blk.new Y3 #[.slice none 0 0, .slice none 0 0] 25
          have l5 := T0.size
          have hAA := (Below.refl Y3.heap.size Y3).alloc (Nat.le_refl _) (.cells #[.slice none 0 0, .slice none 0 0] 25)
          replace T0 := T0.trans (hAA.mono T0.size)
          replace hx := hx.below hAA
          replace hy := hy.below hAA
          have z5 : Y3.heap.size < (Y3.alloc (.cells #[.slice none 0 0, .slice none 0 0] 25)).heap.size := by simp
          replace hley : qy ≤ (Y3.alloc (.cells #[.slice none 0 0, .slice none 0 0] 25)).heap.size := by simp; omega
          obtain ⟨b5, hb5⟩ : ∃ b, Y3.heap.size = b := ⟨_, rfl⟩
          obtain ⟨Y5, hVY5⟩ : ∃ X, Y3.alloc (.cells #[.slice none 0 0, .slice none 0 0] 25) = X := ⟨_, rfl⟩
          rw [hVY5] at T0 z5 d5 hx hy hley
          rw [hb5] at d5 l5 z5
          try rw [hVY5, hb5]
          try rw [hVY5]
          clear hAA hVY5 hb5
          refine ⟨fun _ => T0, ?_⟩
          try simp only [Act.put, List.getElem_toArray, List.getElem_cons_zero, List.getElem_cons_succ, List.setIfInBounds_toArray, List.set_cons_zero, List.set_cons_succ]
          refine wpAnyG_all (rs := [4]) (by kernel_rfl) (by simp) ?_
          intro i hi
          simp only [List.mem_cons, List.not_mem_nil, or_false] at hi
          subst hi
          refine wpOp_now rfl rfl ?_
          go_simp
          have d4 := Blk.new Y5 #[.slice none 0 0, .slice none 0 0] 25
          have l4 := T0.size
          have lt4 : b5 < Y5.heap.size := d5.lt
          have hAA := (Below.refl Y5.heap.size Y5).alloc (Nat.le_refl _) (.cells #[.slice none 0 0, .slice none 0 0] 25)
          replace T0 := T0.trans (hAA.mono T0.size)
          replace hx := hx.below hAA
          replace hy := hy.below hAA
          replace d5 := d5.below' hAA
          have z4 : Y5.heap.size < (Y5.alloc (.cells #[.slice none 0 0, .slice none 0 0] 25)).heap.size := by simp
          replace hley : qy ≤ (Y5.alloc (.cells #[.slice none 0 0, .slice none 0 0] 25)).heap.size := by simp; omega
          obtain ⟨b4, hb4⟩ : ∃ b, Y5.heap.size = b := ⟨_, rfl⟩
          obtain ⟨Y4, hVY4⟩ : ∃ X, Y5.alloc (.cells #[.slice none 0 0, .slice none 0 0] 25) = X := ⟨_, rfl⟩
          rw [hVY4] at T0 z4 d4 hx hy d5 hley
          rw [hb4] at d4 l4 z4 lt4
          try rw [hVY4, hb4]
          try rw [hVY4]
          clear hAA hVY4 hb4
          refine ⟨fun _ => T0, ?_⟩
          try simp only [Act.put, List.getElem_toArray, List.getElem_cons_zero, List.getElem_cons_succ, List.setIfInBounds_toArray, List.set_cons_zero, List.set_cons_succ]
          have ne45 : b4 ≠ b5 := by omega
          have u0 := d4.cell 0
          have u1 := d4.cell 1
          have u2 := d4.frozen 0
          have u3 := d4.frozen 1
          have v0 := d5.cell 0
          have v1 := d5.cell 1
          have v2 := d5.frozen 0
          have v3 := d5.frozen 1
          simp only [List.getElem?_toArray, List.getElem?_cons_succ, List.getElem?_cons_zero] at u0 u1 v0 v1
          have T1 := (T0.setCell (p := ⟨b4, 0, none⟩) l4 (.slice olx s.L.length clx)).setCell (p := ⟨b4, 1, none⟩) l4 (.slice osx s.S.length csx)
          have e4 := (d4.set 0 (.slice olx s.L.length clx)).set 1 (.slice osx s.S.length csx)
          have e5 := (d5.other ne45.symm 0 (.slice olx s.L.length clx)).other ne45.symm 1 (.slice osx s.S.length csx)
          have ex := (hx.blk d4 0 (.slice olx s.L.length clx)).blk (d4.set 0 _) 1 (.slice osx s.S.length csx)
          have ey := (hy.blk d4 0 (.slice olx s.L.length clx)).blk (d4.set 0 _) 1 (.slice osx s.S.length csx)
          simp only [List.setIfInBounds_toArray, List.set_cons_zero, List.set_cons_succ] at e4
          have hz1 : qy ≤ ((Y4.setCell ⟨b4, 0, none⟩ (.slice olx s.L.length clx)).setCell ⟨b4, 1, none⟩ (.slice osx s.S.length csx)).heap.size := by simp; omega
          obtain ⟨Z1, hZ1⟩ : ∃ X, (Y4.setCell ⟨b4, 0, none⟩ (.slice olx s.L.length clx)).setCell ⟨b4, 1, none⟩ (.slice osx s.S.length csx) = X := ⟨_, rfl⟩
          rw [hZ1] at T1 e4 e5 ex ey hz1
          refine wpAnyG_all (rs := [6]) (by kernel_rfl) (by simp) ?_
          intro i hi
          simp only [List.mem_cons, List.not_mem_nil, or_false] at hi
          subst hi
          refine wpOp_now rfl rfl ?_
          go_simp
          try rw [hZ1]
          clear hZ1 u0 u1 u2 u3 v0 v1 v2 v3
          refine ⟨fun _ => T1, ?_⟩
          try simp only [Act.put, List.getElem_toArray, List.getElem_cons_zero, List.getElem_cons_succ, List.setIfInBounds_toArray, List.set_cons_zero, List.set_cons_succ]
          have v0 := e5.cell 0
          have v1 := e5.cell 1
          have v2 := e5.frozen 0
          have v3 := e5.frozen 1
          simp only [List.getElem?_toArray, List.getElem?_cons_succ, List.getElem?_cons_zero] at v0 v1
          have T2 := (T1.setCell (p := ⟨b5, 0, none⟩) l5 (.slice oly t.L.length cly)).setCell (p := ⟨b5, 1, none⟩) l5 (.slice osy t.S.length csy)
          have f5 := (e5.set 0 (.slice oly t.L.length cly)).set 1 (.slice osy t.S.length csy)
          have f4 := (e4.other ne45 0 (.slice oly t.L.length cly)).other ne45 1 (.slice osy t.S.length csy)
          have fx := (ex.blk e5 0 (.slice oly t.L.length cly)).blk (e5.set 0 _) 1 (.slice osy t.S.length csy)
          have fy := (ey.blk e5 0 (.slice oly t.L.length cly)).blk (e5.set 0 _) 1 (.slice osy t.S.length csy)
          simp only [List.setIfInBounds_toArray, List.set_cons_zero, List.set_cons_succ] at f5
          have hz2 : qy ≤ ((Z1.setCell ⟨b5, 0, none⟩ (.slice oly t.L.length cly)).setCell ⟨b5, 1, none⟩ (.slice osy t.S.length csy)).heap.size := by simp; omega
          obtain ⟨Z2, hZ2⟩ : ∃ X, (Z1.setCell ⟨b5, 0, none⟩ (.slice oly t.L.length cly)).setCell ⟨b5, 1, none⟩ (.slice osy t.S.length csy) = X := ⟨_, rfl⟩
          rw [hZ2] at T2 f5 f4 fx fy hz2
          refine wpAnyG_all (rs := [7]) (by kernel_rfl) (by simp) ?_
          intro i hi
          simp only [List.mem_cons, List.not_mem_nil, or_false] at hi
          subst hi
          refine wpOp_now rfl rfl ?_
          go_simp
          try rw [hZ2]
          clear hZ2 v0 v1 v2 v3
          refine ⟨fun _ => T2, ?_⟩
          try simp only [Act.put, List.getElem_toArray, List.getElem_cons_zero, List.getElem_cons_succ, List.setIfInBounds_toArray, List.set_cons_zero, List.set_cons_succ]
          refine wpAnyG_done (by kernel_rfl) ?_ _
          refine NoPanic.normal ?_
          exact ⟨rfl, ((olx, osx, clx, csx, b4), (oly, osy, cly, csy, b5)), by kernel_rfl, ⟨px, qx, py, qy, ⟨by omega, hqx, hqp, hqy, hz2⟩, fx, fy⟩, f4, f5, T2⟩
      · skip
        refine wpOp_now rfl rfl ?_
        go_simp
        have d4 := Blk.new Y1 #[.slice none 0 0, .slice none 0 0] 25
        have l4 := T0.size
        have hAA := (Below.refl Y1.heap.size Y1).alloc (Nat.le_refl _) (.cells #[.slice none 0 0, .slice none 0 0] 25)
        replace T0 := T0.trans (hAA.mono T0.size)
        replace hx := hx.below hAA
        have z4 : Y1.heap.size < (Y1.alloc (.cells #[.slice none 0 0, .slice none 0 0] 25)).heap.size := by simp
        replace hlex : qx ≤ (Y1.alloc (.cells #[.slice none 0 0, .slice none 0 0] 25)).heap.size := by simp; omega
        obtain ⟨b4, hb4⟩ : ∃ b, Y1.heap.size = b := ⟨_, rfl⟩
        obtain ⟨Y4, hVY4⟩ : ∃ X, Y1.alloc (.cells #[.slice none 0 0, .slice none 0 0] 25) = X := ⟨_, rfl⟩
        rw [hVY4] at T0 z4 d4 hx hlex
        rw [hb4] at d4 l4 z4
        try rw [hVY4, hb4]
        try rw [hVY4]
        clear hAA hVY4 hb4
        refine ⟨fun _ => T0, ?_⟩
        try simp only [Act.put, List.getElem_toArray, List.getElem_cons_zero, List.getElem_cons_succ, List.setIfInBounds_toArray, List.set_cons_zero, List.set_cons_succ]
        refine wpAnyG_all (rs := [3, 5]) (by kernel_rfl) (by simp) ?_
        intro i hi
        simp only [List.mem_cons, List.not_mem_nil, or_false] at hi
        rcases hi with rfl | rfl
        · skip
          refine wpOp_now rfl rfl ?_
          go_simp
          refine (copy_any t ol' os' cl' cs' hfl' hfs' hn' hm' _ (HR.out.2.1.below encR_len (by decide) (HB.out.trans (T0.mono HB.out.size))) (HR.out.2.2.below encI_len (by decide) (HB.out.trans (T0.mono HB.out.size)))).mono ?_
          rintro e Y3 ⟨vl, vs, rfl, hO1, hO2, hB⟩
          obtain ⟨oly, osy, cly, csy, rfl, rfl, hy⟩ := OwS.of (t := t) hO1 hO2
          have hpy := T0.size
          have hqy := hB.size
          obtain ⟨py, hpey⟩ : ∃ k, Y4.heap.size = k := ⟨_, rfl⟩
          obtain ⟨qy, hqey⟩ : ∃ k, Y3.heap.size = k := ⟨_, rfl⟩
          have hqp : qx ≤ py := by omega
          rw [hpey, hqey] at hy
          rw [hpey] at hpy
          have hley : qy ≤ Y3.heap.size := by omega
          rw [hpey, hqey] at hqy
          replace T0 := T0.trans (hB.mono T0.size)
          replace hx := hx.below hB
          replace d4 := d4.below' hB
          clear hB hO1 hO2 hpey hqey
          refine ⟨fun _ => T0, ?_⟩
          try simp only [Act.put, List.getElem_toArray, List.getElem_cons_zero, List.getElem_cons_succ, List.setIfInBounds_toArray, List.set_cons_zero, List.set_cons_succ]
          refine wpAnyG_all (rs := [5]) (by kernel_rfl) (by simp) ?_
          intro i hi
          simp only [List.mem_cons, List.not_mem_nil, or_false] at hi
          subst hi
          refine wpOp_now rfl rfl ?_
          go_simp
          have d5 := Blk.new Y3 #[.slice none 0 0, .slice none 0 0] 25
          have l5 := T0.size
          have lt5 : b4 < Y3.heap.size := d4.lt
          have hAA := (Below.refl Y3.heap.size Y3).alloc (Nat.le_refl _) (.cells #[.slice none 0 0, .slice none 0 0] 25)
          replace T0 := T0.trans (hAA.mono T0.size)
          replace hx := hx.below hAA
          replace hy := hy.below hAA
          replace d4 := d4.below' hAA
          have z5 : Y3.heap.size < (Y3.alloc (.cells #[.slice none 0 0, .slice none 0 0] 25)).heap.size := by simp
          replace hley : qy ≤ (Y3.alloc (.cells #[.slice none 0 0, .slice none 0 0] 25)).heap.size := by simp; omega
          obtain ⟨b5, hb5⟩ : ∃ b, Y3.heap.size = b := ⟨_, rfl⟩
          obtain ⟨Y5, hVY5⟩ : ∃ X, Y3.alloc (.cells #[.slice none 0 0, .slice none 0 0] 25) = X := ⟨_, rfl⟩
          rw [hVY5] at T0 z5 d5 hx hy d4 hley
          rw [hb5] at d5 l5 z5 lt5
          try rw [hVY5, hb5]
          try rw [hVY5]
          clear hAA hVY5 hb5
          refine ⟨fun _ => T0, ?_⟩
          try simp only [Act.put, List.getElem_toArray, List.getElem_cons_zero, List.getElem_cons_succ, List.setIfInBounds_toArray, List.set_cons_zero, List.set_cons_succ]
          have ne45 : b4 ≠ b5 := by omega
          have u0 := d4.cell 0
          have u1 := d4.cell 1
          have u2 := d4.frozen 0
          have u3 := d4.frozen 1
          have v0 := d5.cell 0
          have v1 := d5.cell 1
          have v2 := d5.frozen 0
          have v3 := d5.frozen 1
          simp only [List.getElem?_toArray, List.getElem?_cons_succ, List.getElem?_cons_zero] at u0 u1 v0 v1
          have T1 := (T0.setCell (p := ⟨b4, 0, none⟩) l4 (.slice olx s.L.length clx)).setCell (p := ⟨b4, 1, none⟩) l4 (.slice osx s.S.length csx)
          have e4 := (d4.set 0 (.slice olx s.L.length clx)).set 1 (.slice osx s.S.length csx)
          have e5 := (d5.other ne45.symm 0 (.slice olx s.L.length clx)).other ne45.symm 1 (.slice osx s.S.length csx)
          have ex := (hx.blk d4 0 (.slice olx s.L.length clx)).blk (d4.set 0 _) 1 (.slice osx s.S.length csx)
          have ey := (hy.blk d4 0 (.slice olx s.L.length clx)).blk (d4.set 0 _) 1 (.slice osx s.S.length csx)
          simp only [List.setIfInBounds_toArray, List.set_cons_zero, List.set_cons_succ] at e4
          have hz1 : qy ≤ ((Y5.setCell ⟨b4, 0, none⟩ (.slice olx s.L.length clx)).setCell ⟨b4, 1, none⟩ (.slice osx s.S.length csx)).heap.size := by simp; omega
          obtain ⟨Z1, hZ1⟩ : ∃ X, (Y5.setCell ⟨b4, 0, none⟩ (.slice olx s.L.length clx)).setCell ⟨b4, 1, none⟩ (.slice osx s.S.length csx) = X := ⟨_, rfl⟩
          rw [hZ1] at T1 e4 e5 ex ey hz1
          refine wpAnyG_all (rs := [6]) (by kernel_rfl) (by simp) ?_
          intro i hi
          simp only [List.mem_cons, List.not_mem_nil, or_false] at hi
          subst hi
          refine wpOp_now rfl rfl ?_
          go_simp
          try rw [hZ1]
          clear hZ1 u0 u1 u2 u3 v0 v1 v2 v3
          refine ⟨fun _ => T1, ?_⟩
          try simp only [Act.put, List.getElem_toArray, List.getElem_cons_zero, List.getElem_cons_succ, List.setIfInBounds_toArray, List.set_cons_zero, List.set_cons_succ]
          have v0 := e5.cell 0
          have v1 := e5.cell 1
          have v2 := e5.frozen 0
          have v3 := e5.frozen 1
          simp only [List.getElem?_toArray, List.getElem?_cons_succ, List.getElem?_cons_zero] at v0 v1
          have T2 := (T1.setCell (p := ⟨b5, 0, none⟩) l5 (.slice oly t.L.length cly)).setCell (p := ⟨b5, 1, none⟩) l5 (.slice osy t.S.length csy)
          have f5 := (e5.set 0 (.slice oly t.L.length cly)).set 1 (.slice osy t.S.length csy)
          have f4 := (e4.other ne45 0 (.slice oly t.L.length cly)).other ne45 1 (.slice osy t.S.length csy)
          have fx := (ex.blk e5 0 (.slice oly t.L.length cly)).blk (e5.set 0 _) 1 (.slice osy t.S.length csy)
          have fy := (ey.blk e5 0 (.slice oly t.L.length cly)).blk (e5.set 0 _) 1 (.slice osy t.S.length csy)
          simp only [List.setIfInBounds_toArray, List.set_cons_zero, List.set_cons_succ] at f5
          have hz2 : qy ≤ ((Z1.setCell ⟨b5, 0, none⟩ (.slice oly t.L.length cly)).setCell ⟨b5, 1, none⟩ (.slice osy t.S.length csy)).heap.size := by simp; omega
          obtain ⟨Z2, hZ2⟩ : ∃ X, (Z1.setCell ⟨b5, 0, none⟩ (.slice oly t.L.length cly)).setCell ⟨b5, 1, none⟩ (.slice osy t.S.length csy) = X := ⟨_, rfl⟩
          rw [hZ2] at T2 f5 f4 fx fy hz2
          refine wpAnyG_all (rs := [7]) (by kernel_rfl) (by simp) ?_
          intro i hi
          simp only [List.mem_cons, List.not_mem_nil, or_false] at hi
          subst hi
          refine wpOp_now rfl rfl ?_
          go_simp
          try rw [hZ2]
          clear hZ2 v0 v1 v2 v3
          refine ⟨fun _ => T2, ?_⟩
          try simp only [Act.put, List.getElem_toArray, List.getElem_cons_zero, List.getElem_cons_succ, List.setIfInBounds_toArray, List.set_cons_zero, List.set_cons_succ]
          refine wpAnyG_done (by kernel_rfl) ?_ _
          refine NoPanic.normal ?_
          exact ⟨rfl, ((olx, osx, clx, csx, b4), (oly, osy, cly, csy, b5)), by kernel_rfl, ⟨px, qx, py, qy, ⟨by omega, hqx, hqp, hqy, hz2⟩, fx, fy⟩, f4, f5, T2⟩
        · skip
          refine wpOp_now rfl rfl ?_
          go_simp
          have d5 := Blk.new Y4 #[.slice none 0 0, .slice none 0 0] 25
          have l5 := T0.size
          have lt5 : b4 < Y4.heap.size := d4.lt
          have hAA := (Below.refl Y4.heap.size Y4).alloc (Nat.le_refl _) (.cells #[.slice none 0 0, .slice none 0 0] 25)
          replace T0 := T0.trans (hAA.mono T0.size)
          replace hx := hx.below hAA
          replace d4 := d4.below' hAA
          have z5 : Y4.heap.size < (Y4.alloc (.cells #[.slice none 0 0, .slice none 0 0] 25)).heap.size := by simp
          replace hlex : qx ≤ (Y4.alloc (.cells #[.slice none 0 0, .slice none 0 0] 25)).heap.size := by simp; omega
          obtain ⟨b5, hb5⟩ : ∃ b, Y4.heap.size = b := ⟨_, rfl⟩
          obtain ⟨Y5, hVY5⟩ : ∃ X, Y4.alloc (.cells #[.slice none 0 0, .slice none 0 0] 25) = X := ⟨_, rfl⟩
          rw [hVY5] at T0 z5 d5 hx d4 hlex
          rw [hb5] at d5 l5 z5 lt5
          try rw [hVY5, hb5]
          try rw [hVY5]
          clear hAA hVY5 hb5
          refine ⟨fun _ => T0, ?_⟩
          try simp only [Act.put, List.getElem_toArray, List.getElem_cons_zero, List.getElem_cons_succ, List.setIfInBounds_toArray, List.set_cons_zero, List.set_cons_succ]
          refine wpAnyG_all (rs := [3]) (by kernel_rfl) (by simp) ?_
          intro i hi
          simp only [List.mem_cons, List.not_mem_nil, or_false] at hi
          subst hi
          refine wpOp_now rfl rfl ?_
          go_simp
          refine (copy_any t ol' os' cl' cs' hfl' hfs' hn' hm' _ (HR.out.2.1.below encR_len (by decide) (HB.out.trans (T0.mono HB.out.size))) (HR.out.2.2.below encI_len (by decide) (HB.out.trans (T0.mono HB.out.size)))).mono ?_
          rintro e Y3 ⟨vl, vs, rfl, hO1, hO2, hB⟩
          obtain ⟨oly, osy, cly, csy, rfl, rfl, hy⟩ := OwS.of (t := t) hO1 hO2
          have hpy := T0.size
          have hqy := hB.size
          obtain ⟨py, hpey⟩ : ∃ k, Y5.heap.size = k := ⟨_, rfl⟩
          obtain ⟨qy, hqey⟩ : ∃ k, Y3.heap.size = k := ⟨_, rfl⟩
          have hqp : qx ≤ py := by omega
          rw [hpey, hqey] at hy
          rw [hpey] at hpy
          have hley : qy ≤ Y3.heap.size := by omega
          rw [hpey, hqey] at hqy
          replace T0 := T0.trans (hB.mono T0.size)
          replace hx := hx.below hB
          replace d4 := d4.below' hB
          replace d5 := d5.below' hB
          clear hB hO1 hO2 hpey hqey
          refine ⟨fun _ => T0, ?_⟩
          try simp only [Act.put, List.getElem_toArray, List.getElem_cons_zero, List.getElem_cons_succ, List.setIfInBounds_toArray, List.set_cons_zero, List.set_cons_succ]
          have ne45 : b4 ≠ b5 := by omega
          have u0 := d4.cell 0
          have u1 := d4.cell 1
          have u2 := d4.frozen 0
          have u3 := d4.frozen 1
          have v0 := d5.cell 0
          have v1 := d5.cell 1
          have v2 := d5.frozen 0
          have v3 := d5.frozen 1
          simp only [List.getElem?_toArray, List.getElem?_cons_succ, List.getElem?_cons_zero] at u0 u1 v0 v1
          have T1 := (T0.setCell (p := ⟨b4, 0, none⟩) l4 (.slice olx s.L.length clx)).setCell (p := ⟨b4, 1, none⟩) l4 (.slice osx s.S.length csx)
          have e4 := (d4.set 0 (.slice olx s.L.length clx)).set 1 (.slice osx s.S.length csx)
          have e5 := (d5.other ne45.symm 0 (.slice olx s.L.length clx)).other ne45.symm 1 (.slice osx s.S.length csx)
          have ex := (hx.blk d4 0 (.slice olx s.L.length clx)).blk (d4.set 0 _) 1 (.slice osx s.S.length csx)
          have ey := (hy.blk d4 0 (.slice olx s.L.length clx)).blk (d4.set 0 _) 1 (.slice osx s.S.length csx)
          simp only [List.setIfInBounds_toArray, List.set_cons_zero, List.set_cons_succ] at e4
          have hz1 : qy ≤ ((Y3.setCell ⟨b4, 0, none⟩ (.slice olx s.L.length clx)).setCell ⟨b4, 1, none⟩ (.slice osx s.S.length csx)).heap.size := by simp; omega
          obtain ⟨Z1, hZ1⟩ : ∃ X, (Y3.setCell ⟨b4, 0, none⟩ (.slice olx s.L.length clx)).setCell ⟨b4, 1, none⟩ (.slice osx s.S.length csx) = X := ⟨_, rfl⟩
          rw [hZ1] at T1 e4 e5 ex ey hz1
          refine wpAnyG_all (rs := [6]) (by kernel_rfl) (by simp) ?_
          intro i hi
          simp only [List.mem_cons, List.not_mem_nil, or_false] at hi
          subst hi
          refine wpOp_now rfl rfl ?_
          go_simp
          try rw [hZ1]
          clear hZ1 u0 u1 u2 u3 v0 v1 v2 v3
          refine ⟨fun _ => T1, ?_⟩
          try simp only [Act.put, List.getElem_toArray, List.getElem_cons_zero, List.getElem_cons_succ, List.setIfInBounds_toArray, List.set_cons_zero, List.set_cons_succ]
          have v0 := e5.cell 0
          have v1 := e5.cell 1
          have v2 := e5.frozen 0
          have v3 := e5.frozen 1
          simp only [List.getElem?_toArray, List.getElem?_cons_succ, List.getElem?_cons_zero] at v0 v1
          have T2 := (T1.setCell (p := ⟨b5, 0, none⟩) l5 (.slice oly t.L.length cly)).setCell (p := ⟨b5, 1, none⟩) l5 (.slice osy t.S.length csy)
          have f5 := (e5.set 0 (.slice oly t.L.length cly)).set 1 (.slice osy t.S.length csy)
          have f4 := (e4.other ne45 0 (.slice oly t.L.length cly)).other ne45 1 (.slice osy t.S.length csy)
          have fx := (ex.blk e5 0 (.slice oly t.L.length cly)).blk (e5.set 0 _) 1 (.slice osy t.S.length csy)
          have fy := (ey.blk e5 0 (.slice oly t.L.length cly)).blk (e5.set 0 _) 1 (.slice osy t.S.length csy)
          simp only [List.setIfInBounds_toArray, List.set_cons_zero, List.set_cons_succ] at f5
          have hz2 : qy ≤ ((Z1.setCell ⟨b5, 0, none⟩ (.slice oly t.L.length cly)).setCell ⟨b5, 1, none⟩ (.slice osy t.S.length csy)).heap.size := by simp; omega
          obtain ⟨Z2, hZ2⟩ : ∃ X, (Z1.setCell ⟨b5, 0, none⟩ (.slice oly t.L.length cly)).setCell ⟨b5, 1, none⟩ (.slice osy t.S.length csy) = X := ⟨_, rfl⟩
          rw [hZ2] at T2 f5 f4 fx fy hz2
          refine wpAnyG_all (rs := [7]) (by kernel_rfl) (by simp) ?_
          intro i hi
          simp only [List.mem_cons, List.not_mem_nil, or_false] at hi
          subst hi
          refine wpOp_now rfl rfl ?_
          go_simp
          try rw [hZ2]
          clear hZ2 v0 v1 v2 v3
          refine ⟨fun _ => T2, ?_⟩
          try simp only [Act.put, List.getElem_toArray, List.getElem_cons_zero, List.getElem_cons_succ, List.setIfInBounds_toArray, List.set_cons_zero, List.set_cons_succ]
          refine wpAnyG_done (by kernel_rfl) ?_ _
          refine NoPanic.normal ?_
          exact ⟨rfl, ((olx, osx, clx, csx, b4), (oly, osy, cly, csy, b5)), by kernel_rfl, ⟨px, qx, py, qy, ⟨by omega, hqx, hqp, hqy, hz2⟩, fx, fy⟩, f4, f5, T2⟩
      · skip
        refine wpOp_now rfl rfl ?_
        go_simp
        have d5 := Blk.new Y1 #[.slice none 0 0, .slice none 0 0] 25
        have l5 := T0.size
        have hAA := (Below.refl Y1.heap.size Y1).alloc (Nat.le_refl _) (.cells #[.slice none 0 0, .slice none 0 0] 25)
        replace T0 := T0.trans (hAA.mono T0.size)
        replace hx := hx.below hAA
        have z5 : Y1.heap.size < (Y1.alloc (.cells #[.slice none 0 0, .slice none 0 0] 25)).heap.size := by simp
        replace hlex : qx ≤ (Y1.alloc (.cells #[.slice none 0 0, .slice none 0 0] 25)).heap.size := by simp; omega
        obtain ⟨b5, hb5⟩ : ∃ b, Y1.heap.size = b := ⟨_, rfl⟩
        obtain ⟨Y5, hVY5⟩ : ∃ X, Y1.alloc (.cells #[.slice none 0 0, .slice none 0 0] 25) = X := ⟨_, rfl⟩
        rw [hVY5] at T0 z5 d5 hx hlex
        rw [hb5] at d5 l5 z5
        try rw [hVY5, hb5]
        try rw [hVY5]
        clear hAA hVY5 hb5
        refine ⟨fun _ => T0, ?_⟩
        try simp only [Act.put, List.getElem_toArray, List.getElem_cons_zero, List.getElem_cons_succ, List.setIfInBounds_toArray, List.set_cons_zero, List.set_cons_succ]
        refine wpAnyG_all (rs := [3, 4]) (by kernel_rfl) (by simp) ?_
        intro i hi
        simp only [List.mem_cons, List.not_mem_nil, or_false] at hi
        rcases hi with rfl | rfl
        · skip
          refine wpOp_now rfl rfl ?_
          go_simp
          refine (copy_any t ol' os' cl' cs' hfl' hfs' hn' hm' _ (HR.out.2.1.below encR_len (by decide) (HB.out.trans (T0.mono HB.out.size))) (HR.out.2.2.below encI_len (by decide) (HB.out.trans (T0.mono HB.out.size)))).mono ?_
          rintro e Y3 ⟨vl, vs, rfl, hO1, hO2, hB⟩
          obtain ⟨oly, osy, cly, csy, rfl, rfl, hy⟩ := OwS.of (t := t) hO1 hO2
          have hpy := T0.size
          have hqy := hB.size
          obtain ⟨py, hpey⟩ : ∃ k, Y5.heap.size = k := ⟨_, rfl⟩
          obtain ⟨qy, hqey⟩ : ∃ k, Y3.heap.size = k := ⟨_, rfl⟩
          have hqp : qx ≤ py := by omega
          rw [hpey, hqey] at hy
          rw [hpey] at hpy
          have hley : qy ≤ Y3.heap.size := by omega
          rw [hpey, hqey] at hqy
          replace T0 := T0.trans (hB.mono T0.size)
          replace hx := hx.below hB
          replace d5 := d5.below' hB
          clear hB hO1 hO2 hpey hqey
          refine ⟨fun _ => T0, ?_⟩
          try simp only [Act.put, List.getElem_toArray, List.getElem_cons_zero, List.getElem_cons_succ, List.setIfInBounds_toArray, List.set_cons_zero, List.set_cons_succ]
          refine wpAnyG_all (rs := [4]) (by kernel_rfl) (by simp) ?_
          intro i hi
          simp only [List.mem_cons, List.not_mem_nil, or_false] at hi
          subst hi
          refine wpOp_now rfl rfl ?_
          go_simp
          have d4 := Blk.new Y3 #[.slice none 0 0, .slice none 0 0] 25
          have l4 := T0.size
          have lt4 : b5 < Y3.heap.size := d5.lt
          have hAA := (Below.refl Y3.heap.size Y3).alloc (Nat.le_refl _) (.cells #[.slice none 0 0, .slice none 0 0] 25)
          replace T0 := T0.trans (hAA.mono T0.size)
          replace hx := hx.below hAA
          replace hy := hy.below hAA
          replace d5 := d5.below' hAA
          have z4 : Y3.heap.size < (Y3.alloc (.cells #[.slice none 0 0, .slice none 0 0] 25)).heap.size := by simp
          replace hley : qy ≤ (Y3.alloc (.cells #[.slice none 0 0, .slice none 0 0] 25)).heap.size := by simp; omega
          obtain ⟨b4, hb4⟩ : ∃ b, Y3.heap.size = b := ⟨_, rfl⟩
          obtain ⟨Y4, hVY4⟩ : ∃ X, Y3.alloc (.cells #[.slice none 0 0, .slice none 0 0] 25) = X := ⟨_, rfl⟩
          rw [hVY4] at T0 z4 d4 hx hy d5 hley
          rw [hb4] at d4 l4 z4 lt4
          try rw [hVY4, hb4]
          try rw [hVY4]
          clear hAA hVY4 hb4
          refine ⟨fun _ => T0, ?_⟩
          try simp only [Act.put, List.getElem_toArray, List.getElem_cons_zero, List.getElem_cons_succ, List.setIfInBounds_toArray, List.set_cons_zero, List.set_cons_succ]
          have ne45 : b4 ≠ b5 := by omega
          have u0 := d4.cell 0
          have u1 := d4.cell 1
          have u2 := d4.frozen 0
          have u3 := d4.frozen 1
          have v0 := d5.cell 0
          have v1 := d5.cell 1
          have v2 := d5.frozen 0
          have v3 := d5.frozen 1
          simp only [List.getElem?_toArray, List.getElem?_cons_succ, List.getElem?_cons_zero] at u0 u1 v0 v1
          have T1 := (T0.setCell (p := ⟨b4, 0, none⟩) l4 (.slice olx s.L.length clx)).setCell (p := ⟨b4, 1, none⟩) l4 (.slice osx s.S.length csx)
          have e4 := (d4.set 0 (.slice olx s.L.length clx)).set 1 (.slice osx s.S.length csx)
          have e5 := (d5.other ne45.symm 0 (.slice olx s.L.length clx)).other ne45.symm 1 (.slice osx s.S.length csx)
          have ex := (hx.blk d4 0 (.slice olx s.L.length clx)).blk (d4.set 0 _) 1 (.slice osx s.S.length csx)
          have ey := (hy.blk d4 0 (.slice olx s.L.length clx)).blk (d4.set 0 _) 1 (.slice osx s.S.length csx)
          simp only [List.setIfInBounds_toArray, List.set_cons_zero, List.set_cons_succ] at e4
          have hz1 : qy ≤ ((Y4.setCell ⟨b4, 0, none⟩ (.slice olx s.L.length clx)).setCell ⟨b4, 1, none⟩ (.slice osx s.S.length csx)).heap.size := by simp; omega
          obtain ⟨Z1, hZ1⟩ : ∃ X, (Y4.setCell ⟨b4, 0, none⟩ (.slice olx s.L.length clx)).setCell ⟨b4, 1, none⟩ (.slice osx s.S.length csx) = X := ⟨_, rfl⟩
          rw [hZ1] at T1 e4 e5 ex ey hz1
          refine wpAnyG_all (rs := [6]) (by kernel_rfl) (by simp) ?_
          intro i hi
          simp only [List.mem_cons, List.not_mem_nil, or_false] at hi
          subst hi
          refine wpOp_now rfl rfl ?_
          go_simp
          try rw [hZ1]
          clear hZ1 u0 u1 u2 u3 v0 v1 v2 v3
          refine ⟨fun _ => T1, ?_⟩
          try simp only [Act.put, List.getElem_toArray, List.getElem_cons_zero, List.getElem_cons_succ, List.setIfInBounds_toArray, List.set_cons_zero, List.set_cons_succ]
          have v0 := e5.cell 0
          have v1 := e5.cell 1
          have v2 := e5.frozen 0
          have v3 := e5.frozen 1
          simp only [List.getElem?_toArray, List.getElem?_cons_succ, List.getElem?_cons_zero] at v0 v1
          have T2 := (T1.setCell (p := ⟨b5, 0, none⟩) l5 (.slice oly t.L.length cly)).setCell (p := ⟨b5, 1, none⟩) l5 (.slice osy t.S.length csy)
          have f5 := (e5.set 0 (.slice oly t.L.length cly)).set 1 (.slice osy t.S.length csy)
          have f4 := (e4.other ne45 0 (.slice oly t.L.length cly)).other ne45 1 (.slice osy t.S.length csy)
          have fx := (ex.blk e5 0 (.slice oly t.L.length cly)).blk (e5.set 0 _) 1 (.slice osy t.S.length csy)
          have fy := (ey.blk e5 0 (.slice oly t.L.length cly)).blk (e5.set 0 _) 1 (.slice osy t.S.length csy)
          simp only [List.setIfInBounds_toArray, List.set_cons_zero, List.set_cons_succ] at f5
          have hz2 : qy ≤ ((Z1.setCell ⟨b5, 0, none⟩ (.slice oly t.L.length cly)).setCell ⟨b5, 1, none⟩ (.slice osy t.S.length csy)).heap.size := by simp; omega
          obtain ⟨Z2, hZ2⟩ : ∃ X, (Z1.setCell ⟨b5, 0, none⟩ (.slice oly t.L.length cly)).setCell ⟨b5, 1, none⟩ (.slice osy t.S.length csy) = X := ⟨_, rfl⟩
          rw [hZ2] at T2 f5 f4 fx fy hz2
          refine wpAnyG_all (rs := [7]) (by kernel_rfl) (by simp) ?_
          intro i hi
          simp only [List.mem_cons, List.not_mem_nil, or_false] at hi
          subst hi
          refine wpOp_now rfl rfl ?_
          go_simp
          try rw [hZ2]
          clear hZ2 v0 v1 v2 v3
          refine ⟨fun _ => T2, ?_⟩
          try simp only [Act.put, List.getElem_toArray, List.getElem_cons_zero, List.getElem_cons_succ, List.setIfInBounds_toArray, List.set_cons_zero, List.set_cons_succ]
          refine wpAnyG_done (by kernel_rfl) ?_ _
          refine NoPanic.normal ?_
          exact ⟨rfl, ((olx, osx, clx, csx, b4), (oly, osy, cly, csy, b5)), by kernel_rfl, ⟨px, qx, py, qy, ⟨by omega, hqx, hqp, hqy, hz2⟩, fx, fy⟩, f4, f5, T2⟩
        · skip
          refine wpOp_now rfl rfl ?_
          go_simp
          have d4 := Blk.new Y5 #[.slice none 0 0, .slice none 0 0] 25
          have l4 := T0.size
          have lt4 : b5 < Y5.heap.size := d5.lt
          have hAA := (Below.refl Y5.heap.size Y5).alloc (Nat.le_refl _) (.cells #[.slice none 0 0, .slice none 0 0] 25)
          replace T0 := T0.trans (hAA.mono T0.size)
          replace hx := hx.below hAA
          replace d5 := d5.below' hAA
          have z4 : Y5.heap.size < (Y5.alloc (.cells #[.slice none 0 0, .slice none 0 0] 25)).heap.size := by simp
          replace hlex : qx ≤ (Y5.alloc (.cells #[.slice none 0 0, .slice none 0 0] 25)).heap.size := by simp; omega
          obtain ⟨b4, hb4⟩ : ∃ b, Y5.heap.size = b := ⟨_, rfl⟩
          obtain ⟨Y4, hVY4⟩ : ∃ X, Y5.alloc (.cells #[.slice none 0 0, .slice none 0 0] 25) = X := ⟨_, rfl⟩
          rw [hVY4] at T0 z4 d4 hx d5 hlex
          rw [hb4] at d4 l4 z4 lt4
          try rw [hVY4, hb4]
          try rw [hVY4]
          clear hAA hVY4 hb4
          refine ⟨fun _ => T0, ?_⟩
          try simp only [Act.put, List.getElem_toArray, List.getElem_cons_zero, List.getElem_cons_succ, List.setIfInBounds_toArray, List.set_cons_zero, List.set_cons_succ]
          refine wpAnyG_all (rs := [3]) (by kernel_rfl) (by simp) ?_
          intro i hi
          simp only [List.mem_cons, List.not_mem_nil, or_false] at hi
          subst hi
          refine wpOp_now rfl rfl ?_
          go_simp
          refine (copy_any t ol' os' cl' cs' hfl' hfs' hn' hm' _ (HR.out.2.1.below encR_len (by decide) (HB.out.trans (T0.mono HB.out.size))) (HR.out.2.2.below encI_len (by decide) (HB.out.trans (T0.mono HB.out.size)))).mono ?_
          rintro e Y3 ⟨vl, vs, rfl, hO1, hO2, hB⟩
          obtain ⟨oly, osy, cly, csy, rfl, rfl, hy⟩ := OwS.of (t := t) hO1 hO2
          have hpy := T0.size
          have hqy := hB.size
          obtain ⟨py, hpey⟩ : ∃ k, Y4.heap.size = k := ⟨_, rfl⟩
          obtain ⟨qy, hqey⟩ : ∃ k, Y3.heap.size = k := ⟨_, rfl⟩
          have hqp : qx ≤ py := by omega
          rw [hpey, hqey] at hy
          rw [hpey] at hpy
          have hley : qy ≤ Y3.heap.size := by omega
          rw [hpey, hqey] at hqy
          replace T0 := T0.trans (hB.mono T0.size)
          replace hx := hx.below hB
          replace d4 := d4.below' hB
          replace d5 := d5.below' hB
          clear hB hO1 hO2 hpey hqey
          refine ⟨fun _ => T0, ?_⟩
          try simp only [Act.put, List.getElem_toArray, List.getElem_cons_zero, List.getElem_cons_succ, List.setIfInBounds_toArray, List.set_cons_zero, List.set_cons_succ]
          have ne45 : b4 ≠ b5 := by omega
          have u0 := d4.cell 0
          have u1 := d4.cell 1
          have u2 := d4.frozen 0
          have u3 := d4.frozen 1
          have v0 := d5.cell 0
          have v1 := d5.cell 1
          have v2 := d5.frozen 0
          have v3 := d5.frozen 1
          simp only [List.getElem?_toArray, List.getElem?_cons_succ, List.getElem?_cons_zero] at u0 u1 v0 v1
          have T1 := (T0.setCell (p := ⟨b4, 0, none⟩) l4 (.slice olx s.L.length clx)).setCell (p := ⟨b4, 1, none⟩) l4 (.slice osx s.S.length csx)
          have e4 := (d4.set 0 (.slice olx s.L.length clx)).set 1 (.slice osx s.S.length csx)
          have e5 := (d5.other ne45.symm 0 (.slice olx s.L.length clx)).other ne45.symm 1 (.slice osx s.S.length csx)
          have ex := (hx.blk d4 0 (.slice olx s.L.length clx)).blk (d4.set 0 _) 1 (.slice osx s.S.length csx)
          have ey := (hy.blk d4 0 (.slice olx s.L.length clx)).blk (d4.set 0 _) 1 (.slice osx s.S.length csx)
          simp only [List.setIfInBounds_toArray, List.set_cons_zero, List.set_cons_succ] at e4
          have hz1 : qy ≤ ((Y3.setCell ⟨b4, 0, none⟩ (.slice olx s.L.length clx)).setCell ⟨b4, 1, none⟩ (.slice osx s.S.length csx)).heap.size := by simp; omega
          obtain ⟨Z1, hZ1⟩ : ∃ X, (Y3.setCell ⟨b4, 0, none⟩ (.slice olx s.L.length clx)).setCell ⟨b4, 1, none⟩ (.slice osx s.S.length csx) = X := ⟨_, rfl⟩
          rw [hZ1] at T1 e4 e5 ex ey hz1
          refine wpAnyG_all (rs := [6]) (by kernel_rfl) (by simp) ?_
          intro i hi
          simp only [List.mem_cons, List.not_mem_nil, or_false] at hi
          subst hi
          refine wpOp_now rfl rfl ?_
          go_simp
          try rw [hZ1]
          clear hZ1 u0 u1 u2 u3 v0 v1 v2 v3
          refine ⟨fun _ => T1, ?_⟩
          try simp only [Act.put, List.getElem_toArray, List.getElem_cons_zero, List.getElem_cons_succ, List.setIfInBounds_toArray, List.set_cons_zero, List.set_cons_succ]
          have v0 := e5.cell 0
          have v1 := e5.cell 1
          have v2 := e5.frozen 0
          have v3 := e5.frozen 1
          simp only [List.getElem?_toArray, List.getElem?_cons_succ, List.getElem?_cons_zero] at v0 v1
          have T2 := (T1.setCell (p := ⟨b5, 0, none⟩) l5 (.slice oly t.L.length cly)).setCell (p := ⟨b5, 1, none⟩) l5 (.slice osy t.S.length csy)
          have f5 := (e5.set 0 (.slice oly t.L.length cly)).set 1 (.slice osy t.S.length csy)
          have f4 := (e4.other ne45 0 (.slice oly t.L.length cly)).other ne45 1 (.slice osy t.S.length csy)
          have fx := (ex.blk e5 0 (.slice oly t.L.length cly)).blk (e5.set 0 _) 1 (.slice osy t.S.length csy)
          have fy := (ey.blk e5 0 (.slice oly t.L.length cly)).blk (e5.set 0 _) 1 (.slice osy t.S.length csy)
          simp only [List.setIfInBounds_toArray, List.set_cons_zero, List.set_cons_succ] at f5
          have hz2 : qy ≤ ((Z1.setCell ⟨b5, 0, none⟩ (.slice oly t.L.length cly)).setCell ⟨b5, 1, none⟩ (.slice osy t.S.length csy)).heap.size := by simp; omega
          obtain ⟨Z2, hZ2⟩ : ∃ X, (Z1.setCell ⟨b5, 0, none⟩ (.slice oly t.L.length cly)).setCell ⟨b5, 1, none⟩ (.slice osy t.S.length csy) = X := ⟨_, rfl⟩
          rw [hZ2] at T2 f5 f4 fx fy hz2
          refine wpAnyG_all (rs := [7]) (by kernel_rfl) (by simp) ?_
          intro i hi
          simp only [List.mem_cons, List.not_mem_nil, or_false] at hi
          subst hi
          refine wpOp_now rfl rfl ?_
          go_simp
          try rw [hZ2]
          clear hZ2 v0 v1 v2 v3
          refine ⟨fun _ => T2, ?_⟩
          try simp only [Act.put, List.getElem_toArray, List.getElem_cons_zero, List.getElem_cons_succ, List.setIfInBounds_toArray, List.set_cons_zero, List.set_cons_succ]
          refine wpAnyG_done (by kernel_rfl) ?_ _
          refine NoPanic.normal ?_
          exact ⟨rfl, ((olx, osx, clx, csx, b4), (oly, osy, cly, csy, b5)), by kernel_rfl, ⟨px, qx, py, qy, ⟨by omega, hqx, hqp, hqy, hz2⟩, fx, fy⟩, f4, f5, T2⟩
    · skip
      refine wpOp_now rfl rfl ?_
      go_simp
      have d4 := Blk.new X0 #[.slice none 0 0, .slice none 0 0] 25
      have l4 := T0.size
      have hAA := (Below.refl X0.heap.size X0).alloc (Nat.le_refl _) (.cells #[.slice none 0 0, .slice none 0 0] 25)
      replace T0 := T0.trans (hAA.mono T0.size)
      have z4 : X0.heap.size < (X0.alloc (.cells #[.slice none 0 0, .slice none 0 0] 25)).heap.size := by simp
      obtain ⟨b4, hb4⟩ : ∃ b, X0.heap.size = b := ⟨_, rfl⟩
      obtain ⟨Y4, hVY4⟩ : ∃ X, X0.alloc (.cells #[.slice none 0 0, .slice none 0 0] 25) = X := ⟨_, rfl⟩
      rw [hVY4] at T0 z4 d4 
      rw [hb4] at d4 l4 z4
      try rw [hVY4, hb4]
      try rw [hVY4]
      clear hAA hVY4 hb4
      refine ⟨fun _ => T0, ?_⟩
      try simp only [Act.put, List.getElem_toArray, List.getElem_cons_zero, List.getElem_cons_succ, List.setIfInBounds_toArray, List.set_cons_zero, List.set_cons_succ]
      refine wpAnyG_all (rs := [1, 5]) (by kernel_rfl) (by simp) ?_
      intro i hi
      simp only [List.mem_cons, List.not_mem_nil, or_false] at hi
      rcases hi with rfl | rfl
      · skip
        refine wpOp_now rfl rfl ?_
        go_simp
        refine (copy_any s ol os cl cs hfl hfs hn hm _ (HR.out.1.1.below encR_len (by decide) (HB.out.trans (T0.mono HB.out.size))) (HR.out.1.2.below encI_len (by decide) (HB.out.trans (T0.mono HB.out.size)))).mono ?_
        rintro e Y1 ⟨vl, vs, rfl, hO1, hO2, hB⟩
        obtain ⟨olx, osx, clx, csx, rfl, rfl, hx⟩ := OwS.of (t := s) hO1 hO2
        have hpx := T0.size
        have hqx := hB.size
        obtain ⟨px, hpex⟩ : ∃ k, Y4.heap.size = k := ⟨_, rfl⟩
        obtain ⟨qx, hqex⟩ : ∃ k, Y1.heap.size = k := ⟨_, rfl⟩
        rw [hpex, hqex] at hx
        rw [hpex] at hpx
        have hlex : qx ≤ Y1.heap.size := by omega
        rw [hpex, hqex] at hqx
        replace T0 := T0.trans (hB.mono T0.size)
        replace d4 := d4.below' hB
        clear hB hO1 hO2 hpex hqex
        refine ⟨fun _ => T0, ?_⟩
        try simp only [Act.put, List.getElem_toArray, List.getElem_cons_zero, List.getElem_cons_succ, List.setIfInBounds_toArray, List.set_cons_zero, List.set_cons_succ]
        refine wpAnyG_all (rs := [3, 5]) (by kernel_rfl) (by simp) ?_
        intro i hi
        simp only [List.mem_cons, List.not_mem_nil, or_false] at hi
        rcases hi with rfl | rfl
        · skip
          refine wpOp_now rfl rfl ?_
          go_simp
          refine (copy_any t ol' os' cl' cs' hfl' hfs' hn' hm' _ (HR.out.2.1.below encR_len (by decide) (HB.out.trans (T0.mono HB.out.size))) (HR.out.2.2.below encI_len (by decide) (HB.out.trans (T0.mono HB.out.size)))).mono ?_
          rintro e Y3 ⟨vl, vs, rfl, hO1, hO2, hB⟩
          obtain ⟨oly, osy, cly, csy, rfl, rfl, hy⟩ := OwS.of (t := t) hO1 hO2
          have hpy := T0.size
          have hqy := hB.size
          obtain ⟨py, hpey⟩ : ∃ k, Y1.heap.size = k := ⟨_, rfl⟩
          obtain ⟨qy, hqey⟩ : ∃ k, Y3.heap.size = k := ⟨_, rfl⟩
          have hqp : qx ≤ py := by omega
          rw [hpey, hqey] at hy
          rw [hpey] at hpy
          have hley : qy ≤ Y3.heap.size := by omega
          rw [hpey, hqey] at hqy
          replace T0 := T0.trans (hB.mono T0.size)
          replace hx := hx.below hB
          replace d4 := d4.below' hB
          clear hB hO1 hO2 hpey hqey
          refine ⟨fun _ => T0, ?_⟩
          try simp only [Act.put, List.getElem_toArray, List.getElem_cons_zero, List.getElem_cons_succ, List.setIfInBounds_toArray, List.set_cons_zero, List.set_cons_succ]
          refine wpAnyG_all (rs := [5]) (by kernel_rfl) (by simp) ?_
          intro i hi
          simp only [List.mem_cons, List.not_mem_nil, or_false] at hi
          subst hi
          refine wpOp_now rfl rfl ?_
          go_simp
          have d5 := Blk.new Y3 #[.slice none 0 0, .slice none 0 0] 25
          have l5 := T0.size
          have lt5 : b4 < Y3.heap.size := d4.lt
          have hAA := (Below.refl Y3.heap.size Y3).alloc (Nat.le_refl _) (.cells #[.slice none 0 0, .slice none 0 0] 25)
          replace T0 := T0.trans (hAA.mono T0.size)
          replace hx := hx.below hAA
          replace hy := hy.below hAA
          replace d4 := d4.below' hAA
          have z5 : Y3.heap.size < (Y3.alloc (.cells #[.slice none 0 0, .slice none 0 0] 25)).heap.size := by simp
          replace hley : qy ≤ (Y3.alloc (.cells #[.slice none 0 0, .slice none 0 0] 25)).heap.size := by simp; omega
          obtain ⟨b5, hb5⟩ : ∃ b, Y3.heap.size = b := ⟨_, rfl⟩
          obtain ⟨Y5, hVY5⟩ : ∃ X, Y3.alloc (.cells #[.slice none 0 0, .slice none 0 0] 25) = X := ⟨_, rfl⟩
          rw [hVY5] at T0 z5 d5 hx hy d4 hley
          rw [hb5] at d5 l5 z5 lt5
          try rw [hVY5, hb5]
          try rw [hVY5]
          clear hAA hVY5 hb5
          refine ⟨fun _ => T0, ?_⟩
          try simp only [Act.put, List.getElem_toArray, List.getElem_cons_zero, List.getElem_cons_succ, List.setIfInBounds_toArray, List.set_cons_zero, List.set_cons_succ]
          have ne45 : b4 ≠ b5 := by omega
          have u0 := d4.cell 0
          have u1 := d4.cell 1
          have u2 := d4.frozen 0
          have u3 := d4.frozen 1
          have v0 := d5.cell 0
          have v1 := d5.cell 1
          have v2 := d5.frozen 0
          have v3 := d5.frozen 1
          simp only [List.getElem?_toArray, List.getElem?_cons_succ, List.getElem?_cons_zero] at u0 u1 v0 v1
          have T1 := (T0.setCell (p := ⟨b4, 0, none⟩) l4 (.slice olx s.L.length clx)).setCell (p := ⟨b4, 1, none⟩) l4 (.slice osx s.S.length csx)
          have e4 := (d4.set 0 (.slice olx s.L.length clx)).set 1 (.slice osx s.S.length csx)
          have e5 := (d5.other ne45.symm 0 (.slice olx s.L.length clx)).other ne45.symm 1 (.slice osx s.S.length csx)
          have ex := (hx.blk d4 0 (.slice olx s.L.length clx)).blk (d4.set 0 _) 1 (.slice osx s.S.length csx)
          have ey := (hy.blk d4 0 (.slice olx s.L.length clx)).blk (d4.set 0 _) 1 (.slice osx s.S.length csx)
          simp only [List.setIfInBounds_toArray, List.set_cons_zero, List.set_cons_succ] at e4
          have hz1 : qy ≤ ((Y5.setCell ⟨b4, 0, none⟩ (.slice olx s.L.length clx)).setCell ⟨b4, 1, none⟩ (.slice osx s.S.length csx)).heap.size := by simp; omega
          obtain ⟨Z1, hZ1⟩ : ∃ X, (Y5.setCell ⟨b4, 0, none⟩ (.slice olx s.L.length clx)).setCell ⟨b4, 1, none⟩ (.slice osx s.S.length csx) = X := ⟨_, rfl⟩
          rw [hZ1] at T1 e4 e5 ex ey hz1
          refine wpAnyG_all (rs := [6]) (by kernel_rfl) (by simp) ?_
          intro i hi
          simp only [List.mem_cons, List.not_mem_nil, or_false] at hi
          subst hi
          refine wpOp_now rfl rfl ?_
          go_simp
          try rw [hZ1]
          clear hZ1 u0 u1 u2 u3 v0 v1 v2 v3
          refine ⟨fun _ => T1, ?_⟩
          try simp only [Act.put, List.getElem_toArray, List.getElem_cons_zero, List.getElem_cons_succ, List.setIfInBounds_toArray, List.set_cons_zero, List.set_cons_succ]
          have v0 := e5.cell 0
          have v1 := e5.cell 1
          have v2 := e5.frozen 0
          have v3 := e5.frozen 1
          simp only [List.getElem?_toArray, List.getElem?_cons_succ, List.getElem?_cons_zero] at v0 v1
          have T2 := (T1.setCell (p := ⟨b5, 0, none⟩) l5 (.slice oly t.L.length cly)).setCell (p := ⟨b5, 1, none⟩) l5 (.slice osy t.S.length csy)
          have f5 := (e5.set 0 (.slice oly t.L.length cly)).set 1 (.slice osy t.S.length csy)
          have f4 := (e4.other ne45 0 (.slice oly t.L.length cly)).other ne45 1 (.slice osy t.S.length csy)
          have fx := (ex.blk e5 0 (.slice oly t.L.length cly)).blk (e5.set 0 _) 1 (.slice osy t.S.length csy)
          have fy := (ey.blk e5 0 (.slice oly t.L.length cly)).blk (e5.set 0 _) 1 (.slice osy t.S.length csy)
          simp only [List.setIfInBounds_toArray, List.set_cons_zero, List.set_cons_succ] at f5
          have hz2 : qy ≤ ((Z1.setCell ⟨b5, 0, none⟩ (.slice oly t.L.length cly)).setCell ⟨b5, 1, none⟩ (.slice osy t.S.length csy)).heap.size := by simp; omega
          obtain ⟨Z2, hZ2⟩ : ∃ X, (Z1.setCell ⟨b5, 0, none⟩ (.slice oly t.L.length cly)).setCell ⟨b5, 1, none⟩ (.slice osy t.S.length csy) = X := ⟨_, rfl⟩
          rw [hZ2] at T2 f5 f4 fx fy hz2
          refine wpAnyG_all (rs := [7]) (by kernel_rfl) (by simp) ?_
          intro i hi
          simp only [List.mem_cons, List.not_mem_nil, or_false] at hi
          subst hi
          refine wpOp_now rfl rfl ?_
          go_simp
          try rw [hZ2]
          clear hZ2 v0 v1 v2 v3
          refine ⟨fun _ => T2, ?_⟩
          try simp only [Act.put, List.getElem_toArray, List.getElem_cons_zero, List.getElem_cons_succ, List.setIfInBounds_toArray, List.set_cons_zero, List.set_cons_succ]
          refine wpAnyG_done (by kernel_rfl) ?_ _
          refine NoPanic.normal ?_
          exact ⟨rfl, ((olx, osx, clx, csx, b4), (oly, osy, cly, csy, b5)), by kernel_rfl, ⟨px, qx, py, qy, ⟨by omega, hqx, hqp, hqy, hz2⟩, fx, fy⟩, f4, f5, T2⟩
        · skip
          refine wpOp_now rfl rfl ?_
          go_simp
          have d5 := Blk.new Y1 #[.slice none 0 0, .slice none 0 0] 25
          have l5 := T0.size
          have lt5 : b4 < Y1.heap.size := d4.lt
          have hAA := (Below.refl Y1.heap.size Y1).alloc (Nat.le_refl _) (.cells #[.slice none 0 0, .slice none 0 0] 25)
          replace T0 := T0.trans (hAA.mono T0.size)
          replace hx := hx.below hAA
          replace d4 := d4.below' hAA
          have z5 : Y1.heap.size < (Y1.alloc (.cells #[.slice none 0 0, .slice none 0 0] 25)).heap.size := by simp
          replace hlex : qx ≤ (Y1.alloc (.cells #[.slice none 0 0, .slice none 0 0] 25)).heap.size := by simp; omega
          obtain ⟨b5, hb5⟩ : ∃ b, Y1.heap.size = b := ⟨_, rfl⟩
          obtain ⟨Y5, hVY5⟩ : ∃ X, Y1.alloc (.cells #[.slice none 0 0, .slice none 0 0] 25) = X := ⟨_, rfl⟩
          rw [hVY5] at T0 z5 d5 hx d4 hlex
          rw [hb5] at d5 l5 z5 lt5
          try rw [hVY5, hb5]
          try rw [hVY5]
          clear hAA hVY5 hb5
          refine ⟨fun _ => T0, ?_⟩
          try simp only [Act.put, List.getElem_toArray, List.getElem_cons_zero, List.getElem_cons_succ, List.setIfInBounds_toArray, List.set_cons_zero, List.set_cons_succ]
          refine wpAnyG_all (rs := [3]) (by kernel_rfl) (by simp) ?_
          intro i hi
          simp only [List.mem_cons, List.not_mem_nil, or_false] at hi
          subst hi
          refine wpOp_now rfl rfl ?_
          go_simp
          refine (copy_any t ol' os' cl' cs' hfl' hfs' hn' hm' _ (HR.out.2.1.below encR_len (by decide) (HB.out.trans (T0.mono HB.out.size))) (HR.out.2.2.below encI_len (by decide) (HB.out.trans (T0.mono HB.out.size)))).mono ?_
          rintro e Y3 ⟨vl, vs, rfl, hO1, hO2, hB⟩
          obtain ⟨oly, osy, cly, csy, rfl, rfl, hy⟩ := OwS.of (t := t) hO1 hO2
          have hpy := T0.size
          have hqy := hB.size
          obtain ⟨py, hpey⟩ : ∃ k, Y5.heap.size = k := ⟨_, rfl⟩
          obtain ⟨qy, hqey⟩ : ∃ k, Y3.heap.size = k := ⟨_, rfl⟩
          have hqp : qx ≤ py := by omega
          rw [hpey, hqey] at hy
          rw [hpey] at hpy
          have hley : qy ≤ Y3.heap.size := by omega
          rw [hpey, hqey] at hqy
          replace T0 := T0.trans (hB.mono T0.size)
          replace hx := hx.below hB
          replace d4 := d4.below' hB
          replace d5 := d5.below' hB
          clear hB hO1 hO2 hpey hqey
          refine ⟨fun _ => T0, ?_⟩
          try simp only [Act.put, List.getElem_toArray, List.getElem_cons_zero, List.getElem_cons_succ, List.setIfInBounds_toArray, List.set_cons_zero, List.set_cons_succ]
          have ne45 : b4 ≠ b5 := by omega
          have u0 := d4.cell 0
          have u1 := d4.cell 1
          have u2 := d4.frozen 0
          have u3 := d4.frozen 1
          have v0 := d5.cell 0
          have v1 := d5.cell 1
          have v2 := d5.frozen 0
          have v3 := d5.frozen 1
          simp only [List.getElem?_toArray, List.getElem?_cons_succ, List.getElem?_cons_zero] at u0 u1 v0 v1
          have T1 := (T0.setCell (p := ⟨b4, 0, none⟩) l4 (.slice olx s.L.length clx)).setCell (p := ⟨b4, 1, none⟩) l4 (.slice osx s.S.length csx)
          have e4 := (d4.set 0 (.slice olx s.L.length clx)).set 1 (.slice osx s.S.length csx)
          have e5 := (d5.other ne45.symm 0 (.slice olx s.L.length clx)).other ne45.symm 1 (.slice osx s.S.length csx)
          have ex := (hx.blk d4 0 (.slice olx s.L.length clx)).blk (d4.set 0 _) 1 (.slice osx s.S.length csx)
          have ey := (hy.blk d4 0 (.slice olx s.L.length clx)).blk (d4.set 0 _) 1 (.slice osx s.S.length csx)
          simp only [List.setIfInBounds_toArray, List.set_cons_zero, List.set_cons_succ] at e4
          have hz1 : qy ≤ ((Y3.setCell ⟨b4, 0, none⟩ (.slice olx s.L.length clx)).setCell ⟨b4, 1, none⟩ (.slice osx s.S.length csx)).heap.size := by simp; omega
          obtain ⟨Z1, hZ1⟩ : ∃ X, (Y3.setCell ⟨b4, 0, none⟩ (.slice olx s.L.length clx)).setCell ⟨b4, 1, none⟩ (.slice osx s.S.length csx) = X := ⟨_, rfl⟩
          rw [hZ1] at T1 e4 e5 ex ey hz1
          refine wpAnyG_all (rs := [6]) (by kernel_rfl) (by simp) ?_
          intro i hi
          simp only [List.mem_cons, List.not_mem_nil, or_false] at hi
          subst hi
          refine wpOp_now rfl rfl ?_
          go_simp
          try rw [hZ1]
          clear hZ1 u0 u1 u2 u3 v0 v1 v2 v3
          refine ⟨fun _ => T1, ?_⟩
          try simp only [Act.put, List.getElem_toArray, List.getElem_cons_zero, List.getElem_cons_succ, List.setIfInBounds_toArray, List.set_cons_zero, List.set_cons_succ]
          have v0 := e5.cell 0
          have v1 := e5.cell 1
          have v2 := e5.frozen 0
          have v3 := e5.frozen 1
          simp only [List.getElem?_toArray, List.getElem?_cons_succ, List.getElem?_cons_zero] at v0 v1
          have T2 := (T1.setCell (p := ⟨b5, 0, none⟩) l5 (.slice oly t.L.length cly)).setCell (p := ⟨b5, 1, none⟩) l5 (.slice osy t.S.length csy)
          have f5 := (e5.set 0 (.slice oly t.L.length cly)).set 1 (.slice osy t.S.length csy)
          have f4 := (e4.other ne45 0 (.slice oly t.L.length cly)).other ne45 1 (.slice osy t.S.length csy)
          have fx := (ex.blk e5 0 (.slice oly t.L.length cly)).blk (e5.set 0 _) 1 (.slice osy t.S.length csy)
          have fy := (ey.blk e5 0 (.slice oly t.L.length cly)).blk (e5.set 0 _) 1 (.slice osy t.S.length csy)
          simp only [List.setIfInBounds_toArray, List.set_cons_zero, List.set_cons_succ] at f5
          have hz2 : qy ≤ ((Z1.setCell ⟨b5, 0, none⟩ (.slice oly t.L.length cly)).setCell ⟨b5, 1, none⟩ (.slice osy t.S.length csy)).heap.size := by simp; omega
          obtain ⟨Z2, hZ2⟩ : ∃ X, (Z1.setCell ⟨b5, 0, none⟩ (.slice oly t.L.length cly)).setCell ⟨b5, 1, none⟩ (.slice osy t.S.length csy) = X := ⟨_, rfl⟩
          rw [hZ2] at T2 f5 f4 fx fy hz2
          refine wpAnyG_all (rs := [7]) (by kernel_rfl) (by simp) ?_
          intro i hi
          simp only [List.mem_cons, List.not_mem_nil, or_false] at hi
          subst hi
          refine wpOp_now rfl rfl ?_
          go_simp
          try rw [hZ2]
          clear hZ2 v0 v1 v2 v3
          refine ⟨fun _ => T2, ?_⟩
          try simp only [Act.put, List.getElem_toArray, List.getElem_cons_zero, List.getElem_cons_succ, List.setIfInBounds_toArray, List.set_cons_zero, List.set_cons_succ]
          refine wpAnyG_done (by kernel_rfl) ?_ _
          refine NoPanic.normal ?_
          exact ⟨rfl, ((olx, osx, clx, csx, b4), (oly, osy, cly, csy, b5)), by kernel_rfl, ⟨px, qx, py, qy, ⟨by omega, hqx, hqp, hqy, hz2⟩, fx, fy⟩, f4, f5, T2⟩
      · skip
        refine wpOp_now rfl rfl ?_
        go_simp
        have d5 := Blk.new Y4 #[.slice none 0 0, .slice none 0 0] 25
        have l5 := T0.size
        have lt5 : b4 < Y4.heap.size := d4.lt
        have hAA := (Below.refl Y4.heap.size Y4).alloc (Nat.le_refl _) (.cells #[.slice none 0 0, .slice none 0 0] 25)
        replace T0 := T0.trans (hAA.mono T0.size)
        replace d4 := d4.below' hAA
        have z5 : Y4.heap.size < (Y4.alloc (.cells #[.slice none 0 0, .slice none 0 0] 25)).heap.size := by simp
        obtain ⟨b5, hb5⟩ : ∃ b, Y4.heap.size = b := ⟨_, rfl⟩
        obtain ⟨Y5, hVY5⟩ : ∃ X, Y4.alloc (.cells #[.slice none 0 0, .slice none 0 0] 25) = X := ⟨_, rfl⟩
        rw [hVY5] at T0 z5 d5 d4
        rw [hb5] at d5 l5 z5 lt5
        try rw [hVY5, hb5]
        try rw [hVY5]
        clear hAA hVY5 hb5
        refine ⟨fun _ => T0, ?_⟩
        try simp only [Act.put, List.getElem_toArray, List.getElem_cons_zero, List.getElem_cons_succ, List.setIfInBounds_toArray, List.set_cons_zero, List.set_cons_succ]
        refine wpAnyG_all (rs := [1]) (by kernel_rfl) (by simp) ?_
        intro i hi
        simp only [List.mem_cons, List.not_mem_nil, or_false] at hi
        subst hi
        refine wpOp_now rfl rfl ?_
        go_simp
        refine (copy_any s ol os cl cs hfl hfs hn hm _ (HR.out.1.1.below encR_len (by decide) (HB.out.trans (T0.mono HB.out.size))) (HR.out.1.2.below encI_len (by decide) (HB.out.trans (T0.mono HB.out.size)))).mono ?_
        rintro e Y1 ⟨vl, vs, rfl, hO1, hO2, hB⟩
        obtain ⟨olx, osx, clx, csx, rfl, rfl, hx⟩ := OwS.of (t := s) hO1 hO2
        have hpx := T0.size
        have hqx := hB.size
        obtain ⟨px, hpex⟩ : ∃ k, Y5.heap.size = k := ⟨_, rfl⟩
        obtain ⟨qx, hqex⟩ : ∃ k, Y1.heap.size = k := ⟨_, rfl⟩
        rw [hpex, hqex] at hx
        rw [hpex] at hpx
        have hlex : qx ≤ Y1.heap.size := by omega
        rw [hpex, hqex] at hqx
        replace T0 := T0.trans (hB.mono T0.size)
        replace d4 := d4.below' hB
        replace d5 := d5.below' hB
        clear hB hO1 hO2 hpex hqex
        refine ⟨fun _ => T0, ?_⟩
        try simp only [Act.put, List.getElem_toArray, List.getElem_cons_zero, List.getElem_cons_succ, List.setIfInBounds_toArray, List.set_cons_zero, List.set_cons_succ]
        refine wpAnyG_all (rs := [3]) (by kernel_rfl) (by simp) ?_
        intro i hi
        simp only [List.mem_cons, List.not_mem_nil, or_false] at hi
        subst hi
        refine wpOp_now rfl rfl ?_
        go_simp
        refine (copy_any t ol' os' cl' cs' hfl' hfs' hn' hm' _ (HR.out.2.1.below encR_len (by decide) (HB.out.trans (T0.mono HB.out.size))) (HR.out.2.2.below encI_len (by decide) (HB.out.trans (T0.mono HB.out.size)))).mono ?_
        rintro e Y3 ⟨vl, vs, rfl, hO1, hO2, hB⟩
        obtain ⟨oly, osy, cly, csy, rfl, rfl, hy⟩ := OwS.of (t := t) hO1 hO2
        have hpy := T0.size
        have hqy := hB.size
        obtain ⟨py, hpey⟩ : ∃ k, Y1.heap.size = k := ⟨_, rfl⟩
        obtain ⟨qy, hqey⟩ : ∃ k, Y3.heap.size = k := ⟨_, rfl⟩
        have hqp : qx ≤ py := by omega
        rw [hpey, hqey] at hy
        rw [hpey] at hpy
        have hley : qy ≤ Y3.heap.size := by omega
        rw [hpey, hqey] at hqy
        replace T0 := T0.trans (hB.mono T0.size)
        replace hx := hx.below hB
        replace d4 := d4.below' hB
        replace d5 := d5.below' hB
        clear hB hO1 hO2 hpey hqey
        refine ⟨fun _ => T0, ?_⟩
        try simp only [Act.put, List.getElem_toArray, List.getElem_cons_zero, List.getElem_cons_succ, List.setIfInBounds_toArray, List.set_cons_zero, List.set_cons_succ]
        have ne45 : b4 ≠ b5 := by omega
        have u0 := d4.cell 0
        have u1 := d4.cell 1
        have u2 := d4.frozen 0
        have u3 := d4.frozen 1
        have v0 := d5.cell 0
        have v1 := d5.cell 1
        have v2 := d5.frozen 0
        have v3 := d5.frozen 1
        simp only [List.getElem?_toArray, List.getElem?_cons_succ, List.getElem?_cons_zero] at u0 u1 v0 v1
        have T1 := (T0.setCell (p := ⟨b4, 0, none⟩) l4 (.slice olx s.L.length clx)).setCell (p := ⟨b4, 1, none⟩) l4 (.slice osx s.S.length csx)
        have e4 := (d4.set 0 (.slice olx s.L.length clx)).set 1 (.slice osx s.S.length csx)
        have e5 := (d5.other ne45.symm 0 (.slice olx s.L.length clx)).other ne45.symm 1 (.slice osx s.S.length csx)
        have ex := (hx.blk d4 0 (.slice olx s.L.length clx)).blk (d4.set 0 _) 1 (.slice osx s.S.length csx)
        have ey := (hy.blk d4 0 (.slice olx s.L.length clx)).blk (d4.set 0 _) 1 (.slice osx s.S.length csx)
        simp only [List.setIfInBounds_toArray, List.set_cons_zero, List.set_cons_succ] at e4
        have hz1 : qy ≤ ((Y3.setCell ⟨b4, 0, none⟩ (.slice olx s.L.length clx)).setCell ⟨b4, 1, none⟩ (.slice osx s.S.length csx)).heap.size := by simp; omega
        obtain ⟨Z1, hZ1⟩ : ∃ X, (Y3.setCell ⟨b4, 0, none⟩ (.slice olx s.L.length clx)).setCell ⟨b4, 1, none⟩ (.slice osx s.S.length csx) = X := ⟨_, rfl⟩
        rw [hZ1] at T1 e4 e5 ex ey hz1
        refine wpAnyG_all (rs := [6]) (by kernel_rfl) (by simp) ?_
        intro i hi
        simp only [List.mem_cons, List.not_mem_nil, or_false] at hi
        subst hi
        refine wpOp_now rfl rfl ?_
        go_simp
        try rw [hZ1]
        clear hZ1 u0 u1 u2 u3 v0 v1 v2 v3
        refine ⟨fun _ => T1, ?_⟩
        try simp only [Act.put, List.getElem_toArray, List.getElem_cons_zero, List.getElem_cons_succ, List.setIfInBounds_toArray, List.set_cons_zero, List.set_cons_succ]
        have v0 := e5.cell 0
        have v1 := e5.cell 1
        have v2 := e5.frozen 0
        have v3 := e5.frozen 1
        simp only [List.getElem?_toArray, List.getElem?_cons_succ, List.getElem?_cons_zero] at v0 v1
        have T2 := (T1.setCell (p := ⟨b5, 0, none⟩) l5 (.slice oly t.L.length cly)).setCell (p := ⟨b5, 1, none⟩) l5 (.slice osy t.S.length csy)
        have f5 := (e5.set 0 (.slice oly t.L.length cly)).set 1 (.slice osy t.S.length csy)
        have f4 := (e4.other ne45 0 (.slice oly t.L.length cly)).other ne45 1 (.slice osy t.S.length csy)
        have fx := (ex.blk e5 0 (.slice oly t.L.length cly)).blk (e5.set 0 _) 1 (.slice osy t.S.length csy)
        have fy := (ey.blk e5 0 (.slice oly t.L.length cly)).blk (e5.set 0 _) 1 (.slice osy t.S.length csy)
        simp only [List.setIfInBounds_toArray, List.set_cons_zero, List.set_cons_succ] at f5
        have hz2 : qy ≤ ((Z1.setCell ⟨b5, 0, none⟩ (.slice oly t.L.length cly)).setCell ⟨b5, 1, none⟩ (.slice osy t.S.length csy)).heap.size := by simp; omega
        obtain ⟨Z2, hZ2⟩ : ∃ X, (Z1.setCell ⟨b5, 0, none⟩ (.slice oly t.L.length cly)).setCell ⟨b5, 1, none⟩ (.slice osy t.S.length csy) = X := ⟨_, rfl⟩
        rw [hZ2] at T2 f5 f4 fx fy hz2
        refine wpAnyG_all (rs := [7]) (by kernel_rfl) (by simp) ?_
        intro i hi
        simp only [List.mem_cons, List.not_mem_nil, or_false] at hi
        subst hi
        refine wpOp_now rfl rfl ?_
        go_simp
        try rw [hZ2]
        clear hZ2 v0 v1 v2 v3
        refine ⟨fun _ => T2, ?_⟩
        try simp only [Act.put, List.getElem_toArray, List.getElem_cons_zero, List.getElem_cons_succ, List.setIfInBounds_toArray, List.set_cons_zero, List.set_cons_succ]
        refine wpAnyG_done (by kernel_rfl) ?_ _
        refine NoPanic.normal ?_
        exact ⟨rfl, ((olx, osx, clx, csx, b4), (oly, osy, cly, csy, b5)), by kernel_rfl, ⟨px, qx, py, qy, ⟨by omega, hqx, hqp, hqy, hz2⟩, fx, fy⟩, f4, f5, T2⟩
    · skip
      refine wpOp_now rfl rfl ?_
      go_simp
      have d5 := Blk.new X0 #[.slice none 0 0, .slice none 0 0] 25
      have l5 := T0.size
      have hAA := (Below.refl X0.heap.size X0).alloc (Nat.le_refl _) (.cells #[.slice none 0 0, .slice none 0 0] 25)
      replace T0 := T0.trans (hAA.mono T0.size)
      have z5 : X0.heap.size < (X0.alloc (.cells #[.slice none 0 0, .slice none 0 0] 25)).heap.size := by simp
      obtain ⟨b5, hb5⟩ : ∃ b, X0.heap.size = b := ⟨_, rfl⟩
      obtain ⟨Y5, hVY5⟩ : ∃ X, X0.alloc (.cells #[.slice none 0 0, .slice none 0 0] 25) = X := ⟨_, rfl⟩
      rw [hVY5] at T0 z5 d5 
      rw [hb5] at d5 l5 z5
      try rw [hVY5, hb5]
      try rw [hVY5]
      clear hAA hVY5 hb5
      refine ⟨fun _ => T0, ?_⟩
      try simp only [Act.put, List.getElem_toArray, List.getElem_cons_zero, List.getElem_cons_succ, List.setIfInBounds_toArray, List.set_cons_zero, List.set_cons_succ]
      refine wpAnyG_all (rs := [1, 4]) (by kernel_rfl) (by simp) ?_
      intro i hi
      simp only [List.mem_cons, List.not_mem_nil, or_false] at hi
      rcases hi with rfl | rfl
      · skip
        refine wpOp_now rfl rfl ?_
        go_simp
        refine (copy_any s ol os cl cs hfl hfs hn hm _ (HR.out.1.1.below encR_len (by decide) (HB.out.trans (T0.mono HB.out.size))) (HR.out.1.2.below encI_len (by decide) (HB.out.trans (T0.mono HB.out.size)))).mono ?_
        rintro e Y1 ⟨vl, vs, rfl, hO1, hO2, hB⟩
        obtain ⟨olx, osx, clx, csx, rfl, rfl, hx⟩ := OwS.of (t := s) hO1 hO2
        have hpx := T0.size
        have hqx := hB.size
        obtain ⟨px, hpex⟩ : ∃ k, Y5.heap.size = k := ⟨_, rfl⟩
        obtain ⟨qx, hqex⟩ : ∃ k, Y1.heap.size = k := ⟨_, rfl⟩
        rw [hpex, hqex] at hx
        rw [hpex] at hpx
        have hlex : qx ≤ Y1.heap.size := by omega
        rw [hpex, hqex] at hqx
        replace T0 := T0.trans (hB.mono T0.size)
        replace d5 := d5.below' hB
        clear hB hO1 hO2 hpex hqex
        refine ⟨fun _ => T0, ?_⟩
        try simp only [Act.put, List.getElem_toArray, List.getElem_cons_zero, List.getElem_cons_succ, List.setIfInBounds_toArray, List.set_cons_zero, List.set_cons_succ]
        refine wpAnyG_all (rs := [3, 4]) (by kernel_rfl) (by simp) ?_
        intro i hi
        simp only [List.mem_cons, List.not_mem_nil, or_false] at hi
        rcases hi with rfl | rfl
        · skip
          refine wpOp_now rfl rfl ?_
          go_simp
          refine (copy_any t ol' os' cl' cs' hfl' hfs' hn' hm' _ (HR.out.2.1.below encR_len (by decide) (HB.out.trans (T0.mono HB.out.size))) (HR.out.2.2.below encI_len (by decide) (HB.out.trans (T0.mono HB.out.size)))).mono ?_
          rintro e Y3 ⟨vl, vs, rfl, hO1, hO2, hB⟩
          obtain ⟨oly, osy, cly, csy, rfl, rfl, hy⟩ := OwS.of (t := t) hO1 hO2
          have hpy := T0.size
          have hqy := hB.size
          obtain ⟨py, hpey⟩ : ∃ k, Y1.heap.size = k := ⟨_, rfl⟩
          obtain ⟨qy, hqey⟩ : ∃ k, Y3.heap.size = k := ⟨_, rfl⟩
          have hqp : qx ≤ py := by omega
          rw [hpey, hqey] at hy
          rw [hpey] at hpy
          have hley : qy ≤ Y3.heap.size := by omega
          rw [hpey, hqey] at hqy
          replace T0 := T0.trans (hB.mono T0.size)
          replace hx := hx.below hB
          replace d5 := d5.below' hB
          clear hB hO1 hO2 hpey hqey
          refine ⟨fun _ => T0, ?_⟩
          try simp only [Act.put, List.getElem_toArray, List.getElem_cons_zero, List.getElem_cons_succ, List.setIfInBounds_toArray, List.set_cons_zero, List.set_cons_succ]
          refine wpAnyG_all (rs := [4]) (by kernel_rfl) (by simp) ?_
          intro i hi
          simp only [List.mem_cons, List.not_mem_nil, or_false] at hi
          subst hi
          refine wpOp_now rfl rfl ?_
          go_simp
          have d4 := Blk.new Y3 #[.slice none 0 0, .slice none 0 0] 25
          have l4 := T0.size
          have lt4 : b5 < Y3.heap.size := d5.lt
          have hAA := (Below.refl Y3.heap.size Y3).alloc (Nat.le_refl _) (.cells #[.slice none 0 0, .slice none 0 0] 25)
          replace T0 := T0.trans (hAA.mono T0.size)
          replace hx := hx.below hAA
          replace hy := hy.below hAA
          replace d5 := d5.below' hAA
          have z4 : Y3.heap.size < (Y3.alloc (.cells #[.slice none 0 0, .slice none 0 0] 25)).heap.size := by simp
          replace hley : qy ≤ (Y3.alloc (.cells #[.slice none 0 0, .slice none 0 0] 25)).heap.size := by simp; omega
          obtain ⟨b4, hb4⟩ : ∃ b, Y3.heap.size = b := ⟨_, rfl⟩
          obtain ⟨Y4, hVY4⟩ : ∃ X, Y3.alloc (.cells #[.slice none 0 0, .slice none 0 0] 25) = X := ⟨_, rfl⟩
          rw [hVY4] at T0 z4 d4 hx hy d5 hley
          rw [hb4] at d4 l4 z4 lt4
          try rw [hVY4, hb4]
          try rw [hVY4]
          clear hAA hVY4 hb4
          refine ⟨fun _ => T0, ?_⟩
          try simp only [Act.put, List.getElem_toArray, List.getElem_cons_zero, List.getElem_cons_succ, List.setIfInBounds_toArray, List.set_cons_zero, List.set_cons_succ]
          have ne45 : b4 ≠ b5 := by omega
          have u0 := d4.cell 0
          have u1 := d4.cell 1
          have u2 := d4.frozen 0
          have u3 := d4.frozen 1
          have v0 := d5.cell 0
          have v1 := d5.cell 1
          have v2 := d5.frozen 0
          have v3 := d5.frozen 1
          simp only [List.getElem?_toArray, List.getElem?_cons_succ, List.getElem?_cons_zero] at u0 u1 v0 v1
          have T1 := (T0.setCell (p := ⟨b4, 0, none⟩) l4 (.slice olx s.L.length clx)).setCell (p := ⟨b4, 1, none⟩) l4 (.slice osx s.S.length csx)
          have e4 := (d4.set 0 (.slice olx s.L.length clx)).set 1 (.slice osx s.S.length csx)
          have e5 := (d5.other ne45.symm 0 (.slice olx s.L.length clx)).other ne45.symm 1 (.slice osx s.S.length csx)
          have ex := (hx.blk d4 0 (.slice olx s.L.length clx)).blk (d4.set 0 _) 1 (.slice osx s.S.length csx)
          have ey := (hy.blk d4 0 (.slice olx s.L.length clx)).blk (d4.set 0 _) 1 (.slice osx s.S.length csx)
          simp only [List.setIfInBounds_toArray, List.set_cons_zero, List.set_cons_succ] at e4
          have hz1 : qy ≤ ((Y4.setCell ⟨b4, 0, none⟩ (.slice olx s.L.length clx)).setCell ⟨b4, 1, none⟩ (.slice osx s.S.length csx)).heap.size := by simp; omega
          obtain ⟨Z1, hZ1⟩ : ∃ X, (Y4.setCell ⟨b4, 0, none⟩ (.slice olx s.L.length clx)).setCell ⟨b4, 1, none⟩ (.slice osx s.S.length csx) = X := ⟨_, rfl⟩
          rw [hZ1] at T1 e4 e5 ex ey hz1
          refine wpAnyG_all (rs := [6]) (by kernel_rfl) (by simp) ?_
          intro i hi
          simp only [List.mem_cons, List.not_mem_nil, or_false] at hi
          subst hi
          refine wpOp_now rfl rfl ?_
          go_simp
          try rw [hZ1]
          clear hZ1 u0 u1 u2 u3 v0 v1 v2 v3
          refine ⟨fun _ => T1, ?_⟩
          try simp only [Act.put, List.getElem_toArray, List.getElem_cons_zero, List.getElem_cons_succ, List.setIfInBounds_toArray, List.set_cons_zero, List.set_cons_succ]
          have v0 := e5.cell 0
          have v1 := e5.cell 1
          have v2 := e5.frozen 0
          have v3 := e5.frozen 1
          simp only [List.getElem?_toArray, List.getElem?_cons_succ, List.getElem?_cons_zero] at v0 v1
          have T2 := (T1.setCell (p := ⟨b5, 0, none⟩) l5 (.slice oly t.L.length cly)).setCell (p := ⟨b5, 1, none⟩) l5 (.slice osy t.S.length csy)
          have f5 := (e5.set 0 (.slice oly t.L.length cly)).set 1 (.slice osy t.S.length csy)
          have f4 := (e4.other ne45 0 (.slice oly t.L.length cly)).other ne45 1 (.slice osy t.S.length csy)
          have fx := (ex.blk e5 0 (.slice oly t.L.length cly)).blk (e5.set 0 _) 1 (.slice osy t.S.length csy)
          have fy := (ey.blk e5 0 (.slice oly t.L.length cly)).blk (e5.set 0 _) 1 (.slice osy t.S.length csy)
          simp only [List.setIfInBounds_toArray, List.set_cons_zero, List.set_cons_succ] at f5
          have hz2 : qy ≤ ((Z1.setCell ⟨b5, 0, none⟩ (.slice oly t.L.length cly)).setCell ⟨b5, 1, none⟩ (.slice osy t.S.length csy)).heap.size := by simp; omega
          obtain ⟨Z2, hZ2⟩ : ∃ X, (Z1.setCell ⟨b5, 0, none⟩ (.slice oly t.L.length cly)).setCell ⟨b5, 1, none⟩ (.slice osy t.S.length csy) = X := ⟨_, rfl⟩
          rw [hZ2] at T2 f5 f4 fx fy hz2
          refine wpAnyG_all (rs := [7]) (by kernel_rfl) (by simp) ?_
          intro i hi
          simp only [List.mem_cons, List.not_mem_nil, or_false] at hi
          subst hi
          refine wpOp_now rfl rfl ?_
          go_simp
          try rw [hZ2]
          clear hZ2 v0 v1 v2 v3
          refine ⟨fun _ => T2, ?_⟩
          try simp only [Act.put, List.getElem_toArray, List.getElem_cons_zero, List.getElem_cons_succ, List.setIfInBounds_toArray, List.set_cons_zero, List.set_cons_succ]
          refine wpAnyG_done (by kernel_rfl) ?_ _
          refine NoPanic.normal ?_
          exact ⟨rfl, ((olx, osx, clx, csx, b4), (oly, osy, cly, csy, b5)), by kernel_rfl, ⟨px, qx, py, qy, ⟨by omega, hqx, hqp, hqy, hz2⟩, fx, fy⟩, f4, f5, T2⟩
        · skip
          refine wpOp_now rfl rfl ?_
          go_simp
          have d4 := Blk.new Y1 #[.slice none 0 0, .slice none 0 0] 25
          have l4 := T0.size
          have lt4 : b5 < Y1.heap.size := d5.lt
          have hAA := (Below.refl Y1.heap.size Y1).alloc (Nat.le_refl _) (.cells #[.slice none 0 0, .slice none 0 0] 25)
          replace T0 := T0.trans (hAA.mono T0.size)
          replace hx := hx.below hAA
          replace d5 := d5.below' hAA
          have z4 : Y1.heap.size < (Y1.alloc (.cells #[.slice none 0 0, .slice none 0 0] 25)).heap.size := by simp
          replace hlex : qx ≤ (Y1.alloc (.cells #[.slice none 0 0, .slice none 0 0] 25)).heap.size := by simp; omega
          obtain ⟨b4, hb4⟩ : ∃ b, Y1.heap.size = b := ⟨_, rfl⟩
          obtain ⟨Y4, hVY4⟩ : ∃ X, Y1.alloc (.cells #[.slice none 0 0, .slice none 0 0] 25) = X := ⟨_, rfl⟩
          rw [hVY4] at T0 z4 d4 hx d5 hlex
          rw [hb4] at d4 l4 z4 lt4
          try rw [hVY4, hb4]
          try rw [hVY4]
          clear hAA hVY4 hb4
          refine ⟨fun _ => T0, ?_⟩
          try simp only [Act.put, List.getElem_toArray, List.getElem_cons_zero, List.getElem_cons_succ, List.setIfInBounds_toArray, List.set_cons_zero, List.set_cons_succ]
          refine wpAnyG_all (rs := [3]) (by kernel_rfl) (by simp) ?_
          intro i hi
          simp only [List.mem_cons, List.not_mem_nil, or_false] at hi
          subst hi
          refine wpOp_now rfl rfl ?_
          go_simp
          refine (copy_any t ol' os' cl' cs' hfl' hfs' hn' hm' _ (HR.out.2.1.below encR_len (by decide) (HB.out.trans (T0.mono HB.out.size))) (HR.out.2.2.below encI_len (by decide) (HB.out.trans (T0.mono HB.out.size)))).mono ?_
          rintro e Y3 ⟨vl, vs, rfl, hO1, hO2, hB⟩
          obtain ⟨oly, osy, cly, csy, rfl, rfl, hy⟩ := OwS.of (t := t) hO1 hO2
          have hpy := T0.size
          have hqy := hB.size
          obtain ⟨py, hpey⟩ : ∃ k, Y4.heap.size = k := ⟨_, rfl⟩
          obtain ⟨qy, hqey⟩ : ∃ k, Y3.heap.size = k := ⟨_, rfl⟩
          have hqp : qx ≤ py := by omega
          rw [hpey, hqey] at hy
          rw [hpey] at hpy
          have hley : qy ≤ Y3.heap.size := by omega
          rw [hpey, hqey] at hqy
          replace T0 := T0.trans (hB.mono T0.size)
          replace hx := hx.below hB
          replace d4 := d4.below' hB
          replace d5 := d5.below' hB
          clear hB hO1 hO2 hpey hqey
          refine ⟨fun _ => T0, ?_⟩
          try simp only [Act.put, List.getElem_toArray, List.getElem_cons_zero, List.getElem_cons_succ, List.setIfInBounds_toArray, List.set_cons_zero, List.set_cons_succ]
          have ne45 : b4 ≠ b5 := by omega
          have u0 := d4.cell 0
          have u1 := d4.cell 1
          have u2 := d4.frozen 0
          have u3 := d4.frozen 1
          have v0 := d5.cell 0
          have v1 := d5.cell 1
          have v2 := d5.frozen 0
          have v3 := d5.frozen 1
          simp only [List.getElem?_toArray, List.getElem?_cons_succ, List.getElem?_cons_zero] at u0 u1 v0 v1
          have T1 := (T0.setCell (p := ⟨b4, 0, none⟩) l4 (.slice olx s.L.length clx)).setCell (p := ⟨b4, 1, none⟩) l4 (.slice osx s.S.length csx)
          have e4 := (d4.set 0 (.slice olx s.L.length clx)).set 1 (.slice osx s.S.length csx)
          have e5 := (d5.other ne45.symm 0 (.slice olx s.L.length clx)).other ne45.symm 1 (.slice osx s.S.length csx)
          have ex := (hx.blk d4 0 (.slice olx s.L.length clx)).blk (d4.set 0 _) 1 (.slice osx s.S.length csx)
          have ey := (hy.blk d4 0 (.slice olx s.L.length clx)).blk (d4.set 0 _) 1 (.slice osx s.S.length csx)
          simp only [List.setIfInBounds_toArray, List.set_cons_zero, List.set_cons_succ] at e4
          have hz1 : qy ≤ ((Y3.setCell ⟨b4, 0, none⟩ (.slice olx s.L.length clx)).setCell ⟨b4, 1, none⟩ (.slice osx s.S.length csx)).heap.size := by simp; omega
          obtain ⟨Z1, hZ1⟩ : ∃ X, (Y3.setCell ⟨b4, 0, none⟩ (.slice olx s.L.length clx)).setCell ⟨b4, 1, none⟩ (.slice osx s.S.length csx) = X := ⟨_, rfl⟩
          rw [hZ1] at T1 e4 e5 ex ey hz1
          refine wpAnyG_all (rs := [6]) (by kernel_rfl) (by simp) ?_
          intro i hi
          simp only [List.mem_cons, List.not_mem_nil, or_false] at hi
          subst hi
          refine wpOp_now rfl rfl ?_
          go_simp
          try rw [hZ1]
          clear hZ1 u0 u1 u2 u3 v0 v1 v2 v3
          refine ⟨fun _ => T1, ?_⟩
          try simp only [Act.put, List.getElem_toArray, List.getElem_cons_zero, List.getElem_cons_succ, List.setIfInBounds_toArray, List.set_cons_zero, List.set_cons_succ]
          have v0 := e5.cell 0
          have v1 := e5.cell 1
          have v2 := e5.frozen 0
          have v3 := e5.frozen 1
          simp only [List.getElem?_toArray, List.getElem?_cons_succ, List.getElem?_cons_zero] at v0 v1
          have T2 := (T1.setCell (p := ⟨b5, 0, none⟩) l5 (.slice oly t.L.length cly)).setCell (p := ⟨b5, 1, none⟩) l5 (.slice osy t.S.length csy)
          have f5 := (e5.set 0 (.slice oly t.L.length cly)).set 1 (.slice osy t.S.length csy)
          have f4 := (e4.other ne45 0 (.slice oly t.L.length cly)).other ne45 1 (.slice osy t.S.length csy)
          have fx := (ex.blk e5 0 (.slice oly t.L.length cly)).blk (e5.set 0 _) 1 (.slice osy t.S.length csy)
          have fy := (ey.blk e5 0 (.slice oly t.L.length cly)).blk (e5.set 0 _) 1 (.slice osy t.S.length csy)
          simp only [List.setIfInBounds_toArray, List.set_cons_zero, List.set_cons_succ] at f5
          have hz2 : qy ≤ ((Z1.setCell ⟨b5, 0, none⟩ (.slice oly t.L.length cly)).setCell ⟨b5, 1, none⟩ (.slice osy t.S.length csy)).heap.size := by simp; omega
          obtain ⟨Z2, hZ2⟩ : ∃ X, (Z1.setCell ⟨b5, 0, none⟩ (.slice oly t.L.length cly)).setCell ⟨b5, 1, none⟩ (.slice osy t.S.length csy) = X := ⟨_, rfl⟩
          rw [hZ2] at T2 f5 f4 fx fy hz2
          refine wpAnyG_all (rs := [7]) (by kernel_rfl) (by simp) ?_
          intro i hi
          simp only [List.mem_cons, List.not_mem_nil, or_false] at hi
          subst hi
          refine wpOp_now rfl rfl ?_
          go_simp
          try rw [hZ2]
          clear hZ2 v0 v1 v2 v3
          refine ⟨fun _ => T2, ?_⟩
          try simp only [Act.put, List.getElem_toArray, List.getElem_cons_zero, List.getElem_cons_succ, List.setIfInBounds_toArray, List.set_cons_zero, List.set_cons_succ]
          refine wpAnyG_done (by kernel_rfl) ?_ _
          refine NoPanic.normal ?_
          exact ⟨rfl, ((olx, osx, clx, csx, b4), (oly, osy, cly, csy, b5)), by kernel_rfl, ⟨px, qx, py, qy, ⟨by omega, hqx, hqp, hqy, hz2⟩, fx, fy⟩, f4, f5, T2⟩
      · skip
        refine wpOp_now rfl rfl ?_
        go_simp
        have d4 := Blk.new Y5 #[.slice none 0 0, .slice none 0 0] 25
        have l4 := T0.size
        have lt4 : b5 < Y5.heap.size := d5.lt
        have hAA := (Below.refl Y5.heap.size Y5).alloc (Nat.le_refl _) (.cells #[.slice none 0 0, .slice none 0 0] 25)
        replace T0 := T0.trans (hAA.mono T0.size)
        replace d5 := d5.below' hAA
        have z4 : Y5.heap.size < (Y5.alloc (.cells #[.slice none 0 0, .slice none 0 0] 25)).heap.size := by simp
        obtain ⟨b4, hb4⟩ : ∃ b, Y5.heap.size = b := ⟨_, rfl⟩
        obtain ⟨Y4, hVY4⟩ : ∃ X, Y5.alloc (.cells #[.slice none 0 0, .slice none 0 0] 25) = X := ⟨_, rfl⟩
        rw [hVY4] at T0 z4 d4 d5
        rw [hb4] at d4 l4 z4 lt4
        try rw [hVY4, hb4]
        try rw [hVY4]
        clear hAA hVY4 hb4
        refine ⟨fun _ => T0, ?_⟩
        try simp only [Act.put, List.getElem_toArray, List.getElem_cons_zero, List.getElem_cons_succ, List.setIfInBounds_toArray, List.set_cons_zero, List.set_cons_succ]
        refine wpAnyG_all (rs := [1]) (by kernel_rfl) (by simp) ?_
        intro i hi
        simp only [List.mem_cons, List.not_mem_nil, or_false] at hi
        subst hi
        refine wpOp_now rfl rfl ?_
        go_simp
        refine (copy_any s ol os cl cs hfl hfs hn hm _ (HR.out.1.1.below encR_len (by decide) (HB.out.trans (T0.mono HB.out.size))) (HR.out.1.2.below encI_len (by decide) (HB.out.trans (T0.mono HB.out.size)))).mono ?_
        rintro e Y1 ⟨vl, vs, rfl, hO1, hO2, hB⟩
        obtain ⟨olx, osx, clx, csx, rfl, rfl, hx⟩ := OwS.of (t := s) hO1 hO2
        have hpx := T0.size
        have hqx := hB.size
        obtain ⟨px, hpex⟩ : ∃ k, Y4.heap.size = k := ⟨_, rfl⟩
        obtain ⟨qx, hqex⟩ : ∃ k, Y1.heap.size = k := ⟨_, rfl⟩
        rw [hpex, hqex] at hx
        rw [hpex] at hpx
        have hlex : qx ≤ Y1.heap.size := by omega
        rw [hpex, hqex] at hqx
        replace T0 := T0.trans (hB.mono T0.size)
        replace d4 := d4.below' hB
        replace d5 := d5.below' hB
        clear hB hO1 hO2 hpex hqex
        refine ⟨fun _ => T0, ?_⟩
        try simp only [Act.put, List.getElem_toArray, List.getElem_cons_zero, List.getElem_cons_succ, List.setIfInBounds_toArray, List.set_cons_zero, List.set_cons_succ]
        refine wpAnyG_all (rs := [3]) (by kernel_rfl) (by simp) ?_
        intro i hi
        simp only [List.mem_cons, List.not_mem_nil, or_false] at hi
        subst hi
        refine wpOp_now rfl rfl ?_
        go_simp
        refine (copy_any t ol' os' cl' cs' hfl' hfs' hn' hm' _ (HR.out.2.1.below encR_len (by decide) (HB.out.trans (T0.mono HB.out.size))) (HR.out.2.2.below encI_len (by decide) (HB.out.trans (T0.mono HB.out.size)))).mono ?_
        rintro e Y3 ⟨vl, vs, rfl, hO1, hO2, hB⟩
        obtain ⟨oly, osy, cly, csy, rfl, rfl, hy⟩ := OwS.of (t := t) hO1 hO2
        have hpy := T0.size
        have hqy := hB.size
        obtain ⟨py, hpey⟩ : ∃ k, Y1.heap.size = k := ⟨_, rfl⟩
        obtain ⟨qy, hqey⟩ : ∃ k, Y3.heap.size = k := ⟨_, rfl⟩
        have hqp : qx ≤ py := by omega
        rw [hpey, hqey] at hy
        rw [hpey] at hpy
        have hley : qy ≤ Y3.heap.size := by omega
        rw [hpey, hqey] at hqy
        replace T0 := T0.trans (hB.mono T0.size)
        replace hx := hx.below hB
        replace d4 := d4.below' hB
        replace d5 := d5.below' hB
        clear hB hO1 hO2 hpey hqey
        refine ⟨fun _ => T0, ?_⟩
        try simp only [Act.put, List.getElem_toArray, List.getElem_cons_zero, List.getElem_cons_succ, List.setIfInBounds_toArray, List.set_cons_zero, List.set_cons_succ]
        have ne45 : b4 ≠ b5 := by omega
        have u0 := d4.cell 0
        have u1 := d4.cell 1
        have u2 := d4.frozen 0
        have u3 := d4.frozen 1
        have v0 := d5.cell 0
        have v1 := d5.cell 1
        have v2 := d5.frozen 0
        have v3 := d5.frozen 1
        simp only [List.getElem?_toArray, List.getElem?_cons_succ, List.getElem?_cons_zero] at u0 u1 v0 v1
        have T1 := (T0.setCell (p := ⟨b4, 0, none⟩) l4 (.slice olx s.L.length clx)).setCell (p := ⟨b4, 1, none⟩) l4 (.slice osx s.S.length csx)
        have e4 := (d4.set 0 (.slice olx s.L.length clx)).set 1 (.slice osx s.S.length csx)
        have e5 := (d5.other ne45.symm 0 (.slice olx s.L.length clx)).other ne45.symm 1 (.slice osx s.S.length csx)
        have ex := (hx.blk d4 0 (.slice olx s.L.length clx)).blk (d4.set 0 _) 1 (.slice osx s.S.length csx)
        have ey := (hy.blk d4 0 (.slice olx s.L.length clx)).blk (d4.set 0 _) 1 (.slice osx s.S.length csx)
        simp only [List.setIfInBounds_toArray, List.set_cons_zero, List.set_cons_succ] at e4
        have hz1 : qy ≤ ((Y3.setCell ⟨b4, 0, none⟩ (.slice olx s.L.length clx)).setCell ⟨b4, 1, none⟩ (.slice osx s.S.length csx)).heap.size := by simp; omega
        obtain ⟨Z1, hZ1⟩ : ∃ X, (Y3.setCell ⟨b4, 0, none⟩ (.slice olx s.L.length clx)).setCell ⟨b4, 1, none⟩ (.slice osx s.S.length csx) = X := ⟨_, rfl⟩
        rw [hZ1] at T1 e4 e5 ex ey hz1
        refine wpAnyG_all (rs := [6]) (by kernel_rfl) (by simp) ?_
        intro i hi
        simp only [List.mem_cons, List.not_mem_nil, or_false] at hi
        subst hi
        refine wpOp_now rfl rfl ?_
        go_simp
        try rw [hZ1]
        clear hZ1 u0 u1 u2 u3 v0 v1 v2 v3
        refine ⟨fun _ => T1, ?_⟩
        try simp only [Act.put, List.getElem_toArray, List.getElem_cons_zero, List.getElem_cons_succ, List.setIfInBounds_toArray, List.set_cons_zero, List.set_cons_succ]
        have v0 := e5.cell 0
        have v1 := e5.cell 1
        have v2 := e5.frozen 0
        have v3 := e5.frozen 1
        simp only [List.getElem?_toArray, List.getElem?_cons_succ, List.getElem?_cons_zero] at v0 v1
        have T2 := (T1.setCell (p := ⟨b5, 0, none⟩) l5 (.slice oly t.L.length cly)).setCell (p := ⟨b5, 1, none⟩) l5 (.slice osy t.S.length csy)
        have f5 := (e5.set 0 (.slice oly t.L.length cly)).set 1 (.slice osy t.S.length csy)
        have f4 := (e4.other ne45 0 (.slice oly t.L.length cly)).other ne45 1 (.slice osy t.S.length csy)
        have fx := (ex.blk e5 0 (.slice oly t.L.length cly)).blk (e5.set 0 _) 1 (.slice osy t.S.length csy)
        have fy := (ey.blk e5 0 (.slice oly t.L.length cly)).blk (e5.set 0 _) 1 (.slice osy t.S.length csy)
        simp only [List.setIfInBounds_toArray, List.set_cons_zero, List.set_cons_succ] at f5
        have hz2 : qy ≤ ((Z1.setCell ⟨b5, 0, none⟩ (.slice oly t.L.length cly)).setCell ⟨b5, 1, none⟩ (.slice osy t.S.length csy)).heap.size := by simp; omega
        obtain ⟨Z2, hZ2⟩ : ∃ X, (Z1.setCell ⟨b5, 0, none⟩ (.slice oly t.L.length cly)).setCell ⟨b5, 1, none⟩ (.slice osy t.S.length csy) = X := ⟨_, rfl⟩
        rw [hZ2] at T2 f5 f4 fx fy hz2
        refine wpAnyG_all (rs := [7]) (by kernel_rfl) (by simp) ?_
        intro i hi
        simp only [List.mem_cons, List.not_mem_nil, or_false] at hi
        subst hi
        refine wpOp_now rfl rfl ?_
        go_simp
        try rw [hZ2]
        clear hZ2 v0 v1 v2 v3
        refine ⟨fun _ => T2, ?_⟩
        try simp only [Act.put, List.getElem_toArray, List.getElem_cons_zero, List.getElem_cons_succ, List.setIfInBounds_toArray, List.set_cons_zero, List.set_cons_succ]
        refine wpAnyG_done (by kernel_rfl) ?_ _
        refine NoPanic.normal ?_
        exact ⟨rfl, ((olx, osx, clx, csx, b4), (oly, osy, cly, csy, b5)), by kernel_rfl, ⟨px, qx, py, qy, ⟨by omega, hqx, hqp, hqy, hz2⟩, fx, fy⟩, f4, f5, T2⟩
  · rintro ⟨⟨olx, osx, clx, csx, b4⟩, ⟨oly, osy, cly, csy, b5⟩⟩ X ⟨⟨k0, k1, k2, k3, ⟨hk0, hk01, hk12, hk23, hk3⟩, hx, hy⟩, hb4, hb5, hBX⟩
    simp only at hx hy hb4 hb5 hBX
    simp only [putsG, List.foldl_cons, List.foldl_nil, List.setIfInBounds_toArray, List.set_cons_zero, List.set_cons_succ]
    have HK := Lib.hid hk3
    have HX := Lib.hid hx
    have HY := Lib.hid hy
    have H4 := Lib.hid hb4
    have H5 := Lib.hid hb5
    replace HA := Lib.hid (HA.out.below' hBX)
    replace HBb := Lib.hid (HBb.out.below' hBX)
    replace HB := Lib.hid (HB.out.trans (hBX.mono HB.out.size))
    clear hx hy hb4 hb5 hBX hk3
    clear HA0 HA1 HBb0 HBb1
    have HA0 : X.cell? ⟨w.heap.size, 0, none⟩ = some (.slice ol s.L.length cl) := HA.out.cell 0
    have HA1 : X.cell? ⟨w.heap.size, 1, none⟩ = some (.slice os s.S.length cs) := HA.out.cell 1
    have HBb0 : X.cell? ⟨w.heap.size + 1, 0, none⟩ = some (.slice ol' t.L.length cl') := HBb.out.cell 0
    have HBb1 : X.cell? ⟨w.heap.size + 1, 1, none⟩ = some (.slice os' t.S.length cs') := HBb.out.cell 1
    have H40 : X.cell? ⟨b4, 0, none⟩ = some (.slice olx s.L.length clx) := H4.out.cell 0
    have H41 : X.cell? ⟨b4, 1, none⟩ = some (.slice osx s.S.length csx) := H4.out.cell 1
    have H50 : X.cell? ⟨b5, 0, none⟩ = some (.slice oly t.L.length cly) := H5.out.cell 0
    have H51 : X.cell? ⟨b5, 1, none⟩ = some (.slice osy t.S.length csy) := H5.out.cell 1
    rename_i hK
    refine hK _ _ ?_
    go_wp2_with (fail)
    refine (within_any s t olx osx oly osy clx csx cly csy hms hmt HLEN.out _ HX.out.rowL HX.out.rowS HY.out.rowL HY.out.rowS).mono ?_
    rintro e v1 ⟨rfl, hB⟩
    replace HA := Lib.hid (HA.out.below' hB)
    replace HBb := Lib.hid (HBb.out.below' hB)
    replace HB := Lib.hid (HB.out.trans (hB.mono HB.out.size))
    replace HK := Lib.hid (Nat.le_trans HK.out hB.size)
    replace HX := Lib.hid (HX.out.below hB)
    replace HY := Lib.hid (HY.out.below hB)
    replace H4 := Lib.hid (H4.out.below' hB)
    replace H5 := Lib.hid (H5.out.below' hB)
    clear hB
    clear HA0 HA1 HBb0 HBb1 H40 H41 H50 H51
    have HA0 : v1.cell? ⟨w.heap.size, 0, none⟩ = some (.slice ol s.L.length cl) := HA.out.cell 0
    have HA1 : v1.cell? ⟨w.heap.size, 1, none⟩ = some (.slice os s.S.length cs) := HA.out.cell 1
    have HBb0 : v1.cell? ⟨w.heap.size + 1, 0, none⟩ = some (.slice ol' t.L.length cl') := HBb.out.cell 0
    have HBb1 : v1.cell? ⟨w.heap.size + 1, 1, none⟩ = some (.slice os' t.S.length cs') := HBb.out.cell 1
    have H40 : v1.cell? ⟨b4, 0, none⟩ = some (.slice olx s.L.length clx) := H4.out.cell 0
    have H41 : v1.cell? ⟨b4, 1, none⟩ = some (.slice osx s.S.length csx) := H4.out.cell 1
    have H50 : v1.cell? ⟨b5, 0, none⟩ = some (.slice oly t.L.length cly) := H5.out.cell 0
    have H51 : v1.cell? ⟨b5, 1, none⟩ = some (.slice osy t.S.length csy) := H5.out.cell 1
    go_wp2_with (fail)
    refine (meet_any s t olx osx oly osy clx csx cly csy (own_form HX.out.s) hms hmt HLEN.out _ HX.out.rowL HX.out.rowS HY.out.rowL HY.out.rowS).mono ?_
    rintro e v2 ⟨fm, vl, vs, hfm, rfl, hO1, hO2, hB⟩
    have HFM := Lib.hid hfm
    clear hfm
    obtain ⟨M, hM⟩ : ∃ R, togR s t fm = R := ⟨_, rfl⟩
    rw [hM] at hO1 hO2
    try rw [hM]
    have HM := Lib.hid hM
    clear hM
    obtain ⟨olm, osm, clm, csm, rfl, rfl, hO⟩ := OB.new (t := M.1) hO1 hO2
    have hszm := hB.size
    have hA := (Below.refl v2.heap.size v2).alloc (Nat.le_refl _) (.cells #[.slice olm (M.1).L.length clm, .slice osm (M.1).S.length csm] 25)
    have hkpm := HK.out
    replace HA := Lib.hid (HA.out.below' hB)
    replace HBb := Lib.hid (HBb.out.below' hB)
    replace HB := Lib.hid (HB.out.trans (hB.mono HB.out.size))
    replace HK := Lib.hid (Nat.le_trans HK.out hB.size)
    replace HX := Lib.hid (HX.out.below hB)
    replace HY := Lib.hid (HY.out.below hB)
    replace H4 := Lib.hid (H4.out.below' hB)
    replace H5 := Lib.hid (H5.out.below' hB)
    replace HA := Lib.hid (HA.out.below' hA)
    replace HBb := Lib.hid (HBb.out.below' hA)
    replace HB := Lib.hid (HB.out.trans (hA.mono HB.out.size))
    replace HK := Lib.hid (Nat.le_trans HK.out hA.size)
    replace HX := Lib.hid (HX.out.below hA)
    replace HY := Lib.hid (HY.out.below hA)
    replace H4 := Lib.hid (H4.out.below' hA)
    replace H5 := Lib.hid (H5.out.below' hA)
    obtain ⟨pm, hpm⟩ : ∃ k, v1.heap.size = k := ⟨_, rfl⟩
    obtain ⟨qm, hqm⟩ : ∃ k, v2.heap.size = k := ⟨_, rfl⟩
    obtain ⟨Vm, hV⟩ : ∃ V, v2.alloc (.cells #[.slice olm (M.1).L.length clm, .slice osm (M.1).S.length csm] 25) = V := ⟨_, rfl⟩
    rw [hV] at HA HBb HB HK HX HY H4 H5
    rw [hV, hpm, hqm] at hO
    rw [hpm] at hkpm
    have HOm := Lib.hid hO
    clear hA hO hO1 hO2 hB
    clear HA0 HA1 HBb0 HBb1 H40 H41 H50 H51
    have HA0 : Vm.cell? ⟨w.heap.size, 0, none⟩ = some (.slice ol s.L.length cl) := HA.out.cell 0
    have HA1 : Vm.cell? ⟨w.heap.size, 1, none⟩ = some (.slice os s.S.length cs) := HA.out.cell 1
    have HBb0 : Vm.cell? ⟨w.heap.size + 1, 0, none⟩ = some (.slice ol' t.L.length cl') := HBb.out.cell 0
    have HBb1 : Vm.cell? ⟨w.heap.size + 1, 1, none⟩ = some (.slice os' t.S.length cs') := HBb.out.cell 1
    have H40 : Vm.cell? ⟨b4, 0, none⟩ = some (.slice olx s.L.length clx) := H4.out.cell 0
    have H41 : Vm.cell? ⟨b4, 1, none⟩ = some (.slice osx s.S.length csx) := H4.out.cell 1
    have H50 : Vm.cell? ⟨b5, 0, none⟩ = some (.slice oly t.L.length cly) := H5.out.cell 0
    have H51 : Vm.cell? ⟨b5, 1, none⟩ = some (.slice osy t.S.length csy) := H5.out.cell 1
    have HOm0 : Vm.cell? ⟨qm, 0, none⟩ = some (.slice olm (M.1).L.length clm) := HOm.out.b.cell 0
    have HOm1 : Vm.cell? ⟨qm, 1, none⟩ = some (.slice osm (M.1).S.length csm) := HOm.out.b.cell 1
    go_wp2_with (fail)
    try rw [hV, hqm]
    try rw [hV]
    try clear hV hqm hpm hszm
    refine (join_any s t olx osx oly osy clx csx cly csy (own_form HX.out.s) hms hmt HLEN.out _ HX.out.rowL HX.out.rowS HY.out.rowL HY.out.rowS).mono ?_
    rintro e v3 ⟨fj, vl, vs, hfj, rfl, hO1, hO2, hB⟩
    have HFJ := Lib.hid hfj
    clear hfj
    obtain ⟨J, hJ⟩ : ∃ R, togR s t fj = R := ⟨_, rfl⟩
    rw [hJ] at hO1 hO2
    try rw [hJ]
    have HJ := Lib.hid hJ
    clear hJ
    obtain ⟨olj, osj, clj, csj, rfl, rfl, hO⟩ := OB.new (t := J.1) hO1 hO2
    have hszj := hB.size
    have hA := (Below.refl v3.heap.size v3).alloc (Nat.le_refl _) (.cells #[.slice olj (J.1).L.length clj, .slice osj (J.1).S.length csj] 25)
    have hkpj := HK.out
    replace HA := Lib.hid (HA.out.below' hB)
    replace HBb := Lib.hid (HBb.out.below' hB)
    replace HB := Lib.hid (HB.out.trans (hB.mono HB.out.size))
    replace HK := Lib.hid (Nat.le_trans HK.out hB.size)
    replace HX := Lib.hid (HX.out.below hB)
    replace HY := Lib.hid (HY.out.below hB)
    replace H4 := Lib.hid (H4.out.below' hB)
    replace H5 := Lib.hid (H5.out.below' hB)
    replace HOm := Lib.hid (HOm.out.below hB)
    replace HA := Lib.hid (HA.out.below' hA)
    replace HBb := Lib.hid (HBb.out.below' hA)
    replace HB := Lib.hid (HB.out.trans (hA.mono HB.out.size))
    replace HK := Lib.hid (Nat.le_trans HK.out hA.size)
    replace HX := Lib.hid (HX.out.below hA)
    replace HY := Lib.hid (HY.out.below hA)
    replace H4 := Lib.hid (H4.out.below' hA)
    replace H5 := Lib.hid (H5.out.below' hA)
    replace HOm := Lib.hid (HOm.out.below hA)
    obtain ⟨pj, hpj⟩ : ∃ k, Vm.heap.size = k := ⟨_, rfl⟩
    obtain ⟨qj, hqj⟩ : ∃ k, v3.heap.size = k := ⟨_, rfl⟩
    obtain ⟨Vj, hV⟩ : ∃ V, v3.alloc (.cells #[.slice olj (J.1).L.length clj, .slice osj (J.1).S.length csj] 25) = V := ⟨_, rfl⟩
    rw [hV] at HA HBb HB HK HX HY H4 H5 HOm
    rw [hV, hpj, hqj] at hO
    rw [hpj] at hkpj
    have HOj := Lib.hid hO
    clear hA hO hO1 hO2 hB
    clear HA0 HA1 HBb0 HBb1 H40 H41 H50 H51 HOm0 HOm1
    have HA0 : Vj.cell? ⟨w.heap.size, 0, none⟩ = some (.slice ol s.L.length cl) := HA.out.cell 0
    have HA1 : Vj.cell? ⟨w.heap.size, 1, none⟩ = some (.slice os s.S.length cs) := HA.out.cell 1
    have HBb0 : Vj.cell? ⟨w.heap.size + 1, 0, none⟩ = some (.slice ol' t.L.length cl') := HBb.out.cell 0
    have HBb1 : Vj.cell? ⟨w.heap.size + 1, 1, none⟩ = some (.slice os' t.S.length cs') := HBb.out.cell 1
    have H40 : Vj.cell? ⟨b4, 0, none⟩ = some (.slice olx s.L.length clx) := H4.out.cell 0
    have H41 : Vj.cell? ⟨b4, 1, none⟩ = some (.slice osx s.S.length csx) := H4.out.cell 1
    have H50 : Vj.cell? ⟨b5, 0, none⟩ = some (.slice oly t.L.length cly) := H5.out.cell 0
    have H51 : Vj.cell? ⟨b5, 1, none⟩ = some (.slice osy t.S.length csy) := H5.out.cell 1
    have HOm0 : Vj.cell? ⟨qm, 0, none⟩ = some (.slice olm (M.1).L.length clm) := HOm.out.b.cell 0
    have HOm1 : Vj.cell? ⟨qm, 1, none⟩ = some (.slice osm (M.1).S.length csm) := HOm.out.b.cell 1
    have HOj0 : Vj.cell? ⟨qj, 0, none⟩ = some (.slice olj (J.1).L.length clj) := HOj.out.b.cell 0
    have HOj1 : Vj.cell? ⟨qj, 1, none⟩ = some (.slice osj (J.1).S.length csj) := HOj.out.b.cell 1
    go_wp2_with (fail)
    try rw [hV, hqj]
    try rw [hV]
    try clear hV hqj hpj hszj
    refine (eqS_any s olx osx ol os clx csx cl cs (by omega) (by omega) _ HX.out.rowL HX.out.rowS (HR.out.1.1.below encR_len (by decide) HB.out) (HR.out.1.2.below encI_len (by decide) HB.out)).mono ?_
    rintro e v4 ⟨rfl, hB⟩
    replace HA := Lib.hid (HA.out.below' hB)
    replace HBb := Lib.hid (HBb.out.below' hB)
    replace HB := Lib.hid (HB.out.trans (hB.mono HB.out.size))
    replace HK := Lib.hid (Nat.le_trans HK.out hB.size)
    replace HX := Lib.hid (HX.out.below hB)
    replace HY := Lib.hid (HY.out.below hB)
    replace H4 := Lib.hid (H4.out.below' hB)
    replace H5 := Lib.hid (H5.out.below' hB)
    replace HOm := Lib.hid (HOm.out.below hB)
    replace HOj := Lib.hid (HOj.out.below hB)
    clear hB
    clear HA0 HA1 HBb0 HBb1 H40 H41 H50 H51 HOm0 HOm1 HOj0 HOj1
    have HA0 : v4.cell? ⟨w.heap.size, 0, none⟩ = some (.slice ol s.L.length cl) := HA.out.cell 0
    have HA1 : v4.cell? ⟨w.heap.size, 1, none⟩ = some (.slice os s.S.length cs) := HA.out.cell 1
    have HBb0 : v4.cell? ⟨w.heap.size + 1, 0, none⟩ = some (.slice ol' t.L.length cl') := HBb.out.cell 0
    have HBb1 : v4.cell? ⟨w.heap.size + 1, 1, none⟩ = some (.slice os' t.S.length cs') := HBb.out.cell 1
    have H40 : v4.cell? ⟨b4, 0, none⟩ = some (.slice olx s.L.length clx) := H4.out.cell 0
    have H41 : v4.cell? ⟨b4, 1, none⟩ = some (.slice osx s.S.length csx) := H4.out.cell 1
    have H50 : v4.cell? ⟨b5, 0, none⟩ = some (.slice oly t.L.length cly) := H5.out.cell 0
    have H51 : v4.cell? ⟨b5, 1, none⟩ = some (.slice osy t.S.length csy) := H5.out.cell 1
    have HOm0 : v4.cell? ⟨qm, 0, none⟩ = some (.slice olm (M.1).L.length clm) := HOm.out.b.cell 0
    have HOm1 : v4.cell? ⟨qm, 1, none⟩ = some (.slice osm (M.1).S.length csm) := HOm.out.b.cell 1
    have HOj0 : v4.cell? ⟨qj, 0, none⟩ = some (.slice olj (J.1).L.length clj) := HOj.out.b.cell 0
    have HOj1 : v4.cell? ⟨qj, 1, none⟩ = some (.slice osj (J.1).S.length csj) := HOj.out.b.cell 1
    go_wp2_with (fail)
    refine (eqS_any t oly osy ol' os' cly csy cl' cs' (by omega) (by omega) _ HY.out.rowL HY.out.rowS (HR.out.2.1.below encR_len (by decide) HB.out) (HR.out.2.2.below encI_len (by decide) HB.out)).mono ?_
    rintro e v5 ⟨rfl, hB⟩
    replace HA := Lib.hid (HA.out.below' hB)
    replace HBb := Lib.hid (HBb.out.below' hB)
    replace HB := Lib.hid (HB.out.trans (hB.mono HB.out.size))
    replace HK := Lib.hid (Nat.le_trans HK.out hB.size)
    replace HX := Lib.hid (HX.out.below hB)
    replace HY := Lib.hid (HY.out.below hB)
    replace H4 := Lib.hid (H4.out.below' hB)
    replace H5 := Lib.hid (H5.out.below' hB)
    replace HOm := Lib.hid (HOm.out.below hB)
    replace HOj := Lib.hid (HOj.out.below hB)
    clear hB
    clear HA0 HA1 HBb0 HBb1 H40 H41 H50 H51 HOm0 HOm1 HOj0 HOj1
    have HA0 : v5.cell? ⟨w.heap.size, 0, none⟩ = some (.slice ol s.L.length cl) := HA.out.cell 0
    have HA1 : v5.cell? ⟨w.heap.size, 1, none⟩ = some (.slice os s.S.length cs) := HA.out.cell 1
    have HBb0 : v5.cell? ⟨w.heap.size + 1, 0, none⟩ = some (.slice ol' t.L.length cl') := HBb.out.cell 0
    have HBb1 : v5.cell? ⟨w.heap.size + 1, 1, none⟩ = some (.slice os' t.S.length cs') := HBb.out.cell 1
    have H40 : v5.cell? ⟨b4, 0, none⟩ = some (.slice olx s.L.length clx) := H4.out.cell 0
    have H41 : v5.cell? ⟨b4, 1, none⟩ = some (.slice osx s.S.length csx) := H4.out.cell 1
    have H50 : v5.cell? ⟨b5, 0, none⟩ = some (.slice oly t.L.length cly) := H5.out.cell 0
    have H51 : v5.cell? ⟨b5, 1, none⟩ = some (.slice osy t.S.length csy) := H5.out.cell 1
    have HOm0 : v5.cell? ⟨qm, 0, none⟩ = some (.slice olm (M.1).L.length clm) := HOm.out.b.cell 0
    have HOm1 : v5.cell? ⟨qm, 1, none⟩ = some (.slice osm (M.1).S.length csm) := HOm.out.b.cell 1
    have HOj0 : v5.cell? ⟨qj, 0, none⟩ = some (.slice olj (J.1).L.length clj) := HOj.out.b.cell 0
    have HOj1 : v5.cell? ⟨qj, 1, none⟩ = some (.slice osj (J.1).S.length csj) := HOj.out.b.cell 1
    have cS := fun W a b => may_any s ol os cl cs (by omega) (by omega) W a b
    have cT := fun W a b => may_any t ol' os' cl' cs' (by omega) (by omega) W a b
    rw [hms] at cS
    rw [hmt] at cT
    go_wp2_with (fail)
    refine (cS _ (HR.out.1.1.below encR_len (by decide) HB.out) (HR.out.1.2.below encI_len (by decide) HB.out)).mono ?_
    rintro e v6 ⟨rfl, hB⟩
    replace HA := Lib.hid (HA.out.below' hB)
    replace HBb := Lib.hid (HBb.out.below' hB)
    replace HB := Lib.hid (HB.out.trans (hB.mono HB.out.size))
    replace HK := Lib.hid (Nat.le_trans HK.out hB.size)
    replace HX := Lib.hid (HX.out.below hB)
    replace HY := Lib.hid (HY.out.below hB)
    replace H4 := Lib.hid (H4.out.below' hB)
    replace H5 := Lib.hid (H5.out.below' hB)
    replace HOm := Lib.hid (HOm.out.below hB)
    replace HOj := Lib.hid (HOj.out.below hB)
    clear hB
    clear HA0 HA1 HBb0 HBb1 H40 H41 H50 H51 HOm0 HOm1 HOj0 HOj1
    have HA0 : v6.cell? ⟨w.heap.size, 0, none⟩ = some (.slice ol s.L.length cl) := HA.out.cell 0
    have HA1 : v6.cell? ⟨w.heap.size, 1, none⟩ = some (.slice os s.S.length cs) := HA.out.cell 1
    have HBb0 : v6.cell? ⟨w.heap.size + 1, 0, none⟩ = some (.slice ol' t.L.length cl') := HBb.out.cell 0
    have HBb1 : v6.cell? ⟨w.heap.size + 1, 1, none⟩ = some (.slice os' t.S.length cs') := HBb.out.cell 1
    have H40 : v6.cell? ⟨b4, 0, none⟩ = some (.slice olx s.L.length clx) := H4.out.cell 0
    have H41 : v6.cell? ⟨b4, 1, none⟩ = some (.slice osx s.S.length csx) := H4.out.cell 1
    have H50 : v6.cell? ⟨b5, 0, none⟩ = some (.slice oly t.L.length cly) := H5.out.cell 0
    have H51 : v6.cell? ⟨b5, 1, none⟩ = some (.slice osy t.S.length csy) := H5.out.cell 1
    have HOm0 : v6.cell? ⟨qm, 0, none⟩ = some (.slice olm (M.1).L.length clm) := HOm.out.b.cell 0
    have HOm1 : v6.cell? ⟨qm, 1, none⟩ = some (.slice osm (M.1).S.length csm) := HOm.out.b.cell 1
    have HOj0 : v6.cell? ⟨qj, 0, none⟩ = some (.slice olj (J.1).L.length clj) := HOj.out.b.cell 0
    have HOj1 : v6.cell? ⟨qj, 1, none⟩ = some (.slice osj (J.1).S.length csj) := HOj.out.b.cell 1
    have e1 : ((s.L.length : Int) != (t.L.length : Int)) = false := by rw [HLEN.out]; simp
    have e2 : (s.L.length != t.L.length) = false := by rw [HLEN.out]; simp
    go_wp2_with (fail)
    refine (cT _ (HR.out.2.1.below encR_len (by decide) HB.out) (HR.out.2.2.below encI_len (by decide) HB.out)).mono ?_
    rintro e v7 ⟨rfl, hB⟩
    replace HA := Lib.hid (HA.out.below' hB)
    replace HBb := Lib.hid (HBb.out.below' hB)
    replace HB := Lib.hid (HB.out.trans (hB.mono HB.out.size))
    replace HK := Lib.hid (Nat.le_trans HK.out hB.size)
    replace HX := Lib.hid (HX.out.below hB)
    replace HY := Lib.hid (HY.out.below hB)
    replace H4 := Lib.hid (H4.out.below' hB)
    replace H5 := Lib.hid (H5.out.below' hB)
    replace HOm := Lib.hid (HOm.out.below hB)
    replace HOj := Lib.hid (HOj.out.below hB)
    clear hB
    clear HA0 HA1 HBb0 HBb1 H40 H41 H50 H51 HOm0 HOm1 HOj0 HOj1
    have HA0 : v7.cell? ⟨w.heap.size, 0, none⟩ = some (.slice ol s.L.length cl) := HA.out.cell 0
    have HA1 : v7.cell? ⟨w.heap.size, 1, none⟩ = some (.slice os s.S.length cs) := HA.out.cell 1
    have HBb0 : v7.cell? ⟨w.heap.size + 1, 0, none⟩ = some (.slice ol' t.L.length cl') := HBb.out.cell 0
    have HBb1 : v7.cell? ⟨w.heap.size + 1, 1, none⟩ = some (.slice os' t.S.length cs') := HBb.out.cell 1
    have H40 : v7.cell? ⟨b4, 0, none⟩ = some (.slice olx s.L.length clx) := H4.out.cell 0
    have H41 : v7.cell? ⟨b4, 1, none⟩ = some (.slice osx s.S.length csx) := H4.out.cell 1
    have H50 : v7.cell? ⟨b5, 0, none⟩ = some (.slice oly t.L.length cly) := H5.out.cell 0
    have H51 : v7.cell? ⟨b5, 1, none⟩ = some (.slice osy t.S.length csy) := H5.out.cell 1
    have HOm0 : v7.cell? ⟨qm, 0, none⟩ = some (.slice olm (M.1).L.length clm) := HOm.out.b.cell 0
    have HOm1 : v7.cell? ⟨qm, 1, none⟩ = some (.slice osm (M.1).S.length csm) := HOm.out.b.cell 1
    have HOj0 : v7.cell? ⟨qj, 0, none⟩ = some (.slice olj (J.1).L.length clj) := HOj.out.b.cell 0
    have HOj1 : v7.cell? ⟨qj, 1, none⟩ = some (.slice osj (J.1).S.length csj) := HOj.out.b.cell 1
    go_wp2_with (fail)
    have hG0 : k0 ≤ v7.heap.size := by have := HK.out; omega
    refine (spoil_any (.slice olx s.L.length clx) (.slice osx s.S.length csx) s.L.length s.S.length k0 (s.L.flatMap encR) (s.S.flatMap encI) (by omega) (by omega) _ hG0 HX.out.l HX.out.s).mono ?_
    rintro e v8 ⟨rfl, hG⟩
    replace HA := Lib.hid (blk_gr2 HA.out hG (HA.out.not_row (by decide) HX.out.l) (HA.out.not_row (by decide) HX.out.s))
    replace HBb := Lib.hid (blk_gr2 HBb.out hG (HBb.out.not_row (by decide) HX.out.l) (HBb.out.not_row (by decide) HX.out.s))
    replace HB := Lib.hid (below_gr2 HB.out hG HB.out.size (fun g e => by have := (HX.out.l.lt g e).1; omega) (fun g e => by have := (HX.out.s.lt g e).1; omega))
    replace HK := Lib.hid (Nat.le_trans HK.out hG.2.2.2.1)
    replace HY := Lib.hid (HY.out.gr2 HX.out hG (by omega))
    replace H4 := Lib.hid (blk_gr2 H4.out hG (H4.out.not_row (by decide) HX.out.l) (H4.out.not_row (by decide) HX.out.s))
    replace H5 := Lib.hid (blk_gr2 H5.out hG (H5.out.not_row (by decide) HX.out.l) (H5.out.not_row (by decide) HX.out.s))
    replace HOm := Lib.hid (HOm.out.gr2 HX.out hG (by omega))
    replace HOj := Lib.hid (HOj.out.gr2 HX.out hG (by omega))
    clear HX hG hG0
    clear HA0 HA1 HBb0 HBb1 H40 H41 H50 H51 HOm0 HOm1 HOj0 HOj1
    have HA0 : v8.cell? ⟨w.heap.size, 0, none⟩ = some (.slice ol s.L.length cl) := HA.out.cell 0
    have HA1 : v8.cell? ⟨w.heap.size, 1, none⟩ = some (.slice os s.S.length cs) := HA.out.cell 1
    have HBb0 : v8.cell? ⟨w.heap.size + 1, 0, none⟩ = some (.slice ol' t.L.length cl') := HBb.out.cell 0
    have HBb1 : v8.cell? ⟨w.heap.size + 1, 1, none⟩ = some (.slice os' t.S.length cs') := HBb.out.cell 1
    have H40 : v8.cell? ⟨b4, 0, none⟩ = some (.slice olx s.L.length clx) := H4.out.cell 0
    have H41 : v8.cell? ⟨b4, 1, none⟩ = some (.slice osx s.S.length csx) := H4.out.cell 1
    have H50 : v8.cell? ⟨b5, 0, none⟩ = some (.slice oly t.L.length cly) := H5.out.cell 0
    have H51 : v8.cell? ⟨b5, 1, none⟩ = some (.slice osy t.S.length csy) := H5.out.cell 1
    have HOm0 : v8.cell? ⟨qm, 0, none⟩ = some (.slice olm (M.1).L.length clm) := HOm.out.b.cell 0
    have HOm1 : v8.cell? ⟨qm, 1, none⟩ = some (.slice osm (M.1).S.length csm) := HOm.out.b.cell 1
    have HOj0 : v8.cell? ⟨qj, 0, none⟩ = some (.slice olj (J.1).L.length clj) := HOj.out.b.cell 0
    have HOj1 : v8.cell? ⟨qj, 1, none⟩ = some (.slice osj (J.1).S.length csj) := HOj.out.b.cell 1
    go_wp2_with (fail)
    have hG0 : k2 ≤ v8.heap.size := by have := HK.out; omega
    refine (spoil_any (.slice oly t.L.length cly) (.slice osy t.S.length csy) t.L.length t.S.length k2 (t.L.flatMap encR) (t.S.flatMap encI) (by omega) (by omega) _ hG0 HY.out.l HY.out.s).mono ?_
    rintro e v9 ⟨rfl, hG⟩
    replace HA := Lib.hid (blk_gr2 HA.out hG (HA.out.not_row (by decide) HY.out.l) (HA.out.not_row (by decide) HY.out.s))
    replace HBb := Lib.hid (blk_gr2 HBb.out hG (HBb.out.not_row (by decide) HY.out.l) (HBb.out.not_row (by decide) HY.out.s))
    replace HB := Lib.hid (below_gr2 HB.out hG HB.out.size (fun g e => by have := (HY.out.l.lt g e).1; omega) (fun g e => by have := (HY.out.s.lt g e).1; omega))
    replace HK := Lib.hid (Nat.le_trans HK.out hG.2.2.2.1)
    replace H4 := Lib.hid (blk_gr2 H4.out hG (H4.out.not_row (by decide) HY.out.l) (H4.out.not_row (by decide) HY.out.s))
    replace H5 := Lib.hid (blk_gr2 H5.out hG (H5.out.not_row (by decide) HY.out.l) (H5.out.not_row (by decide) HY.out.s))
    replace HOm := Lib.hid (HOm.out.gr2 HY.out hG (by omega))
    replace HOj := Lib.hid (HOj.out.gr2 HY.out hG (by omega))
    clear HY hG hG0
    clear HA0 HA1 HBb0 HBb1 H40 H41 H50 H51 HOm0 HOm1 HOj0 HOj1
    have HA0 : v9.cell? ⟨w.heap.size, 0, none⟩ = some (.slice ol s.L.length cl) := HA.out.cell 0
    have HA1 : v9.cell? ⟨w.heap.size, 1, none⟩ = some (.slice os s.S.length cs) := HA.out.cell 1
    have HBb0 : v9.cell? ⟨w.heap.size + 1, 0, none⟩ = some (.slice ol' t.L.length cl') := HBb.out.cell 0
    have HBb1 : v9.cell? ⟨w.heap.size + 1, 1, none⟩ = some (.slice os' t.S.length cs') := HBb.out.cell 1
    have H40 : v9.cell? ⟨b4, 0, none⟩ = some (.slice olx s.L.length clx) := H4.out.cell 0
    have H41 : v9.cell? ⟨b4, 1, none⟩ = some (.slice osx s.S.length csx) := H4.out.cell 1
    have H50 : v9.cell? ⟨b5, 0, none⟩ = some (.slice oly t.L.length cly) := H5.out.cell 0
    have H51 : v9.cell? ⟨b5, 1, none⟩ = some (.slice osy t.S.length csy) := H5.out.cell 1
    have HOm0 : v9.cell? ⟨qm, 0, none⟩ = some (.slice olm (M.1).L.length clm) := HOm.out.b.cell 0
    have HOm1 : v9.cell? ⟨qm, 1, none⟩ = some (.slice osm (M.1).S.length csm) := HOm.out.b.cell 1
    have HOj0 : v9.cell? ⟨qj, 0, none⟩ = some (.slice olj (J.1).L.length clj) := HOj.out.b.cell 0
    have HOj1 : v9.cell? ⟨qj, 1, none⟩ = some (.slice osj (J.1).S.length csj) := HOj.out.b.cell 1
    go_wp2_with (fail)
    refine (refMeet_any s t ol os ol' os' cl cs cl' cs' hfs hms HLEN.out _ (HR.out.1.1.below encR_len (by decide) HB.out) (HR.out.1.2.below encI_len (by decide) HB.out) (HR.out.2.1.below encR_len (by decide) HB.out)).mono ?_
    rintro e v10 ⟨fp, vl, vs, hfp, rfl, hO1, hO2, hB⟩
    rw [← togR_congr s t HFM.out hfp, HM.out] at hO1 hO2
    try rw [← togR_congr s t HFM.out hfp, HM.out]
    clear hfp
    obtain ⟨olp, osp, clp, csp, rfl, rfl, hO⟩ := OB.new (t := M.1) hO1 hO2
    have hszp := hB.size
    have hA := (Below.refl v10.heap.size v10).alloc (Nat.le_refl _) (.cells #[.slice olp (M.1).L.length clp, .slice osp (M.1).S.length csp] 25)
    have hkpp := HK.out
    replace HA := Lib.hid (HA.out.below' hB)
    replace HBb := Lib.hid (HBb.out.below' hB)
    replace HB := Lib.hid (HB.out.trans (hB.mono HB.out.size))
    replace HK := Lib.hid (Nat.le_trans HK.out hB.size)
    replace H4 := Lib.hid (H4.out.below' hB)
    replace H5 := Lib.hid (H5.out.below' hB)
    replace HOm := Lib.hid (HOm.out.below hB)
    replace HOj := Lib.hid (HOj.out.below hB)
    replace HA := Lib.hid (HA.out.below' hA)
    replace HBb := Lib.hid (HBb.out.below' hA)
    replace HB := Lib.hid (HB.out.trans (hA.mono HB.out.size))
    replace HK := Lib.hid (Nat.le_trans HK.out hA.size)
    replace H4 := Lib.hid (H4.out.below' hA)
    replace H5 := Lib.hid (H5.out.below' hA)
    replace HOm := Lib.hid (HOm.out.below hA)
    replace HOj := Lib.hid (HOj.out.below hA)
    obtain ⟨pp, hpp⟩ : ∃ k, v9.heap.size = k := ⟨_, rfl⟩
    obtain ⟨qp, hqp⟩ : ∃ k, v10.heap.size = k := ⟨_, rfl⟩
    obtain ⟨Vp, hV⟩ : ∃ V, v10.alloc (.cells #[.slice olp (M.1).L.length clp, .slice osp (M.1).S.length csp] 25) = V := ⟨_, rfl⟩
    rw [hV] at HA HBb HB HK H4 H5 HOm HOj
    rw [hV, hpp, hqp] at hO
    rw [hpp] at hkpp
    have HOp := Lib.hid hO
    clear hA hO hO1 hO2 hB
    clear HA0 HA1 HBb0 HBb1 H40 H41 H50 H51 HOm0 HOm1 HOj0 HOj1
    have HA0 : Vp.cell? ⟨w.heap.size, 0, none⟩ = some (.slice ol s.L.length cl) := HA.out.cell 0
    have HA1 : Vp.cell? ⟨w.heap.size, 1, none⟩ = some (.slice os s.S.length cs) := HA.out.cell 1
    have HBb0 : Vp.cell? ⟨w.heap.size + 1, 0, none⟩ = some (.slice ol' t.L.length cl') := HBb.out.cell 0
    have HBb1 : Vp.cell? ⟨w.heap.size + 1, 1, none⟩ = some (.slice os' t.S.length cs') := HBb.out.cell 1
    have H40 : Vp.cell? ⟨b4, 0, none⟩ = some (.slice olx s.L.length clx) := H4.out.cell 0
    have H41 : Vp.cell? ⟨b4, 1, none⟩ = some (.slice osx s.S.length csx) := H4.out.cell 1
    have H50 : Vp.cell? ⟨b5, 0, none⟩ = some (.slice oly t.L.length cly) := H5.out.cell 0
    have H51 : Vp.cell? ⟨b5, 1, none⟩ = some (.slice osy t.S.length csy) := H5.out.cell 1
    have HOm0 : Vp.cell? ⟨qm, 0, none⟩ = some (.slice olm (M.1).L.length clm) := HOm.out.b.cell 0
    have HOm1 : Vp.cell? ⟨qm, 1, none⟩ = some (.slice osm (M.1).S.length csm) := HOm.out.b.cell 1
    have HOj0 : Vp.cell? ⟨qj, 0, none⟩ = some (.slice olj (J.1).L.length clj) := HOj.out.b.cell 0
    have HOj1 : Vp.cell? ⟨qj, 1, none⟩ = some (.slice osj (J.1).S.length csj) := HOj.out.b.cell 1
    have HOp0 : Vp.cell? ⟨qp, 0, none⟩ = some (.slice olp (M.1).L.length clp) := HOp.out.b.cell 0
    have HOp1 : Vp.cell? ⟨qp, 1, none⟩ = some (.slice osp (M.1).S.length csp) := HOp.out.b.cell 1
    go_wp2_with (fail)
    try rw [hV, hqp]
    try rw [hV]
    try clear hV hqp hpp hszp
    refine (refJoin_any s t ol os ol' os' cl cs cl' cs' hfs hms HLEN.out _ (HR.out.1.1.below encR_len (by decide) HB.out) (HR.out.1.2.below encI_len (by decide) HB.out) (HR.out.2.1.below encR_len (by decide) HB.out)).mono ?_
    rintro e v11 ⟨fq, vl, vs, hfq, rfl, hO1, hO2, hB⟩
    rw [← togR_congr s t HFJ.out hfq, HJ.out] at hO1 hO2
    try rw [← togR_congr s t HFJ.out hfq, HJ.out]
    clear hfq
    obtain ⟨olq, osq, clq, csq, rfl, rfl, hO⟩ := OB.new (t := J.1) hO1 hO2
    have hszq := hB.size
    have hA := (Below.refl v11.heap.size v11).alloc (Nat.le_refl _) (.cells #[.slice olq (J.1).L.length clq, .slice osq (J.1).S.length csq] 25)
    have hkpq := HK.out
    replace HA := Lib.hid (HA.out.below' hB)
    replace HBb := Lib.hid (HBb.out.below' hB)
    replace HB := Lib.hid (HB.out.trans (hB.mono HB.out.size))
    replace HK := Lib.hid (Nat.le_trans HK.out hB.size)
    replace H4 := Lib.hid (H4.out.below' hB)
    replace H5 := Lib.hid (H5.out.below' hB)
    replace HOm := Lib.hid (HOm.out.below hB)
    replace HOj := Lib.hid (HOj.out.below hB)
    replace HOp := Lib.hid (HOp.out.below hB)
    replace HA := Lib.hid (HA.out.below' hA)
    replace HBb := Lib.hid (HBb.out.below' hA)
    replace HB := Lib.hid (HB.out.trans (hA.mono HB.out.size))
    replace HK := Lib.hid (Nat.le_trans HK.out hA.size)
    replace H4 := Lib.hid (H4.out.below' hA)
    replace H5 := Lib.hid (H5.out.below' hA)
    replace HOm := Lib.hid (HOm.out.below hA)
    replace HOj := Lib.hid (HOj.out.below hA)
    replace HOp := Lib.hid (HOp.out.below hA)
    obtain ⟨pq, hpq⟩ : ∃ k, Vp.heap.size = k := ⟨_, rfl⟩
    obtain ⟨qq, hqq⟩ : ∃ k, v11.heap.size = k := ⟨_, rfl⟩
    obtain ⟨Vq, hV⟩ : ∃ V, v11.alloc (.cells #[.slice olq (J.1).L.length clq, .slice osq (J.1).S.length csq] 25) = V := ⟨_, rfl⟩
    rw [hV] at HA HBb HB HK H4 H5 HOm HOj HOp
    rw [hV, hpq, hqq] at hO
    rw [hpq] at hkpq
    have HOq := Lib.hid hO
    clear hA hO hO1 hO2 hB
    clear HA0 HA1 HBb0 HBb1 H40 H41 H50 H51 HOm0 HOm1 HOj0 HOj1 HOp0 HOp1
    have HA0 : Vq.cell? ⟨w.heap.size, 0, none⟩ = some (.slice ol s.L.length cl) := HA.out.cell 0
    have HA1 : Vq.cell? ⟨w.heap.size, 1, none⟩ = some (.slice os s.S.length cs) := HA.out.cell 1
    have HBb0 : Vq.cell? ⟨w.heap.size + 1, 0, none⟩ = some (.slice ol' t.L.length cl') := HBb.out.cell 0
    have HBb1 : Vq.cell? ⟨w.heap.size + 1, 1, none⟩ = some (.slice os' t.S.length cs') := HBb.out.cell 1
    have H40 : Vq.cell? ⟨b4, 0, none⟩ = some (.slice olx s.L.length clx) := H4.out.cell 0
    have H41 : Vq.cell? ⟨b4, 1, none⟩ = some (.slice osx s.S.length csx) := H4.out.cell 1
    have H50 : Vq.cell? ⟨b5, 0, none⟩ = some (.slice oly t.L.length cly) := H5.out.cell 0
    have H51 : Vq.cell? ⟨b5, 1, none⟩ = some (.slice osy t.S.length csy) := H5.out.cell 1
    have HOm0 : Vq.cell? ⟨qm, 0, none⟩ = some (.slice olm (M.1).L.length clm) := HOm.out.b.cell 0
    have HOm1 : Vq.cell? ⟨qm, 1, none⟩ = some (.slice osm (M.1).S.length csm) := HOm.out.b.cell 1
    have HOj0 : Vq.cell? ⟨qj, 0, none⟩ = some (.slice olj (J.1).L.length clj) := HOj.out.b.cell 0
    have HOj1 : Vq.cell? ⟨qj, 1, none⟩ = some (.slice osj (J.1).S.length csj) := HOj.out.b.cell 1
    have HOp0 : Vq.cell? ⟨qp, 0, none⟩ = some (.slice olp (M.1).L.length clp) := HOp.out.b.cell 0
    have HOp1 : Vq.cell? ⟨qp, 1, none⟩ = some (.slice osp (M.1).S.length csp) := HOp.out.b.cell 1
    have HOq0 : Vq.cell? ⟨qq, 0, none⟩ = some (.slice olq (J.1).L.length clq) := HOq.out.b.cell 0
    have HOq1 : Vq.cell? ⟨qq, 1, none⟩ = some (.slice osq (J.1).S.length csq) := HOq.out.b.cell 1
    obtain ⟨wi, hwi⟩ : ∃ b, withinB s.L t.L = b := ⟨_, rfl⟩
    go_wp2_with (fail)
    try rw [hV, hqq]
    try rw [hV]
    try clear hV hqq hpq hszq
    refine (refWithin_any s t ol os ol' os' cl cs cl' cs' hfl HLEN.out _ (HR.out.1.1.below encR_len (by decide) HB.out) (HR.out.2.1.below encR_len (by decide) HB.out)).mono ?_
    rintro e v12 ⟨rfl, hB⟩
    replace HA := Lib.hid (HA.out.below' hB)
    replace HBb := Lib.hid (HBb.out.below' hB)
    replace HB := Lib.hid (HB.out.trans (hB.mono HB.out.size))
    replace HK := Lib.hid (Nat.le_trans HK.out hB.size)
    replace H4 := Lib.hid (H4.out.below' hB)
    replace H5 := Lib.hid (H5.out.below' hB)
    replace HOm := Lib.hid (HOm.out.below hB)
    replace HOj := Lib.hid (HOj.out.below hB)
    replace HOp := Lib.hid (HOp.out.below hB)
    replace HOq := Lib.hid (HOq.out.below hB)
    clear hB
    clear HA0 HA1 HBb0 HBb1 H40 H41 H50 H51 HOm0 HOm1 HOj0 HOj1 HOp0 HOp1 HOq0 HOq1
    have HA0 : v12.cell? ⟨w.heap.size, 0, none⟩ = some (.slice ol s.L.length cl) := HA.out.cell 0
    have HA1 : v12.cell? ⟨w.heap.size, 1, none⟩ = some (.slice os s.S.length cs) := HA.out.cell 1
    have HBb0 : v12.cell? ⟨w.heap.size + 1, 0, none⟩ = some (.slice ol' t.L.length cl') := HBb.out.cell 0
    have HBb1 : v12.cell? ⟨w.heap.size + 1, 1, none⟩ = some (.slice os' t.S.length cs') := HBb.out.cell 1
    have H40 : v12.cell? ⟨b4, 0, none⟩ = some (.slice olx s.L.length clx) := H4.out.cell 0
    have H41 : v12.cell? ⟨b4, 1, none⟩ = some (.slice osx s.S.length csx) := H4.out.cell 1
    have H50 : v12.cell? ⟨b5, 0, none⟩ = some (.slice oly t.L.length cly) := H5.out.cell 0
    have H51 : v12.cell? ⟨b5, 1, none⟩ = some (.slice osy t.S.length csy) := H5.out.cell 1
    have HOm0 : v12.cell? ⟨qm, 0, none⟩ = some (.slice olm (M.1).L.length clm) := HOm.out.b.cell 0
    have HOm1 : v12.cell? ⟨qm, 1, none⟩ = some (.slice osm (M.1).S.length csm) := HOm.out.b.cell 1
    have HOj0 : v12.cell? ⟨qj, 0, none⟩ = some (.slice olj (J.1).L.length clj) := HOj.out.b.cell 0
    have HOj1 : v12.cell? ⟨qj, 1, none⟩ = some (.slice osj (J.1).S.length csj) := HOj.out.b.cell 1
    have HOp0 : v12.cell? ⟨qp, 0, none⟩ = some (.slice olp (M.1).L.length clp) := HOp.out.b.cell 0
    have HOp1 : v12.cell? ⟨qp, 1, none⟩ = some (.slice osp (M.1).S.length csp) := HOp.out.b.cell 1
    have HOq0 : v12.cell? ⟨qq, 0, none⟩ = some (.slice olq (J.1).L.length clq) := HOq.out.b.cell 0
    have HOq1 : v12.cell? ⟨qq, 1, none⟩ = some (.slice osq (J.1).S.length csq) := HOq.out.b.cell 1
    have hml := togR_len s t fm
    rw [HM.out] at hml
    have hjl := togR_len s t fj
    rw [HJ.out] at hjl
    go_wp2_with (fail)
    refine (eqS_any M.1 olm osm olp osp clm csm clp csp (by omega) (by omega) _ HOm.out.o.rowL HOm.out.o.rowS HOp.out.o.rowL HOp.out.o.rowS).mono ?_
    rintro e v13 ⟨rfl, hB⟩
    replace HA := Lib.hid (HA.out.below' hB)
    replace HBb := Lib.hid (HBb.out.below' hB)
    replace HB := Lib.hid (HB.out.trans (hB.mono HB.out.size))
    replace HK := Lib.hid (Nat.le_trans HK.out hB.size)
    replace H4 := Lib.hid (H4.out.below' hB)
    replace H5 := Lib.hid (H5.out.below' hB)
    replace HOm := Lib.hid (HOm.out.below hB)
    replace HOj := Lib.hid (HOj.out.below hB)
    replace HOp := Lib.hid (HOp.out.below hB)
    replace HOq := Lib.hid (HOq.out.below hB)
    clear hB
    clear HA0 HA1 HBb0 HBb1 H40 H41 H50 H51 HOm0 HOm1 HOj0 HOj1 HOp0 HOp1 HOq0 HOq1
    have HA0 : v13.cell? ⟨w.heap.size, 0, none⟩ = some (.slice ol s.L.length cl) := HA.out.cell 0
    have HA1 : v13.cell? ⟨w.heap.size, 1, none⟩ = some (.slice os s.S.length cs) := HA.out.cell 1
    have HBb0 : v13.cell? ⟨w.heap.size + 1, 0, none⟩ = some (.slice ol' t.L.length cl') := HBb.out.cell 0
    have HBb1 : v13.cell? ⟨w.heap.size + 1, 1, none⟩ = some (.slice os' t.S.length cs') := HBb.out.cell 1
    have H40 : v13.cell? ⟨b4, 0, none⟩ = some (.slice olx s.L.length clx) := H4.out.cell 0
    have H41 : v13.cell? ⟨b4, 1, none⟩ = some (.slice osx s.S.length csx) := H4.out.cell 1
    have H50 : v13.cell? ⟨b5, 0, none⟩ = some (.slice oly t.L.length cly) := H5.out.cell 0
    have H51 : v13.cell? ⟨b5, 1, none⟩ = some (.slice osy t.S.length csy) := H5.out.cell 1
    have HOm0 : v13.cell? ⟨qm, 0, none⟩ = some (.slice olm (M.1).L.length clm) := HOm.out.b.cell 0
    have HOm1 : v13.cell? ⟨qm, 1, none⟩ = some (.slice osm (M.1).S.length csm) := HOm.out.b.cell 1
    have HOj0 : v13.cell? ⟨qj, 0, none⟩ = some (.slice olj (J.1).L.length clj) := HOj.out.b.cell 0
    have HOj1 : v13.cell? ⟨qj, 1, none⟩ = some (.slice osj (J.1).S.length csj) := HOj.out.b.cell 1
    have HOp0 : v13.cell? ⟨qp, 0, none⟩ = some (.slice olp (M.1).L.length clp) := HOp.out.b.cell 0
    have HOp1 : v13.cell? ⟨qp, 1, none⟩ = some (.slice osp (M.1).S.length csp) := HOp.out.b.cell 1
    have HOq0 : v13.cell? ⟨qq, 0, none⟩ = some (.slice olq (J.1).L.length clq) := HOq.out.b.cell 0
    have HOq1 : v13.cell? ⟨qq, 1, none⟩ = some (.slice osq (J.1).S.length csq) := HOq.out.b.cell 1
    go_wp2_with (fail)
    refine (eqS_any J.1 olj osj olq osq clj csj clq csq (by omega) (by omega) _ HOj.out.o.rowL HOj.out.o.rowS HOq.out.o.rowL HOq.out.o.rowS).mono ?_
    rintro e v14 ⟨rfl, hB⟩
    replace HA := Lib.hid (HA.out.below' hB)
    replace HBb := Lib.hid (HBb.out.below' hB)
    replace HB := Lib.hid (HB.out.trans (hB.mono HB.out.size))
    replace HK := Lib.hid (Nat.le_trans HK.out hB.size)
    replace H4 := Lib.hid (H4.out.below' hB)
    replace H5 := Lib.hid (H5.out.below' hB)
    replace HOm := Lib.hid (HOm.out.below hB)
    replace HOj := Lib.hid (HOj.out.below hB)
    replace HOp := Lib.hid (HOp.out.below hB)
    replace HOq := Lib.hid (HOq.out.below hB)
    clear hB
    clear HA0 HA1 HBb0 HBb1 H40 H41 H50 H51 HOm0 HOm1 HOj0 HOj1 HOp0 HOp1 HOq0 HOq1
    have HA0 : v14.cell? ⟨w.heap.size, 0, none⟩ = some (.slice ol s.L.length cl) := HA.out.cell 0
    have HA1 : v14.cell? ⟨w.heap.size, 1, none⟩ = some (.slice os s.S.length cs) := HA.out.cell 1
    have HBb0 : v14.cell? ⟨w.heap.size + 1, 0, none⟩ = some (.slice ol' t.L.length cl') := HBb.out.cell 0
    have HBb1 : v14.cell? ⟨w.heap.size + 1, 1, none⟩ = some (.slice os' t.S.length cs') := HBb.out.cell 1
    have H40 : v14.cell? ⟨b4, 0, none⟩ = some (.slice olx s.L.length clx) := H4.out.cell 0
    have H41 : v14.cell? ⟨b4, 1, none⟩ = some (.slice osx s.S.length csx) := H4.out.cell 1
    have H50 : v14.cell? ⟨b5, 0, none⟩ = some (.slice oly t.L.length cly) := H5.out.cell 0
    have H51 : v14.cell? ⟨b5, 1, none⟩ = some (.slice osy t.S.length csy) := H5.out.cell 1
    have HOm0 : v14.cell? ⟨qm, 0, none⟩ = some (.slice olm (M.1).L.length clm) := HOm.out.b.cell 0
    have HOm1 : v14.cell? ⟨qm, 1, none⟩ = some (.slice osm (M.1).S.length csm) := HOm.out.b.cell 1
    have HOj0 : v14.cell? ⟨qj, 0, none⟩ = some (.slice olj (J.1).L.length clj) := HOj.out.b.cell 0
    have HOj1 : v14.cell? ⟨qj, 1, none⟩ = some (.slice osj (J.1).S.length csj) := HOj.out.b.cell 1
    have HOp0 : v14.cell? ⟨qp, 0, none⟩ = some (.slice olp (M.1).L.length clp) := HOp.out.b.cell 0
    have HOp1 : v14.cell? ⟨qp, 1, none⟩ = some (.slice osp (M.1).S.length csp) := HOp.out.b.cell 1
    have HOq0 : v14.cell? ⟨qq, 0, none⟩ = some (.slice olq (J.1).L.length clq) := HOq.out.b.cell 0
    have HOq1 : v14.cell? ⟨qq, 1, none⟩ = some (.slice osq (J.1).S.length csq) := HOq.out.b.cell 1
    go_wp2_with (fail)
    refine (wakes_any _).mono ?_
    rintro e v15 ⟨rfl, hB⟩
    replace HA := Lib.hid (HA.out.below' hB)
    replace HBb := Lib.hid (HBb.out.below' hB)
    replace HB := Lib.hid (HB.out.trans (hB.mono HB.out.size))
    replace HK := Lib.hid (Nat.le_trans HK.out hB.size)
    replace H4 := Lib.hid (H4.out.below' hB)
    replace H5 := Lib.hid (H5.out.below' hB)
    replace HOm := Lib.hid (HOm.out.below hB)
    replace HOj := Lib.hid (HOj.out.below hB)
    replace HOp := Lib.hid (HOp.out.below hB)
    replace HOq := Lib.hid (HOq.out.below hB)
    clear hB
    clear HA0 HA1 HBb0 HBb1 H40 H41 H50 H51 HOm0 HOm1 HOj0 HOj1 HOp0 HOp1 HOq0 HOq1
    go_wp2
    go_ret
    exact ⟨rfl, HB.out⟩
end Go.Proofs.Ytdcmkiggnmajgaa.Pr
