/- Stage 16: SchemeMeets at schemes that are refused. -/
import Derived.Test.YtdcmkiggnmajgaaXi
import Derived.Test.YtdcmkiggnmajgaaXb
import Derived.Test.YtdcmkiggnmajgaaZf
import Derived.Test.YtdcmkiggnmajgaaYw
namespace Go.Proofs.Ytdcmkiggnmajgaa.Pr
set_option linter.unusedVariables false
set_option linter.unusedSimpArgs false
open Go Go.RowKit Go.Shelf
set_option maxRecDepth 100000

/-- Two schemes of one's own, apart. -/
def TwoS (X : World) (b : Nat) (ol os : Option Addr) (cl cs : Nat) (s : Sc) (ol' os' : Option Addr) (cl' cs' : Nat) (t : Sc) : Prop := ∃ k0 k1 k2 k3, (b ≤ k0 ∧ k0 ≤ k1 ∧ k1 ≤ k2 ∧ k2 ≤ k3 ∧ k3 ≤ X.heap.size) ∧ OwS X k0 k1 ol os cl cs s ∧ OwS X k2 k3 ol' os' cl' cs' t
theorem OwS.blk {W : World} {b0 b1 : Nat} {ol os : Option Addr} {cl cs : Nat} {t : Sc} (h : OwS W b0 b1 ol os cl cs t) {B : Nat} {c : Array Value} (hb : Blk W B c 25) (o : Nat) (u : Value) : OwS (W.setCell ⟨B, o, none⟩ u) b0 b1 ol os cl cs t :=
  ⟨h.l.kept (grownBy_setCell W B o u) (.inr (hb.not_row (by decide) h.l).symm), h.s.kept (grownBy_setCell W B o u) (.inr (hb.not_row (by decide) h.s).symm), h.lt⟩
theorem eqS_any (s : Sc) (ol os ol' os' : Option Addr) (cl cs cl' cs' : Nat) (hn : s.L.length ≤ 9223372036854775807) (hm : s.S.length ≤ 9223372036854775807) (w : World) (hr : RowAt w encR 2 ol s.L) (ht : RowAt w encI 1 os s.S) (hr' : RowAt w encR 2 ol' s.L) (ht' : RowAt w encI 1 os' s.S) :
    Calls Try.prog 29 #[.agg #[.slice ol s.L.length cl, .slice os s.S.length cs], .agg #[.slice ol' s.L.length cl', .slice os' s.S.length cs']] w fun e w' => e = .returned (.bool true) ∧ Below w.heap.size w w' := by
  have h := equal_any s s ol os ol' os' cl cs cl' cs' hn hm w hr ht hr' ht'
  rw [eqB_self] at h
  exact h

set_option maxHeartbeats 16000000 in
theorem meets_no (s t : Sc) (ol os ol' os' : Option Addr) (cl cs cl' cs' : Nat) (hn : s.L.length ≤ 8796093021952) (hm : s.S.length ≤ 17592186043904) (hn' : t.L.length ≤ 8796093021952) (hm' : t.S.length ≤ 17592186043904) (hfl : NForm ol s.L.length cl) (hfs : NForm os s.S.length cs) (hfl' : NForm ol' t.L.length cl') (hfs' : NForm os' t.S.length cs') (hno : bothB s t = false) (w : World) (hr : RowAt w encR 2 ol s.L) (ht : RowAt w encI 1 os s.S) (hr' : RowAt w encR 2 ol' t.L) (ht' : RowAt w encI 1 os' t.S) :
    Calls Try.prog 8 #[.agg #[.slice ol s.L.length cl, .slice os s.S.length cs], .agg #[.slice ol' t.L.length cl', .slice os' t.S.length cs']] w fun e w' => e = .returned (.bool true) ∧ Below w.heap.size w w' := by
  skip
  have hB0 := ((Below.refl _ w).alloc (Nat.le_refl _) (.cells #[.slice ol s.L.length cl, .slice os s.S.length cs] 25)).alloc (by simp) (.cells #[.slice ol' t.L.length cl', .slice os' t.S.length cs'] 25)
  have bA := (Blk.new w #[.slice ol s.L.length cl, .slice os s.S.length cs] 25).alloc (.cells #[.slice ol' t.L.length cl', .slice os' t.S.length cs'] 25)
  have bB := Blk.new (w.alloc (.cells #[.slice ol s.L.length cl, .slice os s.S.length cs] 25)) #[.slice ol' t.L.length cl', .slice os' t.S.length cs'] 25
  rw [World.size_alloc] at bB
  have HA := Lib.hid bA
  have HBb := Lib.hid bB
  have HB := Lib.hid hB0
  have HR := Lib.hid (And.intro (And.intro hr ht) (And.intro hr' ht'))
  clear bA bB hB0 hr ht hr' ht'
  go_enter Try.func8, Try.ntmps8
  go_wp2_with (fail)
  refine (wakes_any _).mono ?_
  rintro e w1 ⟨rfl, hB⟩
  replace HA := Lib.hid (HA.out.below' hB)
  replace HBb := Lib.hid (HBb.out.below' hB)
  replace HB := Lib.hid (HB.out.trans (hB.mono HB.out.size))
  clear hB
  have HA0 : w1.cell? ⟨w.heap.size, 0, none⟩ = some (.slice ol s.L.length cl) := HA.out.cell 0
  have HA1 : w1.cell? ⟨w.heap.size, 1, none⟩ = some (.slice os s.S.length cs) := HA.out.cell 1
  have HBb0 : w1.cell? ⟨w.heap.size + 1, 0, none⟩ = some (.slice ol' t.L.length cl') := HBb.out.cell 0
  have HBb1 : w1.cell? ⟨w.heap.size + 1, 1, none⟩ = some (.slice os' t.S.length cs') := HBb.out.cell 1
  have hw2 : w.heap.size + 2 ≤ w1.heap.size := by have := HBb.out.lt; omega
  go_wp2_with (fail)
  refine wp_cutV (α := (Option Addr × Option Addr × Nat × Nat × Nat) × (Option Addr × Option Addr × Nat × Nat × Nat)) (fun v X => TwoS X w1.heap.size v.1.1 v.1.2.1 v.1.2.2.1 v.1.2.2.2.1 s v.2.1 v.2.2.1 v.2.2.2.1 v.2.2.2.2.1 t ∧ Blk X v.1.2.2.2.2 #[.slice v.1.1 s.L.length v.1.2.2.1, .slice v.1.2.1 s.S.length v.1.2.2.2.1] 25 ∧ Blk X v.2.2.2.2.2 #[.slice v.2.1 t.L.length v.2.2.2.1, .slice v.2.2.1 t.S.length v.2.2.2.2.1] 25 ∧ Below w1.heap.size w1 X) (fun v => [(19, .agg #[.slice ol s.L.length cl, .slice os s.S.length cs]), (20, .agg #[.slice v.1.1 s.L.length v.1.2.2.1, .slice v.1.2.1 s.S.length v.1.2.2.2.1]), (21, .agg #[.slice ol' t.L.length cl', .slice os' t.S.length cs']), (22, .agg #[.slice v.2.1 t.L.length v.2.2.2.1, .slice v.2.2.1 t.S.length v.2.2.2.2.1]), (5, .pointer (some ⟨v.1.2.2.2.2, 0, none⟩)), (6, .pointer (some ⟨v.2.2.2.2.2, 0, none⟩))]) ?_ ?_
  · refine wp_region_noPanic ?_
    refine wp_region_g (S := untilG [] (fun X => Below w1.heap.size w1 X)) (by kernel_rfl) ?_
    have T0 : Below w1.heap.size w1 w1.drew := (Below.refl _ _).drew
    obtain ⟨X0, hX0⟩ : ∃ X, w1.drew = X := ⟨_, rfl⟩
    rw [hX0] at T0 ⊢
    clear hX0
    refine wpAnyG_take [0, 1, 6] (i := 0) (v := (.agg #[.slice ol s.L.length cl, .slice os s.S.length cs])) rfl (by kernel_rfl) (by kernel_rfl) (by kernel_rfl) (by kernel_rfl) (by kernel_rfl) (by kernel_rfl) (by kernel_rfl) (by kernel_rfl) (fun _ _ _ h => h) (Or.inl ⟨by rfl, ?hy⟩) T0 ?_
    case hy =>
      intro X hX
      have e0 := at_below HA0 hX
      have e1 := at_below HA1 hX
      go_simp
    try simp only [Act.put, List.getElem_toArray, List.getElem_cons_zero, List.getElem_cons_succ, List.setIfInBounds_toArray, List.set_cons_zero, List.set_cons_succ]
    refine wpAnyG_take [2, 3, 7] (i := 2) (v := (.agg #[.slice ol' t.L.length cl', .slice os' t.S.length cs'])) rfl (by kernel_rfl) (by kernel_rfl) (by kernel_rfl) (by kernel_rfl) (by kernel_rfl) (by kernel_rfl) (by kernel_rfl) (by kernel_rfl) (fun _ _ _ h => h) (Or.inl ⟨by rfl, ?hy⟩) T0 ?_
    case hy =>
      intro X hX
      have e0 := at_below HBb0 hX
      have e1 := at_below HBb1 hX
      go_simp
    try simp only [Act.put, List.getElem_toArray, List.getElem_cons_zero, List.getElem_cons_succ, List.setIfInBounds_toArray, List.set_cons_zero, List.set_cons_succ]
    refine wpAnyG_all (rs := [1, 4, 5]) (by kernel_rfl) (by simp) ?_
    intro i hi
    simp only [List.mem_cons, List.not_mem_nil, or_false] at hi
    rcases hi with rfl | rfl | rfl
    · skip
      refine wpOp_now rfl rfl ?_
      go_simp
      refine (copy_any s ol os cl cs hfl hfs hn hm _ (HR.out.1.1.below encR_len (by decide) (HB.out.trans (T0.mono HB.out.size))) (HR.out.1.2.below encI_len (by decide) (HB.out.trans (T0.mono HB.out.size)))).mono ?_
      rintro e Y1 ⟨vl, vs, rfl, hO1, hO2, hB⟩
      obtain ⟨olx, osx, clx, csx, rfl, rfl, hx⟩ := OwS.of (t := s) hO1 hO2
      have hpx := T0.size
      have hqx := hB.size
      obtain ⟨px, hpex⟩ : ∃ k, X0.heap.size = k := ⟨_, rfl⟩
      obtain ⟨qx, hqex⟩ : ∃ k, Y1.heap.size = k := ⟨_, rfl⟩
      rw [hpex, hqex] at hx
      rw [hpex] at hpx
      have hlex : qx ≤ Y1.heap.size := by omega
      rw [hpex, hqex] at hqx
      replace T0 := T0.trans (hB.mono T0.size)
      clear hB hO1 hO2 hpex hqex
      refine ⟨fun _ => T0, ?_⟩
      try simp only [Act.put, List.getElem_toArray, List.getElem_cons_zero, List.getElem_cons_succ, List.setIfInBounds_toArray, List.set_cons_zero, List.set_cons_succ]
      refine wpAnyG_all (rs := [3, 4, 5]) (by kernel_rfl) (by simp) ?_
      intro i hi
      simp only [List.mem_cons, List.not_mem_nil, or_false] at hi
      rcases hi with rfl | rfl | rfl
      · skip
        refine wpOp_now rfl rfl ?_
        go_simp
        refine (copy_any t ol' os' cl' cs' hfl' hfs' hn' hm' _ (HR.out.2.1.below encR_len (by decide) (HB.out.trans (T0.mono HB.out.size))) (HR.out.2.2.below encI_len (by decide) (HB.out.trans (T0.mono HB.out.size)))).mono ?_
        rintro e Y3 ⟨vl, vs, rfl, hO1, hO2, hB⟩
        obtain ⟨oly, osy, cly, csy, rfl, rfl, hy⟩ := OwS.of (t := t) hO1 hO2
        have hpy := T0.size
        have hqy := hB.size
        obtain ⟨py, hpey⟩ : ∃ k, Y1.heap.size = k := ⟨_, rfl⟩
        obtain ⟨qy, hqey⟩ : ∃ k, Y3.heap.size = k := ⟨_, rfl⟩
        have hqp : qx ≤ py := by omega
        rw [hpey, hqey] at hy
        rw [hpey] at hpy
        have hley : qy ≤ Y3.heap.size := by omega
        rw [hpey, hqey] at hqy
        replace T0 := T0.trans (hB.mono T0.size)
        replace hx := hx.below hB
        clear hB hO1 hO2 hpey hqey
        refine ⟨fun _ => T0, ?_⟩
        try simp only [Act.put, List.getElem_toArray, List.getElem_cons_zero, List.getElem_cons_succ, List.setIfInBounds_toArray, List.set_cons_zero, List.set_cons_succ]
        refine wpAnyG_all (rs := [4, 5]) (by kernel_rfl) (by simp) ?_
        intro i hi
        simp only [List.mem_cons, List.not_mem_nil, or_false] at hi
        rcases hi with rfl | rfl
        · skip
          refine wpOp_now rfl rfl ?_
          go_simp
          have d4 := Blk.new Y3 #[.slice none 0 0, .slice none 0 0] 25
          have l4 := T0.size
          have hAA := (Below.refl Y3.heap.size Y3).alloc (Nat.le_refl _) (.cells #[.slice none 0 0, .slice none 0 0] 25)
          replace T0 := T0.trans (hAA.mono T0.size)
          replace hx := hx.below hAA
          replace hy := hy.below hAA
          have z4 : Y3.heap.size < (Y3.alloc (.cells #[.slice none 0 0, .slice none 0 0] 25)).heap.size := by simp
          replace hley : qy ≤ (Y3.alloc (.cells #[.slice none 0 0, .slice none 0 0] 25)).heap.size := by simp; omega
          obtain ⟨b4, hb4⟩ : ∃ b, Y3.heap.size = b := ⟨_, rfl⟩
          obtain ⟨Y4, hVY4⟩ : ∃ X, Y3.alloc (.cells #[.slice none 0 0, .slice none 0 0] 25) = X := ⟨_, rfl⟩
          rw [hVY4] at T0 z4 d4 hx hy hley
          rw [hb4] at d4 l4 z4
          try rw [hVY4, hb4]
          try rw [hVY4]
          clear hAA hVY4 hb4
          refine ⟨fun _ => T0, ?_⟩
          try simp only [Act.put, List.getElem_toArray, List.getElem_cons_zero, List.getElem_cons_succ, List.setIfInBounds_toArray, List.set_cons_zero, List.set_cons_succ]
          refine wpAnyG_all (rs := [5]) (by kernel_rfl) (by simp) ?_
          intro i hi
          simp only [List.mem_cons, List.not_mem_nil, or_false] at hi
          subst hi
          refine wpOp_now rfl rfl ?_
          go_simp
          have d5 := Blk.new Y4 #[.slice none 0 0, .slice none 0 0] 25
          have l5 := T0.size
          have lt5 : b4 < Y4.heap.size := d4.lt
          have hAA := (Below.refl Y4.heap.size Y4).alloc (Nat.le_refl _) (.cells #[.slice none 0 0, .slice none 0 0] 25)
          replace T0 := T0.trans (hAA.mono T0.size)
          replace hx := hx.below hAA
          replace hy := hy.below hAA
          replace d4 := d4.below' hAA
          have z5 : Y4.heap.size < (Y4.alloc (.cells #[.slice none 0 0, .slice none 0 0] 25)).heap.size := by simp
          replace hley : qy ≤ (Y4.alloc (.cells #[.slice none 0 0, .slice none 0 0] 25)).heap.size := by simp; omega
          obtain ⟨b5, hb5⟩ : ∃ b, Y4.heap.size = b := ⟨_, rfl⟩
          obtain ⟨Y5, hVY5⟩ : ∃ X, Y4.alloc (.cells #[.slice none 0 0, .slice none 0 0] 25) = X := ⟨_, rfl⟩
          rw [hVY5] at T0 z5 d5 hx hy d4 hley
          rw [hb5] at d5 l5 z5 lt5
          try rw [hVY5, hb5]
          try rw [hVY5]
          clear hAA hVY5 hb5
          refine ⟨fun _ => T0, ?_⟩
          try simp only [Act.put, List.getElem_toArray, List.getElem_cons_zero, List.getElem_cons_succ, List.setIfInBounds_toArray, List.set_cons_zero, List.set_cons_succ]
          have ne45 : b4 ≠ b5 := by omega
          have u0 := d4.cell 0
          have u1 := d4.cell 1
          have u2 := d4.frozen 0
          have u3 := d4.frozen 1
          have v0 := d5.cell 0
          have v1 := d5.cell 1
          have v2 := d5.frozen 0
          have v3 := d5.frozen 1
          simp only [List.getElem?_toArray, List.getElem?_cons_succ, List.getElem?_cons_zero] at u0 u1 v0 v1
          have T1 := (T0.setCell (p := ⟨b4, 0, none⟩) l4 (.slice olx s.L.length clx)).setCell (p := ⟨b4, 1, none⟩) l4 (.slice osx s.S.length csx)
          have e4 := (d4.set 0 (.slice olx s.L.length clx)).set 1 (.slice osx s.S.length csx)
          have e5 := (d5.other ne45.symm 0 (.slice olx s.L.length clx)).other ne45.symm 1 (.slice osx s.S.length csx)
          have ex := (hx.blk d4 0 (.slice olx s.L.length clx)).blk (d4.set 0 _) 1 (.slice osx s.S.length csx)
          have ey := (hy.blk d4 0 (.slice olx s.L.length clx)).blk (d4.set 0 _) 1 (.slice osx s.S.length csx)
          simp only [List.setIfInBounds_toArray, List.set_cons_zero, List.set_cons_succ] at e4
          have hz1 : qy ≤ ((Y5.setCell ⟨b4, 0, none⟩ (.slice olx s.L.length clx)).setCell ⟨b4, 1, none⟩ (.slice osx s.S.length csx)).heap.size := by simp; omega
          obtain ⟨Z1, hZ1⟩ : ∃ X, (Y5.setCell ⟨b4, 0, none⟩ (.slice olx s.L.length clx)).setCell ⟨b4, 1, none⟩ (.slice osx s.S.length csx) = X := ⟨_, rfl⟩
          rw [hZ1] at T1 e4 e5 ex ey hz1
          refine wpAnyG_all (rs := [6]) (by kernel_rfl) (by simp) ?_
          intro i hi
          simp only [List.mem_cons, List.not_mem_nil, or_false] at hi
          subst hi
          refine wpOp_now rfl rfl ?_
          go_simp
          try rw [hZ1]
          clear hZ1 u0 u1 u2 u3 v0 v1 v2 v3
          refine ⟨fun _ => T1, ?_⟩
          try simp only [Act.put, List.getElem_toArray, List.getElem_cons_zero, List.getElem_cons_succ, List.setIfInBounds_toArray, List.set_cons_zero, List.set_cons_succ]
          have v0 := e5.cell 0
          have v1 := e5.cell 1
          have v2 := e5.frozen 0
          have v3 := e5.frozen 1
          simp only [List.getElem?_toArray, List.getElem?_cons_succ, List.getElem?_cons_zero] at v0 v1
          have T2 := (T1.setCell (p := ⟨b5, 0, none⟩) l5 (.slice oly t.L.length cly)).setCell (p := ⟨b5, 1, none⟩) l5 (.slice osy t.S.length csy)
          have f5 := (e5.set 0 (.slice oly t.L.length cly)).set 1 (.slice osy t.S.length csy)
          have f4 := (e4.other ne45 0 (.slice oly t.L.length cly)).other ne45 1 (.slice osy t.S.length csy)
          have fx := (ex.blk e5 0 (.slice oly t.L.length cly)).blk (e5.set 0 _) 1 (.slice osy t.S.length csy)
          have fy := (ey.blk e5 0 (.slice oly t.L.length cly)).blk (e5.set 0 _) 1 (.slice osy t.S.length csy)
          simp only [List.setIfInBounds_toArray, List.set_cons_zero, List.set_cons_succ] at f5
          have hz2 : qy ≤ ((Z1.setCell ⟨b5, 0, none⟩ (.slice oly t.L.length cly)).setCell ⟨b5, 1, none⟩ (.slice osy t.S.length csy)).heap.size := by simp; omega
          obtain ⟨Z2, hZ2⟩ : ∃ X, (Z1.setCell ⟨b5, 0, none⟩ (.slice oly t.L.length cly)).setCell ⟨b5, 1, none⟩ (.slice osy t.S.length csy) = X := ⟨_, rfl⟩
          rw [hZ2] at T2 f5 f4 fx fy hz2
          refine wpAnyG_all (rs := [7]) (by kernel_rfl) (by simp) ?_
          intro i hi
          simp only [List.mem_cons, List.not_mem_nil, or_false] at hi
          subst hi
          refine wpOp_now rfl rfl ?_
          go_simp
          try rw [hZ2]
          clear hZ2 v0 v1 v2 v3
          refine ⟨fun _ => T2, ?_⟩
          try simp only [Act.put, List.getElem_toArray, List.getElem_cons_zero, List.getElem_cons_succ, List.setIfInBounds_toArray, List.set_cons_zero, List.set_cons_succ]
          refine wpAnyG_done (by kernel_rfl) ?_ _
          refine NoPanic.normal ?_
          exact ⟨rfl, ((olx, osx, clx, csx, b4), (oly, osy, cly, csy, b5)), by kernel_rfl, ⟨px, qx, py, qy, ⟨by omega, hqx, hqp, hqy, hz2⟩, fx, fy⟩, f4, f5, T2⟩
        · skip
          refine wpOp_now rfl rfl ?_
          go_simp
          have d5 := Blk.new Y3 #[.slice none 0 0, .slice none 0 0] 25
          have l5 := T0.size
          have hAA := (Below.refl Y3.heap.size Y3).alloc (Nat.le_refl _) (.cells #[.slice none 0 0, .slice none 0 0] 25)
          replace T0 := T0.trans (hAA.mono T0.size)
          replace hx := hx.below hAA
          replace hy := hy.below hAA
          have z5 : Y3.heap.size < (Y3.alloc (.cells #[.slice none 0 0, .slice none 0 0] 25)).heap.size := by simp
          replace hley : qy ≤ (Y3.alloc (.cells #[.slice none 0 0, .slice none 0 0] 25)).heap.size := by simp; omega
          obtain ⟨b5, hb5⟩ : ∃ b, Y3.heap.size = b := ⟨_, rfl⟩
          obtain ⟨Y5, hVY5⟩ : ∃ X, Y3.alloc (.cells #[.slice none 0 0, .slice none 0 0] 25) = X := ⟨_, rfl⟩
          rw [hVY5] at T0 z5 d5 hx hy hley
          rw [hb5] at d5 l5 z5
          try rw [hVY5, hb5]
          try rw [hVY5]
          clear hAA hVY5 hb5
          refine ⟨fun _ => T0, ?_⟩
          try simp only [Act.put, List.getElem_toArray, List.getElem_cons_zero, List.getElem_cons_succ, List.setIfInBounds_toArray, List.set_cons_zero, List.set_cons_succ]
          refine wpAnyG_all (rs := [4]) (by kernel_rfl) (by simp) ?_
          intro i hi
          simp only [List.mem_cons, List.not_mem_nil, or_false] at hi
          subst hi
          refine wpOp_now rfl rfl ?_
          go_simp
          have d4 := Blk.new Y5 #[.slice none 0 0, .slice none 0 0] 25
          have l4 := T0.size
          have lt4 : b5 < Y5.heap.size := d5.lt
          have hAA := (Below.refl Y5.heap.size Y5).alloc (Nat.le_refl _) (.cells #[.slice none 0 0, .slice none 0 0] 25)
          replace T0 := T0.trans (hAA.mono T0.size)
          replace hx := hx.below hAA
          replace hy := hy.below hAA
          replace d5 := d5.below' hAA
          have z4 : Y5.heap.size < (Y5.alloc (.cells #[.slice none 0 0, .slice none 0 0] 25)).heap.size := by simp
          replace hley : qy ≤ (Y5.alloc (.cells #[.slice none 0 0, .slice none 0 0] 25)).heap.size := by simp; omega
          obtain ⟨b4, hb4⟩ : ∃ b, Y5.heap.size = b := ⟨_, rfl⟩
          obtain ⟨Y4, hVY4⟩ : ∃ X, Y5.alloc (.cells #[.slice none 0 0, .slice none 0 0] 25) = X := ⟨_, rfl⟩
          rw [hVY4] at T0 z4 d4 hx hy d5 hley
          rw [hb4] at d4 l4 z4 lt4
          try rw [hVY4, hb4]
          try rw [hVY4]
          clear hAA hVY4 hb4
          refine ⟨fun _ => T0, ?_⟩
          try simp only [Act.put, List.getElem_toArray, List.getElem_cons_zero, List.getElem_cons_succ, List.setIfInBounds_toArray, List.set_cons_zero, List.set_cons_succ]
          have ne45 : b4 ≠ b5 := by omega
          have u0 := d4.cell 0
          have u1 := d4.cell 1
          have u2 := d4.frozen 0
          have u3 := d4.frozen 1
          have v0 := d5.cell 0
          have v1 := d5.cell 1
          have v2 := d5.frozen 0
          have v3 := d5.frozen 1
          simp only [List.getElem?_toArray, List.getElem?_cons_succ, List.getElem?_cons_zero] at u0 u1 v0 v1
          have T1 := (T0.setCell (p := ⟨b4, 0, none⟩) l4 (.slice olx s.L.length clx)).setCell (p := ⟨b4, 1, none⟩) l4 (.slice osx s.S.length csx)
          have e4 := (d4.set 0 (.slice olx s.L.length clx)).set 1 (.slice osx s.S.length csx)
          have e5 := (d5.other ne45.symm 0 (.slice olx s.L.length clx)).other ne45.symm 1 (.slice osx s.S.length csx)
          have ex := (hx.blk d4 0 (.slice olx s.L.length clx)).blk (d4.set 0 _) 1 (.slice osx s.S.length csx)
          have ey := (hy.blk d4 0 (.slice olx s.L.length clx)).blk (d4.set 0 _) 1 (.slice osx s.S.length csx)
          simp only [List.setIfInBounds_toArray, List.set_cons_zero, List.set_cons_succ] at e4
          have hz1 : qy ≤ ((Y4.setCell ⟨b4, 0, none⟩ (.slice olx s.L.length clx)).setCell ⟨b4, 1, none⟩ (.slice osx s.S.length csx)).heap.size := by simp; omega
          obtain ⟨Z1, hZ1⟩ : ∃ X, (Y4.setCell ⟨b4, 0, none⟩ (.slice olx s.L.length clx)).setCell ⟨b4, 1, none⟩ (.slice osx s.S.length csx) = X := ⟨_, rfl⟩
          rw [hZ1] at T1 e4 e5 ex ey hz1
          refine wpAnyG_all (rs := [6]) (by kernel_rfl) (by simp) ?_
          intro i hi
          simp only [List.mem_cons, List.not_mem_nil, or_false] at hi
          subst hi
          refine wpOp_now rfl rfl ?_
          go_simp
          try rw [hZ1]
          clear hZ1 u0 u1 u2 u3 v0 v1 v2 v3
          refine ⟨fun _ => T1, ?_⟩
          try simp only [Act.put, List.getElem_toArray, List.getElem_cons_zero, List.getElem_cons_succ, List.setIfInBounds_toArray, List.set_cons_zero, List.set_cons_succ]
          have v0 := e5.cell 0
          have v1 := e5.cell 1
          have v2 := e5.frozen 0
          have v3 := e5.frozen 1
          simp only [List.getElem?_toArray, List.getElem?_cons_succ, List.getElem?_cons_zero] at v0 v1
          have T2 := (T1.setCell (p := ⟨b5, 0, none⟩) l5 (.slice oly t.L.length cly)).setCell (p := ⟨b5, 1, none⟩) l5 (.slice osy t.S.length csy)
          have f5 := (e5.set 0 (.slice oly t.L.length cly)).set 1 (.slice osy t.S.length csy)
          have f4 := (e4.other ne45 0 (.slice oly t.L.length cly)).other ne45 1 (.slice osy t.S.length csy)
          have fx := (ex.blk e5 0 (.slice oly t.L.length cly)).blk (e5.set 0 _) 1 (.slice osy t.S.length csy)
          have fy := (ey.blk e5 0 (.slice oly t.L.length cly)).blk (e5.set 0 _) 1 (.slice osy t.S.length csy)
          simp only [List.setIfInBounds_toArray, List.set_cons_zero, List.set_cons_succ] at f5
          have hz2 : qy ≤ ((Z1.setCell ⟨b5, 0, none⟩ (.slice oly t.L.length cly)).setCell ⟨b5, 1, none⟩ (.slice osy t.S.length csy)).heap.size := by simp; omega
          obtain ⟨Z2, hZ2⟩ : ∃ X, (Z1.setCell ⟨b5, 0, none⟩ (.slice oly t.L.length cly)).setCell ⟨b5, 1, none⟩ (.slice osy t.S.length csy) = X := ⟨_, rfl⟩
          rw [hZ2] at T2 f5 f4 fx fy hz2
          refine wpAnyG_all (rs := [7]) (by kernel_rfl) (by simp) ?_
          intro i hi
          simp only [List.mem_cons, List.not_mem_nil, or_false] at hi
          subst hi
          refine wpOp_now rfl rfl ?_
          go_simp
          try rw [hZ2]
          clear hZ2 v0 v1 v2 v3
          refine ⟨fun _ => T2, ?_⟩
          try simp only [Act.put, List.getElem_toArray, List.getElem_cons_zero, List.getElem_cons_succ, List.setIfInBounds_toArray, List.set_cons_zero, List.set_cons_succ]
          refine wpAnyG_done (by kernel_rfl) ?_ _
          refine NoPanic.normal ?_
          exact ⟨rfl, ((olx, osx, clx, csx, b4), (oly, osy, cly, csy, b5)), by kernel_rfl, ⟨px, qx, py, qy, ⟨by omega, hqx, hqp, hqy, hz2⟩, fx, fy⟩, f4, f5, T2⟩
      · skip
        refine wpOp_now rfl rfl ?_
        go_simp
        have d4 := Blk.new Y1 #[.slice none 0 0, .slice none 0 0] 25
        have l4 := T0.size
        have hAA := (Below.refl Y1.heap.size Y1).alloc (Nat.le_refl _) (.cells #[.slice none 0 0, .slice none 0 0] 25)
        replace T0 := T0.trans (hAA.mono T0.size)
        replace hx := hx.below hAA
        have z4 : Y1.heap.size < (Y1.alloc (.cells #[.slice none 0 0, .slice none 0 0] 25)).heap.size := by simp
        replace hlex : qx ≤ (Y1.alloc (.cells #[.slice none 0 0, .slice none 0 0] 25)).heap.size := by simp; omega
        obtain ⟨b4, hb4⟩ : ∃ b, Y1.heap.size = b := ⟨_, rfl⟩
        obtain ⟨Y4, hVY4⟩ : ∃ X, Y1.alloc (.cells #[.slice none 0 0, .slice none 0 0] 25) = X := ⟨_, rfl⟩
        rw [hVY4] at T0 z4 d4 hx hlex
        rw [hb4] at d4 l4 z4
        try rw [hVY4, hb4]
        try rw [hVY4]
        clear hAA hVY4 hb4
        refine ⟨fun _ => T0, ?_⟩
        try simp only [Act.put, List.getElem_toArray, List.getElem_cons_zero, List.getElem_cons_succ, List.setIfInBounds_toArray, List.set_cons_zero, List.set_cons_succ]
        refine wpAnyG_all (rs := [3, 5]) (by kernel_rfl) (by simp) ?_
        intro i hi
        simp only [List.mem_cons, List.not_mem_nil, or_false] at hi
        rcases hi with rfl | rfl
        · skip
          refine wpOp_now rfl rfl ?_
          go_simp
          refine (copy_any t ol' os' cl' cs' hfl' hfs' hn' hm' _ (HR.out.2.1.below encR_len (by decide) (HB.out.trans (T0.mono HB.out.size))) (HR.out.2.2.below encI_len (by decide) (HB.out.trans (T0.mono HB.out.size)))).mono ?_
          rintro e Y3 ⟨vl, vs, rfl, hO1, hO2, hB⟩
          obtain ⟨oly, osy, cly, csy, rfl, rfl, hy⟩ := OwS.of (t := t) hO1 hO2
          have hpy := T0.size
          have hqy := hB.size
          obtain ⟨py, hpey⟩ : ∃ k, Y4.heap.size = k := ⟨_, rfl⟩
          obtain ⟨qy, hqey⟩ : ∃ k, Y3.heap.size = k := ⟨_, rfl⟩
          have hqp : qx ≤ py := by omega
          rw [hpey, hqey] at hy
          rw [hpey] at hpy
          have hley : qy ≤ Y3.heap.size := by omega
          rw [hpey, hqey] at hqy
          replace T0 := T0.trans (hB.mono T0.size)
          replace hx := hx.below hB
          replace d4 := d4.below' hB
          clear hB hO1 hO2 hpey hqey
          refine ⟨fun _ => T0, ?_⟩
          try simp only [Act.put, List.getElem_toArray, List.getElem_cons_zero, List.getElem_cons_succ, List.setIfInBounds_toArray, List.set_cons_zero, List.set_cons_succ]
          refine wpAnyG_all (rs := [5]) (by kernel_rfl) (by simp) ?_
          intro i hi
          simp only [List.mem_cons, List.not_mem_nil, or_false] at hi
          subst hi
          refine wpOp_now rfl rfl ?_
          go_simp
          have d5 := Blk.new Y3 #[.slice none 0 0, .slice none 0 0] 25
          have l5 := T0.size
          have lt5 : b4 < Y3.heap.size := d4.lt
          have hAA := (Below.refl Y3.heap.size Y3).alloc (Nat.le_refl _) (.cells #[.slice none 0 0, .slice none 0 0] 25)
          replace T0 := T0.trans (hAA.mono T0.size)
          replace hx := hx.below hAA
          replace hy := hy.below hAA
          replace d4 := d4.below' hAA
          have z5 : Y3.heap.size < (Y3.alloc (.cells #[.slice none 0 0, .slice none 0 0] 25)).heap.size := by simp
          replace hley : qy ≤ (Y3.alloc (.cells #[.slice none 0 0, .slice none 0 0] 25)).heap.size := by simp; omega
          obtain ⟨b5, hb5⟩ : ∃ b, Y3.heap.size = b := ⟨_, rfl⟩
          obtain ⟨Y5, hVY5⟩ : ∃ X, Y3.alloc (.cells #[.slice none 0 0, .slice none 0 0] 25) = X := ⟨_, rfl⟩
          rw [hVY5] at T0 z5 d5 hx hy d4 hley
          rw [hb5] at d5 l5 z5 lt5
          try rw [hVY5, hb5]
          try rw [hVY5]
          clear hAA hVY5 hb5
          refine ⟨fun _ => T0, ?_⟩
          try simp only [Act.put, List.getElem_toArray, List.getElem_cons_zero, List.getElem_cons_succ, List.setIfInBounds_toArray, List.set_cons_zero, List.set_cons_succ]
          have ne45 : b4 ≠ b5 := by omega
          have u0 := d4.cell 0
          have u1 := d4.cell 1
          have u2 := d4.frozen 0
          have u3 := d4.frozen 1
          have v0 := d5.cell 0
          have v1 := d5.cell 1
          have v2 := d5.frozen 0
          have v3 := d5.frozen 1
          simp only [List.getElem?_toArray, List.getElem?_cons_succ, List.getElem?_cons_zero] at u0 u1 v0 v1
          have T1 := (T0.setCell (p := ⟨b4, 0, none⟩) l4 (.slice olx s.L.length clx)).setCell (p := ⟨b4, 1, none⟩) l4 (.slice osx s.S.length csx)
          have e4 := (d4.set 0 (.slice olx s.L.length clx)).set 1 (.slice osx s.S.length csx)
          have e5 := (d5.other ne45.symm 0 (.slice olx s.L.length clx)).other ne45.symm 1 (.slice osx s.S.length csx)
          have ex := (hx.blk d4 0 (.slice olx s.L.length clx)).blk (d4.set 0 _) 1 (.slice osx s.S.length csx)
          have ey := (hy.blk d4 0 (.slice olx s.L.length clx)).blk (d4.set 0 _) 1 (.slice osx s.S.length csx)
          simp only [List.setIfInBounds_toArray, List.set_cons_zero, List.set_cons_succ] at e4
          have hz1 : qy ≤ ((Y5.setCell ⟨b4, 0, none⟩ (.slice olx s.L.length clx)).setCell ⟨b4, 1, none⟩ (.slice osx s.S.length csx)).heap.size := by simp; omega
          obtain ⟨Z1, hZ1⟩ : ∃ X, (Y5.setCell ⟨b4, 0, none⟩ (.slice olx s.L.length clx)).setCell ⟨b4, 1, none⟩ (.slice osx s.S.length csx) = X := ⟨_, rfl⟩
          rw [hZ1] at T1 e4 e5 ex ey hz1
          refine wpAnyG_all (rs := [6]) (by kernel_rfl) (by simp) ?_
          intro i hi
          simp only [List.mem_cons, List.not_mem_nil, or_false] at hi
          subst hi
          refine wpOp_now rfl rfl ?_
          go_simp
          try rw [hZ1]
          clear hZ1 u0 u1 u2 u3 v0 v1 v2 v3
          refine ⟨fun _ => T1, ?_⟩
          try simp only [Act.put, List.getElem_toArray, List.getElem_cons_zero, List.getElem_cons_succ, List.setIfInBounds_toArray, List.set_cons_zero, List.set_cons_succ]
          have v0 := e5.cell 0
          have v1 := e5.cell 1
          have v2 := e5.frozen 0
          have v3 := e5.frozen 1
          simp only [List.getElem?_toArray, List.getElem?_cons_succ, List.getElem?_cons_zero] at v0 v1
          have T2 := (T1.setCell (p := ⟨b5, 0, none⟩) l5 (.slice oly t.L.length cly)).setCell (p := ⟨b5, 1, none⟩) l5 (.slice osy t.S.length csy)
          have f5 := (e5.set 0 (.slice oly t.L.length cly)).set 1 (.slice osy t.S.length csy)
          have f4 := (e4.other ne45 0 (.slice oly t.L.length cly)).other ne45 1 (.slice osy t.S.length csy)
          have fx := (ex.blk e5 0 (.slice oly t.L.length cly)).blk (e5.set 0 _) 1 (.slice osy t.S.length csy)
          have fy := (ey.blk e5 0 (.slice oly t.L.length cly)).blk (e5.set 0 _) 1 (.slice osy t.S.length csy)
          simp only [List.setIfInBounds_toArray, List.set_cons_zero, List.set_cons_succ] at f5
          have hz2 : qy ≤ ((Z1.setCell ⟨b5, 0, none⟩ (.slice oly t.L.length cly)).setCell ⟨b5, 1, none⟩ (.slice osy t.S.length csy)).heap.size := by simp; omega
          obtain ⟨Z2, hZ2⟩ : ∃ X, (Z1.setCell ⟨b5, 0, none⟩ (.slice oly t.L.length cly)).setCell ⟨b5, 1, none⟩ (.slice osy t.S.length csy) = X := ⟨_, rfl⟩
          rw [hZ2] at T2 f5 f4 fx fy hz2
          refine wpAnyG_all (rs := [7]) (by kernel_rfl) (by simp) ?_
          intro i hi
          simp only [List.mem_cons, List.not_mem_nil, or_false] at hi
          subst hi
          refine wpOp_now rfl rfl ?_
          go_simp
          try rw [hZ2]
          clear hZ2 v0 v1 v2 v3
          refine ⟨fun _ => T2, ?_⟩
          try simp only [Act.put, List.getElem_toArray, List.getElem_cons_zero, List.getElem_cons_succ, List.setIfInBounds_toArray, List.set_cons_zero, List.set_cons_succ]
          refine wpAnyG_done (by kernel_rfl) ?_ _
          refine NoPanic.normal ?_
          exact ⟨rfl, ((olx, osx, clx, csx, b4), (oly, osy, cly, csy, b5)), by kernel_rfl, ⟨px, qx, py, qy, ⟨by omega, hqx, hqp, hqy, hz2⟩, fx, fy⟩, f4, f5, T2⟩
        · skip
          refine wpOp_now rfl rfl ?_
          go_simp
          have d5 := Blk.new Y4 #[.slice none 0 0, .slice none 0 0] 25
          have l5 := T0.size
          have lt5 : b4 < Y4.heap.size := d4.lt
          have hAA := (Below.refl Y4.heap.size Y4).alloc (Nat.le_refl _) (.cells #[.slice none 0 0, .slice none 0 0] 25)
          replace T0 := T0.trans (hAA.mono T0.size)
          replace hx := hx.below hAA
          replace d4 := d4.below' hAA
          have z5 : Y4.heap.size < (Y4.alloc (.cells #[.slice none 0 0, .slice none 0 0] 25)).heap.size := by simp
          replace hlex : qx ≤ (Y4.alloc (.cells #[.slice none 0 0, .slice none 0 0] 25)).heap.size := by simp; omega
          obtain ⟨b5, hb5⟩ : ∃ b, Y4.heap.size = b := ⟨_, rfl⟩
          obtain ⟨Y5, hVY5⟩ : ∃ X, Y4.alloc (.cells #[.slice none 0 0, .slice none 0 0] 25) = X := ⟨_, rfl⟩
          rw [hVY5] at T0 z5 d5 hx d4 hlex
          rw [hb5] at d5 l5 z5 lt5
          try rw [hVY5, hb5]
          try rw [hVY5]
          clear hAA hVY5 hb5
          refine ⟨fun _ => T0, ?_⟩
          try simp only [Act.put, List.getElem_toArray, List.getElem_cons_zero, List.getElem_cons_succ, List.setIfInBounds_toArray, List.set_cons_zero, List.set_cons_succ]
          refine wpAnyG_all (rs := [3]) (by kernel_rfl) (by simp) ?_
          intro i hi
          simp only [List.mem_cons, List.not_mem_nil, or_false] at hi
          subst hi
          refine wpOp_now rfl rfl ?_
          go_simp
          refine (copy_any t ol' os' cl' cs' hfl' hfs' hn' hm' _ (HR.out.2.1.below encR_len (by decide) (HB.out.trans (T0.mono HB.out.size))) (HR.out.2.2.below encI_len (by decide) (HB.out.trans (T0.mono HB.out.size)))).mono ?_
          rintro e Y3 ⟨vl, vs, rfl, hO1, hO2, hB⟩
          obtain ⟨oly, osy, cly, csy, rfl, rfl, hy⟩ := OwS.of (t := t) hO1 hO2
          have hpy := T0.size
          have hqy := hB.size
          obtain ⟨py, hpey⟩ : ∃ k, Y5.heap.size = k := ⟨_, rfl⟩
          obtain ⟨qy, hqey⟩ : ∃ k, Y3.heap.size = k := ⟨_, rfl⟩
          have hqp : qx ≤ py := by omega
          rw [hpey, hqey] at hy
          rw [hpey] at hpy
          have hley : qy ≤ Y3.heap.size := by omega
          rw [hpey, hqey] at hqy
          replace T0 := T0.trans (hB.mono T0.size)
          replace hx := hx.below hB
          replace d4 := d4.below' hB
          replace d5 := d5.below' hB
          clear hB hO1 hO2 hpey hqey
          refine ⟨fun _ => T0, ?_⟩
          try simp only [Act.put, List.getElem_toArray, List.getElem_cons_zero, List.getElem_cons_succ, List.setIfInBounds_toArray, List.set_cons_zero, List.set_cons_succ]
          have ne45 : b4 ≠ b5 := by omega
          have u0 := d4.cell 0
          have u1 := d4.cell 1
          have u2 := d4.frozen 0
          have u3 := d4.frozen 1
          have v0 := d5.cell 0
          have v1 := d5.cell 1
          have v2 := d5.frozen 0
          have v3 := d5.frozen 1
          simp only [List.getElem?_toArray, List.getElem?_cons_succ, List.getElem?_cons_zero] at u0 u1 v0 v1
          have T1 := (T0.setCell (p := ⟨b4, 0, none⟩) l4 (.slice olx s.L.length clx)).setCell (p := ⟨b4, 1, none⟩) l4 (.slice osx s.S.length csx)
          have e4 := (d4.set 0 (.slice olx s.L.length clx)).set 1 (.slice osx s.S.length csx)
          have e5 := (d5.other ne45.symm 0 (.slice olx s.L.length clx)).other ne45.symm 1 (.slice osx s.S.length csx)
          have ex := (hx.blk d4 0 (.slice olx s.L.length clx)).blk (d4.set 0 _) 1 (.slice osx s.S.length csx)
          have ey := (hy.blk d4 0 (.slice olx s.L.length clx)).blk (d4.set 0 _) 1 (.slice osx s.S.length csx)
          simp only [List.setIfInBounds_toArray, List.set_cons_zero, List.set_cons_succ] at e4
          have hz1 : qy ≤ ((Y3.setCell ⟨b4, 0, none⟩ (.slice olx s.L.length clx)).setCell ⟨b4, 1, none⟩ (.slice osx s.S.length csx)).heap.size := by simp; omega
          obtain ⟨Z1, hZ1⟩ : ∃ X, (Y3.setCell ⟨b4, 0, none⟩ (.slice olx s.L.length clx)).setCell ⟨b4, 1, none⟩ (.slice osx s.S.length csx) = X := ⟨_, rfl⟩
          rw [hZ1] at T1 e4 e5 ex ey hz1
          refine wpAnyG_all (rs := [6]) (by kernel_rfl) (by simp) ?_
          intro i hi
          simp only [List.mem_cons, List.not_mem_nil, or_false] at hi
          subst hi
          refine wpOp_now rfl rfl ?_
          go_simp
          try rw [hZ1]
          clear hZ1 u0 u1 u2 u3 v0 v1 v2 v3
          refine ⟨fun _ => T1, ?_⟩
          try simp only [Act.put, List.getElem_toArray, List.getElem_cons_zero, List.getElem_cons_succ, List.setIfInBounds_toArray, List.set_cons_zero, List.set_cons_succ]
          have v0 := e5.cell 0
          have v1 := e5.cell 1
          have v2 := e5.frozen 0
          have v3 := e5.frozen 1
          simp only [List.getElem?_toArray, List.getElem?_cons_succ, List.getElem?_cons_zero] at v0 v1
          have T2 := (T1.setCell (p := ⟨b5, 0, none⟩) l5 (.slice oly t.L.length cly)).setCell (p := ⟨b5, 1, none⟩) l5 (.slice osy t.S.length csy)
          have f5 := (e5.set 0 (.slice oly t.L.length cly)).set 1 (.slice osy t.S.length csy)
          have f4 := (e4.other ne45 0 (.slice oly t.L.length cly)).other ne45 1 (.slice osy t.S.length csy)
          have fx := (ex.blk e5 0 (.slice oly t.L.length cly)).blk (e5.set 0 _) 1 (.slice osy t.S.length csy)
          have fy := (ey.blk e5 0 (.slice oly t.L.length cly)).blk (e5.set 0 _) 1 (.slice osy t.S.length csy)
          simp only [List.setIfInBounds_toArray, List.set_cons_zero, List.set_cons_succ] at f5
          have hz2 : qy ≤ ((Z1.setCell ⟨b5, 0, none⟩ (.slice oly t.L.length cly)).setCell ⟨b5, 1, none⟩ (.slice osy t.S.length csy)).heap.size := by simp; omega
          obtain ⟨Z2, hZ2⟩ : ∃ X, (Z1.setCell ⟨b5, 0, none⟩ (.slice oly t.L.length cly)).setCell ⟨b5, 1, none⟩ (.slice osy t.S.length csy) = X := ⟨_, rfl⟩
          rw [hZ2] at T2 f5 f4 fx fy hz2
          refine wpAnyG_all (rs := [7]) (by kernel_rfl) (by simp) ?_
          intro i hi
          simp only [List.mem_cons, List.not_mem_nil, or_false] at hi
          subst hi
          refine wpOp_now rfl rfl ?_
          go_simp
          try rw [hZ2]
          clear hZ2 v0 v1 v2 v3
          refine ⟨fun _ => T2, ?_⟩
          try simp only [Act.put, List.getElem_toArray, List.getElem_cons_zero, List.getElem_cons_succ, List.setIfInBounds_toArray, List.set_cons_zero, List.set_cons_succ]
          refine wpAnyG_done (by kernel_rfl) ?_ _
          refine NoPanic.normal ?_
          exact ⟨rfl, ((olx, osx, clx, csx, b4), (oly, osy, cly, csy, b5)), by kernel_rfl, ⟨px, qx, py, qy, ⟨by omega, hqx, hqp, hqy, hz2⟩, fx, fy⟩, f4, f5, T2⟩
      · skip
        refine wpOp_now rfl rfl ?_
        go_simp
        have d5 := Blk.new Y1 #[.slice none 0 0, .slice none 0 0] 25
        have l5 := T0.size
        have hAA := (Below.refl Y1.heap.size Y1).alloc (Nat.le_refl _) (.cells #[.slice none 0 0, .slice none 0 0] 25)
        replace T0 := T0.trans (hAA.mono T0.size)
        replace hx := hx.below hAA
        have z5 : Y1.heap.size < (Y1.alloc (.cells #[.slice none 0 0, .slice none 0 0] 25)).heap.size := by simp
        replace hlex : qx ≤ (Y1.alloc (.cells #[.slice none 0 0, .slice none 0 0] 25)).heap.size := by simp; omega
        obtain ⟨b5, hb5⟩ : ∃ b, Y1.heap.size = b := ⟨_, rfl⟩
        obtain ⟨Y5, hVY5⟩ : ∃ X, Y1.alloc (.cells #[.slice none 0 0, .slice none 0 0] 25) = X := ⟨_, rfl⟩
        rw [hVY5] at T0 z5 d5 hx hlex
        rw [hb5] at d5 l5 z5
        try rw [hVY5, hb5]
        try rw [hVY5]
        clear hAA hVY5 hb5
        refine ⟨fun _ => T0, ?_⟩
        try simp only [Act.put, List.getElem_toArray, List.getElem_cons_zero, List.getElem_cons_succ, List.setIfInBounds_toArray, List.set_cons_zero, List.set_cons_succ]
        refine wpAnyG_all (rs := [3, 4]) (by kernel_rfl) (by simp) ?_
        intro i hi
        simp only [List.mem_cons, List.not_mem_nil, or_false] at hi
        rcases hi with rfl | rfl
        · skip
          refine wpOp_now rfl rfl ?_
          go_simp
          refine (copy_any t ol' os' cl' cs' hfl' hfs' hn' hm' _ (HR.out.2.1.below encR_len (by decide) (HB.out.trans (T0.mono HB.out.size))) (HR.out.2.2.below encI_len (by decide) (HB.out.trans (T0.mono HB.out.size)))).mono ?_
          rintro e Y3 ⟨vl, vs, rfl, hO1, hO2, hB⟩
          obtain ⟨oly, osy, cly, csy, rfl, rfl, hy⟩ := OwS.of (t := t) hO1 hO2
          have hpy := T0.size
          have hqy := hB.size
          obtain ⟨py, hpey⟩ : ∃ k, Y5.heap.size = k := ⟨_, rfl⟩
          obtain ⟨qy, hqey⟩ : ∃ k, Y3.heap.size = k := ⟨_, rfl⟩
          have hqp : qx ≤ py := by omega
          rw [hpey, hqey] at hy
          rw [hpey] at hpy
          have hley : qy ≤ Y3.heap.size := by omega
          rw [hpey, hqey] at hqy
          replace T0 := T0.trans (hB.mono T0.size)
          replace hx := hx.below hB
          replace d5 := d5.below' hB
          clear hB hO1 hO2 hpey hqey
          refine ⟨fun _ => T0, ?_⟩
          try simp only [Act.put, List.getElem_toArray, List.getElem_cons_zero, List.getElem_cons_succ, List.setIfInBounds_toArray, List.set_cons_zero, List.set_cons_succ]
          refine wpAnyG_all (rs := [4]) (by kernel_rfl) (by simp) ?_
          intro i hi
          simp only [List.mem_cons, List.not_mem_nil, or_false] at hi
          subst hi
          refine wpOp_now rfl rfl ?_
          go_simp
          have d4 := Blk.new Y3 #[.slice none 0 0, .slice none 0 0] 25
          have l4 := T0.size
          have lt4 : b5 < Y3.heap.size := d5.lt
          have hAA := (Below.refl Y3.heap.size Y3).alloc (Nat.le_refl _) (.cells #[.slice none 0 0, .slice none 0 0] 25)
          replace T0 := T0.trans (hAA.mono T0.size)
          replace hx := hx.below hAA
          replace hy := hy.below hAA
          replace d5 := d5.below' hAA
          have z4 : Y3.heap.size < (Y3.alloc (.cells #[.slice none 0 0, .slice none 0 0] 25)).heap.size := by simp
          replace hley : qy ≤ (Y3.alloc (.cells #[.slice none 0 0, .slice none 0 0] 25)).heap.size := by simp; omega
          obtain ⟨b4, hb4⟩ : ∃ b, Y3.heap.size = b := ⟨_, rfl⟩
          obtain ⟨Y4, hVY4⟩ : ∃ X, Y3.alloc (.cells #[.slice none 0 0, .slice none 0 0] 25) = X := ⟨_, rfl⟩
          rw [hVY4] at T0 z4 d4 hx hy d5 hley
          rw [hb4] at d4 l4 z4 lt4
          try rw [hVY4, hb4]
          try rw [hVY4]
          clear hAA hVY4 hb4
          refine ⟨fun _ => T0, ?_⟩
          try simp only [Act.put, List.getElem_toArray, List.getElem_cons_zero, List.getElem_cons_succ, List.setIfInBounds_toArray, List.set_cons_zero, List.set_cons_succ]
          have ne45 : b4 ≠ b5 := by omega
          have u0 := d4.cell 0
          have u1 := d4.cell 1
          have u2 := d4.frozen 0
          have u3 := d4.frozen 1
          have v0 := d5.cell 0
          have v1 := d5.cell 1
          have v2 := d5.frozen 0
          have v3 := d5.frozen 1
          simp only [List.getElem?_toArray, List.getElem?_cons_succ, List.getElem?_cons_zero] at u0 u1 v0 v1
          have T1 := (T0.setCell (p := ⟨b4, 0, none⟩) l4 (.slice olx s.L.length clx)).setCell (p := ⟨b4, 1, none⟩) l4 (.slice osx s.S.length csx)
          have e4 := (d4.set 0 (.slice olx s.L.length clx)).set 1 (.slice osx s.S.length csx)
          have e5 := (d5.other ne45.symm 0 (.slice olx s.L.length clx)).other ne45.symm 1 (.slice osx s.S.length csx)
          have ex := (hx.blk d4 0 (.slice olx s.L.length clx)).blk (d4.set 0 _) 1 (.slice osx s.S.length csx)
          have ey := (hy.blk d4 0 (.slice olx s.L.length clx)).blk (d4.set 0 _) 1 (.slice osx s.S.length csx)
          simp only [List.setIfInBounds_toArray, List.set_cons_zero, List.set_cons_succ] at e4
          have hz1 : qy ≤ ((Y4.setCell ⟨b4, 0, none⟩ (.slice olx s.L.length clx)).setCell ⟨b4, 1, none⟩ (.slice osx s.S.length csx)).heap.size := by simp; omega
          obtain ⟨Z1, hZ1⟩ : ∃ X, (Y4.setCell ⟨b4, 0, none⟩ (.slice olx s.L.length clx)).setCell ⟨b4, 1, none⟩ (.slice osx s.S.length csx) = X := ⟨_, rfl⟩
          rw [hZ1] at T1 e4 e5 ex ey hz1
          refine wpAnyG_all (rs := [6]) (by kernel_rfl) (by simp) ?_
          intro i hi
          simp only [List.mem_cons, List.not_mem_nil, or_false] at hi
          subst hi
          refine wpOp_now rfl rfl ?_
          go_simp
          try rw [hZ1]
          clear hZ1 u0 u1 u2 u3 v0 v1 v2 v3
          refine ⟨fun _ => T1, ?_⟩
          try simp only [Act.put, List.getElem_toArray, List.getElem_cons_zero, List.getElem_cons_succ, List.setIfInBounds_toArray, List.set_cons_zero, List.set_cons_succ]
          have v0 := e5.cell 0
          have v1 := e5.cell 1
          have v2 := e5.frozen 0
          have v3 := e5.frozen 1
          simp only [List.getElem?_toArray, List.getElem?_cons_succ, List.getElem?_cons_zero] at v0 v1
          have T2 := (T1.setCell (p := ⟨b5, 0, none⟩) l5 (.slice oly t.L.length cly)).setCell (p := ⟨b5, 1, none⟩) l5 (.slice osy t.S.length csy)
          have f5 := (e5.set 0 (.slice oly t.L.length cly)).set 1 (.slice osy t.S.length csy)
          have f4 := (e4.other ne45 0 (.slice oly t.L.length cly)).other ne45 1 (.slice osy t.S.length csy)
          have fx := (ex.blk e5 0 (.slice oly t.L.length cly)).blk (e5.set 0 _) 1 (.slice osy t.S.length csy)
          have fy := (ey.blk e5 0 (.slice oly t.L.length cly)).blk (e5.set 0 _) 1 (.slice osy t.S.length csy)
          simp only [List.setIfInBounds_toArray, List.set_cons_zero, List.set_cons_succ] at f5
          have hz2 : qy ≤ ((Z1.setCell ⟨b5, 0, none⟩ (.slice oly t.L.length cly)).setCell ⟨b5, 1, none⟩ (.slice osy t.S.length csy)).heap.size := by simp; omega
          obtain ⟨Z2, hZ2⟩ : ∃ X, (Z1.setCell ⟨b5, 0, none⟩ (.slice oly t.L.length cly)).setCell ⟨b5, 1, none⟩ (.slice osy t.S.length csy) = X := ⟨_, rfl⟩
          rw [hZ2] at T2 f5 f4 fx fy hz2
          refine wpAnyG_all (rs := [7]) (by kernel_rfl) (by simp) ?_
          intro i hi
          simp only [List.mem_cons, List.not_mem_nil, or_false] at hi
          subst hi
          refine wpOp_now rfl rfl ?_
          go_simp
          try rw [hZ2]
          clear hZ2 v0 v1 v2 v3
          refine ⟨fun _ => T2, ?_⟩
          try simp only [Act.put, List.getElem_toArray, List.getElem_cons_zero, List.getElem_cons_succ, List.setIfInBounds_toArray, List.set_cons_zero, List.set_cons_succ]
          refine wpAnyG_done (by kernel_rfl) ?_ _
          refine NoPanic.normal ?_
          exact ⟨rfl, ((olx, osx, clx, csx, b4), (oly, osy, cly, csy, b5)), by kernel_rfl, ⟨px, qx, py, qy, ⟨by omega, hqx, hqp, hqy, hz2⟩, fx, fy⟩, f4, f5, T2⟩
        · skip
          refine wpOp_now rfl rfl ?_
          go_simp
          have d4 := Blk.new Y5 #[.slice none 0 0, .slice none 0 0] 25
          have l4 := T0.size
          have lt4 : b5 < Y5.heap.size := d5.lt
          have hAA := (Below.refl Y5.heap.size Y5).alloc (Nat.le_refl _) (.cells #[.slice none 0 0, .slice none 0 0] 25)
          replace T0 := T0.trans (hAA.mono T0.size)
          replace hx := hx.below hAA
          replace d5 := d5.below' hAA
          have z4 : Y5.heap.size < (Y5.alloc (.cells #[.slice none 0 0, .slice none 0 0] 25)).heap.size := by simp
          replace hlex : qx ≤ (Y5.alloc (.cells #[.slice none 0 0, .slice none 0 0] 25)).heap.size := by simp; omega
          obtain ⟨b4, hb4⟩ : ∃ b, Y5.heap.size = b := ⟨_, rfl⟩
          obtain ⟨Y4, hVY4⟩ : ∃ X, Y5.alloc (.cells #[.slice none 0 0, .slice none 0 0] 25) = X := ⟨_, rfl⟩
          rw [hVY4] at T0 z4 d4 hx d5 hlex
          rw [hb4] at d4 l4 z4 lt4
          try rw [hVY4, hb4]
          try rw [hVY4]
          clear hAA hVY4 hb4
          refine ⟨fun _ => T0, ?_⟩
          try simp only [Act.put, List.getElem_toArray, List.getElem_cons_zero, List.getElem_cons_succ, List.setIfInBounds_toArray, List.set_cons_zero, List.set_cons_succ]
          refine wpAnyG_all (rs := [3]) (by kernel_rfl) (by simp) ?_
          intro i hi
          simp only [List.mem_cons, List.not_mem_nil, or_false] at hi
          subst hi
          refine wpOp_now rfl rfl ?_
          go_simp
          refine (copy_any t ol' os' cl' cs' hfl' hfs' hn' hm' _ (HR.out.2.1.below encR_len (by decide) (HB.out.trans (T0.mono HB.out.size))) (HR.out.2.2.below encI_len (by decide) (HB.out.trans (T0.mono HB.out.size)))).mono ?_
          rintro e Y3 ⟨vl, vs, rfl, hO1, hO2, hB⟩
          obtain ⟨oly, osy, cly, csy, rfl, rfl, hy⟩ := OwS.of (t := t) hO1 hO2
          have hpy := T0.size
          have hqy := hB.size
          obtain ⟨py, hpey⟩ : ∃ k, Y4.heap.size = k := ⟨_, rfl⟩
          obtain ⟨qy, hqey⟩ : ∃ k, Y3.heap.size = k := ⟨_, rfl⟩
          have hqp : qx ≤ py := by omega
          rw [hpey, hqey] at hy
          rw [hpey] at hpy
          have hley : qy ≤ Y3.heap.size := by omega
          rw [hpey, hqey] at hqy
          replace T0 := T0.trans (hB.mono T0.size)
          replace hx := hx.below hB
          replace d4 := d4.below' hB
          replace d5 := d5.below' hB
          clear hB hO1 hO2 hpey hqey
          refine ⟨fun _ => T0, ?_⟩
          try simp only [Act.put, List.getElem_toArray, List.getElem_cons_zero, List.getElem_cons_succ, List.setIfInBounds_toArray, List.set_cons_zero, List.set_cons_succ]
          have ne45 : b4 ≠ b5 := by omega
          have u0 := d4.cell 0
          have u1 := d4.cell 1
          have u2 := d4.frozen 0
          have u3 := d4.frozen 1
          have v0 := d5.cell 0
          have v1 := d5.cell 1
          have v2 := d5.frozen 0
          have v3 := d5.frozen 1
          simp only [List.getElem?_toArray, List.getElem?_cons_succ, List.getElem?_cons_zero] at u0 u1 v0 v1
          have T1 := (T0.setCell (p := ⟨b4, 0, none⟩) l4 (.slice olx s.L.length clx)).setCell (p := ⟨b4, 1, none⟩) l4 (.slice osx s.S.length csx)
          have e4 := (d4.set 0 (.slice olx s.L.length clx)).set 1 (.slice osx s.S.length csx)
          have e5 := (d5.other ne45.symm 0 (.slice olx s.L.length clx)).other ne45.symm 1 (.slice osx s.S.length csx)
          have ex := (hx.blk d4 0 (.slice olx s.L.length clx)).blk (d4.set 0 _) 1 (.slice osx s.S.length csx)
          have ey := (hy.blk d4 0 (.slice olx s.L.length clx)).blk (d4.set 0 _) 1 (.slice osx s.S.length csx)
          simp only [List.setIfInBounds_toArray, List.set_cons_zero, List.set_cons_succ] at e4
          have hz1 : qy ≤ ((Y3.setCell ⟨b4, 0, none⟩ (.slice olx s.L.length clx)).setCell ⟨b4, 1, none⟩ (.slice osx s.S.length csx)).heap.size := by simp; omega
          obtain ⟨Z1, hZ1⟩ : ∃ X, (Y3.setCell ⟨b4, 0, none⟩ (.slice olx s.L.length clx)).setCell ⟨b4, 1, none⟩ (.slice osx s.S.length csx) = X := ⟨_, rfl⟩
          rw [hZ1] at T1 e4 e5 ex ey hz1
          refine wpAnyG_all (rs := [6]) (by kernel_rfl) (by simp) ?_
          intro i hi
          simp only [List.mem_cons, List.not_mem_nil, or_false] at hi
          subst hi
          refine wpOp_now rfl rfl ?_
          go_simp
          try rw [hZ1]
          clear hZ1 u0 u1 u2 u3 v0 v1 v2 v3
          refine ⟨fun _ => T1, ?_⟩
          try simp only [Act.put, List.getElem_toArray, List.getElem_cons_zero, List.getElem_cons_succ, List.setIfInBounds_toArray, List.set_cons_zero, List.set_cons_succ]
          have v0 := e5.cell 0
          have v1 := e5.cell 1
          have v2 := e5.frozen 0
          have v3 := e5.frozen 1
          simp only [List.getElem?_toArray, List.getElem?_cons_succ, List.getElem?_cons_zero] at v0 v1
          have T2 := (T1.setCell (p := ⟨b5, 0, none⟩) l5 (.slice oly t.L.length cly)).setCell (p := ⟨b5, 1, none⟩) l5 (.slice osy t.S.length csy)
          have f5 := (e5.set 0 (.slice oly t.L.length cly)).set 1 (.slice osy t.S.length csy)
          have f4 := (e4.other ne45 0 (.slice oly t.L.length cly)).other ne45 1 (.slice osy t.S.length csy)
          have fx := (ex.blk e5 0 (.slice oly t.L.length cly)).blk (e5.set 0 _) 1 (.slice osy t.S.length csy)
          have fy := (ey.blk e5 0 (.slice oly t.L.length cly)).blk (e5.set 0 _) 1 (.slice osy t.S.length csy)
          simp only [List.setIfInBounds_toArray, List.set_cons_zero, List.set_cons_succ] at f5
          have hz2 : qy ≤ ((Z1.setCell ⟨b5, 0, none⟩ (.slice oly t.L.length cly)).setCell ⟨b5, 1, none⟩ (.slice osy t.S.length csy)).heap.size := by simp; omega
          obtain ⟨Z2, hZ2⟩ : ∃ X, (Z1.setCell ⟨b5, 0, none⟩ (.slice oly t.L.length cly)).setCell ⟨b5, 1, none⟩ (.slice osy t.S.length csy) = X := ⟨_, rfl⟩
          rw [hZ2] at T2 f5 f4 fx fy hz2
          refine wpAnyG_all (rs := [7]) (by kernel_rfl) (by simp) ?_
          intro i hi
          simp only [List.mem_cons, List.not_mem_nil, or_false] at hi
          subst hi
          refine wpOp_now rfl rfl ?_
          go_simp
          try rw [hZ2]
          clear hZ2 v0 v1 v2 v3
          refine ⟨fun _ => T2, ?_⟩
          try simp only [Act.put, List.getElem_toArray, List.getElem_cons_zero, List.getElem_cons_succ, List.setIfInBounds_toArray, List.set_cons_zero, List.set_cons_succ]
          refine wpAnyG_done (by kernel_rfl) ?_ _
          refine NoPanic.normal ?_
          exact ⟨rfl, ((olx, osx, clx, csx, b4), (oly, osy, cly, csy, b5)), by kernel_rfl, ⟨px, qx, py, qy, ⟨by omega, hqx, hqp, hqy, hz2⟩, fx, fy⟩, f4, f5, T2⟩
    · skip
      refine wpOp_now rfl rfl ?_
      go_simp
      have d4 := Blk.new X0 #[.slice none 0 0, .slice none 0 0] 25
      have l4 := T0.size
      have hAA := (Below.refl X0.heap.size X0).alloc (Nat.le_refl _) (.cells #[.slice none 0 0, .slice none 0 0] 25)
      replace T0 := T0.trans (hAA.mono T0.size)
      have z4 : X0.heap.size < (X0.alloc (.cells #[.slice none 0 0, .slice none 0 0] 25)).heap.size := by simp
      obtain ⟨b4, hb4⟩ : ∃ b, X0.heap.size = b := ⟨_, rfl⟩
      obtain ⟨Y4, hVY4⟩ : ∃ X, X0.alloc (.cells #[.slice none 0 0, .slice none 0 0] 25) = X := ⟨_, rfl⟩
      rw [hVY4] at T0 z4 d4 
      rw [hb4] at d4 l4 z4
      try rw [hVY4, hb4]
      try rw [hVY4]
      clear hAA hVY4 hb4
      refine ⟨fun _ => T0, ?_⟩
      try simp only [Act.put, List.getElem_toArray, List.getElem_cons_zero, List.getElem_cons_succ, List.setIfInBounds_toArray, List.set_cons_zero, List.set_cons_succ]
      refine wpAnyG_all (rs := [1, 5]) (by kernel_rfl) (by simp) ?_
      intro i hi
      simp only [List.mem_cons, List.not_mem_nil, or_false] at hi
      rcases hi with rfl | rfl
      · skip
        refine wpOp_now rfl rfl ?_
        go_simp
        refine (copy_any s ol os cl cs hfl hfs hn hm _ (HR.out.1.1.below encR_len (by decide) (HB.out.trans (T0.mono HB.out.size))) (HR.out.1.2.below encI_len (by decide) (HB.out.trans (T0.mono HB.out.size)))).mono ?_
        rintro e Y1 ⟨vl, vs, rfl, hO1, hO2, hB⟩
        obtain ⟨olx, osx, clx, csx, rfl, rfl, hx⟩ := OwS.of (t := s) hO1 hO2
        have hpx := T0.size
        have hqx := hB.size
        obtain ⟨px, hpex⟩ : ∃ k, Y4.heap.size = k := ⟨_, rfl⟩
        obtain ⟨qx, hqex⟩ : ∃ k, Y1.heap.size = k := ⟨_, rfl⟩
        rw [hpex, hqex] at hx
        rw [hpex] at hpx
        have hlex : qx ≤ Y1.heap.size := by omega
        rw [hpex, hqex] at hqx
        replace T0 := T0.trans (hB.mono T0.size)
        replace d4 := d4.below' hB
        clear hB hO1 hO2 hpex hqex
        refine ⟨fun _ => T0, ?_⟩
        try simp only [Act.put, List.getElem_toArray, List.getElem_cons_zero, List.getElem_cons_succ, List.setIfInBounds_toArray, List.set_cons_zero, List.set_cons_succ]
        refine wpAnyG_all (rs := [3, 5]) (by kernel_rfl) (by simp) ?_
        intro i hi
        simp only [List.mem_cons, List.not_mem_nil, or_false] at hi
        rcases hi with rfl | rfl
        · skip
          refine wpOp_now rfl rfl ?_
          go_simp
          refine (copy_any t ol' os' cl' cs' hfl' hfs' hn' hm' _ (HR.out.2.1.below encR_len (by decide) (HB.out.trans (T0.mono HB.out.size))) (HR.out.2.2.below encI_len (by decide) (HB.out.trans (T0.mono HB.out.size)))).mono ?_
          rintro e Y3 ⟨vl, vs, rfl, hO1, hO2, hB⟩
          obtain ⟨oly, osy, cly, csy, rfl, rfl, hy⟩ := OwS.of (t := t) hO1 hO2
          have hpy := T0.size
          have hqy := hB.size
          obtain ⟨py, hpey⟩ : ∃ k, Y1.heap.size = k := ⟨_, rfl⟩
          obtain ⟨qy, hqey⟩ : ∃ k, Y3.heap.size = k := ⟨_, rfl⟩
          have hqp : qx ≤ py := by omega
          rw [hpey, hqey] at hy
          rw [hpey] at hpy
          have hley : qy ≤ Y3.heap.size := by omega
          rw [hpey, hqey] at hqy
          replace T0 := T0.trans (hB.mono T0.size)
          replace hx := hx.below hB
          replace d4 := d4.below' hB
          clear hB hO1 hO2 hpey hqey
          refine ⟨fun _ => T0, ?_⟩
          try simp only [Act.put, List.getElem_toArray, List.getElem_cons_zero, List.getElem_cons_succ, List.setIfInBounds_toArray, List.set_cons_zero, List.set_cons_succ]
          refine wpAnyG_all (rs := [5]) (by kernel_rfl) (by simp) ?_
          intro i hi
          simp only [List.mem_cons, List.not_mem_nil, or_false] at hi
          subst hi
          refine wpOp_now rfl rfl ?_
          go_simp
          have d5 := Blk.new Y3 #[.slice none 0 0, .slice none 0 0] 25
          have l5 := T0.size
          have lt5 : b4 < Y3.heap.size := d4.lt
          have hAA := (Below.refl Y3.heap.size Y3).alloc (Nat.le_refl _) (.cells #[.slice none 0 0, .slice none 0 0] 25)
          replace T0 := T0.trans (hAA.mono T0.size)
          replace hx := hx.below hAA
          replace hy := hy.below hAA
          replace d4 := d4.below' hAA
          have z5 : Y3.heap.size < (Y3.alloc (.cells #[.slice none 0 0, .slice none 0 0] 25)).heap.size := by simp
          replace hley : qy ≤ (Y3.alloc (.cells #[.slice none 0 0, .slice none 0 0] 25)).heap.size := by simp; omega
          obtain ⟨b5, hb5⟩ : ∃ b, Y3.heap.size = b := ⟨_, rfl⟩
          obtain ⟨Y5, hVY5⟩ : ∃ X, Y3.alloc (.cells #[.slice none 0 0, .slice none 0 0] 25) = X := ⟨_, rfl⟩
          rw [hVY5] at T0 z5 d5 hx hy d4 hley
          rw [hb5] at d5 l5 z5 lt5
          try rw [hVY5, hb5]
          try rw [hVY5]
          clear hAA hVY5 hb5
          refine ⟨fun _ => T0, ?_⟩
          try simp only [Act.put, List.getElem_toArray, List.getElem_cons_zero, List.getElem_cons_succ, List.setIfInBounds_toArray, List.set_cons_zero, List.set_cons_succ]
          have ne45 : b4 ≠ b5 := by omega
          have u0 := d4.cell 0
          have u1 := d4.cell 1
          have u2 := d4.frozen 0
          have u3 := d4.frozen 1
          have v0 := d5.cell 0
          have v1 := d5.cell 1
          have v2 := d5.frozen 0
          have v3 := d5.frozen 1
          simp only [List.getElem?_toArray, List.getElem?_cons_succ, List.getElem?_cons_zero] at u0 u1 v0 v1
          have T1 := (T0.setCell (p := ⟨b4, 0, none⟩) l4 (.slice olx s.L.length clx)).setCell (p := ⟨b4, 1, none⟩) l4 (.slice osx s.S.length csx)
          have e4 := (d4.set 0 (.slice olx s.L.length clx)).set 1 (.slice osx s.S.length csx)
          have e5 := (d5.other ne45.symm 0 (.slice olx s.L.length clx)).other ne45.symm 1 (.slice osx s.S.length csx)
          have ex := (hx.blk d4 0 (.slice olx s.L.length clx)).blk (d4.set 0 _) 1 (.slice osx s.S.length csx)
          have ey := (hy.blk d4 0 (.slice olx s.L.length clx)).blk (d4.set 0 _) 1 (.slice osx s.S.length csx)
          simp only [List.setIfInBounds_toArray, List.set_cons_zero, List.set_cons_succ] at e4
          have hz1 : qy ≤ ((Y5.setCell ⟨b4, 0, none⟩ (.slice olx s.L.length clx)).setCell ⟨b4, 1, none⟩ (.slice osx s.S.length csx)).heap.size := by simp; omega
          obtain ⟨Z1, hZ1⟩ : ∃ X, (Y5.setCell ⟨b4, 0, none⟩ (.slice olx s.L.length clx)).setCell ⟨b4, 1, none⟩ (.slice osx s.S.length csx) = X := ⟨_, rfl⟩
          rw [hZ1] at T1 e4 e5 ex ey hz1
          refine wpAnyG_all (rs := [6]) (by kernel_rfl) (by simp) ?_
          intro i hi
          simp only [List.mem_cons, List.not_mem_nil, or_false] at hi
          subst hi
          refine wpOp_now rfl rfl ?_
          go_simp
          try rw [hZ1]
          clear hZ1 u0 u1 u2 u3 v0 v1 v2 v3
          refine ⟨fun _ => T1, ?_⟩
          try simp only [Act.put, List.getElem_toArray, List.getElem_cons_zero, List.getElem_cons_succ, List.setIfInBounds_toArray, List.set_cons_zero, List.set_cons_succ]
          have v0 := e5.cell 0
          have v1 := e5.cell 1
          have v2 := e5.frozen 0
          have v3 := e5.frozen 1
          simp only [List.getElem?_toArray, List.getElem?_cons_succ, List.getElem?_cons_zero] at v0 v1
          have T2 := (T1.setCell (p := ⟨b5, 0, none⟩) l5 (.slice oly t.L.length cly)).setCell (p := ⟨b5, 1, none⟩) l5 (.slice osy t.S.length csy)
          have f5 := (e5.set 0 (.slice oly t.L.length cly)).set 1 (.slice osy t.S.length csy)
          have f4 := (e4.other ne45 0 (.slice oly t.L.length cly)).other ne45 1 (.slice osy t.S.length csy)
          have fx := (ex.blk e5 0 (.slice oly t.L.length cly)).blk (e5.set 0 _) 1 (.slice osy t.S.length csy)
          have fy := (ey.blk e5 0 (.slice oly t.L.length cly)).blk (e5.set 0 _) 1 (.slice osy t.S.length csy)
          simp only [List.setIfInBounds_toArray, List.set_cons_zero, List.set_cons_succ] at f5
          have hz2 : qy ≤ ((Z1.setCell ⟨b5, 0, none⟩ (.slice oly t.L.length cly)).setCell ⟨b5, 1, none⟩ (.slice osy t.S.length csy)).heap.size := by simp; omega
          obtain ⟨Z2, hZ2⟩ : ∃ X, (Z1.setCell ⟨b5, 0, none⟩ (.slice oly t.L.length cly)).setCell ⟨b5, 1, none⟩ (.slice osy t.S.length csy) = X := ⟨_, rfl⟩
          rw [hZ2] at T2 f5 f4 fx fy hz2
          refine wpAnyG_all (rs := [7]) (by kernel_rfl) (by simp) ?_
          intro i hi
          simp only [List.mem_cons, List.not_mem_nil, or_false] at hi
          subst hi
          refine wpOp_now rfl rfl ?_
          go_simp
          try rw [hZ2]
          clear hZ2 v0 v1 v2 v3
          refine ⟨fun _ => T2, ?_⟩
          try simp only [Act.put, List.getElem_toArray, List.getElem_cons_zero, List.getElem_cons_succ, List.setIfInBounds_toArray, List.set_cons_zero, List.set_cons_succ]
          refine wpAnyG_done (by kernel_rfl) ?_ _
          refine NoPanic.normal ?_
          exact ⟨rfl, ((olx, osx, clx, csx, b4), (oly, osy, cly, csy, b5)), by kernel_rfl, ⟨px, qx, py, qy, ⟨by omega, hqx, hqp, hqy, hz2⟩, fx, fy⟩, f4, f5, T2⟩
        · skip
          refine wpOp_now rfl rfl ?_
          go_simp
          have d5 := Blk.new Y1 #[.slice none 0 0, .slice none 0 0] 25
          have l5 := T0.size
          have lt5 : b4 < Y1.heap.size := d4.lt
          have hAA := (Below.refl Y1.heap.size Y1).alloc (Nat.le_refl _) (.cells #[.slice none 0 0, .slice none 0 0] 25)
          replace T0 := T0.trans (hAA.mono T0.size)
          replace hx := hx.below hAA
          replace d4 := d4.below' hAA
          have z5 : Y1.heap.size < (Y1.alloc (.cells #[.slice none 0 0, .slice none 0 0] 25)).heap.size := by simp
          replace hlex : qx ≤ (Y1.alloc (.cells #[.slice none 0 0, .slice none 0 0] 25)).heap.size := by simp; omega
          obtain ⟨b5, hb5⟩ : ∃ b, Y1.heap.size = b := ⟨_, rfl⟩
          obtain ⟨Y5, hVY5⟩ : ∃ X, Y1.alloc (.cells #[.slice none 0 0, .slice none 0 0] 25) = X := ⟨_, rfl⟩
          rw [hVY5] at T0 z5 d5 hx d4 hlex
          rw [hb5] at d5 l5 z5 lt5
          try rw [hVY5, hb5]
          try rw [hVY5]
          clear hAA hVY5 hb5
          refine ⟨fun _ => T0, ?_⟩
          try simp only [Act.put, List.getElem_toArray, List.getElem_cons_zero, List.getElem_cons_succ, List.setIfInBounds_toArray, List.set_cons_zero, List.set_cons_succ]
          refine wpAnyG_all (rs := [3]) (by kernel_rfl) (by simp) ?_
          intro i hi
          simp only [List.mem_cons, List.not_mem_nil, or_false] at hi
          subst hi
          refine wpOp_now rfl rfl ?_
          go_simp
          refine (copy_any t ol' os' cl' cs' hfl' hfs' hn' hm' _ (HR.out.2.1.below encR_len (by decide) (HB.out.trans (T0.mono HB.out.size))) (HR.out.2.2.below encI_len (by decide) (HB.out.trans (T0.mono HB.out.size)))).mono ?_
          rintro e Y3 ⟨vl, vs, rfl, hO1, hO2, hB⟩
          obtain ⟨oly, osy, cly, csy, rfl, rfl, hy⟩ := OwS.of (t := t) hO1 hO2
          have hpy := T0.size
          have hqy := hB.size
          obtain ⟨py, hpey⟩ : ∃ k, Y5.heap.size = k := ⟨_, rfl⟩
          obtain ⟨qy, hqey⟩ : ∃ k, Y3.heap.size = k := ⟨_, rfl⟩
          have hqp : qx ≤ py := by omega
          rw [hpey, hqey] at hy
          rw [hpey] at hpy
          have hley : qy ≤ Y3.heap.size := by omega
          rw [hpey, hqey] at hqy
          replace T0 := T0.trans (hB.mono T0.size)
          replace hx := hx.below hB
          replace d4 := d4.below' hB
          replace d5 := d5.below' hB
          clear hB hO1 hO2 hpey hqey
          refine ⟨fun _ => T0, ?_⟩
          try simp only [Act.put, List.getElem_toArray, List.getElem_cons_zero, List.getElem_cons_succ, List.setIfInBounds_toArray, List.set_cons_zero, List.set_cons_succ]
          have ne45 : b4 ≠ b5 := by omega
          have u0 := d4.cell 0
          have u1 := d4.cell 1
          have u2 := d4.frozen 0
          have u3 := d4.frozen 1
          have v0 := d5.cell 0
          have v1 := d5.cell 1
          have v2 := d5.frozen 0
          have v3 := d5.frozen 1
          simp only [List.getElem?_toArray, List.getElem?_cons_succ, List.getElem?_cons_zero] at u0 u1 v0 v1
          have T1 := (T0.setCell (p := ⟨b4, 0, none⟩) l4 (.slice olx s.L.length clx)).setCell (p := ⟨b4, 1, none⟩) l4 (.slice osx s.S.length csx)
          have e4 := (d4.set 0 (.slice olx s.L.length clx)).set 1 (.slice osx s.S.length csx)
          have e5 := (d5.other ne45.symm 0 (.slice olx s.L.length clx)).other ne45.symm 1 (.slice osx s.S.length csx)
          have ex := (hx.blk d4 0 (.slice olx s.L.length clx)).blk (d4.set 0 _) 1 (.slice osx s.S.length csx)
          have ey := (hy.blk d4 0 (.slice olx s.L.length clx)).blk (d4.set 0 _) 1 (.slice osx s.S.length csx)
          simp only [List.setIfInBounds_toArray, List.set_cons_zero, List.set_cons_succ] at e4
          have hz1 : qy ≤ ((Y3.setCell ⟨b4, 0, none⟩ (.slice olx s.L.length clx)).setCell ⟨b4, 1, none⟩ (.slice osx s.S.length csx)).heap.size := by simp; omega
          obtain ⟨Z1, hZ1⟩ : ∃ X, (Y3.setCell ⟨b4, 0, none⟩ (.slice olx s.L.length clx)).setCell ⟨b4, 1, none⟩ (.slice osx s.S.length csx) = X := ⟨_, rfl⟩
          rw [hZ1] at T1 e4 e5 ex ey hz1
          refine wpAnyG_all (rs := [6]) (by kernel_rfl) (by simp) ?_
          intro i hi
          simp only [List.mem_cons, List.not_mem_nil, or_false] at hi
          subst hi
          refine wpOp_now rfl rfl ?_
          go_simp
          try rw [hZ1]
          clear hZ1 u0 u1 u2 u3 v0 v1 v2 v3
          refine ⟨fun _ => T1, ?_⟩
          try simp only [Act.put, List.getElem_toArray, List.getElem_cons_zero, List.getElem_cons_succ, List.setIfInBounds_toArray, List.set_cons_zero, List.set_cons_succ]
          have v0 := e5.cell 0
          have v1 := e5.cell 1
          have v2 := e5.frozen 0
          have v3 := e5.frozen 1
          simp only [List.getElem?_toArray, List.getElem?_cons_succ, List.getElem?_cons_zero] at v0 v1
          have T2 := (T1.setCell (p := ⟨b5, 0, none⟩) l5 (.slice oly t.L.length cly)).setCell (p := ⟨b5, 1, none⟩) l5 (.slice osy t.S.length csy)
          have f5 := (e5.set 0 (.slice oly t.L.length cly)).set 1 (.slice osy t.S.length csy)
          have f4 := (e4.other ne45 0 (.slice oly t.L.length cly)).other ne45 1 (.slice osy t.S.length csy)
          have fx := (ex.blk e5 0 (.slice oly t.L.length cly)).blk (e5.set 0 _) 1 (.slice osy t.S.length csy)
          have fy := (ey.blk e5 0 (.slice oly t.L.length cly)).blk (e5.set 0 _) 1 (.slice osy t.S.length csy)
          simp only [List.setIfInBounds_toArray, List.set_cons_zero, List.set_cons_succ] at f5
          have hz2 : qy ≤ ((Z1.setCell ⟨b5, 0, none⟩ (.slice oly t.L.length cly)).setCell ⟨b5, 1, none⟩ (.slice osy t.S.length csy)).heap.size := by simp; omega
          obtain ⟨Z2, hZ2⟩ : ∃ X, (Z1.setCell ⟨b5, 0, none⟩ (.slice oly t.L.length cly)).setCell ⟨b5, 1, none⟩ (.slice osy t.S.length csy) = X := ⟨_, rfl⟩
          rw [hZ2] at T2 f5 f4 fx fy hz2
          refine wpAnyG_all (rs := [7]) (by kernel_rfl) (by simp) ?_
          intro i hi
          simp only [List.mem_cons, List.not_mem_nil, or_false] at hi
          subst hi
          refine wpOp_now rfl rfl ?_
          go_simp
          try rw [hZ2]
          clear hZ2 v0 v1 v2 v3
          refine ⟨fun _ => T2, ?_⟩
          try simp only [Act.put, List.getElem_toArray, List.getElem_cons_zero, List.getElem_cons_succ, List.setIfInBounds_toArray, List.set_cons_zero, List.set_cons_succ]
          refine wpAnyG_done (by kernel_rfl) ?_ _
          refine NoPanic.normal ?_
          exact ⟨rfl, ((olx, osx, clx, csx, b4), (oly, osy, cly, csy, b5)), by kernel_rfl, ⟨px, qx, py, qy, ⟨by omega, hqx, hqp, hqy, hz2⟩, fx, fy⟩, f4, f5, T2⟩
      · skip
        refine wpOp_now rfl rfl ?_
        go_simp
        have d5 := Blk.new Y4 #[.slice none 0 0, .slice none 0 0] 25
        have l5 := T0.size
        have lt5 : b4 < Y4.heap.size := d4.lt
        have hAA := (Below.refl Y4.heap.size Y4).alloc (Nat.le_refl _) (.cells #[.slice none 0 0, .slice none 0 0] 25)
        replace T0 := T0.trans (hAA.mono T0.size)
        replace d4 := d4.below' hAA
        have z5 : Y4.heap.size < (Y4.alloc (.cells #[.slice none 0 0, .slice none 0 0] 25)).heap.size := by simp
        obtain ⟨b5, hb5⟩ : ∃ b, Y4.heap.size = b := ⟨_, rfl⟩
        obtain ⟨Y5, hVY5⟩ : ∃ X, Y4.alloc (.cells #[.slice none 0 0, .slice none 0 0] 25) = X := ⟨_, rfl⟩
        rw [hVY5] at T0 z5 d5 d4
        rw [hb5] at d5 l5 z5 lt5
        try rw [hVY5, hb5]
        try rw [hVY5]
        clear hAA hVY5 hb5
        refine ⟨fun _ => T0, ?_⟩
        try simp only [Act.put, List.getElem_toArray, List.getElem_cons_zero, List.getElem_cons_succ, List.setIfInBounds_toArray, List.set_cons_zero, List.set_cons_succ]
        refine wpAnyG_all (rs := [1]) (by kernel_rfl) (by simp) ?_
        intro i hi
        simp only [List.mem_cons, List.not_mem_nil, or_false] at hi
        subst hi
        refine wpOp_now rfl rfl ?_
        go_simp
        refine (copy_any s ol os cl cs hfl hfs hn hm _ (HR.out.1.1.below encR_len (by decide) (HB.out.trans (T0.mono HB.out.size))) (HR.out.1.2.below encI_len (by decide) (HB.out.trans (T0.mono HB.out.size)))).mono ?_
        rintro e Y1 ⟨vl, vs, rfl, hO1, hO2, hB⟩
        obtain ⟨olx, osx, clx, csx, rfl, rfl, hx⟩ := OwS.of (t := s) hO1 hO2
        have hpx := T0.size
        have hqx := hB.size
        obtain ⟨px, hpex⟩ : ∃ k, Y5.heap.size = k := ⟨_, rfl⟩
        obtain ⟨qx, hqex⟩ : ∃ k, Y1.heap.size = k := ⟨_, rfl⟩
        rw [hpex, hqex] at hx
        rw [hpex] at hpx
        have hlex : qx ≤ Y1.heap.size := by omega
        rw [hpex, hqex] at hqx
        replace T0 := T0.trans (hB.mono T0.size)
        replace d4 := d4.below' hB
        replace d5 := d5.below' hB
        clear hB hO1 hO2 hpex hqex
        refine ⟨fun _ => T0, ?_⟩
        try simp only [Act.put, List.getElem_toArray, List.getElem_cons_zero, List.getElem_cons_succ, List.setIfInBounds_toArray, List.set_cons_zero, List.set_cons_succ]
        refine wpAnyG_all (rs := [3]) (by kernel_rfl) (by simp) ?_
        intro i hi
        simp only [List.mem_cons, List.not_mem_nil, or_false] at hi
        subst hi
        refine wpOp_now rfl rfl ?_
        go_simp
        refine (copy_any t ol' os' cl' cs' hfl' hfs' hn' hm' _ (HR.out.2.1.below encR_len (by decide) (HB.out.trans (T0.mono HB.out.size))) (HR.out.2.2.below encI_len (by decide) (HB.out.trans (T0.mono HB.out.size)))).mono ?_
        rintro e Y3 ⟨vl, vs, rfl, hO1, hO2, hB⟩
        obtain ⟨oly, osy, cly, csy, rfl, rfl, hy⟩ := OwS.of (t := t) hO1 hO2
        have hpy := T0.size
        have hqy := hB.size
        obtain ⟨py, hpey⟩ : ∃ k, Y1.heap.size = k := ⟨_, rfl⟩
        obtain ⟨qy, hqey⟩ : ∃ k, Y3.heap.size = k := ⟨_, rfl⟩
        have hqp : qx ≤ py := by omega
        rw [hpey, hqey] at hy
        rw [hpey] at hpy
        have hley : qy ≤ Y3.heap.size := by omega
        rw [hpey, hqey] at hqy
        replace T0 := T0.trans (hB.mono T0.size)
        replace hx := hx.below hB
        replace d4 := d4.below' hB
        replace d5 := d5.below' hB
        clear hB hO1 hO2 hpey hqey
        refine ⟨fun _ => T0, ?_⟩
        try simp only [Act.put, List.getElem_toArray, List.getElem_cons_zero, List.getElem_cons_succ, List.setIfInBounds_toArray, List.set_cons_zero, List.set_cons_succ]
        have ne45 : b4 ≠ b5 := by omega
        have u0 := d4.cell 0
        have u1 := d4.cell 1
        have u2 := d4.frozen 0
        have u3 := d4.frozen 1
        have v0 := d5.cell 0
        have v1 := d5.cell 1
        have v2 := d5.frozen 0
        have v3 := d5.frozen 1
        simp only [List.getElem?_toArray, List.getElem?_cons_succ, List.getElem?_cons_zero] at u0 u1 v0 v1
        have T1 := (T0.setCell (p := ⟨b4, 0, none⟩) l4 (.slice olx s.L.length clx)).setCell (p := ⟨b4, 1, none⟩) l4 (.slice osx s.S.length csx)
        have e4 := (d4.set 0 (.slice olx s.L.length clx)).set 1 (.slice osx s.S.length csx)
        have e5 := (d5.other ne45.symm 0 (.slice olx s.L.length clx)).other ne45.symm 1 (.slice osx s.S.length csx)
        have ex := (hx.blk d4 0 (.slice olx s.L.length clx)).blk (d4.set 0 _) 1 (.slice osx s.S.length csx)
        have ey := (hy.blk d4 0 (.slice olx s.L.length clx)).blk (d4.set 0 _) 1 (.slice osx s.S.length csx)
        simp only [List.setIfInBounds_toArray, List.set_cons_zero, List.set_cons_succ] at e4
        have hz1 : qy ≤ ((Y3.setCell ⟨b4, 0, none⟩ (.slice olx s.L.length clx)).setCell ⟨b4, 1, none⟩ (.slice osx s.S.length csx)).heap.size := by simp; omega
        obtain ⟨Z1, hZ1⟩ : ∃ X, (Y3.setCell ⟨b4, 0, none⟩ (.slice olx s.L.length clx)).setCell ⟨b4, 1, none⟩ (.slice osx s.S.length csx) = X := ⟨_, rfl⟩
        rw [hZ1] at T1 e4 e5 ex ey hz1
        refine wpAnyG_all (rs := [6]) (by kernel_rfl) (by simp) ?_
        intro i hi
        simp only [List.mem_cons, List.not_mem_nil, or_false] at hi
        subst hi
        refine wpOp_now rfl rfl ?_
        go_simp
        try rw [hZ1]
        clear hZ1 u0 u1 u2 u3 v0 v1 v2 v3
        refine ⟨fun _ => T1, ?_⟩
        try simp only [Act.put, List.getElem_toArray, List.getElem_cons_zero, List.getElem_cons_succ, List.setIfInBounds_toArray, List.set_cons_zero, List.set_cons_succ]
        have v0 := e5.cell 0
        have v1 := e5.cell 1
        have v2 := e5.frozen 0
        have v3 := e5.frozen 1
        simp only [List.getElem?_toArray, List.getElem?_cons_succ, List.getElem?_cons_zero] at v0 v1
        have T2 := (T1.setCell (p := ⟨b5, 0, none⟩) l5 (.slice oly t.L.length cly)).setCell (p := ⟨b5, 1, none⟩) l5 (.slice osy t.S.length csy)
        have f5 := (e5.set 0 (.slice oly t.L.length cly)).set 1 (.slice osy t.S.length csy)
        have f4 := (e4.other ne45 0 (.slice oly t.L.length cly)).other ne45 1 (.slice osy t.S.length csy)
        have fx := (ex.blk e5 0 (.slice oly t.L.length cly)).blk (e5.set 0 _) 1 (.slice osy t.S.length csy)
        have fy := (ey.blk e5 0 (.slice oly t.L.length cly)).blk (e5.set 0 _) 1 (.slice osy t.S.length csy)
        simp only [List.setIfInBounds_toArray, List.set_cons_zero, List.set_cons_succ] at f5
        have hz2 : qy ≤ ((Z1.setCell ⟨b5, 0, none⟩ (.slice oly t.L.length cly)).setCell ⟨b5, 1, none⟩ (.slice osy t.S.length csy)).heap.size := by simp; omega
        obtain ⟨Z2, hZ2⟩ : ∃ X, (Z1.setCell ⟨b5, 0, none⟩ (.slice oly t.L.length cly)).setCell ⟨b5, 1, none⟩ (.slice osy t.S.length csy) = X := ⟨_, rfl⟩
        rw [hZ2] at T2 f5 f4 fx fy hz2
        refine wpAnyG_all (rs := [7]) (by kernel_rfl) (by simp) ?_
        intro i hi
        simp only [List.mem_cons, List.not_mem_nil, or_false] at hi
        subst hi
        refine wpOp_now rfl rfl ?_
        go_simp
        try rw [hZ2]
        clear hZ2 v0 v1 v2 v3
        refine ⟨fun _ => T2, ?_⟩
        try simp only [Act.put, List.getElem_toArray, List.getElem_cons_zero, List.getElem_cons_succ, List.setIfInBounds_toArray, List.set_cons_zero, List.set_cons_succ]
        refine wpAnyG_done (by kernel_rfl) ?_ _
        refine NoPanic.normal ?_
        exact ⟨rfl, ((olx, osx, clx, csx, b4), (oly, osy, cly, csy, b5)), by kernel_rfl, ⟨px, qx, py, qy, ⟨by omega, hqx, hqp, hqy, hz2⟩, fx, fy⟩, f4, f5, T2⟩
    · skip
      refine wpOp_now rfl rfl ?_
      go_simp
      have d5 := Blk.new X0 #[.slice none 0 0, .slice none 0 0] 25
      have l5 := T0.size
      have hAA := (Below.refl X0.heap.size X0).alloc (Nat.le_refl _) (.cells #[.slice none 0 0, .slice none 0 0] 25)
      replace T0 := T0.trans (hAA.mono T0.size)
      have z5 : X0.heap.size < (X0.alloc (.cells #[.slice none 0 0, .slice none 0 0] 25)).heap.size := by simp
      obtain ⟨b5, hb5⟩ : ∃ b, X0.heap.size = b := ⟨_, rfl⟩
      obtain ⟨Y5, hVY5⟩ : ∃ X, X0.alloc (.cells #[.slice none 0 0, .slice none 0 0] 25) = X := ⟨_, rfl⟩
      rw [hVY5] at T0 z5 d5 
      rw [hb5] at d5 l5 z5
      try rw [hVY5, hb5]
      try rw [hVY5]
      clear hAA hVY5 hb5
      refine ⟨fun _ => T0, ?_⟩
      try simp only [Act.put, List.getElem_toArray, List.getElem_cons_zero, List.getElem_cons_succ, List.setIfInBounds_toArray, List.set_cons_zero, List.set_cons_succ]
      refine wpAnyG_all (rs := [1, 4]) (by kernel_rfl) (by simp) ?_
      intro i hi
      simp only [List.mem_cons, List.not_mem_nil, or_false] at hi
      rcases hi with rfl | rfl
      · skip
        refine wpOp_now rfl rfl ?_
        go_simp
        refine (copy_any s ol os cl cs hfl hfs hn hm _ (HR.out.1.1.below encR_len (by decide) (HB.out.trans (T0.mono HB.out.size))) (HR.out.1.2.below encI_len (by decide) (HB.out.trans (T0.mono HB.out.size)))).mono ?_
        rintro e Y1 ⟨vl, vs, rfl, hO1, hO2, hB⟩
        obtain ⟨olx, osx, clx, csx, rfl, rfl, hx⟩ := OwS.of (t := s) hO1 hO2
        have hpx := T0.size
        have hqx := hB.size
        obtain ⟨px, hpex⟩ : ∃ k, Y5.heap.size = k := ⟨_, rfl⟩
        obtain ⟨qx, hqex⟩ : ∃ k, Y1.heap.size = k := ⟨_, rfl⟩
        rw [hpex, hqex] at hx
        rw [hpex] at hpx
        have hlex : qx ≤ Y1.heap.size := by omega
        rw [hpex, hqex] at hqx
        replace T0 := T0.trans (hB.mono T0.size)
        replace d5 := d5.below' hB
        clear hB hO1 hO2 hpex hqex
        refine ⟨fun _ => T0, ?_⟩
        try simp only [Act.put, List.getElem_toArray, List.getElem_cons_zero, List.getElem_cons_succ, List.setIfInBounds_toArray, List.set_cons_zero, List.set_cons_succ]
        refine wpAnyG_all (rs := [3, 4]) (by kernel_rfl) (by simp) ?_
        intro i hi
        simp only [List.mem_cons, List.not_mem_nil, or_false] at hi
        rcases hi with rfl | rfl
        · skip
          refine wpOp_now rfl rfl ?_
          go_simp
          refine (copy_any t ol' os' cl' cs' hfl' hfs' hn' hm' _ (HR.out.2.1.below encR_len (by decide) (HB.out.trans (T0.mono HB.out.size))) (HR.out.2.2.below encI_len (by decide) (HB.out.trans (T0.mono HB.out.size)))).mono ?_
          rintro e Y3 ⟨vl, vs, rfl, hO1, hO2, hB⟩
          obtain ⟨oly, osy, cly, csy, rfl, rfl, hy⟩ := OwS.of (t := t) hO1 hO2
          have hpy := T0.size
          have hqy := hB.size
          obtain ⟨py, hpey⟩ : ∃ k, Y1.heap.size = k := ⟨_, rfl⟩
          obtain ⟨qy, hqey⟩ : ∃ k, Y3.heap.size = k := ⟨_, rfl⟩
          have hqp : qx ≤ py := by omega
          rw [hpey, hqey] at hy
          rw [hpey] at hpy
          have hley : qy ≤ Y3.heap.size := by omega
          rw [hpey, hqey] at hqy
          replace T0 := T0.trans (hB.mono T0.size)
          replace hx := hx.below hB
          replace d5 := d5.below' hB
          clear hB hO1 hO2 hpey hqey
          refine ⟨fun _ => T0, ?_⟩
          try simp only [Act.put, List.getElem_toArray, List.getElem_cons_zero, List.getElem_cons_succ, List.setIfInBounds_toArray, List.set_cons_zero, List.set_cons_succ]
          refine wpAnyG_all (rs := [4]) (by kernel_rfl) (by simp) ?_
          intro i hi
          simp only [List.mem_cons, List.not_mem_nil, or_false] at hi
          subst hi
          refine wpOp_now rfl rfl ?_
          go_simp
          have d4 := Blk.new Y3 #[.slice none 0 0, .slice none 0 0] 25
          have l4 := T0.size
          have lt4 : b5 < Y3.heap.size := d5.lt
          have hAA := (Below.refl Y3.heap.size Y3).alloc (Nat.le_refl _) (.cells #[.slice none 0 0, .slice none 0 0] 25)
          replace T0 := T0.trans (hAA.mono T0.size)
          replace hx := hx.below hAA
          replace hy := hy.below hAA
          replace d5 := d5.below' hAA
          have z4 : Y3.heap.size < (Y3.alloc (.cells #[.slice none 0 0, .slice none 0 0] 25)).heap.size := by simp
          replace hley : qy ≤ (Y3.alloc (.cells #[.slice none 0 0, .slice none 0 0] 25)).heap.size := by simp; omega
          obtain ⟨b4, hb4⟩ : ∃ b, Y3.heap.size = b := ⟨_, rfl⟩
          obtain ⟨Y4, hVY4⟩ : ∃ X, Y3.alloc (.cells #[.slice none 0 0, .slice none 0 0] 25) = X := ⟨_, rfl⟩
          rw [hVY4] at T0 z4 d4 hx hy d5 hley
          rw [hb4] at d4 l4 z4 lt4
          try rw [hVY4, hb4]
          try rw [hVY4]
          clear hAA hVY4 hb4
          refine ⟨fun _ => T0, ?_⟩
          try simp only [Act.put, List.getElem_toArray, List.getElem_cons_zero, List.getElem_cons_succ, List.setIfInBounds_toArray, List.set_cons_zero, List.set_cons_succ]
          have ne45 : b4 ≠ b5 := by omega
          have u0 := d4.cell 0
          have u1 := d4.cell 1
          have u2 := d4.frozen 0
          have u3 := d4.frozen 1
          have v0 := d5.cell 0
          have v1 := d5.cell 1
          have v2 := d5.frozen 0
          have v3 := d5.frozen 1
          simp only [List.getElem?_toArray, List.getElem?_cons_succ, List.getElem?_cons_zero] at u0 u1 v0 v1
          have T1 := (T0.setCell (p := ⟨b4, 0, none⟩) l4 (.slice olx s.L.length clx)).setCell (p := ⟨b4, 1, none⟩) l4 (.slice osx s.S.length csx)
          have e4 := (d4.set 0 (.slice olx s.L.length clx)).set 1 (.slice osx s.S.length csx)
          have e5 := (d5.other ne45.symm 0 (.slice olx s.L.length clx)).other ne45.symm 1 (.slice osx s.S.length csx)
          have ex := (hx.blk d4 0 (.slice olx s.L.length clx)).blk (d4.set 0 _) 1 (.slice osx s.S.length csx)
          have ey := (hy.blk d4 0 (.slice olx s.L.length clx)).blk (d4.set 0 _) 1 (.slice osx s.S.length csx)
          simp only [List.setIfInBounds_toArray, List.set_cons_zero, List.set_cons_succ] at e4
          have hz1 : qy ≤ ((Y4.setCell ⟨b4, 0, none⟩ (.slice olx s.L.length clx)).setCell ⟨b4, 1, none⟩ (.slice osx s.S.length csx)).heap.size := by simp; omega
          obtain ⟨Z1, hZ1⟩ : ∃ X, (Y4.setCell ⟨b4, 0, none⟩ (.slice olx s.L.length clx)).setCell ⟨b4, 1, none⟩ (.slice osx s.S.length csx) = X := ⟨_, rfl⟩
          rw [hZ1] at T1 e4 e5 ex ey hz1
          refine wpAnyG_all (rs := [6]) (by kernel_rfl) (by simp) ?_
          intro i hi
          simp only [List.mem_cons, List.not_mem_nil, or_false] at hi
          subst hi
          refine wpOp_now rfl rfl ?_
          go_simp
          try rw [hZ1]
          clear hZ1 u0 u1 u2 u3 v0 v1 v2 v3
          refine ⟨fun _ => T1, ?_⟩
          try simp only [Act.put, List.getElem_toArray, List.getElem_cons_zero, List.getElem_cons_succ, List.setIfInBounds_toArray, List.set_cons_zero, List.set_cons_succ]
          have v0 := e5.cell 0
          have v1 := e5.cell 1
          have v2 := e5.frozen 0
          have v3 := e5.frozen 1
          simp only [List.getElem?_toArray, List.getElem?_cons_succ, List.getElem?_cons_zero] at v0 v1
          have T2 := (T1.setCell (p := ⟨b5, 0, none⟩) l5 (.slice oly t.L.length cly)).setCell (p := ⟨b5, 1, none⟩) l5 (.slice osy t.S.length csy)
          have f5 := (e5.set 0 (.slice oly t.L.length cly)).set 1 (.slice osy t.S.length csy)
          have f4 := (e4.other ne45 0 (.slice oly t.L.length cly)).other ne45 1 (.slice osy t.S.length csy)
          have fx := (ex.blk e5 0 (.slice oly t.L.length cly)).blk (e5.set 0 _) 1 (.slice osy t.S.length csy)
          have fy := (ey.blk e5 0 (.slice oly t.L.length cly)).blk (e5.set 0 _) 1 (.slice osy t.S.length csy)
          simp only [List.setIfInBounds_toArray, List.set_cons_zero, List.set_cons_succ] at f5
          have hz2 : qy ≤ ((Z1.setCell ⟨b5, 0, none⟩ (.slice oly t.L.length cly)).setCell ⟨b5, 1, none⟩ (.slice osy t.S.length csy)).heap.size := by simp; omega
          obtain ⟨Z2, hZ2⟩ : ∃ X, (Z1.setCell ⟨b5, 0, none⟩ (.slice oly t.L.length cly)).setCell ⟨b5, 1, none⟩ (.slice osy t.S.length csy) = X := ⟨_, rfl⟩
          rw [hZ2] at T2 f5 f4 fx fy hz2
          refine wpAnyG_all (rs := [7]) (by kernel_rfl) (by simp) ?_
          intro i hi
          simp only [List.mem_cons, List.not_mem_nil, or_false] at hi
          subst hi
          refine wpOp_now rfl rfl ?_
          go_simp
          try rw [hZ2]
          clear hZ2 v0 v1 v2 v3
          refine ⟨fun _ => T2, ?_⟩
          try simp only [Act.put, List.getElem_toArray, List.getElem_cons_zero, List.getElem_cons_succ, List.setIfInBounds_toArray, List.set_cons_zero, List.set_cons_succ]
          refine wpAnyG_done (by kernel_rfl) ?_ _
          refine NoPanic.normal ?_
          exact ⟨rfl, ((olx, osx, clx, csx, b4), (oly, osy, cly, csy, b5)), by kernel_rfl, ⟨px, qx, py, qy, ⟨by omega, hqx, hqp, hqy, hz2⟩, fx, fy⟩, f4, f5, T2⟩
        · skip
          refine wpOp_now rfl rfl ?_
          go_simp
          have d4 := Blk.new Y1 #[.slice none 0 0, .slice none 0 0] 25
          have l4 := T0.size
          have lt4 : b5 < Y1.heap.size := d5.lt
          have hAA := (Below.refl Y1.heap.size Y1).alloc (Nat.le_refl _) (.cells #[.slice none 0 0, .slice none 0 0] 25)
          replace T0 := T0.trans (hAA.mono T0.size)
          replace hx := hx.below hAA
          replace d5 := d5.below' hAA
          have z4 : Y1.heap.size < (Y1.alloc (.cells #[.slice none 0 0, .slice none 0 0] 25)).heap.size := by simp
          replace hlex : qx ≤ (Y1.alloc (.cells #[.slice none 0 0, .slice none 0 0] 25)).heap.size := by simp; omega
          obtain ⟨b4, hb4⟩ : ∃ b, Y1.heap.size = b := ⟨_, rfl⟩
          obtain ⟨Y4, hVY4⟩ : ∃ X, Y1.alloc (.cells #[.slice none 0 0, .slice none 0 0] 25) = X := ⟨_, rfl⟩
          rw [hVY4] at T0 z4 d4 hx d5 hlex
          rw [hb4] at d4 l4 z4 lt4
          try rw [hVY4, hb4]
          try rw [hVY4]
          clear hAA hVY4 hb4
          refine ⟨fun _ => T0, ?_⟩
          try simp only [Act.put, List.getElem_toArray, List.getElem_cons_zero, List.getElem_cons_succ, List.setIfInBounds_toArray, List.set_cons_zero, List.set_cons_succ]
          refine wpAnyG_all (rs := [3]) (by kernel_rfl) (by simp) ?_
          intro i hi
          simp only [List.mem_cons, List.not_mem_nil, or_false] at hi
          subst hi
          refine wpOp_now rfl rfl ?_
          go_simp
          refine (copy_any t ol' os' cl' cs' hfl' hfs' hn' hm' _ (HR.out.2.1.below encR_len (by decide) (HB.out.trans (T0.mono HB.out.size))) (HR.out.2.2.below encI_len (by decide) (HB.out.trans (T0.mono HB.out.size)))).mono ?_
          rintro e Y3 ⟨vl, vs, rfl, hO1, hO2, hB⟩
          obtain ⟨oly, osy, cly, csy, rfl, rfl, hy⟩ := OwS.of (t := t) hO1 hO2
          have hpy := T0.size
          have hqy := hB.size
          obtain ⟨py, hpey⟩ : ∃ k, Y4.heap.size = k := ⟨_, rfl⟩
          obtain ⟨qy, hqey⟩ : ∃ k, Y3.heap.size = k := ⟨_, rfl⟩
          have hqp : qx ≤ py := by omega
          rw [hpey, hqey] at hy
          rw [hpey] at hpy
          have hley : qy ≤ Y3.heap.size := by omega
          rw [hpey, hqey] at hqy
          replace T0 := T0.trans (hB.mono T0.size)
          replace hx := hx.below hB
          replace d4 := d4.below' hB
          replace d5 := d5.below' hB
          clear hB hO1 hO2 hpey hqey
          refine ⟨fun _ => T0, ?_⟩
          try simp only [Act.put, List.getElem_toArray, List.getElem_cons_zero, List.getElem_cons_succ, List.setIfInBounds_toArray, List.set_cons_zero, List.set_cons_succ]
          have ne45 : b4 ≠ b5 := by omega
          have u0 := d4.cell 0
          have u1 := d4.cell 1
          have u2 := d4.frozen 0
          have u3 := d4.frozen 1
          have v0 := d5.cell 0
          have v1 := d5.cell 1
          have v2 := d5.frozen 0
          have v3 := d5.frozen 1
          simp only [List.getElem?_toArray, List.getElem?_cons_succ, List.getElem?_cons_zero] at u0 u1 v0 v1
          have T1 := (T0.setCell (p := ⟨b4, 0, none⟩) l4 (.slice olx s.L.length clx)).setCell (p := ⟨b4, 1, none⟩) l4 (.slice osx s.S.length csx)
          have e4 := (d4.set 0 (.slice olx s.L.length clx)).set 1 (.slice osx s.S.length csx)
          have e5 := (d5.other ne45.symm 0 (.slice olx s.L.length clx)).other ne45.symm 1 (.slice osx s.S.length csx)
          have ex := (hx.blk d4 0 (.slice olx s.L.length clx)).blk (d4.set 0 _) 1 (.slice osx s.S.length csx)
          have ey := (hy.blk d4 0 (.slice olx s.L.length clx)).blk (d4.set 0 _) 1 (.slice osx s.S.length csx)
          simp only [List.setIfInBounds_toArray, List.set_cons_zero, List.set_cons_succ] at e4
          have hz1 : qy ≤ ((Y3.setCell ⟨b4, 0, none⟩ (.slice olx s.L.length clx)).setCell ⟨b4, 1, none⟩ (.slice osx s.S.length csx)).heap.size := by simp; omega
          obtain ⟨Z1, hZ1⟩ : ∃ X, (Y3.setCell ⟨b4, 0, none⟩ (.slice olx s.L.length clx)).setCell ⟨b4, 1, none⟩ (.slice osx s.S.length csx) = X := ⟨_, rfl⟩
          rw [hZ1] at T1 e4 e5 ex ey hz1
          refine wpAnyG_all (rs := [6]) (by kernel_rfl) (by simp) ?_
          intro i hi
          simp only [List.mem_cons, List.not_mem_nil, or_false] at hi
          subst hi
          refine wpOp_now rfl rfl ?_
          go_simp
          try rw [hZ1]
          clear hZ1 u0 u1 u2 u3 v0 v1 v2 v3
          refine ⟨fun _ => T1, ?_⟩
          try simp only [Act.put, List.getElem_toArray, List.getElem_cons_zero, List.getElem_cons_succ, List.setIfInBounds_toArray, List.set_cons_zero, List.set_cons_succ]
          have v0 := e5.cell 0
          have v1 := e5.cell 1
          have v2 := e5.frozen 0
          have v3 := e5.frozen 1
          simp only [List.getElem?_toArray, List.getElem?_cons_succ, List.getElem?_cons_zero] at v0 v1
          have T2 := (T1.setCell (p := ⟨b5, 0, none⟩) l5 (.slice oly t.L.length cly)).setCell (p := ⟨b5, 1, none⟩) l5 (.slice osy t.S.length csy)
          have f5 := (e5.set 0 (.slice oly t.L.length cly)).set 1 (.slice osy t.S.length csy)
          have f4 := (e4.other ne45 0 (.slice oly t.L.length cly)).other ne45 1 (.slice osy t.S.length csy)
          have fx := (ex.blk e5 0 (.slice oly t.L.length cly)).blk (e5.set 0 _) 1 (.slice osy t.S.length csy)
          have fy := (ey.blk e5 0 (.slice oly t.L.length cly)).blk (e5.set 0 _) 1 (.slice osy t.S.length csy)
          simp only [List.setIfInBounds_toArray, List.set_cons_zero, List.set_cons_succ] at f5
          have hz2 : qy ≤ ((Z1.setCell ⟨b5, 0, none⟩ (.slice oly t.L.length cly)).setCell ⟨b5, 1, none⟩ (.slice osy t.S.length csy)).heap.size := by simp; omega
          obtain ⟨Z2, hZ2⟩ : ∃ X, (Z1.setCell ⟨b5, 0, none⟩ (.slice oly t.L.length cly)).setCell ⟨b5, 1, none⟩ (.slice osy t.S.length csy) = X := ⟨_, rfl⟩
          rw [hZ2] at T2 f5 f4 fx fy hz2
          refine wpAnyG_all (rs := [7]) (by kernel_rfl) (by simp) ?_
          intro i hi
          simp only [List.mem_cons, List.not_mem_nil, or_false] at hi
          subst hi
          refine wpOp_now rfl rfl ?_
          go_simp
          try rw [hZ2]
          clear hZ2 v0 v1 v2 v3
          refine ⟨fun _ => T2, ?_⟩
          try simp only [Act.put, List.getElem_toArray, List.getElem_cons_zero, List.getElem_cons_succ, List.setIfInBounds_toArray, List.set_cons_zero, List.set_cons_succ]
          refine wpAnyG_done (by kernel_rfl) ?_ _
          refine NoPanic.normal ?_
          exact ⟨rfl, ((olx, osx, clx, csx, b4), (oly, osy, cly, csy, b5)), by kernel_rfl, ⟨px, qx, py, qy, ⟨by omega, hqx, hqp, hqy, hz2⟩, fx, fy⟩, f4, f5, T2⟩
      · skip
        refine wpOp_now rfl rfl ?_
        go_simp
        have d4 := Blk.new Y5 #[.slice none 0 0, .slice none 0 0] 25
        have l4 := T0.size
        have lt4 : b5 < Y5.heap.size := d5.lt
        have hAA := (Below.refl Y5.heap.size Y5).alloc (Nat.le_refl _) (.cells #[.slice none 0 0, .slice none 0 0] 25)
        replace T0 := T0.trans (hAA.mono T0.size)
        replace d5 := d5.below' hAA
        have z4 : Y5.heap.size < (Y5.alloc (.cells #[.slice none 0 0, .slice none 0 0] 25)).heap.size := by simp
        obtain ⟨b4, hb4⟩ : ∃ b, Y5.heap.size = b := ⟨_, rfl⟩
        obtain ⟨Y4, hVY4⟩ : ∃ X, Y5.alloc (.cells #[.slice none 0 0, .slice none 0 0] 25) = X := ⟨_, rfl⟩
        rw [hVY4] at T0 z4 d4 d5
        rw [hb4] at d4 l4 z4 lt4
        try rw [hVY4, hb4]
        try rw [hVY4]
        clear hAA hVY4 hb4
        refine ⟨fun _ => T0, ?_⟩
        try simp only [Act.put, List.getElem_toArray, List.getElem_cons_zero, List.getElem_cons_succ, List.setIfInBounds_toArray, List.set_cons_zero, List.set_cons_succ]
        refine wpAnyG_all (rs := [1]) (by kernel_rfl) (by simp) ?_
        intro i hi
        simp only [List.mem_cons, List.not_mem_nil, or_false] at hi
        subst hi
        refine wpOp_now rfl rfl ?_
        go_simp
        refine (copy_any s ol os cl cs hfl hfs hn hm _ (HR.out.1.1.below encR_len (by decide) (HB.out.trans (T0.mono HB.out.size))) (HR.out.1.2.below encI_len (by decide) (HB.out.trans (T0.mono HB.out.size)))).mono ?_
        rintro e Y1 ⟨vl, vs, rfl, hO1, hO2, hB⟩
        obtain ⟨olx, osx, clx, csx, rfl, rfl, hx⟩ := OwS.of (t := s) hO1 hO2
        have hpx := T0.size
        have hqx := hB.size
        obtain ⟨px, hpex⟩ : ∃ k, Y4.heap.size = k := ⟨_, rfl⟩
        obtain ⟨qx, hqex⟩ : ∃ k, Y1.heap.size = k := ⟨_, rfl⟩
        rw [hpex, hqex] at hx
        rw [hpex] at hpx
        have hlex : qx ≤ Y1.heap.size := by omega
        rw [hpex, hqex] at hqx
        replace T0 := T0.trans (hB.mono T0.size)
        replace d4 := d4.below' hB
        replace d5 := d5.below' hB
        clear hB hO1 hO2 hpex hqex
        refine ⟨fun _ => T0, ?_⟩
        try simp only [Act.put, List.getElem_toArray, List.getElem_cons_zero, List.getElem_cons_succ, List.setIfInBounds_toArray, List.set_cons_zero, List.set_cons_succ]
        refine wpAnyG_all (rs := [3]) (by kernel_rfl) (by simp) ?_
        intro i hi
        simp only [List.mem_cons, List.not_mem_nil, or_false] at hi
        subst hi
        refine wpOp_now rfl rfl ?_
        go_simp
        refine (copy_any t ol' os' cl' cs' hfl' hfs' hn' hm' _ (HR.out.2.1.below encR_len (by decide) (HB.out.trans (T0.mono HB.out.size))) (HR.out.2.2.below encI_len (by decide) (HB.out.trans (T0.mono HB.out.size)))).mono ?_
        rintro e Y3 ⟨vl, vs, rfl, hO1, hO2, hB⟩
        obtain ⟨oly, osy, cly, csy, rfl, rfl, hy⟩ := OwS.of (t := t) hO1 hO2
        have hpy := T0.size
        have hqy := hB.size
        obtain ⟨py, hpey⟩ : ∃ k, Y1.heap.size = k := ⟨_, rfl⟩
        obtain ⟨qy, hqey⟩ : ∃ k, Y3.heap.size = k := ⟨_, rfl⟩
        have hqp : qx ≤ py := by omega
        rw [hpey, hqey] at hy
        rw [hpey] at hpy
        have hley : qy ≤ Y3.heap.size := by omega
        rw [hpey, hqey] at hqy
        replace T0 := T0.trans (hB.mono T0.size)
        replace hx := hx.below hB
        replace d4 := d4.below' hB
        replace d5 := d5.below' hB
        clear hB hO1 hO2 hpey hqey
        refine ⟨fun _ => T0, ?_⟩
        try simp only [Act.put, List.getElem_toArray, List.getElem_cons_zero, List.getElem_cons_succ, List.setIfInBounds_toArray, List.set_cons_zero, List.set_cons_succ]
        have ne45 : b4 ≠ b5 := by omega
        have u0 := d4.cell 0
        have u1 := d4.cell 1
        have u2 := d4.frozen 0
        have u3 := d4.frozen 1
        have v0 := d5.cell 0
        have v1 := d5.cell 1
        have v2 := d5.frozen 0
        have v3 := d5.frozen 1
        simp only [List.getElem?_toArray, List.getElem?_cons_succ, List.getElem?_cons_zero] at u0 u1 v0 v1
        have T1 := (T0.setCell (p := ⟨b4, 0, none⟩) l4 (.slice olx s.L.length clx)).setCell (p := ⟨b4, 1, none⟩) l4 (.slice osx s.S.length csx)
        have e4 := (d4.set 0 (.slice olx s.L.length clx)).set 1 (.slice osx s.S.length csx)
        have e5 := (d5.other ne45.symm 0 (.slice olx s.L.length clx)).other ne45.symm 1 (.slice osx s.S.length csx)
        have ex := (hx.blk d4 0 (.slice olx s.L.length clx)).blk (d4.set 0 _) 1 (.slice osx s.S.length csx)
        have ey := (hy.blk d4 0 (.slice olx s.L.length clx)).blk (d4.set 0 _) 1 (.slice osx s.S.length csx)
        simp only [List.setIfInBounds_toArray, List.set_cons_zero, List.set_cons_succ] at e4
        have hz1 : qy ≤ ((Y3.setCell ⟨b4, 0, none⟩ (.slice olx s.L.length clx)).setCell ⟨b4, 1, none⟩ (.slice osx s.S.length csx)).heap.size := by simp; omega
        obtain ⟨Z1, hZ1⟩ : ∃ X, (Y3.setCell ⟨b4, 0, none⟩ (.slice olx s.L.length clx)).setCell ⟨b4, 1, none⟩ (.slice osx s.S.length csx) = X := ⟨_, rfl⟩
        rw [hZ1] at T1 e4 e5 ex ey hz1
        refine wpAnyG_all (rs := [6]) (by kernel_rfl) (by simp) ?_
        intro i hi
        simp only [List.mem_cons, List.not_mem_nil, or_false] at hi
        subst hi
        refine wpOp_now rfl rfl ?_
        go_simp
        try rw [hZ1]
        clear hZ1 u0 u1 u2 u3 v0 v1 v2 v3
        refine ⟨fun _ => T1, ?_⟩
        try simp only [Act.put, List.getElem_toArray, List.getElem_cons_zero, List.getElem_cons_succ, List.setIfInBounds_toArray, List.set_cons_zero, List.set_cons_succ]
        have v0 := e5.cell 0
        have v1 := e5.cell 1
        have v2 := e5.frozen 0
        have v3 := e5.frozen 1
        simp only [List.getElem?_toArray, List.getElem?_cons_succ, List.getElem?_cons_zero] at v0 v1
        have T2 := (T1.setCell (p := ⟨b5, 0, none⟩) l5 (.slice oly t.L.length cly)).setCell (p := ⟨b5, 1, none⟩) l5 (.slice osy t.S.length csy)
        have f5 := (e5.set 0 (.slice oly t.L.length cly)).set 1 (.slice osy t.S.length csy)
        have f4 := (e4.other ne45 0 (.slice oly t.L.length cly)).other ne45 1 (.slice osy t.S.length csy)
        have fx := (ex.blk e5 0 (.slice oly t.L.length cly)).blk (e5.set 0 _) 1 (.slice osy t.S.length csy)
        have fy := (ey.blk e5 0 (.slice oly t.L.length cly)).blk (e5.set 0 _) 1 (.slice osy t.S.length csy)
        simp only [List.setIfInBounds_toArray, List.set_cons_zero, List.set_cons_succ] at f5
        have hz2 : qy ≤ ((Z1.setCell ⟨b5, 0, none⟩ (.slice oly t.L.length cly)).setCell ⟨b5, 1, none⟩ (.slice osy t.S.length csy)).heap.size := by simp; omega
        obtain ⟨Z2, hZ2⟩ : ∃ X, (Z1.setCell ⟨b5, 0, none⟩ (.slice oly t.L.length cly)).setCell ⟨b5, 1, none⟩ (.slice osy t.S.length csy) = X := ⟨_, rfl⟩
        rw [hZ2] at T2 f5 f4 fx fy hz2
        refine wpAnyG_all (rs := [7]) (by kernel_rfl) (by simp) ?_
        intro i hi
        simp only [List.mem_cons, List.not_mem_nil, or_false] at hi
        subst hi
        refine wpOp_now rfl rfl ?_
        go_simp
        try rw [hZ2]
        clear hZ2 v0 v1 v2 v3
        refine ⟨fun _ => T2, ?_⟩
        try simp only [Act.put, List.getElem_toArray, List.getElem_cons_zero, List.getElem_cons_succ, List.setIfInBounds_toArray, List.set_cons_zero, List.set_cons_succ]
        refine wpAnyG_done (by kernel_rfl) ?_ _
        refine NoPanic.normal ?_
        exact ⟨rfl, ((olx, osx, clx, csx, b4), (oly, osy, cly, csy, b5)), by kernel_rfl, ⟨px, qx, py, qy, ⟨by omega, hqx, hqp, hqy, hz2⟩, fx, fy⟩, f4, f5, T2⟩
  · rintro ⟨⟨olx, osx, clx, csx, b4⟩, ⟨oly, osy, cly, csy, b5⟩⟩ X ⟨⟨k0, k1, k2, k3, ⟨hk0, hk01, hk12, hk23, hk3⟩, hx, hy⟩, hb4, hb5, hBX⟩
    simp only at hx hy hb4 hb5 hBX
    simp only [putsG, List.foldl_cons, List.foldl_nil, List.setIfInBounds_toArray, List.set_cons_zero, List.set_cons_succ]
    have HK := Lib.hid hk3
    have HX := Lib.hid hx
    have HY := Lib.hid hy
    have H4 := Lib.hid hb4
    have H5 := Lib.hid hb5
    replace HA := Lib.hid (HA.out.below' hBX)
    replace HBb := Lib.hid (HBb.out.below' hBX)
    replace HB := Lib.hid (HB.out.trans (hBX.mono HB.out.size))
    clear hx hy hb4 hb5 hBX hk3
    clear HA0 HA1 HBb0 HBb1
    have HA0 : X.cell? ⟨w.heap.size, 0, none⟩ = some (.slice ol s.L.length cl) := HA.out.cell 0
    have HA1 : X.cell? ⟨w.heap.size, 1, none⟩ = some (.slice os s.S.length cs) := HA.out.cell 1
    have HBb0 : X.cell? ⟨w.heap.size + 1, 0, none⟩ = some (.slice ol' t.L.length cl') := HBb.out.cell 0
    have HBb1 : X.cell? ⟨w.heap.size + 1, 1, none⟩ = some (.slice os' t.S.length cs') := HBb.out.cell 1
    have H40 : X.cell? ⟨b4, 0, none⟩ = some (.slice olx s.L.length clx) := H4.out.cell 0
    have H41 : X.cell? ⟨b4, 1, none⟩ = some (.slice osx s.S.length csx) := H4.out.cell 1
    have H50 : X.cell? ⟨b5, 0, none⟩ = some (.slice oly t.L.length cly) := H5.out.cell 0
    have H51 : X.cell? ⟨b5, 1, none⟩ = some (.slice osy t.S.length csy) := H5.out.cell 1
    rename_i hK
    refine hK _ _ ?_
    go_wp2_with (fail)
    refine (within_no s t olx osx oly osy clx csx cly csy (by omega) (by omega) (by omega) (by omega) hno _ HX.out.rowL HX.out.rowS HY.out.rowL HY.out.rowS).mono ?_
    rintro e v1 ⟨rfl, hB⟩
    replace HA := Lib.hid (HA.out.below' hB)
    replace HBb := Lib.hid (HBb.out.below' hB)
    replace HB := Lib.hid (HB.out.trans (hB.mono HB.out.size))
    replace HK := Lib.hid (Nat.le_trans HK.out hB.size)
    replace HX := Lib.hid (HX.out.below hB)
    replace HY := Lib.hid (HY.out.below hB)
    replace H4 := Lib.hid (H4.out.below' hB)
    replace H5 := Lib.hid (H5.out.below' hB)
    clear hB
    clear HA0 HA1 HBb0 HBb1 H40 H41 H50 H51
    have HA0 : v1.cell? ⟨w.heap.size, 0, none⟩ = some (.slice ol s.L.length cl) := HA.out.cell 0
    have HA1 : v1.cell? ⟨w.heap.size, 1, none⟩ = some (.slice os s.S.length cs) := HA.out.cell 1
    have HBb0 : v1.cell? ⟨w.heap.size + 1, 0, none⟩ = some (.slice ol' t.L.length cl') := HBb.out.cell 0
    have HBb1 : v1.cell? ⟨w.heap.size + 1, 1, none⟩ = some (.slice os' t.S.length cs') := HBb.out.cell 1
    have H40 : v1.cell? ⟨b4, 0, none⟩ = some (.slice olx s.L.length clx) := H4.out.cell 0
    have H41 : v1.cell? ⟨b4, 1, none⟩ = some (.slice osx s.S.length csx) := H4.out.cell 1
    have H50 : v1.cell? ⟨b5, 0, none⟩ = some (.slice oly t.L.length cly) := H5.out.cell 0
    have H51 : v1.cell? ⟨b5, 1, none⟩ = some (.slice osy t.S.length csy) := H5.out.cell 1
    go_wp2_with (fail)
    refine (meet_no2 s t olx osx oly osy clx csx cly csy (by omega) (by omega) (by omega) (by omega) _ HX.out.rowL HX.out.rowS HY.out.rowL HY.out.rowS hno).mono ?_
    rintro e v2 ⟨rfl, hB⟩
    replace HA := Lib.hid (HA.out.below' hB)
    replace HBb := Lib.hid (HBb.out.below' hB)
    replace HB := Lib.hid (HB.out.trans (hB.mono HB.out.size))
    replace HK := Lib.hid (Nat.le_trans HK.out hB.size)
    replace HX := Lib.hid (HX.out.below hB)
    replace HY := Lib.hid (HY.out.below hB)
    replace H4 := Lib.hid (H4.out.below' hB)
    replace H5 := Lib.hid (H5.out.below' hB)
    clear HA0 HA1 HBb0 HBb1 H40 H41 H50 H51
    have HA0 : v2.cell? ⟨w.heap.size, 0, none⟩ = some (.slice ol s.L.length cl) := HA.out.cell 0
    have HA1 : v2.cell? ⟨w.heap.size, 1, none⟩ = some (.slice os s.S.length cs) := HA.out.cell 1
    have HBb0 : v2.cell? ⟨w.heap.size + 1, 0, none⟩ = some (.slice ol' t.L.length cl') := HBb.out.cell 0
    have HBb1 : v2.cell? ⟨w.heap.size + 1, 1, none⟩ = some (.slice os' t.S.length cs') := HBb.out.cell 1
    have H40 : v2.cell? ⟨b4, 0, none⟩ = some (.slice olx s.L.length clx) := H4.out.cell 0
    have H41 : v2.cell? ⟨b4, 1, none⟩ = some (.slice osx s.S.length csx) := H4.out.cell 1
    have H50 : v2.cell? ⟨b5, 0, none⟩ = some (.slice oly t.L.length cly) := H5.out.cell 0
    have H51 : v2.cell? ⟨b5, 1, none⟩ = some (.slice osy t.S.length csy) := H5.out.cell 1
    have ltHA : w.heap.size < v2.heap.size := HA.out.lt
    have ltHBb : w.heap.size + 1 < v2.heap.size := HBb.out.lt
    have ltH4 : b4 < v2.heap.size := H4.out.lt
    have ltH5 : b5 < v2.heap.size := H5.out.lt
    have hA := (Below.refl v2.heap.size v2).alloc (Nat.le_refl _) (.cells #[.slice none 0 0, .slice none 0 0] 25)
    have hbm := Blk.new v2 #[.slice none 0 0, .slice none 0 0] 25
    replace HA := Lib.hid (HA.out.below' hA)
    replace HBb := Lib.hid (HBb.out.below' hA)
    replace HB := Lib.hid (HB.out.trans (hA.mono HB.out.size))
    replace HK := Lib.hid (Nat.le_trans HK.out hA.size)
    replace HX := Lib.hid (HX.out.below hA)
    replace HY := Lib.hid (HY.out.below hA)
    replace H4 := Lib.hid (H4.out.below' hA)
    replace H5 := Lib.hid (H5.out.below' hA)
    obtain ⟨cm, hc⟩ : ∃ k, v2.heap.size = k := ⟨_, rfl⟩
    obtain ⟨Vm, hV⟩ : ∃ V, v2.alloc (.cells #[.slice none 0 0, .slice none 0 0] 25) = V := ⟨_, rfl⟩
    rw [hV] at HA HBb HB HK HX HY H4 H5
    rw [hV, hc] at hbm
    have Hm := Lib.hid hbm
    have HV := Lib.hid (And.intro hV hc)
    clear hA hbm hB hV hc
    go_wp2_with (fail)
    rw [HV.out.1]
    try rw [HV.out.2]
    clear HV
    refine (join_no2 s t olx osx oly osy clx csx cly csy (by omega) (by omega) (by omega) (by omega) _ HX.out.rowL HX.out.rowS HY.out.rowL HY.out.rowS hno).mono ?_
    rintro e v3 ⟨rfl, hB⟩
    replace HA := Lib.hid (HA.out.below' hB)
    replace HBb := Lib.hid (HBb.out.below' hB)
    replace HB := Lib.hid (HB.out.trans (hB.mono HB.out.size))
    replace HK := Lib.hid (Nat.le_trans HK.out hB.size)
    replace HX := Lib.hid (HX.out.below hB)
    replace HY := Lib.hid (HY.out.below hB)
    replace H4 := Lib.hid (H4.out.below' hB)
    replace H5 := Lib.hid (H5.out.below' hB)
    replace Hm := Lib.hid (Hm.out.below' hB)
    clear HA0 HA1 HBb0 HBb1 H40 H41 H50 H51 ltHA ltHBb ltH4 ltH5
    have HA0 : v3.cell? ⟨w.heap.size, 0, none⟩ = some (.slice ol s.L.length cl) := HA.out.cell 0
    have HA1 : v3.cell? ⟨w.heap.size, 1, none⟩ = some (.slice os s.S.length cs) := HA.out.cell 1
    have HBb0 : v3.cell? ⟨w.heap.size + 1, 0, none⟩ = some (.slice ol' t.L.length cl') := HBb.out.cell 0
    have HBb1 : v3.cell? ⟨w.heap.size + 1, 1, none⟩ = some (.slice os' t.S.length cs') := HBb.out.cell 1
    have H40 : v3.cell? ⟨b4, 0, none⟩ = some (.slice olx s.L.length clx) := H4.out.cell 0
    have H41 : v3.cell? ⟨b4, 1, none⟩ = some (.slice osx s.S.length csx) := H4.out.cell 1
    have H50 : v3.cell? ⟨b5, 0, none⟩ = some (.slice oly t.L.length cly) := H5.out.cell 0
    have H51 : v3.cell? ⟨b5, 1, none⟩ = some (.slice osy t.S.length csy) := H5.out.cell 1
    have Hm0 : v3.cell? ⟨cm, 0, none⟩ = some (.slice none 0 0) := Hm.out.cell 0
    have Hm1 : v3.cell? ⟨cm, 1, none⟩ = some (.slice none 0 0) := Hm.out.cell 1
    have ltHA : w.heap.size < v3.heap.size := HA.out.lt
    have ltHBb : w.heap.size + 1 < v3.heap.size := HBb.out.lt
    have ltH4 : b4 < v3.heap.size := H4.out.lt
    have ltH5 : b5 < v3.heap.size := H5.out.lt
    have ltHm : cm < v3.heap.size := Hm.out.lt
    have hA := (Below.refl v3.heap.size v3).alloc (Nat.le_refl _) (.cells #[.slice none 0 0, .slice none 0 0] 25)
    have hbj := Blk.new v3 #[.slice none 0 0, .slice none 0 0] 25
    replace HA := Lib.hid (HA.out.below' hA)
    replace HBb := Lib.hid (HBb.out.below' hA)
    replace HB := Lib.hid (HB.out.trans (hA.mono HB.out.size))
    replace HK := Lib.hid (Nat.le_trans HK.out hA.size)
    replace HX := Lib.hid (HX.out.below hA)
    replace HY := Lib.hid (HY.out.below hA)
    replace H4 := Lib.hid (H4.out.below' hA)
    replace H5 := Lib.hid (H5.out.below' hA)
    replace Hm := Lib.hid (Hm.out.below' hA)
    obtain ⟨cj, hc⟩ : ∃ k, v3.heap.size = k := ⟨_, rfl⟩
    obtain ⟨Vj, hV⟩ : ∃ V, v3.alloc (.cells #[.slice none 0 0, .slice none 0 0] 25) = V := ⟨_, rfl⟩
    rw [hV] at HA HBb HB HK HX HY H4 H5 Hm
    rw [hV, hc] at hbj
    have Hj := Lib.hid hbj
    have HV := Lib.hid (And.intro hV hc)
    clear hA hbj hB hV hc
    go_wp2_with (fail)
    rw [HV.out.1]
    try rw [HV.out.2]
    clear HV
    refine (eqS_any s olx osx ol os clx csx cl cs (by omega) (by omega) _ HX.out.rowL HX.out.rowS (HR.out.1.1.below encR_len (by decide) HB.out) (HR.out.1.2.below encI_len (by decide) HB.out)).mono ?_
    rintro e v4 ⟨rfl, hB⟩
    replace HA := Lib.hid (HA.out.below' hB)
    replace HBb := Lib.hid (HBb.out.below' hB)
    replace HB := Lib.hid (HB.out.trans (hB.mono HB.out.size))
    replace HK := Lib.hid (Nat.le_trans HK.out hB.size)
    replace HX := Lib.hid (HX.out.below hB)
    replace HY := Lib.hid (HY.out.below hB)
    replace H4 := Lib.hid (H4.out.below' hB)
    replace H5 := Lib.hid (H5.out.below' hB)
    replace Hm := Lib.hid (Hm.out.below' hB)
    replace Hj := Lib.hid (Hj.out.below' hB)
    clear hB
    clear HA0 HA1 HBb0 HBb1 H40 H41 H50 H51 Hm0 Hm1 ltHA ltHBb ltH4 ltH5 ltHm
    have HA0 : v4.cell? ⟨w.heap.size, 0, none⟩ = some (.slice ol s.L.length cl) := HA.out.cell 0
    have HA1 : v4.cell? ⟨w.heap.size, 1, none⟩ = some (.slice os s.S.length cs) := HA.out.cell 1
    have HBb0 : v4.cell? ⟨w.heap.size + 1, 0, none⟩ = some (.slice ol' t.L.length cl') := HBb.out.cell 0
    have HBb1 : v4.cell? ⟨w.heap.size + 1, 1, none⟩ = some (.slice os' t.S.length cs') := HBb.out.cell 1
    have H40 : v4.cell? ⟨b4, 0, none⟩ = some (.slice olx s.L.length clx) := H4.out.cell 0
    have H41 : v4.cell? ⟨b4, 1, none⟩ = some (.slice osx s.S.length csx) := H4.out.cell 1
    have H50 : v4.cell? ⟨b5, 0, none⟩ = some (.slice oly t.L.length cly) := H5.out.cell 0
    have H51 : v4.cell? ⟨b5, 1, none⟩ = some (.slice osy t.S.length csy) := H5.out.cell 1
    have Hm0 : v4.cell? ⟨cm, 0, none⟩ = some (.slice none 0 0) := Hm.out.cell 0
    have Hm1 : v4.cell? ⟨cm, 1, none⟩ = some (.slice none 0 0) := Hm.out.cell 1
    have Hj0 : v4.cell? ⟨cj, 0, none⟩ = some (.slice none 0 0) := Hj.out.cell 0
    have Hj1 : v4.cell? ⟨cj, 1, none⟩ = some (.slice none 0 0) := Hj.out.cell 1
    go_wp2_with (fail)
    refine (eqS_any t oly osy ol' os' cly csy cl' cs' (by omega) (by omega) _ HY.out.rowL HY.out.rowS (HR.out.2.1.below encR_len (by decide) HB.out) (HR.out.2.2.below encI_len (by decide) HB.out)).mono ?_
    rintro e v5 ⟨rfl, hB⟩
    replace HA := Lib.hid (HA.out.below' hB)
    replace HBb := Lib.hid (HBb.out.below' hB)
    replace HB := Lib.hid (HB.out.trans (hB.mono HB.out.size))
    replace HK := Lib.hid (Nat.le_trans HK.out hB.size)
    replace HX := Lib.hid (HX.out.below hB)
    replace HY := Lib.hid (HY.out.below hB)
    replace H4 := Lib.hid (H4.out.below' hB)
    replace H5 := Lib.hid (H5.out.below' hB)
    replace Hm := Lib.hid (Hm.out.below' hB)
    replace Hj := Lib.hid (Hj.out.below' hB)
    clear hB
    clear HA0 HA1 HBb0 HBb1 H40 H41 H50 H51 Hm0 Hm1 Hj0 Hj1
    have HA0 : v5.cell? ⟨w.heap.size, 0, none⟩ = some (.slice ol s.L.length cl) := HA.out.cell 0
    have HA1 : v5.cell? ⟨w.heap.size, 1, none⟩ = some (.slice os s.S.length cs) := HA.out.cell 1
    have HBb0 : v5.cell? ⟨w.heap.size + 1, 0, none⟩ = some (.slice ol' t.L.length cl') := HBb.out.cell 0
    have HBb1 : v5.cell? ⟨w.heap.size + 1, 1, none⟩ = some (.slice os' t.S.length cs') := HBb.out.cell 1
    have H40 : v5.cell? ⟨b4, 0, none⟩ = some (.slice olx s.L.length clx) := H4.out.cell 0
    have H41 : v5.cell? ⟨b4, 1, none⟩ = some (.slice osx s.S.length csx) := H4.out.cell 1
    have H50 : v5.cell? ⟨b5, 0, none⟩ = some (.slice oly t.L.length cly) := H5.out.cell 0
    have H51 : v5.cell? ⟨b5, 1, none⟩ = some (.slice osy t.S.length csy) := H5.out.cell 1
    have Hm0 : v5.cell? ⟨cm, 0, none⟩ = some (.slice none 0 0) := Hm.out.cell 0
    have Hm1 : v5.cell? ⟨cm, 1, none⟩ = some (.slice none 0 0) := Hm.out.cell 1
    have Hj0 : v5.cell? ⟨cj, 0, none⟩ = some (.slice none 0 0) := Hj.out.cell 0
    have Hj1 : v5.cell? ⟨cj, 1, none⟩ = some (.slice none 0 0) := Hj.out.cell 1
    have cS := fun W a b => may_any s ol os cl cs (by omega) (by omega) W a b
    have cT := fun W a b => may_any t ol' os' cl' cs' (by omega) (by omega) W a b
    cases hs : mayB s
    · skip
      rw [hs] at cS
      go_wp2_with (fail)
      refine (cS _ (HR.out.1.1.below encR_len (by decide) HB.out) (HR.out.1.2.below encI_len (by decide) HB.out)).mono ?_
      rintro e v6 ⟨rfl, hB⟩
      replace HA := Lib.hid (HA.out.below' hB)
      replace HBb := Lib.hid (HBb.out.below' hB)
      replace HB := Lib.hid (HB.out.trans (hB.mono HB.out.size))
      replace HK := Lib.hid (Nat.le_trans HK.out hB.size)
      replace HX := Lib.hid (HX.out.below hB)
      replace HY := Lib.hid (HY.out.below hB)
      replace H4 := Lib.hid (H4.out.below' hB)
      replace H5 := Lib.hid (H5.out.below' hB)
      replace Hm := Lib.hid (Hm.out.below' hB)
      replace Hj := Lib.hid (Hj.out.below' hB)
      clear hB
      clear HA0 HA1 HBb0 HBb1 H40 H41 H50 H51 Hm0 Hm1 Hj0 Hj1
      have HA0 : v6.cell? ⟨w.heap.size, 0, none⟩ = some (.slice ol s.L.length cl) := HA.out.cell 0
      have HA1 : v6.cell? ⟨w.heap.size, 1, none⟩ = some (.slice os s.S.length cs) := HA.out.cell 1
      have HBb0 : v6.cell? ⟨w.heap.size + 1, 0, none⟩ = some (.slice ol' t.L.length cl') := HBb.out.cell 0
      have HBb1 : v6.cell? ⟨w.heap.size + 1, 1, none⟩ = some (.slice os' t.S.length cs') := HBb.out.cell 1
      have H40 : v6.cell? ⟨b4, 0, none⟩ = some (.slice olx s.L.length clx) := H4.out.cell 0
      have H41 : v6.cell? ⟨b4, 1, none⟩ = some (.slice osx s.S.length csx) := H4.out.cell 1
      have H50 : v6.cell? ⟨b5, 0, none⟩ = some (.slice oly t.L.length cly) := H5.out.cell 0
      have H51 : v6.cell? ⟨b5, 1, none⟩ = some (.slice osy t.S.length csy) := H5.out.cell 1
      have Hm0 : v6.cell? ⟨cm, 0, none⟩ = some (.slice none 0 0) := Hm.out.cell 0
      have Hm1 : v6.cell? ⟨cm, 1, none⟩ = some (.slice none 0 0) := Hm.out.cell 1
      have Hj0 : v6.cell? ⟨cj, 0, none⟩ = some (.slice none 0 0) := Hj.out.cell 0
      have Hj1 : v6.cell? ⟨cj, 1, none⟩ = some (.slice none 0 0) := Hj.out.cell 1
      go_wp2_with (fail)
      refine (none_nil2 _).mono ?_
      rintro e t1 ⟨rfl, hB⟩
      replace HA := Lib.hid (HA.out.below' hB)
      replace HBb := Lib.hid (HBb.out.below' hB)
      replace HB := Lib.hid (HB.out.trans (hB.mono HB.out.size))
      replace HK := Lib.hid (Nat.le_trans HK.out hB.size)
      replace HX := Lib.hid (HX.out.below hB)
      replace HY := Lib.hid (HY.out.below hB)
      replace H4 := Lib.hid (H4.out.below' hB)
      replace H5 := Lib.hid (H5.out.below' hB)
      replace Hm := Lib.hid (Hm.out.below' hB)
      replace Hj := Lib.hid (Hj.out.below' hB)
      clear hB
      clear HA0 HA1 HBb0 HBb1 H40 H41 H50 H51 Hm0 Hm1 Hj0 Hj1
      have HA0 : t1.cell? ⟨w.heap.size, 0, none⟩ = some (.slice ol s.L.length cl) := HA.out.cell 0
      have HA1 : t1.cell? ⟨w.heap.size, 1, none⟩ = some (.slice os s.S.length cs) := HA.out.cell 1
      have HBb0 : t1.cell? ⟨w.heap.size + 1, 0, none⟩ = some (.slice ol' t.L.length cl') := HBb.out.cell 0
      have HBb1 : t1.cell? ⟨w.heap.size + 1, 1, none⟩ = some (.slice os' t.S.length cs') := HBb.out.cell 1
      have H40 : t1.cell? ⟨b4, 0, none⟩ = some (.slice olx s.L.length clx) := H4.out.cell 0
      have H41 : t1.cell? ⟨b4, 1, none⟩ = some (.slice osx s.S.length csx) := H4.out.cell 1
      have H50 : t1.cell? ⟨b5, 0, none⟩ = some (.slice oly t.L.length cly) := H5.out.cell 0
      have H51 : t1.cell? ⟨b5, 1, none⟩ = some (.slice osy t.S.length csy) := H5.out.cell 1
      have Hm0 : t1.cell? ⟨cm, 0, none⟩ = some (.slice none 0 0) := Hm.out.cell 0
      have Hm1 : t1.cell? ⟨cm, 1, none⟩ = some (.slice none 0 0) := Hm.out.cell 1
      have Hj0 : t1.cell? ⟨cj, 0, none⟩ = some (.slice none 0 0) := Hj.out.cell 0
      have Hj1 : t1.cell? ⟨cj, 1, none⟩ = some (.slice none 0 0) := Hj.out.cell 1
      go_wp2_with (fail)
      refine (none_nil2 _).mono ?_
      rintro e t2 ⟨rfl, hB⟩
      replace HA := Lib.hid (HA.out.below' hB)
      replace HBb := Lib.hid (HBb.out.below' hB)
      replace HB := Lib.hid (HB.out.trans (hB.mono HB.out.size))
      replace HK := Lib.hid (Nat.le_trans HK.out hB.size)
      replace HX := Lib.hid (HX.out.below hB)
      replace HY := Lib.hid (HY.out.below hB)
      replace H4 := Lib.hid (H4.out.below' hB)
      replace H5 := Lib.hid (H5.out.below' hB)
      replace Hm := Lib.hid (Hm.out.below' hB)
      replace Hj := Lib.hid (Hj.out.below' hB)
      clear hB
      clear HA0 HA1 HBb0 HBb1 H40 H41 H50 H51 Hm0 Hm1 Hj0 Hj1
      have HA0 : t2.cell? ⟨w.heap.size, 0, none⟩ = some (.slice ol s.L.length cl) := HA.out.cell 0
      have HA1 : t2.cell? ⟨w.heap.size, 1, none⟩ = some (.slice os s.S.length cs) := HA.out.cell 1
      have HBb0 : t2.cell? ⟨w.heap.size + 1, 0, none⟩ = some (.slice ol' t.L.length cl') := HBb.out.cell 0
      have HBb1 : t2.cell? ⟨w.heap.size + 1, 1, none⟩ = some (.slice os' t.S.length cs') := HBb.out.cell 1
      have H40 : t2.cell? ⟨b4, 0, none⟩ = some (.slice olx s.L.length clx) := H4.out.cell 0
      have H41 : t2.cell? ⟨b4, 1, none⟩ = some (.slice osx s.S.length csx) := H4.out.cell 1
      have H50 : t2.cell? ⟨b5, 0, none⟩ = some (.slice oly t.L.length cly) := H5.out.cell 0
      have H51 : t2.cell? ⟨b5, 1, none⟩ = some (.slice osy t.S.length csy) := H5.out.cell 1
      have Hm0 : t2.cell? ⟨cm, 0, none⟩ = some (.slice none 0 0) := Hm.out.cell 0
      have Hm1 : t2.cell? ⟨cm, 1, none⟩ = some (.slice none 0 0) := Hm.out.cell 1
      have Hj0 : t2.cell? ⟨cj, 0, none⟩ = some (.slice none 0 0) := Hj.out.cell 0
      have Hj1 : t2.cell? ⟨cj, 1, none⟩ = some (.slice none 0 0) := Hj.out.cell 1
      go_wp2_with (fail)
      refine (wakes_any _).mono ?_
      rintro e t3 ⟨rfl, hB⟩
      replace HA := Lib.hid (HA.out.below' hB)
      replace HBb := Lib.hid (HBb.out.below' hB)
      replace HB := Lib.hid (HB.out.trans (hB.mono HB.out.size))
      replace HK := Lib.hid (Nat.le_trans HK.out hB.size)
      replace HX := Lib.hid (HX.out.below hB)
      replace HY := Lib.hid (HY.out.below hB)
      replace H4 := Lib.hid (H4.out.below' hB)
      replace H5 := Lib.hid (H5.out.below' hB)
      replace Hm := Lib.hid (Hm.out.below' hB)
      replace Hj := Lib.hid (Hj.out.below' hB)
      clear hB
      clear HA0 HA1 HBb0 HBb1 H40 H41 H50 H51 Hm0 Hm1 Hj0 Hj1
      go_wp2
      go_ret
      exact ⟨rfl, HB.out⟩
    · skip
      rw [hs] at cS
      go_wp2_with (fail)
      refine (cS _ (HR.out.1.1.below encR_len (by decide) HB.out) (HR.out.1.2.below encI_len (by decide) HB.out)).mono ?_
      rintro e v6 ⟨rfl, hB⟩
      replace HA := Lib.hid (HA.out.below' hB)
      replace HBb := Lib.hid (HBb.out.below' hB)
      replace HB := Lib.hid (HB.out.trans (hB.mono HB.out.size))
      replace HK := Lib.hid (Nat.le_trans HK.out hB.size)
      replace HX := Lib.hid (HX.out.below hB)
      replace HY := Lib.hid (HY.out.below hB)
      replace H4 := Lib.hid (H4.out.below' hB)
      replace H5 := Lib.hid (H5.out.below' hB)
      replace Hm := Lib.hid (Hm.out.below' hB)
      replace Hj := Lib.hid (Hj.out.below' hB)
      clear hB
      clear HA0 HA1 HBb0 HBb1 H40 H41 H50 H51 Hm0 Hm1 Hj0 Hj1
      have HA0 : v6.cell? ⟨w.heap.size, 0, none⟩ = some (.slice ol s.L.length cl) := HA.out.cell 0
      have HA1 : v6.cell? ⟨w.heap.size, 1, none⟩ = some (.slice os s.S.length cs) := HA.out.cell 1
      have HBb0 : v6.cell? ⟨w.heap.size + 1, 0, none⟩ = some (.slice ol' t.L.length cl') := HBb.out.cell 0
      have HBb1 : v6.cell? ⟨w.heap.size + 1, 1, none⟩ = some (.slice os' t.S.length cs') := HBb.out.cell 1
      have H40 : v6.cell? ⟨b4, 0, none⟩ = some (.slice olx s.L.length clx) := H4.out.cell 0
      have H41 : v6.cell? ⟨b4, 1, none⟩ = some (.slice osx s.S.length csx) := H4.out.cell 1
      have H50 : v6.cell? ⟨b5, 0, none⟩ = some (.slice oly t.L.length cly) := H5.out.cell 0
      have H51 : v6.cell? ⟨b5, 1, none⟩ = some (.slice osy t.S.length csy) := H5.out.cell 1
      have Hm0 : v6.cell? ⟨cm, 0, none⟩ = some (.slice none 0 0) := Hm.out.cell 0
      have Hm1 : v6.cell? ⟨cm, 1, none⟩ = some (.slice none 0 0) := Hm.out.cell 1
      have Hj0 : v6.cell? ⟨cj, 0, none⟩ = some (.slice none 0 0) := Hj.out.cell 0
      have Hj1 : v6.cell? ⟨cj, 1, none⟩ = some (.slice none 0 0) := Hj.out.cell 1
      cases htm : mayB t
      · skip
        rw [htm] at cT
        go_wp2_with (fail)
        refine (cT _ (HR.out.2.1.below encR_len (by decide) HB.out) (HR.out.2.2.below encI_len (by decide) HB.out)).mono ?_
        rintro e v7 ⟨rfl, hB⟩
        replace HA := Lib.hid (HA.out.below' hB)
        replace HBb := Lib.hid (HBb.out.below' hB)
        replace HB := Lib.hid (HB.out.trans (hB.mono HB.out.size))
        replace HK := Lib.hid (Nat.le_trans HK.out hB.size)
        replace HX := Lib.hid (HX.out.below hB)
        replace HY := Lib.hid (HY.out.below hB)
        replace H4 := Lib.hid (H4.out.below' hB)
        replace H5 := Lib.hid (H5.out.below' hB)
        replace Hm := Lib.hid (Hm.out.below' hB)
        replace Hj := Lib.hid (Hj.out.below' hB)
        clear hB
        clear HA0 HA1 HBb0 HBb1 H40 H41 H50 H51 Hm0 Hm1 Hj0 Hj1
        have HA0 : v7.cell? ⟨w.heap.size, 0, none⟩ = some (.slice ol s.L.length cl) := HA.out.cell 0
        have HA1 : v7.cell? ⟨w.heap.size, 1, none⟩ = some (.slice os s.S.length cs) := HA.out.cell 1
        have HBb0 : v7.cell? ⟨w.heap.size + 1, 0, none⟩ = some (.slice ol' t.L.length cl') := HBb.out.cell 0
        have HBb1 : v7.cell? ⟨w.heap.size + 1, 1, none⟩ = some (.slice os' t.S.length cs') := HBb.out.cell 1
        have H40 : v7.cell? ⟨b4, 0, none⟩ = some (.slice olx s.L.length clx) := H4.out.cell 0
        have H41 : v7.cell? ⟨b4, 1, none⟩ = some (.slice osx s.S.length csx) := H4.out.cell 1
        have H50 : v7.cell? ⟨b5, 0, none⟩ = some (.slice oly t.L.length cly) := H5.out.cell 0
        have H51 : v7.cell? ⟨b5, 1, none⟩ = some (.slice osy t.S.length csy) := H5.out.cell 1
        have Hm0 : v7.cell? ⟨cm, 0, none⟩ = some (.slice none 0 0) := Hm.out.cell 0
        have Hm1 : v7.cell? ⟨cm, 1, none⟩ = some (.slice none 0 0) := Hm.out.cell 1
        have Hj0 : v7.cell? ⟨cj, 0, none⟩ = some (.slice none 0 0) := Hj.out.cell 0
        have Hj1 : v7.cell? ⟨cj, 1, none⟩ = some (.slice none 0 0) := Hj.out.cell 1
        go_wp2_with (fail)
        refine (none_nil2 _).mono ?_
        rintro e t1 ⟨rfl, hB⟩
        replace HA := Lib.hid (HA.out.below' hB)
        replace HBb := Lib.hid (HBb.out.below' hB)
        replace HB := Lib.hid (HB.out.trans (hB.mono HB.out.size))
        replace HK := Lib.hid (Nat.le_trans HK.out hB.size)
        replace HX := Lib.hid (HX.out.below hB)
        replace HY := Lib.hid (HY.out.below hB)
        replace H4 := Lib.hid (H4.out.below' hB)
        replace H5 := Lib.hid (H5.out.below' hB)
        replace Hm := Lib.hid (Hm.out.below' hB)
        replace Hj := Lib.hid (Hj.out.below' hB)
        clear hB
        clear HA0 HA1 HBb0 HBb1 H40 H41 H50 H51 Hm0 Hm1 Hj0 Hj1
        have HA0 : t1.cell? ⟨w.heap.size, 0, none⟩ = some (.slice ol s.L.length cl) := HA.out.cell 0
        have HA1 : t1.cell? ⟨w.heap.size, 1, none⟩ = some (.slice os s.S.length cs) := HA.out.cell 1
        have HBb0 : t1.cell? ⟨w.heap.size + 1, 0, none⟩ = some (.slice ol' t.L.length cl') := HBb.out.cell 0
        have HBb1 : t1.cell? ⟨w.heap.size + 1, 1, none⟩ = some (.slice os' t.S.length cs') := HBb.out.cell 1
        have H40 : t1.cell? ⟨b4, 0, none⟩ = some (.slice olx s.L.length clx) := H4.out.cell 0
        have H41 : t1.cell? ⟨b4, 1, none⟩ = some (.slice osx s.S.length csx) := H4.out.cell 1
        have H50 : t1.cell? ⟨b5, 0, none⟩ = some (.slice oly t.L.length cly) := H5.out.cell 0
        have H51 : t1.cell? ⟨b5, 1, none⟩ = some (.slice osy t.S.length csy) := H5.out.cell 1
        have Hm0 : t1.cell? ⟨cm, 0, none⟩ = some (.slice none 0 0) := Hm.out.cell 0
        have Hm1 : t1.cell? ⟨cm, 1, none⟩ = some (.slice none 0 0) := Hm.out.cell 1
        have Hj0 : t1.cell? ⟨cj, 0, none⟩ = some (.slice none 0 0) := Hj.out.cell 0
        have Hj1 : t1.cell? ⟨cj, 1, none⟩ = some (.slice none 0 0) := Hj.out.cell 1
        go_wp2_with (fail)
        refine (none_nil2 _).mono ?_
        rintro e t2 ⟨rfl, hB⟩
        replace HA := Lib.hid (HA.out.below' hB)
        replace HBb := Lib.hid (HBb.out.below' hB)
        replace HB := Lib.hid (HB.out.trans (hB.mono HB.out.size))
        replace HK := Lib.hid (Nat.le_trans HK.out hB.size)
        replace HX := Lib.hid (HX.out.below hB)
        replace HY := Lib.hid (HY.out.below hB)
        replace H4 := Lib.hid (H4.out.below' hB)
        replace H5 := Lib.hid (H5.out.below' hB)
        replace Hm := Lib.hid (Hm.out.below' hB)
        replace Hj := Lib.hid (Hj.out.below' hB)
        clear hB
        clear HA0 HA1 HBb0 HBb1 H40 H41 H50 H51 Hm0 Hm1 Hj0 Hj1
        have HA0 : t2.cell? ⟨w.heap.size, 0, none⟩ = some (.slice ol s.L.length cl) := HA.out.cell 0
        have HA1 : t2.cell? ⟨w.heap.size, 1, none⟩ = some (.slice os s.S.length cs) := HA.out.cell 1
        have HBb0 : t2.cell? ⟨w.heap.size + 1, 0, none⟩ = some (.slice ol' t.L.length cl') := HBb.out.cell 0
        have HBb1 : t2.cell? ⟨w.heap.size + 1, 1, none⟩ = some (.slice os' t.S.length cs') := HBb.out.cell 1
        have H40 : t2.cell? ⟨b4, 0, none⟩ = some (.slice olx s.L.length clx) := H4.out.cell 0
        have H41 : t2.cell? ⟨b4, 1, none⟩ = some (.slice osx s.S.length csx) := H4.out.cell 1
        have H50 : t2.cell? ⟨b5, 0, none⟩ = some (.slice oly t.L.length cly) := H5.out.cell 0
        have H51 : t2.cell? ⟨b5, 1, none⟩ = some (.slice osy t.S.length csy) := H5.out.cell 1
        have Hm0 : t2.cell? ⟨cm, 0, none⟩ = some (.slice none 0 0) := Hm.out.cell 0
        have Hm1 : t2.cell? ⟨cm, 1, none⟩ = some (.slice none 0 0) := Hm.out.cell 1
        have Hj0 : t2.cell? ⟨cj, 0, none⟩ = some (.slice none 0 0) := Hj.out.cell 0
        have Hj1 : t2.cell? ⟨cj, 1, none⟩ = some (.slice none 0 0) := Hj.out.cell 1
        go_wp2_with (fail)
        refine (wakes_any _).mono ?_
        rintro e t3 ⟨rfl, hB⟩
        replace HA := Lib.hid (HA.out.below' hB)
        replace HBb := Lib.hid (HBb.out.below' hB)
        replace HB := Lib.hid (HB.out.trans (hB.mono HB.out.size))
        replace HK := Lib.hid (Nat.le_trans HK.out hB.size)
        replace HX := Lib.hid (HX.out.below hB)
        replace HY := Lib.hid (HY.out.below hB)
        replace H4 := Lib.hid (H4.out.below' hB)
        replace H5 := Lib.hid (H5.out.below' hB)
        replace Hm := Lib.hid (Hm.out.below' hB)
        replace Hj := Lib.hid (Hj.out.below' hB)
        clear hB
        clear HA0 HA1 HBb0 HBb1 H40 H41 H50 H51 Hm0 Hm1 Hj0 Hj1
        go_wp2
        go_ret
        exact ⟨rfl, HB.out⟩
      · skip
        rw [htm] at cT
        go_wp2_with (fail)
        refine (cT _ (HR.out.2.1.below encR_len (by decide) HB.out) (HR.out.2.2.below encI_len (by decide) HB.out)).mono ?_
        rintro e v7 ⟨rfl, hB⟩
        replace HA := Lib.hid (HA.out.below' hB)
        replace HBb := Lib.hid (HBb.out.below' hB)
        replace HB := Lib.hid (HB.out.trans (hB.mono HB.out.size))
        replace HK := Lib.hid (Nat.le_trans HK.out hB.size)
        replace HX := Lib.hid (HX.out.below hB)
        replace HY := Lib.hid (HY.out.below hB)
        replace H4 := Lib.hid (H4.out.below' hB)
        replace H5 := Lib.hid (H5.out.below' hB)
        replace Hm := Lib.hid (Hm.out.below' hB)
        replace Hj := Lib.hid (Hj.out.below' hB)
        clear hB
        clear HA0 HA1 HBb0 HBb1 H40 H41 H50 H51 Hm0 Hm1 Hj0 Hj1
        have HA0 : v7.cell? ⟨w.heap.size, 0, none⟩ = some (.slice ol s.L.length cl) := HA.out.cell 0
        have HA1 : v7.cell? ⟨w.heap.size, 1, none⟩ = some (.slice os s.S.length cs) := HA.out.cell 1
        have HBb0 : v7.cell? ⟨w.heap.size + 1, 0, none⟩ = some (.slice ol' t.L.length cl') := HBb.out.cell 0
        have HBb1 : v7.cell? ⟨w.heap.size + 1, 1, none⟩ = some (.slice os' t.S.length cs') := HBb.out.cell 1
        have H40 : v7.cell? ⟨b4, 0, none⟩ = some (.slice olx s.L.length clx) := H4.out.cell 0
        have H41 : v7.cell? ⟨b4, 1, none⟩ = some (.slice osx s.S.length csx) := H4.out.cell 1
        have H50 : v7.cell? ⟨b5, 0, none⟩ = some (.slice oly t.L.length cly) := H5.out.cell 0
        have H51 : v7.cell? ⟨b5, 1, none⟩ = some (.slice osy t.S.length csy) := H5.out.cell 1
        have Hm0 : v7.cell? ⟨cm, 0, none⟩ = some (.slice none 0 0) := Hm.out.cell 0
        have Hm1 : v7.cell? ⟨cm, 1, none⟩ = some (.slice none 0 0) := Hm.out.cell 1
        have Hj0 : v7.cell? ⟨cj, 0, none⟩ = some (.slice none 0 0) := Hj.out.cell 0
        have Hj1 : v7.cell? ⟨cj, 1, none⟩ = some (.slice none 0 0) := Hj.out.cell 1
        have hle : s.L.length ≠ t.L.length := fun h => by simp [bothB, hs, htm, h] at hno
        have e1 : ((s.L.length : Int) != (t.L.length : Int)) = true := by rw [bne_iff_ne]; omega
        have e2 : (s.L.length != t.L.length) = true := by rw [bne_iff_ne]; exact hle
        clear hle
        go_wp2_with (fail)
        refine (none_nil2 _).mono ?_
        rintro e t1 ⟨rfl, hB⟩
        replace HA := Lib.hid (HA.out.below' hB)
        replace HBb := Lib.hid (HBb.out.below' hB)
        replace HB := Lib.hid (HB.out.trans (hB.mono HB.out.size))
        replace HK := Lib.hid (Nat.le_trans HK.out hB.size)
        replace HX := Lib.hid (HX.out.below hB)
        replace HY := Lib.hid (HY.out.below hB)
        replace H4 := Lib.hid (H4.out.below' hB)
        replace H5 := Lib.hid (H5.out.below' hB)
        replace Hm := Lib.hid (Hm.out.below' hB)
        replace Hj := Lib.hid (Hj.out.below' hB)
        clear hB
        clear HA0 HA1 HBb0 HBb1 H40 H41 H50 H51 Hm0 Hm1 Hj0 Hj1
        have HA0 : t1.cell? ⟨w.heap.size, 0, none⟩ = some (.slice ol s.L.length cl) := HA.out.cell 0
        have HA1 : t1.cell? ⟨w.heap.size, 1, none⟩ = some (.slice os s.S.length cs) := HA.out.cell 1
        have HBb0 : t1.cell? ⟨w.heap.size + 1, 0, none⟩ = some (.slice ol' t.L.length cl') := HBb.out.cell 0
        have HBb1 : t1.cell? ⟨w.heap.size + 1, 1, none⟩ = some (.slice os' t.S.length cs') := HBb.out.cell 1
        have H40 : t1.cell? ⟨b4, 0, none⟩ = some (.slice olx s.L.length clx) := H4.out.cell 0
        have H41 : t1.cell? ⟨b4, 1, none⟩ = some (.slice osx s.S.length csx) := H4.out.cell 1
        have H50 : t1.cell? ⟨b5, 0, none⟩ = some (.slice oly t.L.length cly) := H5.out.cell 0
        have H51 : t1.cell? ⟨b5, 1, none⟩ = some (.slice osy t.S.length csy) := H5.out.cell 1
        have Hm0 : t1.cell? ⟨cm, 0, none⟩ = some (.slice none 0 0) := Hm.out.cell 0
        have Hm1 : t1.cell? ⟨cm, 1, none⟩ = some (.slice none 0 0) := Hm.out.cell 1
        have Hj0 : t1.cell? ⟨cj, 0, none⟩ = some (.slice none 0 0) := Hj.out.cell 0
        have Hj1 : t1.cell? ⟨cj, 1, none⟩ = some (.slice none 0 0) := Hj.out.cell 1
        go_wp2_with (fail)
        refine (none_nil2 _).mono ?_
        rintro e t2 ⟨rfl, hB⟩
        replace HA := Lib.hid (HA.out.below' hB)
        replace HBb := Lib.hid (HBb.out.below' hB)
        replace HB := Lib.hid (HB.out.trans (hB.mono HB.out.size))
        replace HK := Lib.hid (Nat.le_trans HK.out hB.size)
        replace HX := Lib.hid (HX.out.below hB)
        replace HY := Lib.hid (HY.out.below hB)
        replace H4 := Lib.hid (H4.out.below' hB)
        replace H5 := Lib.hid (H5.out.below' hB)
        replace Hm := Lib.hid (Hm.out.below' hB)
        replace Hj := Lib.hid (Hj.out.below' hB)
        clear hB
        clear HA0 HA1 HBb0 HBb1 H40 H41 H50 H51 Hm0 Hm1 Hj0 Hj1
        have HA0 : t2.cell? ⟨w.heap.size, 0, none⟩ = some (.slice ol s.L.length cl) := HA.out.cell 0
        have HA1 : t2.cell? ⟨w.heap.size, 1, none⟩ = some (.slice os s.S.length cs) := HA.out.cell 1
        have HBb0 : t2.cell? ⟨w.heap.size + 1, 0, none⟩ = some (.slice ol' t.L.length cl') := HBb.out.cell 0
        have HBb1 : t2.cell? ⟨w.heap.size + 1, 1, none⟩ = some (.slice os' t.S.length cs') := HBb.out.cell 1
        have H40 : t2.cell? ⟨b4, 0, none⟩ = some (.slice olx s.L.length clx) := H4.out.cell 0
        have H41 : t2.cell? ⟨b4, 1, none⟩ = some (.slice osx s.S.length csx) := H4.out.cell 1
        have H50 : t2.cell? ⟨b5, 0, none⟩ = some (.slice oly t.L.length cly) := H5.out.cell 0
        have H51 : t2.cell? ⟨b5, 1, none⟩ = some (.slice osy t.S.length csy) := H5.out.cell 1
        have Hm0 : t2.cell? ⟨cm, 0, none⟩ = some (.slice none 0 0) := Hm.out.cell 0
        have Hm1 : t2.cell? ⟨cm, 1, none⟩ = some (.slice none 0 0) := Hm.out.cell 1
        have Hj0 : t2.cell? ⟨cj, 0, none⟩ = some (.slice none 0 0) := Hj.out.cell 0
        have Hj1 : t2.cell? ⟨cj, 1, none⟩ = some (.slice none 0 0) := Hj.out.cell 1
        go_wp2_with (fail)
        refine (wakes_any _).mono ?_
        rintro e t3 ⟨rfl, hB⟩
        replace HA := Lib.hid (HA.out.below' hB)
        replace HBb := Lib.hid (HBb.out.below' hB)
        replace HB := Lib.hid (HB.out.trans (hB.mono HB.out.size))
        replace HK := Lib.hid (Nat.le_trans HK.out hB.size)
        replace HX := Lib.hid (HX.out.below hB)
        replace HY := Lib.hid (HY.out.below hB)
        replace H4 := Lib.hid (H4.out.below' hB)
        replace H5 := Lib.hid (H5.out.below' hB)
        replace Hm := Lib.hid (Hm.out.below' hB)
        replace Hj := Lib.hid (Hj.out.below' hB)
        clear hB
        clear HA0 HA1 HBb0 HBb1 H40 H41 H50 H51 Hm0 Hm1 Hj0 Hj1
        go_wp2
        go_ret
        exact ⟨rfl, HB.out⟩
end Go.Proofs.Ytdcmkiggnmajgaa.Pr
