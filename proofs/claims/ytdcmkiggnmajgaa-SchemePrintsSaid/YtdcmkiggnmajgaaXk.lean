/- Stage 16: SchemePrints at a scheme that may be. -/
import Derived.Test.YtdcmkiggnmajgaaXd
import Derived.Test.YtdcmkiggnmajgaaXf
import Derived.Test.YtdcmkiggnmajgaaXg
import Derived.Test.YtdcmkiggnmajgaaXi
namespace Go.Proofs.Ytdcmkiggnmajgaa.Pr
set_option linter.unusedVariables false
set_option linter.unusedSimpArgs false
open Go Go.RowKit Go.Shelf
set_option maxRecDepth 100000

set_option maxHeartbeats 8000000 in
theorem prints_yesF (s t : Sc) (ol os ol' os' : Option Addr) (cl cs cl' cs' : Nat) (hn : s.L.length ≤ 9223372036854775807) (hm : s.S.length ≤ 9223372036854775807) (hn' : t.L.length ≤ 9223372036854775807) (hm' : t.S.length ≤ 9223372036854775807) (hfl : NForm ol s.L.length cl) (hfs : NForm os s.S.length cs) (hmay : mayB s = true) (hmt : mayB t = false) (w : World) (hr : RowAt w encR 2 ol s.L) (ht : RowAt w encI 1 os s.S) (hr' : RowAt w encR 2 ol' t.L) (ht' : RowAt w encI 1 os' t.S) :
    Calls Try.prog 5 #[.agg #[.slice ol s.L.length cl, .slice os s.S.length cs], .agg #[.slice ol' t.L.length cl', .slice os' t.S.length cs']] w fun e w' => e = .returned (.bool true) ∧ Below w.heap.size w w' := by
  have cM := fun W h1' h2' => may_any s ol os cl cs hn hm W h1' h2'
  have cS := fun W h1' h2' h3' h4' => same_any s t ol os ol' os' cl cs cl' cs' hn hm hn' hm' W h1' h2' h3' h4'
  have cT := fun W h1' h2' => may_any t ol' os' cl' cs' hn' hm' W h1' h2'
  rw [hmay] at cM cS
  rw [hmt] at cS cT
  simp only [Bool.true_and, Bool.false_and] at cS
  obtain ⟨hL5, _, hS5⟩ := may_parts hmay
  obtain ⟨E, hE⟩ : ∃ E, eqB s t = E := ⟨_, rfl⟩
  have cE := fun W h1' h2' h3' h4' => equal_any s t ol os ol' os' cl cs cl' cs' hn hm W h1' h2' h3' h4'
  rw [hE] at cE
  obtain ⟨pb, hpb⟩ : ∃ pb, prB s = pb := ⟨_, rfl⟩
  have cP := fun ol os cl cs hf W h1' h2' => print_any s ol os cl cs hf hmay W h1' h2'
  have cQ := fun W h1' h2' => refPrint_any s ol os cl cs hfl hmay W h1' h2'
  rw [hpb] at cQ
  simp only [hpb] at cP
  have cEs := fun ol os ol' os' cl cs cl' cs' W h1' h2' h3' h4' => equal_any s s ol os ol' os' cl cs cl' cs' hn hm W h1' h2' h3' h4'
  rw [eqB_self] at cEs
  have cSs := fun ol os ol' os' cl cs cl' cs' W h1' h2' h3' h4' => same_any s s ol os ol' os' cl cs cl' cs' hn hm hn hm W h1' h2' h3' h4'
  rw [eqB_self, hmay] at cSs
  simp only [Bool.and_self] at cSs
  have cEq : ∀ (r : Sc) ol os ol' os' cl cs cl' cs' (h1 : r.L.length ≤ 9223372036854775807) (h2 : r.S.length ≤ 9223372036854775807) W (_ : RowAt W encR 2 ol r.L) (_ : RowAt W encI 1 os r.S) (_ : RowAt W encR 2 ol' r.L) (_ : RowAt W encI 1 os' r.S), Calls Try.prog 29 #[.agg #[.slice ol r.L.length cl, .slice os r.S.length cs], .agg #[.slice ol' r.L.length cl', .slice os' r.S.length cs']] W fun e w' => e = .returned (.bool true) ∧ Below W.heap.size W w' := fun r ol os ol' os' cl cs cl' cs' h1 h2 W a b c d => by
    have h := equal_any r r ol os ol' os' cl cs cl' cs' h1 h2 W a b c d
    rw [eqB_self] at h
    exact h
  have hB0 := ((Below.refl _ w).alloc (Nat.le_refl _) (.cells #[.slice ol s.L.length cl, .slice os s.S.length cs] 25)).alloc (by simp) (.cells #[.slice ol' t.L.length cl', .slice os' t.S.length cs'] 25)
  have bA := (Blk.new w #[.slice ol s.L.length cl, .slice os s.S.length cs] 25).alloc (.cells #[.slice ol' t.L.length cl', .slice os' t.S.length cs'] 25)
  have bB := Blk.new (w.alloc (.cells #[.slice ol s.L.length cl, .slice os s.S.length cs] 25)) #[.slice ol' t.L.length cl', .slice os' t.S.length cs'] 25
  rw [World.size_alloc] at bB
  have H := Lib.hid (And.intro bA (And.intro bB hB0))
  have HR := Lib.hid (And.intro (And.intro hr ht) (And.intro hr' ht'))
  clear bA bB hB0 hr ht hr' ht'
  go_enter Try.func5, Try.ntmps5
  go_wp2_with (fail)
  refine (wakes_any _).mono ?_
  rintro e w11 ⟨rfl, hB⟩
  replace H := Lib.hid (And.intro (H.out.1.below' hB) (And.intro (H.out.2.1.below' hB) (H.out.2.2.trans (hB.mono H.out.2.2.size))))
  clear hB
  have x0 : w11.cell? ⟨w.heap.size, 0, none⟩ = some (.slice ol s.L.length cl) := H.out.1.cell 0
  have x1 : w11.cell? ⟨w.heap.size, 1, none⟩ = some (.slice os s.S.length cs) := H.out.1.cell 1
  have y0 : w11.cell? ⟨w.heap.size + 1, 0, none⟩ = some (.slice ol' t.L.length cl') := H.out.2.1.cell 0
  have y1 : w11.cell? ⟨w.heap.size + 1, 1, none⟩ = some (.slice os' t.S.length cs') := H.out.2.1.cell 1
  go_wp2_with (fail)
  refine (cM _ (HR.out.1.1.below encR_len (by decide) H.out.2.2) (HR.out.1.2.below encI_len (by decide) H.out.2.2)).mono ?_
  rintro e w12 ⟨rfl, hB⟩
  replace H := Lib.hid (And.intro (H.out.1.below' hB) (And.intro (H.out.2.1.below' hB) (H.out.2.2.trans (hB.mono H.out.2.2.size))))
  clear hB x0 x1 y0 y1
  have x0 : w12.cell? ⟨w.heap.size, 0, none⟩ = some (.slice ol s.L.length cl) := H.out.1.cell 0
  have x1 : w12.cell? ⟨w.heap.size, 1, none⟩ = some (.slice os s.S.length cs) := H.out.1.cell 1
  have y0 : w12.cell? ⟨w.heap.size + 1, 0, none⟩ = some (.slice ol' t.L.length cl') := H.out.2.1.cell 0
  have y1 : w12.cell? ⟨w.heap.size + 1, 1, none⟩ = some (.slice os' t.S.length cs') := H.out.2.1.cell 1
  go_wp2_with (fail)
  refine (cS _ (HR.out.1.1.below encR_len (by decide) H.out.2.2) (HR.out.1.2.below encI_len (by decide) H.out.2.2) (HR.out.2.1.below encR_len (by decide) H.out.2.2) (HR.out.2.2.below encI_len (by decide) H.out.2.2)).mono ?_
  rintro e w13 ⟨rfl, hB⟩
  replace H := Lib.hid (And.intro (H.out.1.below' hB) (And.intro (H.out.2.1.below' hB) (H.out.2.2.trans (hB.mono H.out.2.2.size))))
  clear hB x0 x1 y0 y1
  have x0 : w13.cell? ⟨w.heap.size, 0, none⟩ = some (.slice ol s.L.length cl) := H.out.1.cell 0
  have x1 : w13.cell? ⟨w.heap.size, 1, none⟩ = some (.slice os s.S.length cs) := H.out.1.cell 1
  have y0 : w13.cell? ⟨w.heap.size + 1, 0, none⟩ = some (.slice ol' t.L.length cl') := H.out.2.1.cell 0
  have y1 : w13.cell? ⟨w.heap.size + 1, 1, none⟩ = some (.slice os' t.S.length cs') := H.out.2.1.cell 1
  go_wp2_with (fail)
  refine (cT _ (HR.out.2.1.below encR_len (by decide) H.out.2.2) (HR.out.2.2.below encI_len (by decide) H.out.2.2)).mono ?_
  rintro e w14 ⟨rfl, hB⟩
  replace H := Lib.hid (And.intro (H.out.1.below' hB) (And.intro (H.out.2.1.below' hB) (H.out.2.2.trans (hB.mono H.out.2.2.size))))
  clear hB x0 x1 y0 y1
  have x0 : w14.cell? ⟨w.heap.size, 0, none⟩ = some (.slice ol s.L.length cl) := H.out.1.cell 0
  have x1 : w14.cell? ⟨w.heap.size, 1, none⟩ = some (.slice os s.S.length cs) := H.out.1.cell 1
  have y0 : w14.cell? ⟨w.heap.size + 1, 0, none⟩ = some (.slice ol' t.L.length cl') := H.out.2.1.cell 0
  have y1 : w14.cell? ⟨w.heap.size + 1, 1, none⟩ = some (.slice os' t.S.length cs') := H.out.2.1.cell 1
  have hm12 : w.heap.size + 2 ≤ w14.heap.size := by have := H.out.2.1.lt; omega
  go_wp2_with (fail)
  refine (copy_any s ol os cl cs hfl hfs (by omega) (by omega) _ (HR.out.1.1.below encR_len (by decide) H.out.2.2) (HR.out.1.2.below encI_len (by decide) H.out.2.2)).mono ?_
  rintro e w3 ⟨vl, vs, rfl, hO1, hO2, hB⟩
  obtain ⟨ol0, os0, cl0, cs0, rfl, rfl, hO⟩ := OB.new (t := s) hO1 hO2
  replace H := Lib.hid (And.intro (H.out.1.below' hB) (H.out.2.2.trans (hB.mono H.out.2.2.size)))
  have hk01 := hB.size
  obtain ⟨k0, hk0⟩ : ∃ k, w14.heap.size = k := ⟨_, rfl⟩
  rw [hk0] at hO hk01 hm12
  have hA := (Below.refl w3.heap.size w3).alloc (Nat.le_refl _) (.cells #[.slice ol0 s.L.length cl0, .slice os0 s.S.length cs0] 25)
  replace H := Lib.hid (And.intro (H.out.1.below' hA) (And.intro (H.out.2.trans (hA.mono H.out.2.size)) hO))
  clear hB x0 x1 y0 y1 hO1 hO2 hA hO hk0
  obtain ⟨V, hV⟩ : ∃ V, w3.alloc (.cells #[.slice ol0 s.L.length cl0, .slice os0 s.S.length cs0] 25) = V := ⟨_, rfl⟩
  obtain ⟨k1, hk1⟩ : ∃ k, w3.heap.size = k := ⟨_, rfl⟩
  rw [hV, hk1] at H
  rw [hk1] at hk01
  have x0 : V.cell? ⟨w.heap.size, 0, none⟩ = some (.slice ol s.L.length cl) := H.out.1.cell 0
  have x1 : V.cell? ⟨w.heap.size, 1, none⟩ = some (.slice os s.S.length cs) := H.out.1.cell 1
  have o0 : V.cell? ⟨k1, 0, none⟩ = some (.slice ol0 s.L.length cl0) := H.out.2.2.b.cell 0
  have o1 : V.cell? ⟨k1, 1, none⟩ = some (.slice os0 s.S.length cs0) := H.out.2.2.b.cell 1
  go_wp2_with (fail)
  try rw [hV, hk1]
  try rw [hV]
  try clear hV hk1
  refine (cP ol0 os0 cl0 cs0 H.out.2.2.formL _ H.out.2.2.o.rowL H.out.2.2.o.rowS).mono ?_
  rintro e p1 ⟨rfl, hB⟩
  replace H := Lib.hid (And.intro (H.out.1.below' hB) (And.intro (H.out.2.1.trans (hB.mono H.out.2.1.size)) (H.out.2.2.below hB)))
  clear hB x0 x1 o0 o1
  have x0 : p1.cell? ⟨w.heap.size, 0, none⟩ = some (.slice ol s.L.length cl) := H.out.1.cell 0
  have x1 : p1.cell? ⟨w.heap.size, 1, none⟩ = some (.slice os s.S.length cs) := H.out.1.cell 1
  have o0 : p1.cell? ⟨k1, 0, none⟩ = some (.slice ol0 s.L.length cl0) := H.out.2.2.b.cell 0
  have o1 : p1.cell? ⟨k1, 1, none⟩ = some (.slice os0 s.S.length cs0) := H.out.2.2.b.cell 1
  go_wp2_with (fail)
  refine (canon_any s ol0 os0 cl0 cs0 H.out.2.2.formL H.out.2.2.formS hmay _ H.out.2.2.o.rowL H.out.2.2.o.rowS).mono ?_
  rintro e p2 ⟨vl, vs, rfl, hO1, hO2, hB⟩
  rw [← canL_len s.L] at hO1
  obtain ⟨olc, osc, clc, csc, rfl, rfl, hO⟩ := OB.new (t := canS s) hO1 hO2
  have hk2 := hB.size
  have hk2' := H.out.2.2.b.lt
  obtain ⟨k2, hka⟩ : ∃ k, p1.heap.size = k := ⟨_, rfl⟩
  rw [hka] at hO hk2 hk2'
  replace H := Lib.hid (And.intro (H.out.1.below' hB) (And.intro (H.out.2.1.trans (hB.mono H.out.2.1.size)) (H.out.2.2.below hB)))
  have hA := (Below.refl p2.heap.size p2).alloc (Nat.le_refl _) (.cells #[.slice olc (canS s).L.length clc, .slice osc (canS s).S.length csc] 25)
  replace H := Lib.hid (And.intro (H.out.1.below' hA) (And.intro (H.out.2.1.trans (hA.mono H.out.2.1.size)) (And.intro (H.out.2.2.below hA) hO)))
  clear hB hO1 hO2 hA hO hka x0 x1 o0 o1
  obtain ⟨V2, hV⟩ : ∃ V, p2.alloc (.cells #[.slice olc (canS s).L.length clc, .slice osc (canS s).S.length csc] 25) = V := ⟨_, rfl⟩
  obtain ⟨k3, hk⟩ : ∃ k, p2.heap.size = k := ⟨_, rfl⟩
  rw [hV, hk] at H
  rw [hk] at hk2
  have x0 : V2.cell? ⟨w.heap.size, 0, none⟩ = some (.slice ol s.L.length cl) := H.out.1.cell 0
  have x1 : V2.cell? ⟨w.heap.size, 1, none⟩ = some (.slice os s.S.length cs) := H.out.1.cell 1
  have o0 : V2.cell? ⟨k1, 0, none⟩ = some (.slice ol0 s.L.length cl0) := H.out.2.2.1.b.cell 0
  have o1 : V2.cell? ⟨k1, 1, none⟩ = some (.slice os0 s.S.length cs0) := H.out.2.2.1.b.cell 1
  have c0 : V2.cell? ⟨k3, 0, none⟩ = some (.slice olc (canS s).L.length clc) := H.out.2.2.2.b.cell 0
  have c1 : V2.cell? ⟨k3, 1, none⟩ = some (.slice osc (canS s).S.length csc) := H.out.2.2.2.b.cell 1
  go_wp2_with (fail)
  try rw [hV, hk]
  try rw [hV]
  try clear hV hk
  refine (turn_any s ol0 os0 cl0 cs0 H.out.2.2.1.formL H.out.2.2.1.formS hmay (by omega) (by omega) _ H.out.2.2.1.o.rowL H.out.2.2.1.o.rowS).mono ?_
  rintro e p3 ⟨vl, vs, rfl, hO1, hO2, hB⟩
  rw [show s.L.length = s.L.reverse.length by simp] at hO1
  rw [show s.S.length = s.S.reverse.length by simp] at hO2
  obtain ⟨old, osd, cld, csd, rfl, rfl, hO⟩ := OB.new (t := turnS s) hO1 hO2
  have hk4 := hB.size
  have hk4' := H.out.2.2.2.b.lt
  obtain ⟨k4, hka⟩ : ∃ k, V2.heap.size = k := ⟨_, rfl⟩
  rw [hka] at hO hk4 hk4'
  replace H := Lib.hid (And.intro (H.out.1.below' hB) (And.intro (H.out.2.1.trans (hB.mono H.out.2.1.size)) (And.intro (H.out.2.2.1.below hB) (H.out.2.2.2.below hB))))
  have hA := (Below.refl p3.heap.size p3).alloc (Nat.le_refl _) (.cells #[.slice old (turnS s).L.length cld, .slice osd (turnS s).S.length csd] 25)
  replace H := Lib.hid (And.intro (H.out.1.below' hA) (And.intro (H.out.2.1.trans (hA.mono H.out.2.1.size)) (And.intro (H.out.2.2.1.below hA) (And.intro (H.out.2.2.2.below hA) hO))))
  clear hB hO1 hO2 hA hO hka x0 x1 o0 o1 c0 c1
  obtain ⟨V3, hV⟩ : ∃ V, p3.alloc (.cells #[.slice old (turnS s).L.length cld, .slice osd (turnS s).S.length csd] 25) = V := ⟨_, rfl⟩
  obtain ⟨k5, hk⟩ : ∃ k, p3.heap.size = k := ⟨_, rfl⟩
  rw [hV, hk] at H
  rw [hk] at hk4
  have x0 : V3.cell? ⟨w.heap.size, 0, none⟩ = some (.slice ol s.L.length cl) := H.out.1.cell 0
  have x1 : V3.cell? ⟨w.heap.size, 1, none⟩ = some (.slice os s.S.length cs) := H.out.1.cell 1
  have o0 : V3.cell? ⟨k1, 0, none⟩ = some (.slice ol0 s.L.length cl0) := H.out.2.2.1.b.cell 0
  have o1 : V3.cell? ⟨k1, 1, none⟩ = some (.slice os0 s.S.length cs0) := H.out.2.2.1.b.cell 1
  have c0 : V3.cell? ⟨k3, 0, none⟩ = some (.slice olc (canS s).L.length clc) := H.out.2.2.2.1.b.cell 0
  have c1 : V3.cell? ⟨k3, 1, none⟩ = some (.slice osc (canS s).S.length csc) := H.out.2.2.2.1.b.cell 1
  have d0 : V3.cell? ⟨k5, 0, none⟩ = some (.slice old (turnS s).L.length cld) := H.out.2.2.2.2.b.cell 0
  have d1 : V3.cell? ⟨k5, 1, none⟩ = some (.slice osd (turnS s).S.length csd) := H.out.2.2.2.2.b.cell 1
  go_wp2_with (fail)
  try rw [hV, hk]
  try rw [hV]
  try clear hV hk
  refine (cQ _ (HR.out.1.1.below encR_len (by decide) H.out.2.1) (HR.out.1.2.below encI_len (by decide) H.out.2.1)).mono ?_
  rintro e q1 ⟨rfl, hB⟩
  replace H := Lib.hid (And.intro (H.out.1.below' hB) (And.intro (H.out.2.1.trans (hB.mono H.out.2.1.size)) (And.intro (H.out.2.2.1.below hB) (And.intro (H.out.2.2.2.1.below hB) (H.out.2.2.2.2.below hB)))))
  clear hB x0 x1 o0 o1 c0 c1 d0 d1
  have x0 : q1.cell? ⟨w.heap.size, 0, none⟩ = some (.slice ol s.L.length cl) := H.out.1.cell 0
  have x1 : q1.cell? ⟨w.heap.size, 1, none⟩ = some (.slice os s.S.length cs) := H.out.1.cell 1
  have o0 : q1.cell? ⟨k1, 0, none⟩ = some (.slice ol0 s.L.length cl0) := H.out.2.2.1.b.cell 0
  have o1 : q1.cell? ⟨k1, 1, none⟩ = some (.slice os0 s.S.length cs0) := H.out.2.2.1.b.cell 1
  have c0 : q1.cell? ⟨k3, 0, none⟩ = some (.slice olc (canS s).L.length clc) := H.out.2.2.2.1.b.cell 0
  have c1 : q1.cell? ⟨k3, 1, none⟩ = some (.slice osc (canS s).S.length csc) := H.out.2.2.2.1.b.cell 1
  have d0 : q1.cell? ⟨k5, 0, none⟩ = some (.slice old (turnS s).L.length cld) := H.out.2.2.2.2.b.cell 0
  have d1 : q1.cell? ⟨k5, 1, none⟩ = some (.slice osd (turnS s).S.length csd) := H.out.2.2.2.2.b.cell 1
  go_wp2_with (fail)
  refine (cEs ol0 os0 ol os cl0 cs0 cl cs _ H.out.2.2.1.o.rowL H.out.2.2.1.o.rowS (HR.out.1.1.below encR_len (by decide) H.out.2.1) (HR.out.1.2.below encI_len (by decide) H.out.2.1)).mono ?_
  rintro e q2 ⟨rfl, hB⟩
  replace H := Lib.hid (And.intro (H.out.1.below' hB) (And.intro (H.out.2.1.trans (hB.mono H.out.2.1.size)) (And.intro (H.out.2.2.1.below hB) (And.intro (H.out.2.2.2.1.below hB) (H.out.2.2.2.2.below hB)))))
  clear hB x0 x1 o0 o1 c0 c1 d0 d1
  have x0 : q2.cell? ⟨w.heap.size, 0, none⟩ = some (.slice ol s.L.length cl) := H.out.1.cell 0
  have x1 : q2.cell? ⟨w.heap.size, 1, none⟩ = some (.slice os s.S.length cs) := H.out.1.cell 1
  have o0 : q2.cell? ⟨k1, 0, none⟩ = some (.slice ol0 s.L.length cl0) := H.out.2.2.1.b.cell 0
  have o1 : q2.cell? ⟨k1, 1, none⟩ = some (.slice os0 s.S.length cs0) := H.out.2.2.1.b.cell 1
  have c0 : q2.cell? ⟨k3, 0, none⟩ = some (.slice olc (canS s).L.length clc) := H.out.2.2.2.1.b.cell 0
  have c1 : q2.cell? ⟨k3, 1, none⟩ = some (.slice osc (canS s).S.length csc) := H.out.2.2.2.1.b.cell 1
  have d0 : q2.cell? ⟨k5, 0, none⟩ = some (.slice old (turnS s).L.length cld) := H.out.2.2.2.2.b.cell 0
  have d1 : q2.cell? ⟨k5, 1, none⟩ = some (.slice osd (turnS s).S.length csd) := H.out.2.2.2.2.b.cell 1
  have nA1 := H.out.1.not_row (by decide) H.out.2.2.1.o.l
  have nA2 := H.out.1.not_row (by decide) H.out.2.2.1.o.s
  have hk0q : k0 ≤ q2.heap.size := by have := H.out.2.2.1.b.lt; omega
  have cW := spoil_any (.slice ol0 s.L.length cl0) (.slice os0 s.S.length cs0) s.L.length s.S.length k0 (s.L.flatMap encR) (s.S.flatMap encI) (by omega) (by omega) q2 hk0q H.out.2.2.1.o.l H.out.2.2.1.o.s
  go_wp2_with (fail)
  refine cW.mono ?_
  rintro e q3 ⟨rfl, hG⟩
  have bel := H.out.2.1
  have hO := H.out.2.2.1
  have bel3 := below_gr2 bel hG (by have := bel.size; omega) (fun g e => by have := (hO.o.l.lt g e).1; omega) (fun g e => by have := (hO.o.s.lt g e).1; omega)
  have hC3 := H.out.2.2.2.1.gr2 hO.o hG (.inr (by omega))
  have hD3 := H.out.2.2.2.2.gr2 hO.o hG (.inr (by omega))
  have hA3 := blk_gr2 H.out.1 hG nA1 nA2
  clear x0 x1 o0 o1 c0 c1 d0 d1
  replace H := Lib.hid (And.intro hA3 (And.intro bel3 (And.intro hC3 hD3)))
  clear hA3 bel3 hC3 hD3 hG bel hO cW nA1 nA2
  have x0 : q3.cell? ⟨w.heap.size, 0, none⟩ = some (.slice ol s.L.length cl) := H.out.1.cell 0
  have x1 : q3.cell? ⟨w.heap.size, 1, none⟩ = some (.slice os s.S.length cs) := H.out.1.cell 1
  have c0 : q3.cell? ⟨k3, 0, none⟩ = some (.slice olc (canS s).L.length clc) := H.out.2.2.1.b.cell 0
  have c1 : q3.cell? ⟨k3, 1, none⟩ = some (.slice osc (canS s).S.length csc) := H.out.2.2.1.b.cell 1
  have d0 : q3.cell? ⟨k5, 0, none⟩ = some (.slice old (turnS s).L.length cld) := H.out.2.2.2.b.cell 0
  have d1 : q3.cell? ⟨k5, 1, none⟩ = some (.slice osd (turnS s).S.length csd) := H.out.2.2.2.b.cell 1
  go_wp2_with (fail)
  refine wp_region_noPanic ?_
  refine wp_region_g (S := untilG [] (fun X => Below q3.heap.size q3 X)) (by kernel_rfl) ?_
  have T0 : Below q3.heap.size q3 q3.drew := (Below.refl _ _).drew
  obtain ⟨X0, hX0⟩ : ∃ X, q3.drew = X := ⟨_, rfl⟩
  rw [hX0] at T0 ⊢
  clear hX0
  refine wpAnyG_take [0, 3, 4, 5, 6, 7, 8, 9, 10, 11] (i := 0) (v := (.agg #[.slice olc (canS s).L.length clc, .slice osc (canS s).S.length csc])) rfl (by kernel_rfl) (by kernel_rfl) (by kernel_rfl) (by kernel_rfl) (by kernel_rfl) (by kernel_rfl) (by kernel_rfl) (by kernel_rfl) (fun _ _ _ h => h) (Or.inl ⟨by rfl, ?hy⟩) T0 ?_
  case hy =>
    intro X hX
    have e0 := at_below c0 hX
    have e1 := at_below c1 hX
    go_simp
  try simp only [Act.put, List.getElem_toArray, List.getElem_cons_zero, List.getElem_cons_succ, List.setIfInBounds_toArray, List.set_cons_zero, List.set_cons_succ]
  refine wpAnyG_take [1, 2, 3, 4, 5, 6, 7, 8, 9, 10, 11] (i := 1) (v := (.agg #[.slice ol s.L.length cl, .slice os s.S.length cs])) rfl (by kernel_rfl) (by kernel_rfl) (by kernel_rfl) (by kernel_rfl) (by kernel_rfl) (by kernel_rfl) (by kernel_rfl) (by kernel_rfl) (fun _ _ _ h => h) (Or.inl ⟨by rfl, ?hy⟩) T0 ?_
  case hy =>
    intro X hX
    have e0 := at_below x0 hX
    have e1 := at_below x1 hX
    go_simp
  try simp only [Act.put, List.getElem_toArray, List.getElem_cons_zero, List.getElem_cons_succ, List.setIfInBounds_toArray, List.set_cons_zero, List.set_cons_succ]
  refine wpAnyG_all (rs := [2]) (by kernel_rfl) (by simp) ?_
  intro i hi
  simp only [List.mem_cons, List.not_mem_nil, or_false] at hi
  subst hi
  refine wpOp_now rfl rfl ?_
  go_simp
  refine (refCanon_any s ol os cl cs hfl hfs hmay _ ((HR.out.1.1.below encR_len (by decide) H.out.2.1).below encR_len (by decide) T0) ((HR.out.1.2.below encI_len (by decide) H.out.2.1).below encI_len (by decide) T0)).mono ?_
  rintro e Y2 ⟨vl, vs, rfl, hO1, hO2, hB⟩
  rw [← canL_len s.L] at hO1
  obtain ⟨ol7, os7, cl7, cs7, rfl, rfl, hE7⟩ := OwS.of (t := canS s) hO1 hO2
  replace T0 := T0.trans (hB.mono T0.size)
  clear hB hO1 hO2
  refine ⟨fun _ => T0, ?_⟩
  try simp only [Act.put, List.getElem_toArray, List.getElem_cons_zero, List.getElem_cons_succ, List.setIfInBounds_toArray, List.set_cons_zero, List.set_cons_succ]
  refine wpAnyG_all (rs := [3]) (by kernel_rfl) (by simp) ?_
  intro i hi
  simp only [List.mem_cons, List.not_mem_nil, or_false] at hi
  subst hi
  refine wpOp_now rfl rfl ?_
  go_simp
  refine (cEq (canS s) olc osc ol7 os7 clc csc cl7 cs7 (by show _ ≤ _; simp only [canS, canL_len]; omega) (by show _ ≤ _; simp only [canS, canL_len]; omega) _ (H.out.2.2.1.below T0).o.rowL (H.out.2.2.1.below T0).o.rowS hE7.rowL hE7.rowS).mono ?_
  rintro e Y3 ⟨rfl, hB⟩
  replace T0 := T0.trans (hB.mono T0.size)
  clear hB
  refine ⟨fun _ => T0, ?_⟩
  try simp only [Act.put, List.getElem_toArray, List.getElem_cons_zero, List.getElem_cons_succ, List.setIfInBounds_toArray, List.set_cons_zero, List.set_cons_succ]
  refine wpAnyG_take [4, 5, 6, 7, 8, 9, 10, 11] (i := 4) (v := (.bool false)) rfl (by kernel_rfl) (by kernel_rfl) (by kernel_rfl) (by kernel_rfl) (by kernel_rfl) (by kernel_rfl) (by kernel_rfl) (by kernel_rfl) (fun _ _ _ h => h) (Or.inl ⟨by rfl, ?hy⟩) T0 ?_
  case hy =>
    intro X hX
    go_simp
  try simp only [Act.put, List.getElem_toArray, List.getElem_cons_zero, List.getElem_cons_succ, List.setIfInBounds_toArray, List.set_cons_zero, List.set_cons_succ]
  refine wpAnyG_take [5, 6, 7, 8, 9, 10, 11] (i := 5) (v := (.bool false)) rfl (by kernel_rfl) (by kernel_rfl) (by kernel_rfl) (by kernel_rfl) (by kernel_rfl) (by kernel_rfl) (by kernel_rfl) (by kernel_rfl) (fun _ _ _ h => h) (Or.inl ⟨by rfl, ?hy⟩) T0 ?_
  case hy =>
    intro X hX
    go_simp
  try simp only [Act.put, List.getElem_toArray, List.getElem_cons_zero, List.getElem_cons_succ, List.setIfInBounds_toArray, List.set_cons_zero, List.set_cons_succ]
  refine wpAnyG_take [6, 9, 10, 11] (i := 6) (v := (.agg #[.slice old (turnS s).L.length cld, .slice osd (turnS s).S.length csd])) rfl (by kernel_rfl) (by kernel_rfl) (by kernel_rfl) (by kernel_rfl) (by kernel_rfl) (by kernel_rfl) (by kernel_rfl) (by kernel_rfl) (fun _ _ _ h => h) (Or.inl ⟨by rfl, ?hy⟩) T0 ?_
  case hy =>
    intro X hX
    have e0 := at_below d0 hX
    have e1 := at_below d1 hX
    go_simp
  try simp only [Act.put, List.getElem_toArray, List.getElem_cons_zero, List.getElem_cons_succ, List.setIfInBounds_toArray, List.set_cons_zero, List.set_cons_succ]
  refine wpAnyG_take [7, 8, 9, 10, 11] (i := 7) (v := (.agg #[.slice ol s.L.length cl, .slice os s.S.length cs])) rfl (by kernel_rfl) (by kernel_rfl) (by kernel_rfl) (by kernel_rfl) (by kernel_rfl) (by kernel_rfl) (by kernel_rfl) (by kernel_rfl) (fun _ _ _ h => h) (Or.inl ⟨by rfl, ?hy⟩) T0 ?_
  case hy =>
    intro X hX
    have e0 := at_below x0 hX
    have e1 := at_below x1 hX
    go_simp
  try simp only [Act.put, List.getElem_toArray, List.getElem_cons_zero, List.getElem_cons_succ, List.setIfInBounds_toArray, List.set_cons_zero, List.set_cons_succ]
  refine wpAnyG_all (rs := [8]) (by kernel_rfl) (by simp) ?_
  intro i hi
  simp only [List.mem_cons, List.not_mem_nil, or_false] at hi
  subst hi
  refine wpOp_open rfl (by rfl) ?_
  go_simp
  refine (refTurn_any s ol os cl cs hfl hfs (by omega) (by omega) _ ((HR.out.1.1.below encR_len (by decide) H.out.2.1).below encR_len (by decide) T0) ((HR.out.1.2.below encI_len (by decide) H.out.2.1).below encI_len (by decide) T0)).mono ?_
  rintro e Y8 ⟨vl, vs, rfl, hO1, hO2, hB⟩
  rw [show s.L.length = s.L.reverse.length by simp] at hO1
  rw [show s.S.length = s.S.reverse.length by simp] at hO2
  obtain ⟨ol8, os8, cl8, cs8, rfl, rfl, hE8⟩ := OwS.of (t := turnS s) hO1 hO2
  replace T0 := T0.trans (hB.mono T0.size)
  clear hB hO1 hO2
  refine ⟨fun _ => T0, ?_⟩
  try simp only [Act.put, List.getElem_toArray, List.getElem_cons_zero, List.getElem_cons_succ, List.setIfInBounds_toArray, List.set_cons_zero, List.set_cons_succ]
  refine wpAnyG_all (rs := [9]) (by kernel_rfl) (by simp) ?_
  intro i hi
  simp only [List.mem_cons, List.not_mem_nil, or_false] at hi
  subst hi
  refine wpOp_open rfl (by rfl) ?_
  go_simp
  refine (cEq (turnS s) old osd ol8 os8 cld csd cl8 cs8 (by simp only [turnS, List.length_reverse]; omega) (by simp only [turnS, List.length_reverse]; omega) _ (H.out.2.2.2.below T0).o.rowL (H.out.2.2.2.below T0).o.rowS hE8.rowL hE8.rowS).mono ?_
  rintro e Y9 ⟨rfl, hB⟩
  replace T0 := T0.trans (hB.mono T0.size)
  clear hB
  refine ⟨fun _ => T0, ?_⟩
  try simp only [Act.put, List.getElem_toArray, List.getElem_cons_zero, List.getElem_cons_succ, List.setIfInBounds_toArray, List.set_cons_zero, List.set_cons_succ]
  refine wpAnyG_take [10, 11] (i := 10) (v := (.bool false)) rfl (by kernel_rfl) (by kernel_rfl) (by kernel_rfl) (by kernel_rfl) (by kernel_rfl) (by kernel_rfl) (by kernel_rfl) (by kernel_rfl) (fun _ _ _ h => h) (Or.inl ⟨by rfl, ?hy⟩) T0 ?_
  case hy =>
    intro X hX
    go_simp
  try simp only [Act.put, List.getElem_toArray, List.getElem_cons_zero, List.getElem_cons_succ, List.setIfInBounds_toArray, List.set_cons_zero, List.set_cons_succ]
  refine wpAnyG_take [11] (i := 11) (v := (.bool false)) rfl (by kernel_rfl) (by kernel_rfl) (by kernel_rfl) (by kernel_rfl) (by kernel_rfl) (by kernel_rfl) (by kernel_rfl) (by kernel_rfl) (fun _ _ _ h => h) (Or.inl ⟨by rfl, ?hy⟩) T0 ?_
  case hy =>
    intro X hX
    go_simp
  try simp only [Act.put, List.getElem_toArray, List.getElem_cons_zero, List.getElem_cons_succ, List.setIfInBounds_toArray, List.set_cons_zero, List.set_cons_succ]
  refine wpAnyG_done (by kernel_rfl) ?_ _
  refine NoPanic.normal ?_
  go_wp2_with (fail)
  refine wp_region_noPanic ?_
  refine wp_region_g (S := untilG [] (fun X => Below q3.heap.size q3 X)) (by kernel_rfl) ?_
  replace T0 : Below q3.heap.size q3 Y9.drew := T0.drew
  obtain ⟨X1, hX1⟩ : ∃ X, Y9.drew = X := ⟨_, rfl⟩
  rw [hX1] at T0 ⊢
  clear hX1
  refine wpAnyG_take [0, 3, 4, 5, 6, 7] (i := 0) (v := (.agg #[.slice ol s.L.length cl, .slice os s.S.length cs])) rfl (by kernel_rfl) (by kernel_rfl) (by kernel_rfl) (by kernel_rfl) (by kernel_rfl) (by kernel_rfl) (by kernel_rfl) (by kernel_rfl) (fun _ _ _ h => h) (Or.inl ⟨by rfl, ?hy⟩) T0 ?_
  case hy =>
    intro X hX
    have e0 := at_below x0 hX
    have e1 := at_below x1 hX
    go_simp
  try simp only [Act.put, List.getElem_toArray, List.getElem_cons_zero, List.getElem_cons_succ, List.setIfInBounds_toArray, List.set_cons_zero, List.set_cons_succ]
  refine wpAnyG_take [1, 2, 3, 4, 5, 6, 7] (i := 1) (v := (.agg #[.slice ol s.L.length cl, .slice os s.S.length cs])) rfl (by kernel_rfl) (by kernel_rfl) (by kernel_rfl) (by kernel_rfl) (by kernel_rfl) (by kernel_rfl) (by kernel_rfl) (by kernel_rfl) (fun _ _ _ h => h) (Or.inl ⟨by rfl, ?hy⟩) T0 ?_
  case hy =>
    intro X hX
    have e0 := at_below x0 hX
    have e1 := at_below x1 hX
    go_simp
  try simp only [Act.put, List.getElem_toArray, List.getElem_cons_zero, List.getElem_cons_succ, List.setIfInBounds_toArray, List.set_cons_zero, List.set_cons_succ]
  refine wpAnyG_all (rs := [2]) (by kernel_rfl) (by simp) ?_
  intro i hi
  simp only [List.mem_cons, List.not_mem_nil, or_false] at hi
  subst hi
  refine wpOp_now rfl rfl ?_
  go_simp
  refine (copy_any s ol os cl cs hfl hfs (by omega) (by omega) _ ((HR.out.1.1.below encR_len (by decide) H.out.2.1).below encR_len (by decide) T0) ((HR.out.1.2.below encI_len (by decide) H.out.2.1).below encI_len (by decide) T0)).mono ?_
  rintro e Z2 ⟨vl, vs, rfl, hO1, hO2, hB⟩
  obtain ⟨ol9, os9, cl9, cs9, rfl, rfl, hE9⟩ := OwS.of (t := s) hO1 hO2
  replace T0 := T0.trans (hB.mono T0.size)
  clear hB hO1 hO2
  refine ⟨fun _ => T0, ?_⟩
  try simp only [Act.put, List.getElem_toArray, List.getElem_cons_zero, List.getElem_cons_succ, List.setIfInBounds_toArray, List.set_cons_zero, List.set_cons_succ]
  refine wpAnyG_all (rs := [3]) (by kernel_rfl) (by simp) ?_
  intro i hi
  simp only [List.mem_cons, List.not_mem_nil, or_false] at hi
  subst hi
  refine wpOp_now rfl rfl ?_
  go_simp
  refine (cSs ol os ol9 os9 cl cs cl9 cs9 _ ((HR.out.1.1.below encR_len (by decide) H.out.2.1).below encR_len (by decide) T0) ((HR.out.1.2.below encI_len (by decide) H.out.2.1).below encI_len (by decide) T0) hE9.rowL hE9.rowS).mono ?_
  rintro e Z3 ⟨rfl, hB⟩
  replace T0 := T0.trans (hB.mono T0.size)
  clear hB
  refine ⟨fun _ => T0, ?_⟩
  try simp only [Act.put, List.getElem_toArray, List.getElem_cons_zero, List.getElem_cons_succ, List.setIfInBounds_toArray, List.set_cons_zero, List.set_cons_succ]
  refine wpAnyG_take [4, 5, 6, 7] (i := 4) (v := (.bool true)) rfl (by kernel_rfl) (by kernel_rfl) (by kernel_rfl) (by kernel_rfl) (by kernel_rfl) (by kernel_rfl) (by kernel_rfl) (by kernel_rfl) (fun _ _ _ h => h) (Or.inl ⟨by rfl, ?hy⟩) T0 ?_
  case hy =>
    intro X hX
    go_simp
  try simp only [Act.put, List.getElem_toArray, List.getElem_cons_zero, List.getElem_cons_succ, List.setIfInBounds_toArray, List.set_cons_zero, List.set_cons_succ]
  refine wpAnyG_all (rs := [5]) (by kernel_rfl) (by simp) ?_
  intro i hi
  simp only [List.mem_cons, List.not_mem_nil, or_false] at hi
  subst hi
  refine wpOp_open rfl (by rfl) ?_
  go_simp
  refine (wakes_any _).mono ?_
  rintro e Z5 ⟨rfl, hB⟩
  replace T0 := T0.trans (hB.mono T0.size)
  clear hB
  refine ⟨fun _ => T0, ?_⟩
  try simp only [Act.put, List.getElem_toArray, List.getElem_cons_zero, List.getElem_cons_succ, List.setIfInBounds_toArray, List.set_cons_zero, List.set_cons_succ]
  refine wpAnyG_take [6, 7] (i := 6) (v := (.bool true)) rfl (by kernel_rfl) (by kernel_rfl) (by kernel_rfl) (by kernel_rfl) (by kernel_rfl) (by kernel_rfl) (by kernel_rfl) (by kernel_rfl) (fun _ _ _ h => h) (Or.inl ⟨by rfl, ?hy⟩) T0 ?_
  case hy =>
    intro X hX
    go_simp
  try simp only [Act.put, List.getElem_toArray, List.getElem_cons_zero, List.getElem_cons_succ, List.setIfInBounds_toArray, List.set_cons_zero, List.set_cons_succ]
  refine wpAnyG_all (rs := [7]) (by kernel_rfl) (by simp) ?_
  intro i hi
  simp only [List.mem_cons, List.not_mem_nil, or_false] at hi
  subst hi
  refine wpOp_now rfl rfl ?_
  go_simp
  refine ⟨fun _ => T0, ?_⟩
  try simp only [Act.put, List.getElem_toArray, List.getElem_cons_zero, List.getElem_cons_succ, List.setIfInBounds_toArray, List.set_cons_zero, List.set_cons_succ]
  refine wpAnyG_done (by kernel_rfl) ?_ _
  refine NoPanic.normal ?_
  have HE := Lib.hid (H.out.2.1.trans (T0.mono H.out.2.1.size))
  go_wp2
  go_ret
  exact ⟨rfl, HE.out⟩
end Go.Proofs.Ytdcmkiggnmajgaa.Pr
