/- Stage 16: SchemeLattice by cases. -/
import Derived.Test.YtdcmkiggnmajgaaZb
import Derived.Test.YtdcmkiggnmajgaaZf
import Derived.Test.YtdcmkiggnmajgaaYv
import Derived.Test.YtdcmkiggnmajgaaYw
import Derived.Test.YtdcmkiggnmajgaaZj
namespace Go.Proofs.Ytdcmkiggnmajgaa.Pr
set_option linter.unusedVariables false
set_option linter.unusedSimpArgs false
open Go Go.RowKit Go.Shelf
set_option maxRecDepth 100000

theorem withinE_any (s t : Sc) (ol os ol' os' : Option Addr) (cl cs cl' cs' : Nat) (hms : mayB s = true) (hmt : mayB t = true) (hlen : t.L.length = s.L.length) (E : Bool) (hE : withinB s.L t.L = E) (w : World) (hr : RowAt w encR 2 ol s.L) (ht : RowAt w encI 1 os s.S) (hr' : RowAt w encR 2 ol' t.L) (ht' : RowAt w encI 1 os' t.S) :
    Calls Try.prog 23 #[.agg #[.slice ol s.L.length cl, .slice os s.S.length cs], .agg #[.slice ol' t.L.length cl', .slice os' t.S.length cs']] w fun e w' => e = .returned (.tuple #[.bool E, .int .i64 0]) ∧ Below w.heap.size w w' := by
  subst hE
  exact within_any s t ol os ol' os' cl cs cl' cs' hms hmt hlen w hr ht hr' ht'
theorem boxesC (w : World) (bx bY bZ : Array Value) : ∃ W, (((w.alloc (.cells bx 25)).alloc (.cells bY 25)).alloc (.cells bZ 25)) = W ∧ Blk W w.heap.size bx 25 ∧ Blk W (w.heap.size + 1) bY 25 ∧ Blk W (w.heap.size + 2) bZ 25 ∧ Below w.heap.size w W := by
  have hB0 := (((Below.refl _ w).alloc (Nat.le_refl _) (.cells bx 25)).alloc (by simp) (.cells bY 25)).alloc (by simp; omega) (.cells bZ 25)
  have bA := ((Blk.new w bx 25).alloc (.cells bY 25)).alloc (.cells bZ 25)
  have bB := (Blk.new (w.alloc (.cells bx 25)) bY 25).alloc (.cells bZ 25)
  have bC := Blk.new ((w.alloc (.cells bx 25)).alloc (.cells bY 25)) bZ 25
  simp only [World.size_alloc] at bB bC
  exact ⟨_, rfl, bA, bB, bC, hB0⟩
theorem both_len_no {u J s : Sc} (hJ : mayB J = true) (hl : J.L.length = s.L.length) (h : (mayB u && decide (s.L.length = u.L.length)) = false) : bothB J u = false := by
  unfold bothB
  rw [hJ, hl, Bool.true_and]; exact h
theorem len_both_no {u J s : Sc} (hJ : mayB J = true) (hl : J.L.length = s.L.length) (h : (mayB u && decide (u.L.length = s.L.length)) = false) : bothB u J = false := by
  unfold bothB
  rw [hJ, hl, Bool.and_true]; exact h

set_option maxHeartbeats 16000000 in
theorem lat_no (s t u : Sc) (ol os ol' os' ol'' os'' : Option Addr) (cl cs cl' cs' cl'' cs'' : Nat) (hn : s.L.length ≤ 9223372036854775807) (hm : s.S.length ≤ 9223372036854775807) (hn' : t.L.length ≤ 9223372036854775807) (hm' : t.S.length ≤ 9223372036854775807) (hn'' : u.L.length ≤ 9223372036854775807) (hm'' : u.S.length ≤ 9223372036854775807) (hfl : NForm ol s.L.length cl) (hfs : NForm os s.S.length cs) (hno : bothB s t = false) (w : World) (hr : RowAt w encR 2 ol s.L) (ht : RowAt w encI 1 os s.S) (hr' : RowAt w encR 2 ol' t.L) (ht' : RowAt w encI 1 os' t.S) (hr'' : RowAt w encR 2 ol'' u.L) (ht'' : RowAt w encI 1 os'' u.S) :
    Calls Try.prog 12 #[.agg #[.slice ol s.L.length cl, .slice os s.S.length cs], .agg #[.slice ol' t.L.length cl', .slice os' t.S.length cs'], .agg #[.slice ol'' u.L.length cl'', .slice os'' u.S.length cs'']] w fun e w' => e = .returned (.bool true) ∧ Below w.heap.size w w' := by
  skip
  obtain ⟨W0, hW0, bA, bB, bC, hB0⟩ := boxesC w #[.slice ol s.L.length cl, .slice os s.S.length cs] #[.slice ol' t.L.length cl', .slice os' t.S.length cs'] #[.slice ol'' u.L.length cl'', .slice os'' u.S.length cs'']
  have HA := Lib.hid bA
  have HBb := Lib.hid bB
  have HC := Lib.hid bC
  have HB := Lib.hid hB0
  have HR := Lib.hid (And.intro (And.intro hr ht) (And.intro (And.intro hr' ht') (And.intro hr'' ht'')))
  clear bA bB bC hB0 hr ht hr' ht' hr'' ht''
  go_enter Try.func12, Try.ntmps12
  go_wp2_with (fail)
  try rw [hW0]
  clear hW0
  refine (wakes_any _).mono ?_
  rintro e w1 ⟨rfl, hB⟩
  replace HA := Lib.hid (HA.out.below' hB)
  replace HBb := Lib.hid (HBb.out.below' hB)
  replace HC := Lib.hid (HC.out.below' hB)
  replace HB := Lib.hid (HB.out.trans (hB.mono HB.out.size))
  clear hB
  have HA0 : w1.cell? ⟨w.heap.size, 0, none⟩ = some (.slice ol s.L.length cl) := HA.out.cell 0
  have HA1 : w1.cell? ⟨w.heap.size, 1, none⟩ = some (.slice os s.S.length cs) := HA.out.cell 1
  have HBb0 : w1.cell? ⟨w.heap.size + 1, 0, none⟩ = some (.slice ol' t.L.length cl') := HBb.out.cell 0
  have HBb1 : w1.cell? ⟨w.heap.size + 1, 1, none⟩ = some (.slice os' t.S.length cs') := HBb.out.cell 1
  have HC0 : w1.cell? ⟨w.heap.size + 2, 0, none⟩ = some (.slice ol'' u.L.length cl'') := HC.out.cell 0
  have HC1 : w1.cell? ⟨w.heap.size + 2, 1, none⟩ = some (.slice os'' u.S.length cs'') := HC.out.cell 1
  have HK := Lib.hid (Nat.zero_le w1.heap.size)
  go_wp2_with (fail)
  refine (meet_no2 s t ol os ol' os' cl cs cl' cs' hn hm hn' hm' _ (HR.out.1.1.below encR_len (by decide) HB.out) (HR.out.1.2.below encI_len (by decide) HB.out) (HR.out.2.1.1.below encR_len (by decide) HB.out) (HR.out.2.1.2.below encI_len (by decide) HB.out) hno).mono ?_
  rintro e v2 ⟨rfl, hB⟩
  replace HA := Lib.hid (HA.out.below' hB)
  replace HBb := Lib.hid (HBb.out.below' hB)
  replace HC := Lib.hid (HC.out.below' hB)
  replace HB := Lib.hid (HB.out.trans (hB.mono HB.out.size))
  replace HK := Lib.hid (Nat.le_trans HK.out hB.size)
  clear HA0 HA1 HBb0 HBb1 HC0 HC1
  have HA0 : v2.cell? ⟨w.heap.size, 0, none⟩ = some (.slice ol s.L.length cl) := HA.out.cell 0
  have HA1 : v2.cell? ⟨w.heap.size, 1, none⟩ = some (.slice os s.S.length cs) := HA.out.cell 1
  have HBb0 : v2.cell? ⟨w.heap.size + 1, 0, none⟩ = some (.slice ol' t.L.length cl') := HBb.out.cell 0
  have HBb1 : v2.cell? ⟨w.heap.size + 1, 1, none⟩ = some (.slice os' t.S.length cs') := HBb.out.cell 1
  have HC0 : v2.cell? ⟨w.heap.size + 2, 0, none⟩ = some (.slice ol'' u.L.length cl'') := HC.out.cell 0
  have HC1 : v2.cell? ⟨w.heap.size + 2, 1, none⟩ = some (.slice os'' u.S.length cs'') := HC.out.cell 1
  have ltHA : w.heap.size < v2.heap.size := HA.out.lt
  have ltHBb : w.heap.size + 1 < v2.heap.size := HBb.out.lt
  have ltHC : w.heap.size + 2 < v2.heap.size := HC.out.lt
  have hA := (Below.refl v2.heap.size v2).alloc (Nat.le_refl _) (.cells #[.slice none 0 0, .slice none 0 0] 25)
  have hbm := Blk.new v2 #[.slice none 0 0, .slice none 0 0] 25
  replace HA := Lib.hid (HA.out.below' hA)
  replace HBb := Lib.hid (HBb.out.below' hA)
  replace HC := Lib.hid (HC.out.below' hA)
  replace HB := Lib.hid (HB.out.trans (hA.mono HB.out.size))
  replace HK := Lib.hid (Nat.le_trans HK.out hA.size)
  obtain ⟨cm, hc⟩ : ∃ k, v2.heap.size = k := ⟨_, rfl⟩
  obtain ⟨Vm, hV⟩ : ∃ V, v2.alloc (.cells #[.slice none 0 0, .slice none 0 0] 25) = V := ⟨_, rfl⟩
  rw [hV] at HA HBb HC HB HK
  rw [hV, hc] at hbm
  have Hm := Lib.hid hbm
  have HV := Lib.hid (And.intro hV hc)
  clear hA hbm hB hV hc
  go_wp2_with (fail)
  rw [HV.out.1]
  try rw [HV.out.2]
  clear HV
  refine (join_no2 s t ol os ol' os' cl cs cl' cs' hn hm hn' hm' _ (HR.out.1.1.below encR_len (by decide) HB.out) (HR.out.1.2.below encI_len (by decide) HB.out) (HR.out.2.1.1.below encR_len (by decide) HB.out) (HR.out.2.1.2.below encI_len (by decide) HB.out) hno).mono ?_
  rintro e v3 ⟨rfl, hB⟩
  replace HA := Lib.hid (HA.out.below' hB)
  replace HBb := Lib.hid (HBb.out.below' hB)
  replace HC := Lib.hid (HC.out.below' hB)
  replace HB := Lib.hid (HB.out.trans (hB.mono HB.out.size))
  replace HK := Lib.hid (Nat.le_trans HK.out hB.size)
  replace Hm := Lib.hid (Hm.out.below' hB)
  clear HA0 HA1 HBb0 HBb1 HC0 HC1 ltHA ltHBb ltHC
  have HA0 : v3.cell? ⟨w.heap.size, 0, none⟩ = some (.slice ol s.L.length cl) := HA.out.cell 0
  have HA1 : v3.cell? ⟨w.heap.size, 1, none⟩ = some (.slice os s.S.length cs) := HA.out.cell 1
  have HBb0 : v3.cell? ⟨w.heap.size + 1, 0, none⟩ = some (.slice ol' t.L.length cl') := HBb.out.cell 0
  have HBb1 : v3.cell? ⟨w.heap.size + 1, 1, none⟩ = some (.slice os' t.S.length cs') := HBb.out.cell 1
  have HC0 : v3.cell? ⟨w.heap.size + 2, 0, none⟩ = some (.slice ol'' u.L.length cl'') := HC.out.cell 0
  have HC1 : v3.cell? ⟨w.heap.size + 2, 1, none⟩ = some (.slice os'' u.S.length cs'') := HC.out.cell 1
  have Hm0 : v3.cell? ⟨cm, 0, none⟩ = some (.slice none 0 0) := Hm.out.cell 0
  have Hm1 : v3.cell? ⟨cm, 1, none⟩ = some (.slice none 0 0) := Hm.out.cell 1
  have ltHA : w.heap.size < v3.heap.size := HA.out.lt
  have ltHBb : w.heap.size + 1 < v3.heap.size := HBb.out.lt
  have ltHC : w.heap.size + 2 < v3.heap.size := HC.out.lt
  have ltHm : cm < v3.heap.size := Hm.out.lt
  have hA := (Below.refl v3.heap.size v3).alloc (Nat.le_refl _) (.cells #[.slice none 0 0, .slice none 0 0] 25)
  have hbj := Blk.new v3 #[.slice none 0 0, .slice none 0 0] 25
  replace HA := Lib.hid (HA.out.below' hA)
  replace HBb := Lib.hid (HBb.out.below' hA)
  replace HC := Lib.hid (HC.out.below' hA)
  replace HB := Lib.hid (HB.out.trans (hA.mono HB.out.size))
  replace HK := Lib.hid (Nat.le_trans HK.out hA.size)
  replace Hm := Lib.hid (Hm.out.below' hA)
  obtain ⟨cj, hc⟩ : ∃ k, v3.heap.size = k := ⟨_, rfl⟩
  obtain ⟨Vj, hV⟩ : ∃ V, v3.alloc (.cells #[.slice none 0 0, .slice none 0 0] 25) = V := ⟨_, rfl⟩
  rw [hV] at HA HBb HC HB HK Hm
  rw [hV, hc] at hbj
  have Hj := Lib.hid hbj
  have HV := Lib.hid (And.intro hV hc)
  clear hA hbj hB hV hc
  go_wp2_with (fail)
  rw [HV.out.1]
  try rw [HV.out.2]
  clear HV
  refine (wakes_any _).mono ?_
  rintro e x1 ⟨rfl, hB⟩
  replace HA := Lib.hid (HA.out.below' hB)
  replace HBb := Lib.hid (HBb.out.below' hB)
  replace HC := Lib.hid (HC.out.below' hB)
  replace HB := Lib.hid (HB.out.trans (hB.mono HB.out.size))
  replace HK := Lib.hid (Nat.le_trans HK.out hB.size)
  replace Hm := Lib.hid (Hm.out.below' hB)
  replace Hj := Lib.hid (Hj.out.below' hB)
  clear hB
  clear HA0 HA1 HBb0 HBb1 HC0 HC1 Hm0 Hm1 ltHA ltHBb ltHC ltHm
  go_wp2
  go_ret
  exact ⟨rfl, HB.out⟩
set_option maxHeartbeats 16000000 in
theorem lat_ok (s t u : Sc) (ol os ol' os' ol'' os'' : Option Addr) (cl cs cl' cs' cl'' cs'' : Nat) (hn : s.L.length ≤ 9223372036854775807) (hm : s.S.length ≤ 9223372036854775807) (hn' : t.L.length ≤ 9223372036854775807) (hm' : t.S.length ≤ 9223372036854775807) (hn'' : u.L.length ≤ 9223372036854775807) (hm'' : u.S.length ≤ 9223372036854775807) (hfl : NForm ol s.L.length cl) (hfs : NForm os s.S.length cs) (hms : mayB s = true) (hmt : mayB t = true) (hlen : t.L.length = s.L.length) (hmu : mayB u = true) (hlu : u.L.length = s.L.length) (w : World) (hr : RowAt w encR 2 ol s.L) (ht : RowAt w encI 1 os s.S) (hr' : RowAt w encR 2 ol' t.L) (ht' : RowAt w encI 1 os' t.S) (hr'' : RowAt w encR 2 ol'' u.L) (ht'' : RowAt w encI 1 os'' u.S) :
    Calls Try.prog 12 #[.agg #[.slice ol s.L.length cl, .slice os s.S.length cs], .agg #[.slice ol' t.L.length cl', .slice os' t.S.length cs'], .agg #[.slice ol'' u.L.length cl'', .slice os'' u.S.length cs'']] w fun e w' => e = .returned (.bool true) ∧ Below w.heap.size w w' := by
  obtain ⟨h1, h2, h3⟩ := may_parts hms
  obtain ⟨h1', _, h3'⟩ := may_parts hmt
  have HLEN := Lib.hid hlen
  clear hlen
  have HU := Lib.hid (And.intro hmu hlu)
  clear hmu hlu
  obtain ⟨W0, hW0, bA, bB, bC, hB0⟩ := boxesC w #[.slice ol s.L.length cl, .slice os s.S.length cs] #[.slice ol' t.L.length cl', .slice os' t.S.length cs'] #[.slice ol'' u.L.length cl'', .slice os'' u.S.length cs'']
  have HA := Lib.hid bA
  have HBb := Lib.hid bB
  have HC := Lib.hid bC
  have HB := Lib.hid hB0
  have HR := Lib.hid (And.intro (And.intro hr ht) (And.intro (And.intro hr' ht') (And.intro hr'' ht'')))
  clear bA bB bC hB0 hr ht hr' ht' hr'' ht''
  go_enter Try.func12, Try.ntmps12
  go_wp2_with (fail)
  try rw [hW0]
  clear hW0
  refine (wakes_any _).mono ?_
  rintro e w1 ⟨rfl, hB⟩
  replace HA := Lib.hid (HA.out.below' hB)
  replace HBb := Lib.hid (HBb.out.below' hB)
  replace HC := Lib.hid (HC.out.below' hB)
  replace HB := Lib.hid (HB.out.trans (hB.mono HB.out.size))
  clear hB
  have HA0 : w1.cell? ⟨w.heap.size, 0, none⟩ = some (.slice ol s.L.length cl) := HA.out.cell 0
  have HA1 : w1.cell? ⟨w.heap.size, 1, none⟩ = some (.slice os s.S.length cs) := HA.out.cell 1
  have HBb0 : w1.cell? ⟨w.heap.size + 1, 0, none⟩ = some (.slice ol' t.L.length cl') := HBb.out.cell 0
  have HBb1 : w1.cell? ⟨w.heap.size + 1, 1, none⟩ = some (.slice os' t.S.length cs') := HBb.out.cell 1
  have HC0 : w1.cell? ⟨w.heap.size + 2, 0, none⟩ = some (.slice ol'' u.L.length cl'') := HC.out.cell 0
  have HC1 : w1.cell? ⟨w.heap.size + 2, 1, none⟩ = some (.slice os'' u.S.length cs'') := HC.out.cell 1
  have HK := Lib.hid (Nat.zero_le w1.heap.size)
  go_wp2_with (fail)
  refine (meet_any s t ol os ol' os' cl cs cl' cs' hfs hms hmt HLEN.out _ (HR.out.1.1.below encR_len (by decide) HB.out) (HR.out.1.2.below encI_len (by decide) HB.out) (HR.out.2.1.1.below encR_len (by decide) HB.out) (HR.out.2.1.2.below encI_len (by decide) HB.out)).mono ?_
  rintro e v2 ⟨fm, vl, vs, hfm, rfl, hO1, hO2, hB⟩
  have HFM := Lib.hid hfm
  clear hfm
  obtain ⟨M, hM⟩ : ∃ R, togR s t fm = R := ⟨_, rfl⟩
  rw [hM] at hO1 hO2
  try rw [hM]
  have HM := Lib.hid hM
  have HMC := Lib.hid (hM ▸ togR_cases s t fm)
  clear hM
  obtain ⟨olm, osm, clm, csm, rfl, rfl, hO⟩ := OB.new (t := M.1) hO1 hO2
  have hszm := hB.size
  have hA := (Below.refl v2.heap.size v2).alloc (Nat.le_refl _) (.cells #[.slice olm (M.1).L.length clm, .slice osm (M.1).S.length csm] 25)
  have hkpm := HK.out
  replace HA := Lib.hid (HA.out.below' hB)
  replace HBb := Lib.hid (HBb.out.below' hB)
  replace HC := Lib.hid (HC.out.below' hB)
  replace HB := Lib.hid (HB.out.trans (hB.mono HB.out.size))
  replace HK := Lib.hid (Nat.le_trans HK.out hB.size)
  replace HA := Lib.hid (HA.out.below' hA)
  replace HBb := Lib.hid (HBb.out.below' hA)
  replace HC := Lib.hid (HC.out.below' hA)
  replace HB := Lib.hid (HB.out.trans (hA.mono HB.out.size))
  replace HK := Lib.hid (Nat.le_trans HK.out hA.size)
  obtain ⟨pm, hpm⟩ : ∃ k, w1.heap.size = k := ⟨_, rfl⟩
  obtain ⟨qm, hqm⟩ : ∃ k, v2.heap.size = k := ⟨_, rfl⟩
  obtain ⟨Vm, hV⟩ : ∃ V, v2.alloc (.cells #[.slice olm (M.1).L.length clm, .slice osm (M.1).S.length csm] 25) = V := ⟨_, rfl⟩
  rw [hV] at HA HBb HC HB HK
  rw [hV, hpm, hqm] at hO
  rw [hpm] at hkpm
  have HOm := Lib.hid hO
  clear hA hO hO1 hO2 hB
  clear HA0 HA1 HBb0 HBb1 HC0 HC1
  have HA0 : Vm.cell? ⟨w.heap.size, 0, none⟩ = some (.slice ol s.L.length cl) := HA.out.cell 0
  have HA1 : Vm.cell? ⟨w.heap.size, 1, none⟩ = some (.slice os s.S.length cs) := HA.out.cell 1
  have HBb0 : Vm.cell? ⟨w.heap.size + 1, 0, none⟩ = some (.slice ol' t.L.length cl') := HBb.out.cell 0
  have HBb1 : Vm.cell? ⟨w.heap.size + 1, 1, none⟩ = some (.slice os' t.S.length cs') := HBb.out.cell 1
  have HC0 : Vm.cell? ⟨w.heap.size + 2, 0, none⟩ = some (.slice ol'' u.L.length cl'') := HC.out.cell 0
  have HC1 : Vm.cell? ⟨w.heap.size + 2, 1, none⟩ = some (.slice os'' u.S.length cs'') := HC.out.cell 1
  have HOm0 : Vm.cell? ⟨qm, 0, none⟩ = some (.slice olm (M.1).L.length clm) := HOm.out.b.cell 0
  have HOm1 : Vm.cell? ⟨qm, 1, none⟩ = some (.slice osm (M.1).S.length csm) := HOm.out.b.cell 1
  go_wp2_with (fail)
  try rw [hV, hqm]
  try rw [hV]
  try clear hV hqm hpm hszm
  refine (join_any s t ol os ol' os' cl cs cl' cs' hfs hms hmt HLEN.out _ (HR.out.1.1.below encR_len (by decide) HB.out) (HR.out.1.2.below encI_len (by decide) HB.out) (HR.out.2.1.1.below encR_len (by decide) HB.out) (HR.out.2.1.2.below encI_len (by decide) HB.out)).mono ?_
  rintro e v3 ⟨fj, vl, vs, hfj, rfl, hO1, hO2, hB⟩
  have HFJ := Lib.hid hfj
  clear hfj
  obtain ⟨J, hJ⟩ : ∃ R, togR s t fj = R := ⟨_, rfl⟩
  rw [hJ] at hO1 hO2
  try rw [hJ]
  have HJ := Lib.hid hJ
  have HJC := Lib.hid (hJ ▸ togR_cases s t fj)
  clear hJ
  obtain ⟨olj, osj, clj, csj, rfl, rfl, hO⟩ := OB.new (t := J.1) hO1 hO2
  have hszj := hB.size
  have hA := (Below.refl v3.heap.size v3).alloc (Nat.le_refl _) (.cells #[.slice olj (J.1).L.length clj, .slice osj (J.1).S.length csj] 25)
  have hkpj := HK.out
  replace HA := Lib.hid (HA.out.below' hB)
  replace HBb := Lib.hid (HBb.out.below' hB)
  replace HC := Lib.hid (HC.out.below' hB)
  replace HB := Lib.hid (HB.out.trans (hB.mono HB.out.size))
  replace HK := Lib.hid (Nat.le_trans HK.out hB.size)
  replace HOm := Lib.hid (HOm.out.below hB)
  replace HA := Lib.hid (HA.out.below' hA)
  replace HBb := Lib.hid (HBb.out.below' hA)
  replace HC := Lib.hid (HC.out.below' hA)
  replace HB := Lib.hid (HB.out.trans (hA.mono HB.out.size))
  replace HK := Lib.hid (Nat.le_trans HK.out hA.size)
  replace HOm := Lib.hid (HOm.out.below hA)
  obtain ⟨pj, hpj⟩ : ∃ k, Vm.heap.size = k := ⟨_, rfl⟩
  obtain ⟨qj, hqj⟩ : ∃ k, v3.heap.size = k := ⟨_, rfl⟩
  obtain ⟨Vj, hV⟩ : ∃ V, v3.alloc (.cells #[.slice olj (J.1).L.length clj, .slice osj (J.1).S.length csj] 25) = V := ⟨_, rfl⟩
  rw [hV] at HA HBb HC HB HK HOm
  rw [hV, hpj, hqj] at hO
  rw [hpj] at hkpj
  have HOj := Lib.hid hO
  clear hA hO hO1 hO2 hB
  clear HA0 HA1 HBb0 HBb1 HC0 HC1 HOm0 HOm1
  have HA0 : Vj.cell? ⟨w.heap.size, 0, none⟩ = some (.slice ol s.L.length cl) := HA.out.cell 0
  have HA1 : Vj.cell? ⟨w.heap.size, 1, none⟩ = some (.slice os s.S.length cs) := HA.out.cell 1
  have HBb0 : Vj.cell? ⟨w.heap.size + 1, 0, none⟩ = some (.slice ol' t.L.length cl') := HBb.out.cell 0
  have HBb1 : Vj.cell? ⟨w.heap.size + 1, 1, none⟩ = some (.slice os' t.S.length cs') := HBb.out.cell 1
  have HC0 : Vj.cell? ⟨w.heap.size + 2, 0, none⟩ = some (.slice ol'' u.L.length cl'') := HC.out.cell 0
  have HC1 : Vj.cell? ⟨w.heap.size + 2, 1, none⟩ = some (.slice os'' u.S.length cs'') := HC.out.cell 1
  have HOm0 : Vj.cell? ⟨qm, 0, none⟩ = some (.slice olm (M.1).L.length clm) := HOm.out.b.cell 0
  have HOm1 : Vj.cell? ⟨qm, 1, none⟩ = some (.slice osm (M.1).S.length csm) := HOm.out.b.cell 1
  have HOj0 : Vj.cell? ⟨qj, 0, none⟩ = some (.slice olj (J.1).L.length clj) := HOj.out.b.cell 0
  have HOj1 : Vj.cell? ⟨qj, 1, none⟩ = some (.slice osj (J.1).S.length csj) := HOj.out.b.cell 1
  have hml := togR_len2 s t fm
  rw [HM.out] at hml
  have hjl := togR_len2 s t fj
  rw [HJ.out] at hjl
  have HML := Lib.hid (And.intro (by omega : M.1.L.length ≤ 9223372036854775807) (by omega : M.1.S.length ≤ 9223372036854775807))
  have HJL := Lib.hid (And.intro (by omega : J.1.L.length ≤ 9223372036854775807) (by omega : J.1.S.length ≤ 9223372036854775807))
  rcases HMC.out with hm0 | hm0
  · skip
    have m0 : ((M.2 : Int) == 0) = true := by rw [hm0]; rfl
    have HMF := Lib.hid (meet_facts hms HLEN.out HFM.out HM.out hm0)
    clear hm0
    go_wp2_with (fail)
    try rw [hV, hqj]
    try rw [hV]
    try clear hV hqj hpj hszj
    refine (withinE_any M.1 s olm osm ol os clm csm cl cs HMF.out.1 hms ((rfl).trans (HMF.out.2.1).symm) true (HMF.out.2.2.1) _ HOm.out.o.rowL HOm.out.o.rowS (HR.out.1.1.below encR_len (by decide) HB.out) (HR.out.1.2.below encI_len (by decide) HB.out)).mono ?_
    rintro e x1 ⟨rfl, hB⟩
    replace HA := Lib.hid (HA.out.below' hB)
    replace HBb := Lib.hid (HBb.out.below' hB)
    replace HC := Lib.hid (HC.out.below' hB)
    replace HB := Lib.hid (HB.out.trans (hB.mono HB.out.size))
    replace HK := Lib.hid (Nat.le_trans HK.out hB.size)
    replace HOm := Lib.hid (HOm.out.below hB)
    replace HOj := Lib.hid (HOj.out.below hB)
    clear hB
    clear HA0 HA1 HBb0 HBb1 HC0 HC1 HOm0 HOm1 HOj0 HOj1
    have HA0 : x1.cell? ⟨w.heap.size, 0, none⟩ = some (.slice ol s.L.length cl) := HA.out.cell 0
    have HA1 : x1.cell? ⟨w.heap.size, 1, none⟩ = some (.slice os s.S.length cs) := HA.out.cell 1
    have HBb0 : x1.cell? ⟨w.heap.size + 1, 0, none⟩ = some (.slice ol' t.L.length cl') := HBb.out.cell 0
    have HBb1 : x1.cell? ⟨w.heap.size + 1, 1, none⟩ = some (.slice os' t.S.length cs') := HBb.out.cell 1
    have HC0 : x1.cell? ⟨w.heap.size + 2, 0, none⟩ = some (.slice ol'' u.L.length cl'') := HC.out.cell 0
    have HC1 : x1.cell? ⟨w.heap.size + 2, 1, none⟩ = some (.slice os'' u.S.length cs'') := HC.out.cell 1
    have HOm0 : x1.cell? ⟨qm, 0, none⟩ = some (.slice olm (M.1).L.length clm) := HOm.out.b.cell 0
    have HOm1 : x1.cell? ⟨qm, 1, none⟩ = some (.slice osm (M.1).S.length csm) := HOm.out.b.cell 1
    have HOj0 : x1.cell? ⟨qj, 0, none⟩ = some (.slice olj (J.1).L.length clj) := HOj.out.b.cell 0
    have HOj1 : x1.cell? ⟨qj, 1, none⟩ = some (.slice osj (J.1).S.length csj) := HOj.out.b.cell 1
    go_wp2_with (fail)
    refine (withinE_any M.1 t olm osm ol' os' clm csm cl' cs' HMF.out.1 hmt ((HLEN.out).trans (HMF.out.2.1).symm) true (HMF.out.2.2.2.1) _ HOm.out.o.rowL HOm.out.o.rowS (HR.out.2.1.1.below encR_len (by decide) HB.out) (HR.out.2.1.2.below encI_len (by decide) HB.out)).mono ?_
    rintro e x2 ⟨rfl, hB⟩
    replace HA := Lib.hid (HA.out.below' hB)
    replace HBb := Lib.hid (HBb.out.below' hB)
    replace HC := Lib.hid (HC.out.below' hB)
    replace HB := Lib.hid (HB.out.trans (hB.mono HB.out.size))
    replace HK := Lib.hid (Nat.le_trans HK.out hB.size)
    replace HOm := Lib.hid (HOm.out.below hB)
    replace HOj := Lib.hid (HOj.out.below hB)
    clear hB
    clear HA0 HA1 HBb0 HBb1 HC0 HC1 HOm0 HOm1 HOj0 HOj1
    have HA0 : x2.cell? ⟨w.heap.size, 0, none⟩ = some (.slice ol s.L.length cl) := HA.out.cell 0
    have HA1 : x2.cell? ⟨w.heap.size, 1, none⟩ = some (.slice os s.S.length cs) := HA.out.cell 1
    have HBb0 : x2.cell? ⟨w.heap.size + 1, 0, none⟩ = some (.slice ol' t.L.length cl') := HBb.out.cell 0
    have HBb1 : x2.cell? ⟨w.heap.size + 1, 1, none⟩ = some (.slice os' t.S.length cs') := HBb.out.cell 1
    have HC0 : x2.cell? ⟨w.heap.size + 2, 0, none⟩ = some (.slice ol'' u.L.length cl'') := HC.out.cell 0
    have HC1 : x2.cell? ⟨w.heap.size + 2, 1, none⟩ = some (.slice os'' u.S.length cs'') := HC.out.cell 1
    have HOm0 : x2.cell? ⟨qm, 0, none⟩ = some (.slice olm (M.1).L.length clm) := HOm.out.b.cell 0
    have HOm1 : x2.cell? ⟨qm, 1, none⟩ = some (.slice osm (M.1).S.length csm) := HOm.out.b.cell 1
    have HOj0 : x2.cell? ⟨qj, 0, none⟩ = some (.slice olj (J.1).L.length clj) := HOj.out.b.cell 0
    have HOj1 : x2.cell? ⟨qj, 1, none⟩ = some (.slice osj (J.1).S.length csj) := HOj.out.b.cell 1
    have hmE := HMF.out.2.2.2.2 u HU.out.2
    obtain ⟨P1, hP1⟩ : ∃ b, withinB u.L s.L = b := ⟨_, rfl⟩
    obtain ⟨Q1, hQ1⟩ : ∃ b, withinB u.L t.L = b := ⟨_, rfl⟩
    rw [hP1, hQ1] at hmE
    have H1 := Lib.hid (And.intro hP1 (And.intro hQ1 hmE))
    clear hP1 hQ1 hmE
    go_wp2_with (fail)
    refine (withinE_any u s ol'' os'' ol os cl'' cs'' cl cs HU.out.1 hms ((rfl).trans (HU.out.2).symm) P1 (H1.out.1) _ (HR.out.2.2.1.below encR_len (by decide) HB.out) (HR.out.2.2.2.below encI_len (by decide) HB.out) (HR.out.1.1.below encR_len (by decide) HB.out) (HR.out.1.2.below encI_len (by decide) HB.out)).mono ?_
    rintro e x3 ⟨rfl, hB⟩
    replace HA := Lib.hid (HA.out.below' hB)
    replace HBb := Lib.hid (HBb.out.below' hB)
    replace HC := Lib.hid (HC.out.below' hB)
    replace HB := Lib.hid (HB.out.trans (hB.mono HB.out.size))
    replace HK := Lib.hid (Nat.le_trans HK.out hB.size)
    replace HOm := Lib.hid (HOm.out.below hB)
    replace HOj := Lib.hid (HOj.out.below hB)
    clear hB
    clear HA0 HA1 HBb0 HBb1 HC0 HC1 HOm0 HOm1 HOj0 HOj1
    have HA0 : x3.cell? ⟨w.heap.size, 0, none⟩ = some (.slice ol s.L.length cl) := HA.out.cell 0
    have HA1 : x3.cell? ⟨w.heap.size, 1, none⟩ = some (.slice os s.S.length cs) := HA.out.cell 1
    have HBb0 : x3.cell? ⟨w.heap.size + 1, 0, none⟩ = some (.slice ol' t.L.length cl') := HBb.out.cell 0
    have HBb1 : x3.cell? ⟨w.heap.size + 1, 1, none⟩ = some (.slice os' t.S.length cs') := HBb.out.cell 1
    have HC0 : x3.cell? ⟨w.heap.size + 2, 0, none⟩ = some (.slice ol'' u.L.length cl'') := HC.out.cell 0
    have HC1 : x3.cell? ⟨w.heap.size + 2, 1, none⟩ = some (.slice os'' u.S.length cs'') := HC.out.cell 1
    have HOm0 : x3.cell? ⟨qm, 0, none⟩ = some (.slice olm (M.1).L.length clm) := HOm.out.b.cell 0
    have HOm1 : x3.cell? ⟨qm, 1, none⟩ = some (.slice osm (M.1).S.length csm) := HOm.out.b.cell 1
    have HOj0 : x3.cell? ⟨qj, 0, none⟩ = some (.slice olj (J.1).L.length clj) := HOj.out.b.cell 0
    have HOj1 : x3.cell? ⟨qj, 1, none⟩ = some (.slice osj (J.1).S.length csj) := HOj.out.b.cell 1
    go_wp2_with (fail)
    refine (withinE_any u t ol'' os'' ol' os' cl'' cs'' cl' cs' HU.out.1 hmt ((HLEN.out).trans (HU.out.2).symm) Q1 (H1.out.2.1) _ (HR.out.2.2.1.below encR_len (by decide) HB.out) (HR.out.2.2.2.below encI_len (by decide) HB.out) (HR.out.2.1.1.below encR_len (by decide) HB.out) (HR.out.2.1.2.below encI_len (by decide) HB.out)).mono ?_
    rintro e x4 ⟨rfl, hB⟩
    replace HA := Lib.hid (HA.out.below' hB)
    replace HBb := Lib.hid (HBb.out.below' hB)
    replace HC := Lib.hid (HC.out.below' hB)
    replace HB := Lib.hid (HB.out.trans (hB.mono HB.out.size))
    replace HK := Lib.hid (Nat.le_trans HK.out hB.size)
    replace HOm := Lib.hid (HOm.out.below hB)
    replace HOj := Lib.hid (HOj.out.below hB)
    clear hB
    clear HA0 HA1 HBb0 HBb1 HC0 HC1 HOm0 HOm1 HOj0 HOj1
    have HA0 : x4.cell? ⟨w.heap.size, 0, none⟩ = some (.slice ol s.L.length cl) := HA.out.cell 0
    have HA1 : x4.cell? ⟨w.heap.size, 1, none⟩ = some (.slice os s.S.length cs) := HA.out.cell 1
    have HBb0 : x4.cell? ⟨w.heap.size + 1, 0, none⟩ = some (.slice ol' t.L.length cl') := HBb.out.cell 0
    have HBb1 : x4.cell? ⟨w.heap.size + 1, 1, none⟩ = some (.slice os' t.S.length cs') := HBb.out.cell 1
    have HC0 : x4.cell? ⟨w.heap.size + 2, 0, none⟩ = some (.slice ol'' u.L.length cl'') := HC.out.cell 0
    have HC1 : x4.cell? ⟨w.heap.size + 2, 1, none⟩ = some (.slice os'' u.S.length cs'') := HC.out.cell 1
    have HOm0 : x4.cell? ⟨qm, 0, none⟩ = some (.slice olm (M.1).L.length clm) := HOm.out.b.cell 0
    have HOm1 : x4.cell? ⟨qm, 1, none⟩ = some (.slice osm (M.1).S.length csm) := HOm.out.b.cell 1
    have HOj0 : x4.cell? ⟨qj, 0, none⟩ = some (.slice olj (J.1).L.length clj) := HOj.out.b.cell 0
    have HOj1 : x4.cell? ⟨qj, 1, none⟩ = some (.slice osj (J.1).S.length csj) := HOj.out.b.cell 1
    go_wp2_with (fail)
    refine (withinE_any u M.1 ol'' os'' olm osm cl'' cs'' clm csm HU.out.1 HMF.out.1 ((HMF.out.2.1).trans (HU.out.2).symm) (P1 && Q1) (H1.out.2.2) _ (HR.out.2.2.1.below encR_len (by decide) HB.out) (HR.out.2.2.2.below encI_len (by decide) HB.out) HOm.out.o.rowL HOm.out.o.rowS).mono ?_
    rintro e x5 ⟨rfl, hB⟩
    replace HA := Lib.hid (HA.out.below' hB)
    replace HBb := Lib.hid (HBb.out.below' hB)
    replace HC := Lib.hid (HC.out.below' hB)
    replace HB := Lib.hid (HB.out.trans (hB.mono HB.out.size))
    replace HK := Lib.hid (Nat.le_trans HK.out hB.size)
    replace HOm := Lib.hid (HOm.out.below hB)
    replace HOj := Lib.hid (HOj.out.below hB)
    clear hB
    clear HA0 HA1 HBb0 HBb1 HC0 HC1 HOm0 HOm1 HOj0 HOj1
    have HA0 : x5.cell? ⟨w.heap.size, 0, none⟩ = some (.slice ol s.L.length cl) := HA.out.cell 0
    have HA1 : x5.cell? ⟨w.heap.size, 1, none⟩ = some (.slice os s.S.length cs) := HA.out.cell 1
    have HBb0 : x5.cell? ⟨w.heap.size + 1, 0, none⟩ = some (.slice ol' t.L.length cl') := HBb.out.cell 0
    have HBb1 : x5.cell? ⟨w.heap.size + 1, 1, none⟩ = some (.slice os' t.S.length cs') := HBb.out.cell 1
    have HC0 : x5.cell? ⟨w.heap.size + 2, 0, none⟩ = some (.slice ol'' u.L.length cl'') := HC.out.cell 0
    have HC1 : x5.cell? ⟨w.heap.size + 2, 1, none⟩ = some (.slice os'' u.S.length cs'') := HC.out.cell 1
    have HOm0 : x5.cell? ⟨qm, 0, none⟩ = some (.slice olm (M.1).L.length clm) := HOm.out.b.cell 0
    have HOm1 : x5.cell? ⟨qm, 1, none⟩ = some (.slice osm (M.1).S.length csm) := HOm.out.b.cell 1
    have HOj0 : x5.cell? ⟨qj, 0, none⟩ = some (.slice olj (J.1).L.length clj) := HOj.out.b.cell 0
    have HOj1 : x5.cell? ⟨qj, 1, none⟩ = some (.slice osj (J.1).S.length csj) := HOj.out.b.cell 1
    cases P1
    · skip
      simp only [Bool.false_and]
      rcases HJC.out with hj0 | hj0
      · skip
        have j0 : ((J.2 : Int) == 0) = true := by rw [hj0]; rfl
        have HJF := Lib.hid (join_facts hms HLEN.out HFJ.out HJ.out hj0)
        clear hj0
        go_wp2_with (fail)
        refine (withinE_any s J.1 ol os olj osj cl cs clj csj hms HJF.out.1 ((HJF.out.2.1).trans (rfl).symm) true (HJF.out.2.2.1) _ (HR.out.1.1.below encR_len (by decide) HB.out) (HR.out.1.2.below encI_len (by decide) HB.out) HOj.out.o.rowL HOj.out.o.rowS).mono ?_
        rintro e x6 ⟨rfl, hB⟩
        replace HA := Lib.hid (HA.out.below' hB)
        replace HBb := Lib.hid (HBb.out.below' hB)
        replace HC := Lib.hid (HC.out.below' hB)
        replace HB := Lib.hid (HB.out.trans (hB.mono HB.out.size))
        replace HK := Lib.hid (Nat.le_trans HK.out hB.size)
        replace HOm := Lib.hid (HOm.out.below hB)
        replace HOj := Lib.hid (HOj.out.below hB)
        clear hB
        clear HA0 HA1 HBb0 HBb1 HC0 HC1 HOm0 HOm1 HOj0 HOj1
        have HA0 : x6.cell? ⟨w.heap.size, 0, none⟩ = some (.slice ol s.L.length cl) := HA.out.cell 0
        have HA1 : x6.cell? ⟨w.heap.size, 1, none⟩ = some (.slice os s.S.length cs) := HA.out.cell 1
        have HBb0 : x6.cell? ⟨w.heap.size + 1, 0, none⟩ = some (.slice ol' t.L.length cl') := HBb.out.cell 0
        have HBb1 : x6.cell? ⟨w.heap.size + 1, 1, none⟩ = some (.slice os' t.S.length cs') := HBb.out.cell 1
        have HC0 : x6.cell? ⟨w.heap.size + 2, 0, none⟩ = some (.slice ol'' u.L.length cl'') := HC.out.cell 0
        have HC1 : x6.cell? ⟨w.heap.size + 2, 1, none⟩ = some (.slice os'' u.S.length cs'') := HC.out.cell 1
        have HOm0 : x6.cell? ⟨qm, 0, none⟩ = some (.slice olm (M.1).L.length clm) := HOm.out.b.cell 0
        have HOm1 : x6.cell? ⟨qm, 1, none⟩ = some (.slice osm (M.1).S.length csm) := HOm.out.b.cell 1
        have HOj0 : x6.cell? ⟨qj, 0, none⟩ = some (.slice olj (J.1).L.length clj) := HOj.out.b.cell 0
        have HOj1 : x6.cell? ⟨qj, 1, none⟩ = some (.slice osj (J.1).S.length csj) := HOj.out.b.cell 1
        go_wp2_with (fail)
        refine (withinE_any t J.1 ol' os' olj osj cl' cs' clj csj hmt HJF.out.1 ((HJF.out.2.1).trans (HLEN.out).symm) true (HJF.out.2.2.2.1) _ (HR.out.2.1.1.below encR_len (by decide) HB.out) (HR.out.2.1.2.below encI_len (by decide) HB.out) HOj.out.o.rowL HOj.out.o.rowS).mono ?_
        rintro e x7 ⟨rfl, hB⟩
        replace HA := Lib.hid (HA.out.below' hB)
        replace HBb := Lib.hid (HBb.out.below' hB)
        replace HC := Lib.hid (HC.out.below' hB)
        replace HB := Lib.hid (HB.out.trans (hB.mono HB.out.size))
        replace HK := Lib.hid (Nat.le_trans HK.out hB.size)
        replace HOm := Lib.hid (HOm.out.below hB)
        replace HOj := Lib.hid (HOj.out.below hB)
        clear hB
        clear HA0 HA1 HBb0 HBb1 HC0 HC1 HOm0 HOm1 HOj0 HOj1
        have HA0 : x7.cell? ⟨w.heap.size, 0, none⟩ = some (.slice ol s.L.length cl) := HA.out.cell 0
        have HA1 : x7.cell? ⟨w.heap.size, 1, none⟩ = some (.slice os s.S.length cs) := HA.out.cell 1
        have HBb0 : x7.cell? ⟨w.heap.size + 1, 0, none⟩ = some (.slice ol' t.L.length cl') := HBb.out.cell 0
        have HBb1 : x7.cell? ⟨w.heap.size + 1, 1, none⟩ = some (.slice os' t.S.length cs') := HBb.out.cell 1
        have HC0 : x7.cell? ⟨w.heap.size + 2, 0, none⟩ = some (.slice ol'' u.L.length cl'') := HC.out.cell 0
        have HC1 : x7.cell? ⟨w.heap.size + 2, 1, none⟩ = some (.slice os'' u.S.length cs'') := HC.out.cell 1
        have HOm0 : x7.cell? ⟨qm, 0, none⟩ = some (.slice olm (M.1).L.length clm) := HOm.out.b.cell 0
        have HOm1 : x7.cell? ⟨qm, 1, none⟩ = some (.slice osm (M.1).S.length csm) := HOm.out.b.cell 1
        have HOj0 : x7.cell? ⟨qj, 0, none⟩ = some (.slice olj (J.1).L.length clj) := HOj.out.b.cell 0
        have HOj1 : x7.cell? ⟨qj, 1, none⟩ = some (.slice osj (J.1).S.length csj) := HOj.out.b.cell 1
        have hjE := HJF.out.2.2.2.2 u HU.out.2
        obtain ⟨P2, hP2⟩ : ∃ b, withinB s.L u.L = b := ⟨_, rfl⟩
        obtain ⟨Q2, hQ2⟩ : ∃ b, withinB t.L u.L = b := ⟨_, rfl⟩
        rw [hP2, hQ2] at hjE
        have H2 := Lib.hid (And.intro hP2 (And.intro hQ2 hjE))
        clear hP2 hQ2 hjE
        go_wp2_with (fail)
        refine (withinE_any s u ol os ol'' os'' cl cs cl'' cs'' hms HU.out.1 ((HU.out.2).trans (rfl).symm) P2 (H2.out.1) _ (HR.out.1.1.below encR_len (by decide) HB.out) (HR.out.1.2.below encI_len (by decide) HB.out) (HR.out.2.2.1.below encR_len (by decide) HB.out) (HR.out.2.2.2.below encI_len (by decide) HB.out)).mono ?_
        rintro e x8 ⟨rfl, hB⟩
        replace HA := Lib.hid (HA.out.below' hB)
        replace HBb := Lib.hid (HBb.out.below' hB)
        replace HC := Lib.hid (HC.out.below' hB)
        replace HB := Lib.hid (HB.out.trans (hB.mono HB.out.size))
        replace HK := Lib.hid (Nat.le_trans HK.out hB.size)
        replace HOm := Lib.hid (HOm.out.below hB)
        replace HOj := Lib.hid (HOj.out.below hB)
        clear hB
        clear HA0 HA1 HBb0 HBb1 HC0 HC1 HOm0 HOm1 HOj0 HOj1
        have HA0 : x8.cell? ⟨w.heap.size, 0, none⟩ = some (.slice ol s.L.length cl) := HA.out.cell 0
        have HA1 : x8.cell? ⟨w.heap.size, 1, none⟩ = some (.slice os s.S.length cs) := HA.out.cell 1
        have HBb0 : x8.cell? ⟨w.heap.size + 1, 0, none⟩ = some (.slice ol' t.L.length cl') := HBb.out.cell 0
        have HBb1 : x8.cell? ⟨w.heap.size + 1, 1, none⟩ = some (.slice os' t.S.length cs') := HBb.out.cell 1
        have HC0 : x8.cell? ⟨w.heap.size + 2, 0, none⟩ = some (.slice ol'' u.L.length cl'') := HC.out.cell 0
        have HC1 : x8.cell? ⟨w.heap.size + 2, 1, none⟩ = some (.slice os'' u.S.length cs'') := HC.out.cell 1
        have HOm0 : x8.cell? ⟨qm, 0, none⟩ = some (.slice olm (M.1).L.length clm) := HOm.out.b.cell 0
        have HOm1 : x8.cell? ⟨qm, 1, none⟩ = some (.slice osm (M.1).S.length csm) := HOm.out.b.cell 1
        have HOj0 : x8.cell? ⟨qj, 0, none⟩ = some (.slice olj (J.1).L.length clj) := HOj.out.b.cell 0
        have HOj1 : x8.cell? ⟨qj, 1, none⟩ = some (.slice osj (J.1).S.length csj) := HOj.out.b.cell 1
        go_wp2_with (fail)
        refine (withinE_any t u ol' os' ol'' os'' cl' cs' cl'' cs'' hmt HU.out.1 ((HU.out.2).trans (HLEN.out).symm) Q2 (H2.out.2.1) _ (HR.out.2.1.1.below encR_len (by decide) HB.out) (HR.out.2.1.2.below encI_len (by decide) HB.out) (HR.out.2.2.1.below encR_len (by decide) HB.out) (HR.out.2.2.2.below encI_len (by decide) HB.out)).mono ?_
        rintro e x9 ⟨rfl, hB⟩
        replace HA := Lib.hid (HA.out.below' hB)
        replace HBb := Lib.hid (HBb.out.below' hB)
        replace HC := Lib.hid (HC.out.below' hB)
        replace HB := Lib.hid (HB.out.trans (hB.mono HB.out.size))
        replace HK := Lib.hid (Nat.le_trans HK.out hB.size)
        replace HOm := Lib.hid (HOm.out.below hB)
        replace HOj := Lib.hid (HOj.out.below hB)
        clear hB
        clear HA0 HA1 HBb0 HBb1 HC0 HC1 HOm0 HOm1 HOj0 HOj1
        have HA0 : x9.cell? ⟨w.heap.size, 0, none⟩ = some (.slice ol s.L.length cl) := HA.out.cell 0
        have HA1 : x9.cell? ⟨w.heap.size, 1, none⟩ = some (.slice os s.S.length cs) := HA.out.cell 1
        have HBb0 : x9.cell? ⟨w.heap.size + 1, 0, none⟩ = some (.slice ol' t.L.length cl') := HBb.out.cell 0
        have HBb1 : x9.cell? ⟨w.heap.size + 1, 1, none⟩ = some (.slice os' t.S.length cs') := HBb.out.cell 1
        have HC0 : x9.cell? ⟨w.heap.size + 2, 0, none⟩ = some (.slice ol'' u.L.length cl'') := HC.out.cell 0
        have HC1 : x9.cell? ⟨w.heap.size + 2, 1, none⟩ = some (.slice os'' u.S.length cs'') := HC.out.cell 1
        have HOm0 : x9.cell? ⟨qm, 0, none⟩ = some (.slice olm (M.1).L.length clm) := HOm.out.b.cell 0
        have HOm1 : x9.cell? ⟨qm, 1, none⟩ = some (.slice osm (M.1).S.length csm) := HOm.out.b.cell 1
        have HOj0 : x9.cell? ⟨qj, 0, none⟩ = some (.slice olj (J.1).L.length clj) := HOj.out.b.cell 0
        have HOj1 : x9.cell? ⟨qj, 1, none⟩ = some (.slice osj (J.1).S.length csj) := HOj.out.b.cell 1
        go_wp2_with (fail)
        refine (withinE_any J.1 u olj osj ol'' os'' clj csj cl'' cs'' HJF.out.1 HU.out.1 ((HU.out.2).trans (HJF.out.2.1).symm) (P2 && Q2) (H2.out.2.2) _ HOj.out.o.rowL HOj.out.o.rowS (HR.out.2.2.1.below encR_len (by decide) HB.out) (HR.out.2.2.2.below encI_len (by decide) HB.out)).mono ?_
        rintro e x10 ⟨rfl, hB⟩
        replace HA := Lib.hid (HA.out.below' hB)
        replace HBb := Lib.hid (HBb.out.below' hB)
        replace HC := Lib.hid (HC.out.below' hB)
        replace HB := Lib.hid (HB.out.trans (hB.mono HB.out.size))
        replace HK := Lib.hid (Nat.le_trans HK.out hB.size)
        replace HOm := Lib.hid (HOm.out.below hB)
        replace HOj := Lib.hid (HOj.out.below hB)
        clear hB
        clear HA0 HA1 HBb0 HBb1 HC0 HC1 HOm0 HOm1 HOj0 HOj1
        have HA0 : x10.cell? ⟨w.heap.size, 0, none⟩ = some (.slice ol s.L.length cl) := HA.out.cell 0
        have HA1 : x10.cell? ⟨w.heap.size, 1, none⟩ = some (.slice os s.S.length cs) := HA.out.cell 1
        have HBb0 : x10.cell? ⟨w.heap.size + 1, 0, none⟩ = some (.slice ol' t.L.length cl') := HBb.out.cell 0
        have HBb1 : x10.cell? ⟨w.heap.size + 1, 1, none⟩ = some (.slice os' t.S.length cs') := HBb.out.cell 1
        have HC0 : x10.cell? ⟨w.heap.size + 2, 0, none⟩ = some (.slice ol'' u.L.length cl'') := HC.out.cell 0
        have HC1 : x10.cell? ⟨w.heap.size + 2, 1, none⟩ = some (.slice os'' u.S.length cs'') := HC.out.cell 1
        have HOm0 : x10.cell? ⟨qm, 0, none⟩ = some (.slice olm (M.1).L.length clm) := HOm.out.b.cell 0
        have HOm1 : x10.cell? ⟨qm, 1, none⟩ = some (.slice osm (M.1).S.length csm) := HOm.out.b.cell 1
        have HOj0 : x10.cell? ⟨qj, 0, none⟩ = some (.slice olj (J.1).L.length clj) := HOj.out.b.cell 0
        have HOj1 : x10.cell? ⟨qj, 1, none⟩ = some (.slice osj (J.1).S.length csj) := HOj.out.b.cell 1
        cases P2
        · skip
          simp only [Bool.false_and]
          go_wp2_with (fail)
          refine (wakes_any _).mono ?_
          rintro e x11 ⟨rfl, hB⟩
          replace HA := Lib.hid (HA.out.below' hB)
          replace HBb := Lib.hid (HBb.out.below' hB)
          replace HC := Lib.hid (HC.out.below' hB)
          replace HB := Lib.hid (HB.out.trans (hB.mono HB.out.size))
          replace HK := Lib.hid (Nat.le_trans HK.out hB.size)
          replace HOm := Lib.hid (HOm.out.below hB)
          replace HOj := Lib.hid (HOj.out.below hB)
          clear hB
          clear HA0 HA1 HBb0 HBb1 HC0 HC1 HOm0 HOm1 HOj0 HOj1
          go_wp2
          go_ret
          exact ⟨rfl, HB.out⟩
        · skip
          simp only [Bool.true_and]
          go_wp2_with (fail)
          refine (wakes_any _).mono ?_
          rintro e x11 ⟨rfl, hB⟩
          replace HA := Lib.hid (HA.out.below' hB)
          replace HBb := Lib.hid (HBb.out.below' hB)
          replace HC := Lib.hid (HC.out.below' hB)
          replace HB := Lib.hid (HB.out.trans (hB.mono HB.out.size))
          replace HK := Lib.hid (Nat.le_trans HK.out hB.size)
          replace HOm := Lib.hid (HOm.out.below hB)
          replace HOj := Lib.hid (HOj.out.below hB)
          clear hB
          clear HA0 HA1 HBb0 HBb1 HC0 HC1 HOm0 HOm1 HOj0 HOj1
          go_wp2
          go_ret
          exact ⟨rfl, HB.out⟩
      · skip
        have j0 : ((J.2 : Int) == 0) = false := by rw [hj0]; rfl
        clear hj0
        go_wp2_with (fail)
        refine (wakes_any _).mono ?_
        rintro e x6 ⟨rfl, hB⟩
        replace HA := Lib.hid (HA.out.below' hB)
        replace HBb := Lib.hid (HBb.out.below' hB)
        replace HC := Lib.hid (HC.out.below' hB)
        replace HB := Lib.hid (HB.out.trans (hB.mono HB.out.size))
        replace HK := Lib.hid (Nat.le_trans HK.out hB.size)
        replace HOm := Lib.hid (HOm.out.below hB)
        replace HOj := Lib.hid (HOj.out.below hB)
        clear hB
        clear HA0 HA1 HBb0 HBb1 HC0 HC1 HOm0 HOm1 HOj0 HOj1
        go_wp2
        go_ret
        exact ⟨rfl, HB.out⟩
    · skip
      simp only [Bool.true_and]
      rcases HJC.out with hj0 | hj0
      · skip
        have j0 : ((J.2 : Int) == 0) = true := by rw [hj0]; rfl
        have HJF := Lib.hid (join_facts hms HLEN.out HFJ.out HJ.out hj0)
        clear hj0
        go_wp2_with (fail)
        refine (withinE_any s J.1 ol os olj osj cl cs clj csj hms HJF.out.1 ((HJF.out.2.1).trans (rfl).symm) true (HJF.out.2.2.1) _ (HR.out.1.1.below encR_len (by decide) HB.out) (HR.out.1.2.below encI_len (by decide) HB.out) HOj.out.o.rowL HOj.out.o.rowS).mono ?_
        rintro e x6 ⟨rfl, hB⟩
        replace HA := Lib.hid (HA.out.below' hB)
        replace HBb := Lib.hid (HBb.out.below' hB)
        replace HC := Lib.hid (HC.out.below' hB)
        replace HB := Lib.hid (HB.out.trans (hB.mono HB.out.size))
        replace HK := Lib.hid (Nat.le_trans HK.out hB.size)
        replace HOm := Lib.hid (HOm.out.below hB)
        replace HOj := Lib.hid (HOj.out.below hB)
        clear hB
        clear HA0 HA1 HBb0 HBb1 HC0 HC1 HOm0 HOm1 HOj0 HOj1
        have HA0 : x6.cell? ⟨w.heap.size, 0, none⟩ = some (.slice ol s.L.length cl) := HA.out.cell 0
        have HA1 : x6.cell? ⟨w.heap.size, 1, none⟩ = some (.slice os s.S.length cs) := HA.out.cell 1
        have HBb0 : x6.cell? ⟨w.heap.size + 1, 0, none⟩ = some (.slice ol' t.L.length cl') := HBb.out.cell 0
        have HBb1 : x6.cell? ⟨w.heap.size + 1, 1, none⟩ = some (.slice os' t.S.length cs') := HBb.out.cell 1
        have HC0 : x6.cell? ⟨w.heap.size + 2, 0, none⟩ = some (.slice ol'' u.L.length cl'') := HC.out.cell 0
        have HC1 : x6.cell? ⟨w.heap.size + 2, 1, none⟩ = some (.slice os'' u.S.length cs'') := HC.out.cell 1
        have HOm0 : x6.cell? ⟨qm, 0, none⟩ = some (.slice olm (M.1).L.length clm) := HOm.out.b.cell 0
        have HOm1 : x6.cell? ⟨qm, 1, none⟩ = some (.slice osm (M.1).S.length csm) := HOm.out.b.cell 1
        have HOj0 : x6.cell? ⟨qj, 0, none⟩ = some (.slice olj (J.1).L.length clj) := HOj.out.b.cell 0
        have HOj1 : x6.cell? ⟨qj, 1, none⟩ = some (.slice osj (J.1).S.length csj) := HOj.out.b.cell 1
        go_wp2_with (fail)
        refine (withinE_any t J.1 ol' os' olj osj cl' cs' clj csj hmt HJF.out.1 ((HJF.out.2.1).trans (HLEN.out).symm) true (HJF.out.2.2.2.1) _ (HR.out.2.1.1.below encR_len (by decide) HB.out) (HR.out.2.1.2.below encI_len (by decide) HB.out) HOj.out.o.rowL HOj.out.o.rowS).mono ?_
        rintro e x7 ⟨rfl, hB⟩
        replace HA := Lib.hid (HA.out.below' hB)
        replace HBb := Lib.hid (HBb.out.below' hB)
        replace HC := Lib.hid (HC.out.below' hB)
        replace HB := Lib.hid (HB.out.trans (hB.mono HB.out.size))
        replace HK := Lib.hid (Nat.le_trans HK.out hB.size)
        replace HOm := Lib.hid (HOm.out.below hB)
        replace HOj := Lib.hid (HOj.out.below hB)
        clear hB
        clear HA0 HA1 HBb0 HBb1 HC0 HC1 HOm0 HOm1 HOj0 HOj1
        have HA0 : x7.cell? ⟨w.heap.size, 0, none⟩ = some (.slice ol s.L.length cl) := HA.out.cell 0
        have HA1 : x7.cell? ⟨w.heap.size, 1, none⟩ = some (.slice os s.S.length cs) := HA.out.cell 1
        have HBb0 : x7.cell? ⟨w.heap.size + 1, 0, none⟩ = some (.slice ol' t.L.length cl') := HBb.out.cell 0
        have HBb1 : x7.cell? ⟨w.heap.size + 1, 1, none⟩ = some (.slice os' t.S.length cs') := HBb.out.cell 1
        have HC0 : x7.cell? ⟨w.heap.size + 2, 0, none⟩ = some (.slice ol'' u.L.length cl'') := HC.out.cell 0
        have HC1 : x7.cell? ⟨w.heap.size + 2, 1, none⟩ = some (.slice os'' u.S.length cs'') := HC.out.cell 1
        have HOm0 : x7.cell? ⟨qm, 0, none⟩ = some (.slice olm (M.1).L.length clm) := HOm.out.b.cell 0
        have HOm1 : x7.cell? ⟨qm, 1, none⟩ = some (.slice osm (M.1).S.length csm) := HOm.out.b.cell 1
        have HOj0 : x7.cell? ⟨qj, 0, none⟩ = some (.slice olj (J.1).L.length clj) := HOj.out.b.cell 0
        have HOj1 : x7.cell? ⟨qj, 1, none⟩ = some (.slice osj (J.1).S.length csj) := HOj.out.b.cell 1
        have hjE := HJF.out.2.2.2.2 u HU.out.2
        obtain ⟨P2, hP2⟩ : ∃ b, withinB s.L u.L = b := ⟨_, rfl⟩
        obtain ⟨Q2, hQ2⟩ : ∃ b, withinB t.L u.L = b := ⟨_, rfl⟩
        rw [hP2, hQ2] at hjE
        have H2 := Lib.hid (And.intro hP2 (And.intro hQ2 hjE))
        clear hP2 hQ2 hjE
        go_wp2_with (fail)
        refine (withinE_any s u ol os ol'' os'' cl cs cl'' cs'' hms HU.out.1 ((HU.out.2).trans (rfl).symm) P2 (H2.out.1) _ (HR.out.1.1.below encR_len (by decide) HB.out) (HR.out.1.2.below encI_len (by decide) HB.out) (HR.out.2.2.1.below encR_len (by decide) HB.out) (HR.out.2.2.2.below encI_len (by decide) HB.out)).mono ?_
        rintro e x8 ⟨rfl, hB⟩
        replace HA := Lib.hid (HA.out.below' hB)
        replace HBb := Lib.hid (HBb.out.below' hB)
        replace HC := Lib.hid (HC.out.below' hB)
        replace HB := Lib.hid (HB.out.trans (hB.mono HB.out.size))
        replace HK := Lib.hid (Nat.le_trans HK.out hB.size)
        replace HOm := Lib.hid (HOm.out.below hB)
        replace HOj := Lib.hid (HOj.out.below hB)
        clear hB
        clear HA0 HA1 HBb0 HBb1 HC0 HC1 HOm0 HOm1 HOj0 HOj1
        have HA0 : x8.cell? ⟨w.heap.size, 0, none⟩ = some (.slice ol s.L.length cl) := HA.out.cell 0
        have HA1 : x8.cell? ⟨w.heap.size, 1, none⟩ = some (.slice os s.S.length cs) := HA.out.cell 1
        have HBb0 : x8.cell? ⟨w.heap.size + 1, 0, none⟩ = some (.slice ol' t.L.length cl') := HBb.out.cell 0
        have HBb1 : x8.cell? ⟨w.heap.size + 1, 1, none⟩ = some (.slice os' t.S.length cs') := HBb.out.cell 1
        have HC0 : x8.cell? ⟨w.heap.size + 2, 0, none⟩ = some (.slice ol'' u.L.length cl'') := HC.out.cell 0
        have HC1 : x8.cell? ⟨w.heap.size + 2, 1, none⟩ = some (.slice os'' u.S.length cs'') := HC.out.cell 1
        have HOm0 : x8.cell? ⟨qm, 0, none⟩ = some (.slice olm (M.1).L.length clm) := HOm.out.b.cell 0
        have HOm1 : x8.cell? ⟨qm, 1, none⟩ = some (.slice osm (M.1).S.length csm) := HOm.out.b.cell 1
        have HOj0 : x8.cell? ⟨qj, 0, none⟩ = some (.slice olj (J.1).L.length clj) := HOj.out.b.cell 0
        have HOj1 : x8.cell? ⟨qj, 1, none⟩ = some (.slice osj (J.1).S.length csj) := HOj.out.b.cell 1
        go_wp2_with (fail)
        refine (withinE_any t u ol' os' ol'' os'' cl' cs' cl'' cs'' hmt HU.out.1 ((HU.out.2).trans (HLEN.out).symm) Q2 (H2.out.2.1) _ (HR.out.2.1.1.below encR_len (by decide) HB.out) (HR.out.2.1.2.below encI_len (by decide) HB.out) (HR.out.2.2.1.below encR_len (by decide) HB.out) (HR.out.2.2.2.below encI_len (by decide) HB.out)).mono ?_
        rintro e x9 ⟨rfl, hB⟩
        replace HA := Lib.hid (HA.out.below' hB)
        replace HBb := Lib.hid (HBb.out.below' hB)
        replace HC := Lib.hid (HC.out.below' hB)
        replace HB := Lib.hid (HB.out.trans (hB.mono HB.out.size))
        replace HK := Lib.hid (Nat.le_trans HK.out hB.size)
        replace HOm := Lib.hid (HOm.out.below hB)
        replace HOj := Lib.hid (HOj.out.below hB)
        clear hB
        clear HA0 HA1 HBb0 HBb1 HC0 HC1 HOm0 HOm1 HOj0 HOj1
        have HA0 : x9.cell? ⟨w.heap.size, 0, none⟩ = some (.slice ol s.L.length cl) := HA.out.cell 0
        have HA1 : x9.cell? ⟨w.heap.size, 1, none⟩ = some (.slice os s.S.length cs) := HA.out.cell 1
        have HBb0 : x9.cell? ⟨w.heap.size + 1, 0, none⟩ = some (.slice ol' t.L.length cl') := HBb.out.cell 0
        have HBb1 : x9.cell? ⟨w.heap.size + 1, 1, none⟩ = some (.slice os' t.S.length cs') := HBb.out.cell 1
        have HC0 : x9.cell? ⟨w.heap.size + 2, 0, none⟩ = some (.slice ol'' u.L.length cl'') := HC.out.cell 0
        have HC1 : x9.cell? ⟨w.heap.size + 2, 1, none⟩ = some (.slice os'' u.S.length cs'') := HC.out.cell 1
        have HOm0 : x9.cell? ⟨qm, 0, none⟩ = some (.slice olm (M.1).L.length clm) := HOm.out.b.cell 0
        have HOm1 : x9.cell? ⟨qm, 1, none⟩ = some (.slice osm (M.1).S.length csm) := HOm.out.b.cell 1
        have HOj0 : x9.cell? ⟨qj, 0, none⟩ = some (.slice olj (J.1).L.length clj) := HOj.out.b.cell 0
        have HOj1 : x9.cell? ⟨qj, 1, none⟩ = some (.slice osj (J.1).S.length csj) := HOj.out.b.cell 1
        go_wp2_with (fail)
        refine (withinE_any J.1 u olj osj ol'' os'' clj csj cl'' cs'' HJF.out.1 HU.out.1 ((HU.out.2).trans (HJF.out.2.1).symm) (P2 && Q2) (H2.out.2.2) _ HOj.out.o.rowL HOj.out.o.rowS (HR.out.2.2.1.below encR_len (by decide) HB.out) (HR.out.2.2.2.below encI_len (by decide) HB.out)).mono ?_
        rintro e x10 ⟨rfl, hB⟩
        replace HA := Lib.hid (HA.out.below' hB)
        replace HBb := Lib.hid (HBb.out.below' hB)
        replace HC := Lib.hid (HC.out.below' hB)
        replace HB := Lib.hid (HB.out.trans (hB.mono HB.out.size))
        replace HK := Lib.hid (Nat.le_trans HK.out hB.size)
        replace HOm := Lib.hid (HOm.out.below hB)
        replace HOj := Lib.hid (HOj.out.below hB)
        clear hB
        clear HA0 HA1 HBb0 HBb1 HC0 HC1 HOm0 HOm1 HOj0 HOj1
        have HA0 : x10.cell? ⟨w.heap.size, 0, none⟩ = some (.slice ol s.L.length cl) := HA.out.cell 0
        have HA1 : x10.cell? ⟨w.heap.size, 1, none⟩ = some (.slice os s.S.length cs) := HA.out.cell 1
        have HBb0 : x10.cell? ⟨w.heap.size + 1, 0, none⟩ = some (.slice ol' t.L.length cl') := HBb.out.cell 0
        have HBb1 : x10.cell? ⟨w.heap.size + 1, 1, none⟩ = some (.slice os' t.S.length cs') := HBb.out.cell 1
        have HC0 : x10.cell? ⟨w.heap.size + 2, 0, none⟩ = some (.slice ol'' u.L.length cl'') := HC.out.cell 0
        have HC1 : x10.cell? ⟨w.heap.size + 2, 1, none⟩ = some (.slice os'' u.S.length cs'') := HC.out.cell 1
        have HOm0 : x10.cell? ⟨qm, 0, none⟩ = some (.slice olm (M.1).L.length clm) := HOm.out.b.cell 0
        have HOm1 : x10.cell? ⟨qm, 1, none⟩ = some (.slice osm (M.1).S.length csm) := HOm.out.b.cell 1
        have HOj0 : x10.cell? ⟨qj, 0, none⟩ = some (.slice olj (J.1).L.length clj) := HOj.out.b.cell 0
        have HOj1 : x10.cell? ⟨qj, 1, none⟩ = some (.slice osj (J.1).S.length csj) := HOj.out.b.cell 1
        cases P2
        · skip
          simp only [Bool.false_and]
          go_wp2_with (fail)
          refine (wakes_any _).mono ?_
          rintro e x11 ⟨rfl, hB⟩
          replace HA := Lib.hid (HA.out.below' hB)
          replace HBb := Lib.hid (HBb.out.below' hB)
          replace HC := Lib.hid (HC.out.below' hB)
          replace HB := Lib.hid (HB.out.trans (hB.mono HB.out.size))
          replace HK := Lib.hid (Nat.le_trans HK.out hB.size)
          replace HOm := Lib.hid (HOm.out.below hB)
          replace HOj := Lib.hid (HOj.out.below hB)
          clear hB
          clear HA0 HA1 HBb0 HBb1 HC0 HC1 HOm0 HOm1 HOj0 HOj1
          go_wp2
          go_ret
          exact ⟨rfl, HB.out⟩
        · skip
          simp only [Bool.true_and]
          go_wp2_with (fail)
          refine (wakes_any _).mono ?_
          rintro e x11 ⟨rfl, hB⟩
          replace HA := Lib.hid (HA.out.below' hB)
          replace HBb := Lib.hid (HBb.out.below' hB)
          replace HC := Lib.hid (HC.out.below' hB)
          replace HB := Lib.hid (HB.out.trans (hB.mono HB.out.size))
          replace HK := Lib.hid (Nat.le_trans HK.out hB.size)
          replace HOm := Lib.hid (HOm.out.below hB)
          replace HOj := Lib.hid (HOj.out.below hB)
          clear hB
          clear HA0 HA1 HBb0 HBb1 HC0 HC1 HOm0 HOm1 HOj0 HOj1
          go_wp2
          go_ret
          exact ⟨rfl, HB.out⟩
      · skip
        have j0 : ((J.2 : Int) == 0) = false := by rw [hj0]; rfl
        clear hj0
        go_wp2_with (fail)
        refine (wakes_any _).mono ?_
        rintro e x6 ⟨rfl, hB⟩
        replace HA := Lib.hid (HA.out.below' hB)
        replace HBb := Lib.hid (HBb.out.below' hB)
        replace HC := Lib.hid (HC.out.below' hB)
        replace HB := Lib.hid (HB.out.trans (hB.mono HB.out.size))
        replace HK := Lib.hid (Nat.le_trans HK.out hB.size)
        replace HOm := Lib.hid (HOm.out.below hB)
        replace HOj := Lib.hid (HOj.out.below hB)
        clear hB
        clear HA0 HA1 HBb0 HBb1 HC0 HC1 HOm0 HOm1 HOj0 HOj1
        go_wp2
        go_ret
        exact ⟨rfl, HB.out⟩
  · skip
    have m0 : ((M.2 : Int) == 0) = false := by rw [hm0]; rfl
    clear hm0
    rcases HJC.out with hj0 | hj0
    · skip
      have j0 : ((J.2 : Int) == 0) = true := by rw [hj0]; rfl
      have HJF := Lib.hid (join_facts hms HLEN.out HFJ.out HJ.out hj0)
      clear hj0
      go_wp2_with (fail)
      try rw [hV, hqj]
      try rw [hV]
      try clear hV hqj hpj hszj
      refine (withinE_any s J.1 ol os olj osj cl cs clj csj hms HJF.out.1 ((HJF.out.2.1).trans (rfl).symm) true (HJF.out.2.2.1) _ (HR.out.1.1.below encR_len (by decide) HB.out) (HR.out.1.2.below encI_len (by decide) HB.out) HOj.out.o.rowL HOj.out.o.rowS).mono ?_
      rintro e x1 ⟨rfl, hB⟩
      replace HA := Lib.hid (HA.out.below' hB)
      replace HBb := Lib.hid (HBb.out.below' hB)
      replace HC := Lib.hid (HC.out.below' hB)
      replace HB := Lib.hid (HB.out.trans (hB.mono HB.out.size))
      replace HK := Lib.hid (Nat.le_trans HK.out hB.size)
      replace HOm := Lib.hid (HOm.out.below hB)
      replace HOj := Lib.hid (HOj.out.below hB)
      clear hB
      clear HA0 HA1 HBb0 HBb1 HC0 HC1 HOm0 HOm1 HOj0 HOj1
      have HA0 : x1.cell? ⟨w.heap.size, 0, none⟩ = some (.slice ol s.L.length cl) := HA.out.cell 0
      have HA1 : x1.cell? ⟨w.heap.size, 1, none⟩ = some (.slice os s.S.length cs) := HA.out.cell 1
      have HBb0 : x1.cell? ⟨w.heap.size + 1, 0, none⟩ = some (.slice ol' t.L.length cl') := HBb.out.cell 0
      have HBb1 : x1.cell? ⟨w.heap.size + 1, 1, none⟩ = some (.slice os' t.S.length cs') := HBb.out.cell 1
      have HC0 : x1.cell? ⟨w.heap.size + 2, 0, none⟩ = some (.slice ol'' u.L.length cl'') := HC.out.cell 0
      have HC1 : x1.cell? ⟨w.heap.size + 2, 1, none⟩ = some (.slice os'' u.S.length cs'') := HC.out.cell 1
      have HOm0 : x1.cell? ⟨qm, 0, none⟩ = some (.slice olm (M.1).L.length clm) := HOm.out.b.cell 0
      have HOm1 : x1.cell? ⟨qm, 1, none⟩ = some (.slice osm (M.1).S.length csm) := HOm.out.b.cell 1
      have HOj0 : x1.cell? ⟨qj, 0, none⟩ = some (.slice olj (J.1).L.length clj) := HOj.out.b.cell 0
      have HOj1 : x1.cell? ⟨qj, 1, none⟩ = some (.slice osj (J.1).S.length csj) := HOj.out.b.cell 1
      go_wp2_with (fail)
      refine (withinE_any t J.1 ol' os' olj osj cl' cs' clj csj hmt HJF.out.1 ((HJF.out.2.1).trans (HLEN.out).symm) true (HJF.out.2.2.2.1) _ (HR.out.2.1.1.below encR_len (by decide) HB.out) (HR.out.2.1.2.below encI_len (by decide) HB.out) HOj.out.o.rowL HOj.out.o.rowS).mono ?_
      rintro e x2 ⟨rfl, hB⟩
      replace HA := Lib.hid (HA.out.below' hB)
      replace HBb := Lib.hid (HBb.out.below' hB)
      replace HC := Lib.hid (HC.out.below' hB)
      replace HB := Lib.hid (HB.out.trans (hB.mono HB.out.size))
      replace HK := Lib.hid (Nat.le_trans HK.out hB.size)
      replace HOm := Lib.hid (HOm.out.below hB)
      replace HOj := Lib.hid (HOj.out.below hB)
      clear hB
      clear HA0 HA1 HBb0 HBb1 HC0 HC1 HOm0 HOm1 HOj0 HOj1
      have HA0 : x2.cell? ⟨w.heap.size, 0, none⟩ = some (.slice ol s.L.length cl) := HA.out.cell 0
      have HA1 : x2.cell? ⟨w.heap.size, 1, none⟩ = some (.slice os s.S.length cs) := HA.out.cell 1
      have HBb0 : x2.cell? ⟨w.heap.size + 1, 0, none⟩ = some (.slice ol' t.L.length cl') := HBb.out.cell 0
      have HBb1 : x2.cell? ⟨w.heap.size + 1, 1, none⟩ = some (.slice os' t.S.length cs') := HBb.out.cell 1
      have HC0 : x2.cell? ⟨w.heap.size + 2, 0, none⟩ = some (.slice ol'' u.L.length cl'') := HC.out.cell 0
      have HC1 : x2.cell? ⟨w.heap.size + 2, 1, none⟩ = some (.slice os'' u.S.length cs'') := HC.out.cell 1
      have HOm0 : x2.cell? ⟨qm, 0, none⟩ = some (.slice olm (M.1).L.length clm) := HOm.out.b.cell 0
      have HOm1 : x2.cell? ⟨qm, 1, none⟩ = some (.slice osm (M.1).S.length csm) := HOm.out.b.cell 1
      have HOj0 : x2.cell? ⟨qj, 0, none⟩ = some (.slice olj (J.1).L.length clj) := HOj.out.b.cell 0
      have HOj1 : x2.cell? ⟨qj, 1, none⟩ = some (.slice osj (J.1).S.length csj) := HOj.out.b.cell 1
      have hjE := HJF.out.2.2.2.2 u HU.out.2
      obtain ⟨P2, hP2⟩ : ∃ b, withinB s.L u.L = b := ⟨_, rfl⟩
      obtain ⟨Q2, hQ2⟩ : ∃ b, withinB t.L u.L = b := ⟨_, rfl⟩
      rw [hP2, hQ2] at hjE
      have H2 := Lib.hid (And.intro hP2 (And.intro hQ2 hjE))
      clear hP2 hQ2 hjE
      go_wp2_with (fail)
      refine (withinE_any s u ol os ol'' os'' cl cs cl'' cs'' hms HU.out.1 ((HU.out.2).trans (rfl).symm) P2 (H2.out.1) _ (HR.out.1.1.below encR_len (by decide) HB.out) (HR.out.1.2.below encI_len (by decide) HB.out) (HR.out.2.2.1.below encR_len (by decide) HB.out) (HR.out.2.2.2.below encI_len (by decide) HB.out)).mono ?_
      rintro e x3 ⟨rfl, hB⟩
      replace HA := Lib.hid (HA.out.below' hB)
      replace HBb := Lib.hid (HBb.out.below' hB)
      replace HC := Lib.hid (HC.out.below' hB)
      replace HB := Lib.hid (HB.out.trans (hB.mono HB.out.size))
      replace HK := Lib.hid (Nat.le_trans HK.out hB.size)
      replace HOm := Lib.hid (HOm.out.below hB)
      replace HOj := Lib.hid (HOj.out.below hB)
      clear hB
      clear HA0 HA1 HBb0 HBb1 HC0 HC1 HOm0 HOm1 HOj0 HOj1
      have HA0 : x3.cell? ⟨w.heap.size, 0, none⟩ = some (.slice ol s.L.length cl) := HA.out.cell 0
      have HA1 : x3.cell? ⟨w.heap.size, 1, none⟩ = some (.slice os s.S.length cs) := HA.out.cell 1
      have HBb0 : x3.cell? ⟨w.heap.size + 1, 0, none⟩ = some (.slice ol' t.L.length cl') := HBb.out.cell 0
      have HBb1 : x3.cell? ⟨w.heap.size + 1, 1, none⟩ = some (.slice os' t.S.length cs') := HBb.out.cell 1
      have HC0 : x3.cell? ⟨w.heap.size + 2, 0, none⟩ = some (.slice ol'' u.L.length cl'') := HC.out.cell 0
      have HC1 : x3.cell? ⟨w.heap.size + 2, 1, none⟩ = some (.slice os'' u.S.length cs'') := HC.out.cell 1
      have HOm0 : x3.cell? ⟨qm, 0, none⟩ = some (.slice olm (M.1).L.length clm) := HOm.out.b.cell 0
      have HOm1 : x3.cell? ⟨qm, 1, none⟩ = some (.slice osm (M.1).S.length csm) := HOm.out.b.cell 1
      have HOj0 : x3.cell? ⟨qj, 0, none⟩ = some (.slice olj (J.1).L.length clj) := HOj.out.b.cell 0
      have HOj1 : x3.cell? ⟨qj, 1, none⟩ = some (.slice osj (J.1).S.length csj) := HOj.out.b.cell 1
      go_wp2_with (fail)
      refine (withinE_any t u ol' os' ol'' os'' cl' cs' cl'' cs'' hmt HU.out.1 ((HU.out.2).trans (HLEN.out).symm) Q2 (H2.out.2.1) _ (HR.out.2.1.1.below encR_len (by decide) HB.out) (HR.out.2.1.2.below encI_len (by decide) HB.out) (HR.out.2.2.1.below encR_len (by decide) HB.out) (HR.out.2.2.2.below encI_len (by decide) HB.out)).mono ?_
      rintro e x4 ⟨rfl, hB⟩
      replace HA := Lib.hid (HA.out.below' hB)
      replace HBb := Lib.hid (HBb.out.below' hB)
      replace HC := Lib.hid (HC.out.below' hB)
      replace HB := Lib.hid (HB.out.trans (hB.mono HB.out.size))
      replace HK := Lib.hid (Nat.le_trans HK.out hB.size)
      replace HOm := Lib.hid (HOm.out.below hB)
      replace HOj := Lib.hid (HOj.out.below hB)
      clear hB
      clear HA0 HA1 HBb0 HBb1 HC0 HC1 HOm0 HOm1 HOj0 HOj1
      have HA0 : x4.cell? ⟨w.heap.size, 0, none⟩ = some (.slice ol s.L.length cl) := HA.out.cell 0
      have HA1 : x4.cell? ⟨w.heap.size, 1, none⟩ = some (.slice os s.S.length cs) := HA.out.cell 1
      have HBb0 : x4.cell? ⟨w.heap.size + 1, 0, none⟩ = some (.slice ol' t.L.length cl') := HBb.out.cell 0
      have HBb1 : x4.cell? ⟨w.heap.size + 1, 1, none⟩ = some (.slice os' t.S.length cs') := HBb.out.cell 1
      have HC0 : x4.cell? ⟨w.heap.size + 2, 0, none⟩ = some (.slice ol'' u.L.length cl'') := HC.out.cell 0
      have HC1 : x4.cell? ⟨w.heap.size + 2, 1, none⟩ = some (.slice os'' u.S.length cs'') := HC.out.cell 1
      have HOm0 : x4.cell? ⟨qm, 0, none⟩ = some (.slice olm (M.1).L.length clm) := HOm.out.b.cell 0
      have HOm1 : x4.cell? ⟨qm, 1, none⟩ = some (.slice osm (M.1).S.length csm) := HOm.out.b.cell 1
      have HOj0 : x4.cell? ⟨qj, 0, none⟩ = some (.slice olj (J.1).L.length clj) := HOj.out.b.cell 0
      have HOj1 : x4.cell? ⟨qj, 1, none⟩ = some (.slice osj (J.1).S.length csj) := HOj.out.b.cell 1
      go_wp2_with (fail)
      refine (withinE_any J.1 u olj osj ol'' os'' clj csj cl'' cs'' HJF.out.1 HU.out.1 ((HU.out.2).trans (HJF.out.2.1).symm) (P2 && Q2) (H2.out.2.2) _ HOj.out.o.rowL HOj.out.o.rowS (HR.out.2.2.1.below encR_len (by decide) HB.out) (HR.out.2.2.2.below encI_len (by decide) HB.out)).mono ?_
      rintro e x5 ⟨rfl, hB⟩
      replace HA := Lib.hid (HA.out.below' hB)
      replace HBb := Lib.hid (HBb.out.below' hB)
      replace HC := Lib.hid (HC.out.below' hB)
      replace HB := Lib.hid (HB.out.trans (hB.mono HB.out.size))
      replace HK := Lib.hid (Nat.le_trans HK.out hB.size)
      replace HOm := Lib.hid (HOm.out.below hB)
      replace HOj := Lib.hid (HOj.out.below hB)
      clear hB
      clear HA0 HA1 HBb0 HBb1 HC0 HC1 HOm0 HOm1 HOj0 HOj1
      have HA0 : x5.cell? ⟨w.heap.size, 0, none⟩ = some (.slice ol s.L.length cl) := HA.out.cell 0
      have HA1 : x5.cell? ⟨w.heap.size, 1, none⟩ = some (.slice os s.S.length cs) := HA.out.cell 1
      have HBb0 : x5.cell? ⟨w.heap.size + 1, 0, none⟩ = some (.slice ol' t.L.length cl') := HBb.out.cell 0
      have HBb1 : x5.cell? ⟨w.heap.size + 1, 1, none⟩ = some (.slice os' t.S.length cs') := HBb.out.cell 1
      have HC0 : x5.cell? ⟨w.heap.size + 2, 0, none⟩ = some (.slice ol'' u.L.length cl'') := HC.out.cell 0
      have HC1 : x5.cell? ⟨w.heap.size + 2, 1, none⟩ = some (.slice os'' u.S.length cs'') := HC.out.cell 1
      have HOm0 : x5.cell? ⟨qm, 0, none⟩ = some (.slice olm (M.1).L.length clm) := HOm.out.b.cell 0
      have HOm1 : x5.cell? ⟨qm, 1, none⟩ = some (.slice osm (M.1).S.length csm) := HOm.out.b.cell 1
      have HOj0 : x5.cell? ⟨qj, 0, none⟩ = some (.slice olj (J.1).L.length clj) := HOj.out.b.cell 0
      have HOj1 : x5.cell? ⟨qj, 1, none⟩ = some (.slice osj (J.1).S.length csj) := HOj.out.b.cell 1
      cases P2
      · skip
        simp only [Bool.false_and]
        go_wp2_with (fail)
        refine (wakes_any _).mono ?_
        rintro e x6 ⟨rfl, hB⟩
        replace HA := Lib.hid (HA.out.below' hB)
        replace HBb := Lib.hid (HBb.out.below' hB)
        replace HC := Lib.hid (HC.out.below' hB)
        replace HB := Lib.hid (HB.out.trans (hB.mono HB.out.size))
        replace HK := Lib.hid (Nat.le_trans HK.out hB.size)
        replace HOm := Lib.hid (HOm.out.below hB)
        replace HOj := Lib.hid (HOj.out.below hB)
        clear hB
        clear HA0 HA1 HBb0 HBb1 HC0 HC1 HOm0 HOm1 HOj0 HOj1
        go_wp2
        go_ret
        exact ⟨rfl, HB.out⟩
      · skip
        simp only [Bool.true_and]
        go_wp2_with (fail)
        refine (wakes_any _).mono ?_
        rintro e x6 ⟨rfl, hB⟩
        replace HA := Lib.hid (HA.out.below' hB)
        replace HBb := Lib.hid (HBb.out.below' hB)
        replace HC := Lib.hid (HC.out.below' hB)
        replace HB := Lib.hid (HB.out.trans (hB.mono HB.out.size))
        replace HK := Lib.hid (Nat.le_trans HK.out hB.size)
        replace HOm := Lib.hid (HOm.out.below hB)
        replace HOj := Lib.hid (HOj.out.below hB)
        clear hB
        clear HA0 HA1 HBb0 HBb1 HC0 HC1 HOm0 HOm1 HOj0 HOj1
        go_wp2
        go_ret
        exact ⟨rfl, HB.out⟩
    · skip
      have j0 : ((J.2 : Int) == 0) = false := by rw [hj0]; rfl
      clear hj0
      go_wp2_with (fail)
      try rw [hV, hqj]
      try rw [hV]
      try clear hV hqj hpj hszj
      refine (wakes_any _).mono ?_
      rintro e x1 ⟨rfl, hB⟩
      replace HA := Lib.hid (HA.out.below' hB)
      replace HBb := Lib.hid (HBb.out.below' hB)
      replace HC := Lib.hid (HC.out.below' hB)
      replace HB := Lib.hid (HB.out.trans (hB.mono HB.out.size))
      replace HK := Lib.hid (Nat.le_trans HK.out hB.size)
      replace HOm := Lib.hid (HOm.out.below hB)
      replace HOj := Lib.hid (HOj.out.below hB)
      clear hB
      clear HA0 HA1 HBb0 HBb1 HC0 HC1 HOm0 HOm1 HOj0 HOj1
      go_wp2
      go_ret
      exact ⟨rfl, HB.out⟩
set_option maxHeartbeats 16000000 in
theorem lat_un (s t u : Sc) (ol os ol' os' ol'' os'' : Option Addr) (cl cs cl' cs' cl'' cs'' : Nat) (hn : s.L.length ≤ 9223372036854775807) (hm : s.S.length ≤ 9223372036854775807) (hn' : t.L.length ≤ 9223372036854775807) (hm' : t.S.length ≤ 9223372036854775807) (hn'' : u.L.length ≤ 9223372036854775807) (hm'' : u.S.length ≤ 9223372036854775807) (hfl : NForm ol s.L.length cl) (hfs : NForm os s.S.length cs) (hms : mayB s = true) (hmt : mayB t = true) (hlen : t.L.length = s.L.length) (hno : (mayB u && decide (s.L.length = u.L.length)) = false) (w : World) (hr : RowAt w encR 2 ol s.L) (ht : RowAt w encI 1 os s.S) (hr' : RowAt w encR 2 ol' t.L) (ht' : RowAt w encI 1 os' t.S) (hr'' : RowAt w encR 2 ol'' u.L) (ht'' : RowAt w encI 1 os'' u.S) :
    Calls Try.prog 12 #[.agg #[.slice ol s.L.length cl, .slice os s.S.length cs], .agg #[.slice ol' t.L.length cl', .slice os' t.S.length cs'], .agg #[.slice ol'' u.L.length cl'', .slice os'' u.S.length cs'']] w fun e w' => e = .returned (.bool true) ∧ Below w.heap.size w w' := by
  obtain ⟨h1, h2, h3⟩ := may_parts hms
  obtain ⟨h1', _, h3'⟩ := may_parts hmt
  have HLEN := Lib.hid hlen
  clear hlen
  have NO : Hid (bothB s u = false ∧ bothB t u = false ∧ (mayB u && decide (s.L.length = u.L.length)) = false) := Lib.hid (by
    have h := hno
    unfold bothB
    rw [hms, hmt, HLEN.out]
    simp only [Bool.true_and]
    exact ⟨h, h, h⟩)
  have NO2 : Hid (bothB u s = false ∧ bothB u t = false ∧ (mayB u && decide (u.L.length = s.L.length)) = false) := Lib.hid (by
    have h : (mayB u && decide (u.L.length = s.L.length)) = false := by rw [show decide (u.L.length = s.L.length) = decide (s.L.length = u.L.length) from decide_eq_decide.2 eq_comm]; exact hno
    unfold bothB
    rw [hms, hmt, HLEN.out]
    simp only [Bool.and_true]
    exact ⟨h, h, h⟩)
  clear hno
  obtain ⟨W0, hW0, bA, bB, bC, hB0⟩ := boxesC w #[.slice ol s.L.length cl, .slice os s.S.length cs] #[.slice ol' t.L.length cl', .slice os' t.S.length cs'] #[.slice ol'' u.L.length cl'', .slice os'' u.S.length cs'']
  have HA := Lib.hid bA
  have HBb := Lib.hid bB
  have HC := Lib.hid bC
  have HB := Lib.hid hB0
  have HR := Lib.hid (And.intro (And.intro hr ht) (And.intro (And.intro hr' ht') (And.intro hr'' ht'')))
  clear bA bB bC hB0 hr ht hr' ht' hr'' ht''
  go_enter Try.func12, Try.ntmps12
  go_wp2_with (fail)
  try rw [hW0]
  clear hW0
  refine (wakes_any _).mono ?_
  rintro e w1 ⟨rfl, hB⟩
  replace HA := Lib.hid (HA.out.below' hB)
  replace HBb := Lib.hid (HBb.out.below' hB)
  replace HC := Lib.hid (HC.out.below' hB)
  replace HB := Lib.hid (HB.out.trans (hB.mono HB.out.size))
  clear hB
  have HA0 : w1.cell? ⟨w.heap.size, 0, none⟩ = some (.slice ol s.L.length cl) := HA.out.cell 0
  have HA1 : w1.cell? ⟨w.heap.size, 1, none⟩ = some (.slice os s.S.length cs) := HA.out.cell 1
  have HBb0 : w1.cell? ⟨w.heap.size + 1, 0, none⟩ = some (.slice ol' t.L.length cl') := HBb.out.cell 0
  have HBb1 : w1.cell? ⟨w.heap.size + 1, 1, none⟩ = some (.slice os' t.S.length cs') := HBb.out.cell 1
  have HC0 : w1.cell? ⟨w.heap.size + 2, 0, none⟩ = some (.slice ol'' u.L.length cl'') := HC.out.cell 0
  have HC1 : w1.cell? ⟨w.heap.size + 2, 1, none⟩ = some (.slice os'' u.S.length cs'') := HC.out.cell 1
  have HK := Lib.hid (Nat.zero_le w1.heap.size)
  go_wp2_with (fail)
  refine (meet_any s t ol os ol' os' cl cs cl' cs' hfs hms hmt HLEN.out _ (HR.out.1.1.below encR_len (by decide) HB.out) (HR.out.1.2.below encI_len (by decide) HB.out) (HR.out.2.1.1.below encR_len (by decide) HB.out) (HR.out.2.1.2.below encI_len (by decide) HB.out)).mono ?_
  rintro e v2 ⟨fm, vl, vs, hfm, rfl, hO1, hO2, hB⟩
  have HFM := Lib.hid hfm
  clear hfm
  obtain ⟨M, hM⟩ : ∃ R, togR s t fm = R := ⟨_, rfl⟩
  rw [hM] at hO1 hO2
  try rw [hM]
  have HM := Lib.hid hM
  have HMC := Lib.hid (hM ▸ togR_cases s t fm)
  clear hM
  obtain ⟨olm, osm, clm, csm, rfl, rfl, hO⟩ := OB.new (t := M.1) hO1 hO2
  have hszm := hB.size
  have hA := (Below.refl v2.heap.size v2).alloc (Nat.le_refl _) (.cells #[.slice olm (M.1).L.length clm, .slice osm (M.1).S.length csm] 25)
  have hkpm := HK.out
  replace HA := Lib.hid (HA.out.below' hB)
  replace HBb := Lib.hid (HBb.out.below' hB)
  replace HC := Lib.hid (HC.out.below' hB)
  replace HB := Lib.hid (HB.out.trans (hB.mono HB.out.size))
  replace HK := Lib.hid (Nat.le_trans HK.out hB.size)
  replace HA := Lib.hid (HA.out.below' hA)
  replace HBb := Lib.hid (HBb.out.below' hA)
  replace HC := Lib.hid (HC.out.below' hA)
  replace HB := Lib.hid (HB.out.trans (hA.mono HB.out.size))
  replace HK := Lib.hid (Nat.le_trans HK.out hA.size)
  obtain ⟨pm, hpm⟩ : ∃ k, w1.heap.size = k := ⟨_, rfl⟩
  obtain ⟨qm, hqm⟩ : ∃ k, v2.heap.size = k := ⟨_, rfl⟩
  obtain ⟨Vm, hV⟩ : ∃ V, v2.alloc (.cells #[.slice olm (M.1).L.length clm, .slice osm (M.1).S.length csm] 25) = V := ⟨_, rfl⟩
  rw [hV] at HA HBb HC HB HK
  rw [hV, hpm, hqm] at hO
  rw [hpm] at hkpm
  have HOm := Lib.hid hO
  clear hA hO hO1 hO2 hB
  clear HA0 HA1 HBb0 HBb1 HC0 HC1
  have HA0 : Vm.cell? ⟨w.heap.size, 0, none⟩ = some (.slice ol s.L.length cl) := HA.out.cell 0
  have HA1 : Vm.cell? ⟨w.heap.size, 1, none⟩ = some (.slice os s.S.length cs) := HA.out.cell 1
  have HBb0 : Vm.cell? ⟨w.heap.size + 1, 0, none⟩ = some (.slice ol' t.L.length cl') := HBb.out.cell 0
  have HBb1 : Vm.cell? ⟨w.heap.size + 1, 1, none⟩ = some (.slice os' t.S.length cs') := HBb.out.cell 1
  have HC0 : Vm.cell? ⟨w.heap.size + 2, 0, none⟩ = some (.slice ol'' u.L.length cl'') := HC.out.cell 0
  have HC1 : Vm.cell? ⟨w.heap.size + 2, 1, none⟩ = some (.slice os'' u.S.length cs'') := HC.out.cell 1
  have HOm0 : Vm.cell? ⟨qm, 0, none⟩ = some (.slice olm (M.1).L.length clm) := HOm.out.b.cell 0
  have HOm1 : Vm.cell? ⟨qm, 1, none⟩ = some (.slice osm (M.1).S.length csm) := HOm.out.b.cell 1
  go_wp2_with (fail)
  try rw [hV, hqm]
  try rw [hV]
  try clear hV hqm hpm hszm
  refine (join_any s t ol os ol' os' cl cs cl' cs' hfs hms hmt HLEN.out _ (HR.out.1.1.below encR_len (by decide) HB.out) (HR.out.1.2.below encI_len (by decide) HB.out) (HR.out.2.1.1.below encR_len (by decide) HB.out) (HR.out.2.1.2.below encI_len (by decide) HB.out)).mono ?_
  rintro e v3 ⟨fj, vl, vs, hfj, rfl, hO1, hO2, hB⟩
  have HFJ := Lib.hid hfj
  clear hfj
  obtain ⟨J, hJ⟩ : ∃ R, togR s t fj = R := ⟨_, rfl⟩
  rw [hJ] at hO1 hO2
  try rw [hJ]
  have HJ := Lib.hid hJ
  have HJC := Lib.hid (hJ ▸ togR_cases s t fj)
  clear hJ
  obtain ⟨olj, osj, clj, csj, rfl, rfl, hO⟩ := OB.new (t := J.1) hO1 hO2
  have hszj := hB.size
  have hA := (Below.refl v3.heap.size v3).alloc (Nat.le_refl _) (.cells #[.slice olj (J.1).L.length clj, .slice osj (J.1).S.length csj] 25)
  have hkpj := HK.out
  replace HA := Lib.hid (HA.out.below' hB)
  replace HBb := Lib.hid (HBb.out.below' hB)
  replace HC := Lib.hid (HC.out.below' hB)
  replace HB := Lib.hid (HB.out.trans (hB.mono HB.out.size))
  replace HK := Lib.hid (Nat.le_trans HK.out hB.size)
  replace HOm := Lib.hid (HOm.out.below hB)
  replace HA := Lib.hid (HA.out.below' hA)
  replace HBb := Lib.hid (HBb.out.below' hA)
  replace HC := Lib.hid (HC.out.below' hA)
  replace HB := Lib.hid (HB.out.trans (hA.mono HB.out.size))
  replace HK := Lib.hid (Nat.le_trans HK.out hA.size)
  replace HOm := Lib.hid (HOm.out.below hA)
  obtain ⟨pj, hpj⟩ : ∃ k, Vm.heap.size = k := ⟨_, rfl⟩
  obtain ⟨qj, hqj⟩ : ∃ k, v3.heap.size = k := ⟨_, rfl⟩
  obtain ⟨Vj, hV⟩ : ∃ V, v3.alloc (.cells #[.slice olj (J.1).L.length clj, .slice osj (J.1).S.length csj] 25) = V := ⟨_, rfl⟩
  rw [hV] at HA HBb HC HB HK HOm
  rw [hV, hpj, hqj] at hO
  rw [hpj] at hkpj
  have HOj := Lib.hid hO
  clear hA hO hO1 hO2 hB
  clear HA0 HA1 HBb0 HBb1 HC0 HC1 HOm0 HOm1
  have HA0 : Vj.cell? ⟨w.heap.size, 0, none⟩ = some (.slice ol s.L.length cl) := HA.out.cell 0
  have HA1 : Vj.cell? ⟨w.heap.size, 1, none⟩ = some (.slice os s.S.length cs) := HA.out.cell 1
  have HBb0 : Vj.cell? ⟨w.heap.size + 1, 0, none⟩ = some (.slice ol' t.L.length cl') := HBb.out.cell 0
  have HBb1 : Vj.cell? ⟨w.heap.size + 1, 1, none⟩ = some (.slice os' t.S.length cs') := HBb.out.cell 1
  have HC0 : Vj.cell? ⟨w.heap.size + 2, 0, none⟩ = some (.slice ol'' u.L.length cl'') := HC.out.cell 0
  have HC1 : Vj.cell? ⟨w.heap.size + 2, 1, none⟩ = some (.slice os'' u.S.length cs'') := HC.out.cell 1
  have HOm0 : Vj.cell? ⟨qm, 0, none⟩ = some (.slice olm (M.1).L.length clm) := HOm.out.b.cell 0
  have HOm1 : Vj.cell? ⟨qm, 1, none⟩ = some (.slice osm (M.1).S.length csm) := HOm.out.b.cell 1
  have HOj0 : Vj.cell? ⟨qj, 0, none⟩ = some (.slice olj (J.1).L.length clj) := HOj.out.b.cell 0
  have HOj1 : Vj.cell? ⟨qj, 1, none⟩ = some (.slice osj (J.1).S.length csj) := HOj.out.b.cell 1
  have hml := togR_len2 s t fm
  rw [HM.out] at hml
  have hjl := togR_len2 s t fj
  rw [HJ.out] at hjl
  have HML := Lib.hid (And.intro (by omega : M.1.L.length ≤ 9223372036854775807) (by omega : M.1.S.length ≤ 9223372036854775807))
  have HJL := Lib.hid (And.intro (by omega : J.1.L.length ≤ 9223372036854775807) (by omega : J.1.S.length ≤ 9223372036854775807))
  rcases HMC.out with hm0 | hm0
  · skip
    have m0 : ((M.2 : Int) == 0) = true := by rw [hm0]; rfl
    have HMF := Lib.hid (meet_facts hms HLEN.out HFM.out HM.out hm0)
    clear hm0
    go_wp2_with (fail)
    try rw [hV, hqj]
    try rw [hV]
    try clear hV hqj hpj hszj
    refine (withinE_any M.1 s olm osm ol os clm csm cl cs HMF.out.1 hms ((rfl).trans (HMF.out.2.1).symm) true (HMF.out.2.2.1) _ HOm.out.o.rowL HOm.out.o.rowS (HR.out.1.1.below encR_len (by decide) HB.out) (HR.out.1.2.below encI_len (by decide) HB.out)).mono ?_
    rintro e x1 ⟨rfl, hB⟩
    replace HA := Lib.hid (HA.out.below' hB)
    replace HBb := Lib.hid (HBb.out.below' hB)
    replace HC := Lib.hid (HC.out.below' hB)
    replace HB := Lib.hid (HB.out.trans (hB.mono HB.out.size))
    replace HK := Lib.hid (Nat.le_trans HK.out hB.size)
    replace HOm := Lib.hid (HOm.out.below hB)
    replace HOj := Lib.hid (HOj.out.below hB)
    clear hB
    clear HA0 HA1 HBb0 HBb1 HC0 HC1 HOm0 HOm1 HOj0 HOj1
    have HA0 : x1.cell? ⟨w.heap.size, 0, none⟩ = some (.slice ol s.L.length cl) := HA.out.cell 0
    have HA1 : x1.cell? ⟨w.heap.size, 1, none⟩ = some (.slice os s.S.length cs) := HA.out.cell 1
    have HBb0 : x1.cell? ⟨w.heap.size + 1, 0, none⟩ = some (.slice ol' t.L.length cl') := HBb.out.cell 0
    have HBb1 : x1.cell? ⟨w.heap.size + 1, 1, none⟩ = some (.slice os' t.S.length cs') := HBb.out.cell 1
    have HC0 : x1.cell? ⟨w.heap.size + 2, 0, none⟩ = some (.slice ol'' u.L.length cl'') := HC.out.cell 0
    have HC1 : x1.cell? ⟨w.heap.size + 2, 1, none⟩ = some (.slice os'' u.S.length cs'') := HC.out.cell 1
    have HOm0 : x1.cell? ⟨qm, 0, none⟩ = some (.slice olm (M.1).L.length clm) := HOm.out.b.cell 0
    have HOm1 : x1.cell? ⟨qm, 1, none⟩ = some (.slice osm (M.1).S.length csm) := HOm.out.b.cell 1
    have HOj0 : x1.cell? ⟨qj, 0, none⟩ = some (.slice olj (J.1).L.length clj) := HOj.out.b.cell 0
    have HOj1 : x1.cell? ⟨qj, 1, none⟩ = some (.slice osj (J.1).S.length csj) := HOj.out.b.cell 1
    go_wp2_with (fail)
    refine (withinE_any M.1 t olm osm ol' os' clm csm cl' cs' HMF.out.1 hmt ((HLEN.out).trans (HMF.out.2.1).symm) true (HMF.out.2.2.2.1) _ HOm.out.o.rowL HOm.out.o.rowS (HR.out.2.1.1.below encR_len (by decide) HB.out) (HR.out.2.1.2.below encI_len (by decide) HB.out)).mono ?_
    rintro e x2 ⟨rfl, hB⟩
    replace HA := Lib.hid (HA.out.below' hB)
    replace HBb := Lib.hid (HBb.out.below' hB)
    replace HC := Lib.hid (HC.out.below' hB)
    replace HB := Lib.hid (HB.out.trans (hB.mono HB.out.size))
    replace HK := Lib.hid (Nat.le_trans HK.out hB.size)
    replace HOm := Lib.hid (HOm.out.below hB)
    replace HOj := Lib.hid (HOj.out.below hB)
    clear hB
    clear HA0 HA1 HBb0 HBb1 HC0 HC1 HOm0 HOm1 HOj0 HOj1
    have HA0 : x2.cell? ⟨w.heap.size, 0, none⟩ = some (.slice ol s.L.length cl) := HA.out.cell 0
    have HA1 : x2.cell? ⟨w.heap.size, 1, none⟩ = some (.slice os s.S.length cs) := HA.out.cell 1
    have HBb0 : x2.cell? ⟨w.heap.size + 1, 0, none⟩ = some (.slice ol' t.L.length cl') := HBb.out.cell 0
    have HBb1 : x2.cell? ⟨w.heap.size + 1, 1, none⟩ = some (.slice os' t.S.length cs') := HBb.out.cell 1
    have HC0 : x2.cell? ⟨w.heap.size + 2, 0, none⟩ = some (.slice ol'' u.L.length cl'') := HC.out.cell 0
    have HC1 : x2.cell? ⟨w.heap.size + 2, 1, none⟩ = some (.slice os'' u.S.length cs'') := HC.out.cell 1
    have HOm0 : x2.cell? ⟨qm, 0, none⟩ = some (.slice olm (M.1).L.length clm) := HOm.out.b.cell 0
    have HOm1 : x2.cell? ⟨qm, 1, none⟩ = some (.slice osm (M.1).S.length csm) := HOm.out.b.cell 1
    have HOj0 : x2.cell? ⟨qj, 0, none⟩ = some (.slice olj (J.1).L.length clj) := HOj.out.b.cell 0
    have HOj1 : x2.cell? ⟨qj, 1, none⟩ = some (.slice osj (J.1).S.length csj) := HOj.out.b.cell 1
    go_wp2_with (fail)
    refine (within_no u s ol'' os'' ol os cl'' cs'' cl cs (by first | omega | exact HML.out.1 | exact HJL.out.1) (by first | omega | exact HML.out.2 | exact HJL.out.2) (by first | omega | exact HML.out.1 | exact HJL.out.1) (by first | omega | exact HML.out.2 | exact HJL.out.2) (NO2.out.1) _ (HR.out.2.2.1.below encR_len (by decide) HB.out) (HR.out.2.2.2.below encI_len (by decide) HB.out) (HR.out.1.1.below encR_len (by decide) HB.out) (HR.out.1.2.below encI_len (by decide) HB.out)).mono ?_
    rintro e x3 ⟨rfl, hB⟩
    replace HA := Lib.hid (HA.out.below' hB)
    replace HBb := Lib.hid (HBb.out.below' hB)
    replace HC := Lib.hid (HC.out.below' hB)
    replace HB := Lib.hid (HB.out.trans (hB.mono HB.out.size))
    replace HK := Lib.hid (Nat.le_trans HK.out hB.size)
    replace HOm := Lib.hid (HOm.out.below hB)
    replace HOj := Lib.hid (HOj.out.below hB)
    clear hB
    clear HA0 HA1 HBb0 HBb1 HC0 HC1 HOm0 HOm1 HOj0 HOj1
    have HA0 : x3.cell? ⟨w.heap.size, 0, none⟩ = some (.slice ol s.L.length cl) := HA.out.cell 0
    have HA1 : x3.cell? ⟨w.heap.size, 1, none⟩ = some (.slice os s.S.length cs) := HA.out.cell 1
    have HBb0 : x3.cell? ⟨w.heap.size + 1, 0, none⟩ = some (.slice ol' t.L.length cl') := HBb.out.cell 0
    have HBb1 : x3.cell? ⟨w.heap.size + 1, 1, none⟩ = some (.slice os' t.S.length cs') := HBb.out.cell 1
    have HC0 : x3.cell? ⟨w.heap.size + 2, 0, none⟩ = some (.slice ol'' u.L.length cl'') := HC.out.cell 0
    have HC1 : x3.cell? ⟨w.heap.size + 2, 1, none⟩ = some (.slice os'' u.S.length cs'') := HC.out.cell 1
    have HOm0 : x3.cell? ⟨qm, 0, none⟩ = some (.slice olm (M.1).L.length clm) := HOm.out.b.cell 0
    have HOm1 : x3.cell? ⟨qm, 1, none⟩ = some (.slice osm (M.1).S.length csm) := HOm.out.b.cell 1
    have HOj0 : x3.cell? ⟨qj, 0, none⟩ = some (.slice olj (J.1).L.length clj) := HOj.out.b.cell 0
    have HOj1 : x3.cell? ⟨qj, 1, none⟩ = some (.slice osj (J.1).S.length csj) := HOj.out.b.cell 1
    go_wp2_with (fail)
    refine (within_no u t ol'' os'' ol' os' cl'' cs'' cl' cs' (by first | omega | exact HML.out.1 | exact HJL.out.1) (by first | omega | exact HML.out.2 | exact HJL.out.2) (by first | omega | exact HML.out.1 | exact HJL.out.1) (by first | omega | exact HML.out.2 | exact HJL.out.2) (NO2.out.2.1) _ (HR.out.2.2.1.below encR_len (by decide) HB.out) (HR.out.2.2.2.below encI_len (by decide) HB.out) (HR.out.2.1.1.below encR_len (by decide) HB.out) (HR.out.2.1.2.below encI_len (by decide) HB.out)).mono ?_
    rintro e x4 ⟨rfl, hB⟩
    replace HA := Lib.hid (HA.out.below' hB)
    replace HBb := Lib.hid (HBb.out.below' hB)
    replace HC := Lib.hid (HC.out.below' hB)
    replace HB := Lib.hid (HB.out.trans (hB.mono HB.out.size))
    replace HK := Lib.hid (Nat.le_trans HK.out hB.size)
    replace HOm := Lib.hid (HOm.out.below hB)
    replace HOj := Lib.hid (HOj.out.below hB)
    clear hB
    clear HA0 HA1 HBb0 HBb1 HC0 HC1 HOm0 HOm1 HOj0 HOj1
    have HA0 : x4.cell? ⟨w.heap.size, 0, none⟩ = some (.slice ol s.L.length cl) := HA.out.cell 0
    have HA1 : x4.cell? ⟨w.heap.size, 1, none⟩ = some (.slice os s.S.length cs) := HA.out.cell 1
    have HBb0 : x4.cell? ⟨w.heap.size + 1, 0, none⟩ = some (.slice ol' t.L.length cl') := HBb.out.cell 0
    have HBb1 : x4.cell? ⟨w.heap.size + 1, 1, none⟩ = some (.slice os' t.S.length cs') := HBb.out.cell 1
    have HC0 : x4.cell? ⟨w.heap.size + 2, 0, none⟩ = some (.slice ol'' u.L.length cl'') := HC.out.cell 0
    have HC1 : x4.cell? ⟨w.heap.size + 2, 1, none⟩ = some (.slice os'' u.S.length cs'') := HC.out.cell 1
    have HOm0 : x4.cell? ⟨qm, 0, none⟩ = some (.slice olm (M.1).L.length clm) := HOm.out.b.cell 0
    have HOm1 : x4.cell? ⟨qm, 1, none⟩ = some (.slice osm (M.1).S.length csm) := HOm.out.b.cell 1
    have HOj0 : x4.cell? ⟨qj, 0, none⟩ = some (.slice olj (J.1).L.length clj) := HOj.out.b.cell 0
    have HOj1 : x4.cell? ⟨qj, 1, none⟩ = some (.slice osj (J.1).S.length csj) := HOj.out.b.cell 1
    go_wp2_with (fail)
    refine (within_no u M.1 ol'' os'' olm osm cl'' cs'' clm csm (by first | omega | exact HML.out.1 | exact HJL.out.1) (by first | omega | exact HML.out.2 | exact HJL.out.2) (by first | omega | exact HML.out.1 | exact HJL.out.1) (by first | omega | exact HML.out.2 | exact HJL.out.2) (len_both_no HMF.out.1 HMF.out.2.1 NO2.out.2.2) _ (HR.out.2.2.1.below encR_len (by decide) HB.out) (HR.out.2.2.2.below encI_len (by decide) HB.out) HOm.out.o.rowL HOm.out.o.rowS).mono ?_
    rintro e x5 ⟨rfl, hB⟩
    replace HA := Lib.hid (HA.out.below' hB)
    replace HBb := Lib.hid (HBb.out.below' hB)
    replace HC := Lib.hid (HC.out.below' hB)
    replace HB := Lib.hid (HB.out.trans (hB.mono HB.out.size))
    replace HK := Lib.hid (Nat.le_trans HK.out hB.size)
    replace HOm := Lib.hid (HOm.out.below hB)
    replace HOj := Lib.hid (HOj.out.below hB)
    clear hB
    clear HA0 HA1 HBb0 HBb1 HC0 HC1 HOm0 HOm1 HOj0 HOj1
    have HA0 : x5.cell? ⟨w.heap.size, 0, none⟩ = some (.slice ol s.L.length cl) := HA.out.cell 0
    have HA1 : x5.cell? ⟨w.heap.size, 1, none⟩ = some (.slice os s.S.length cs) := HA.out.cell 1
    have HBb0 : x5.cell? ⟨w.heap.size + 1, 0, none⟩ = some (.slice ol' t.L.length cl') := HBb.out.cell 0
    have HBb1 : x5.cell? ⟨w.heap.size + 1, 1, none⟩ = some (.slice os' t.S.length cs') := HBb.out.cell 1
    have HC0 : x5.cell? ⟨w.heap.size + 2, 0, none⟩ = some (.slice ol'' u.L.length cl'') := HC.out.cell 0
    have HC1 : x5.cell? ⟨w.heap.size + 2, 1, none⟩ = some (.slice os'' u.S.length cs'') := HC.out.cell 1
    have HOm0 : x5.cell? ⟨qm, 0, none⟩ = some (.slice olm (M.1).L.length clm) := HOm.out.b.cell 0
    have HOm1 : x5.cell? ⟨qm, 1, none⟩ = some (.slice osm (M.1).S.length csm) := HOm.out.b.cell 1
    have HOj0 : x5.cell? ⟨qj, 0, none⟩ = some (.slice olj (J.1).L.length clj) := HOj.out.b.cell 0
    have HOj1 : x5.cell? ⟨qj, 1, none⟩ = some (.slice osj (J.1).S.length csj) := HOj.out.b.cell 1
    rcases HJC.out with hj0 | hj0
    · skip
      have j0 : ((J.2 : Int) == 0) = true := by rw [hj0]; rfl
      have HJF := Lib.hid (join_facts hms HLEN.out HFJ.out HJ.out hj0)
      clear hj0
      go_wp2_with (fail)
      refine (withinE_any s J.1 ol os olj osj cl cs clj csj hms HJF.out.1 ((HJF.out.2.1).trans (rfl).symm) true (HJF.out.2.2.1) _ (HR.out.1.1.below encR_len (by decide) HB.out) (HR.out.1.2.below encI_len (by decide) HB.out) HOj.out.o.rowL HOj.out.o.rowS).mono ?_
      rintro e x6 ⟨rfl, hB⟩
      replace HA := Lib.hid (HA.out.below' hB)
      replace HBb := Lib.hid (HBb.out.below' hB)
      replace HC := Lib.hid (HC.out.below' hB)
      replace HB := Lib.hid (HB.out.trans (hB.mono HB.out.size))
      replace HK := Lib.hid (Nat.le_trans HK.out hB.size)
      replace HOm := Lib.hid (HOm.out.below hB)
      replace HOj := Lib.hid (HOj.out.below hB)
      clear hB
      clear HA0 HA1 HBb0 HBb1 HC0 HC1 HOm0 HOm1 HOj0 HOj1
      have HA0 : x6.cell? ⟨w.heap.size, 0, none⟩ = some (.slice ol s.L.length cl) := HA.out.cell 0
      have HA1 : x6.cell? ⟨w.heap.size, 1, none⟩ = some (.slice os s.S.length cs) := HA.out.cell 1
      have HBb0 : x6.cell? ⟨w.heap.size + 1, 0, none⟩ = some (.slice ol' t.L.length cl') := HBb.out.cell 0
      have HBb1 : x6.cell? ⟨w.heap.size + 1, 1, none⟩ = some (.slice os' t.S.length cs') := HBb.out.cell 1
      have HC0 : x6.cell? ⟨w.heap.size + 2, 0, none⟩ = some (.slice ol'' u.L.length cl'') := HC.out.cell 0
      have HC1 : x6.cell? ⟨w.heap.size + 2, 1, none⟩ = some (.slice os'' u.S.length cs'') := HC.out.cell 1
      have HOm0 : x6.cell? ⟨qm, 0, none⟩ = some (.slice olm (M.1).L.length clm) := HOm.out.b.cell 0
      have HOm1 : x6.cell? ⟨qm, 1, none⟩ = some (.slice osm (M.1).S.length csm) := HOm.out.b.cell 1
      have HOj0 : x6.cell? ⟨qj, 0, none⟩ = some (.slice olj (J.1).L.length clj) := HOj.out.b.cell 0
      have HOj1 : x6.cell? ⟨qj, 1, none⟩ = some (.slice osj (J.1).S.length csj) := HOj.out.b.cell 1
      go_wp2_with (fail)
      refine (withinE_any t J.1 ol' os' olj osj cl' cs' clj csj hmt HJF.out.1 ((HJF.out.2.1).trans (HLEN.out).symm) true (HJF.out.2.2.2.1) _ (HR.out.2.1.1.below encR_len (by decide) HB.out) (HR.out.2.1.2.below encI_len (by decide) HB.out) HOj.out.o.rowL HOj.out.o.rowS).mono ?_
      rintro e x7 ⟨rfl, hB⟩
      replace HA := Lib.hid (HA.out.below' hB)
      replace HBb := Lib.hid (HBb.out.below' hB)
      replace HC := Lib.hid (HC.out.below' hB)
      replace HB := Lib.hid (HB.out.trans (hB.mono HB.out.size))
      replace HK := Lib.hid (Nat.le_trans HK.out hB.size)
      replace HOm := Lib.hid (HOm.out.below hB)
      replace HOj := Lib.hid (HOj.out.below hB)
      clear hB
      clear HA0 HA1 HBb0 HBb1 HC0 HC1 HOm0 HOm1 HOj0 HOj1
      have HA0 : x7.cell? ⟨w.heap.size, 0, none⟩ = some (.slice ol s.L.length cl) := HA.out.cell 0
      have HA1 : x7.cell? ⟨w.heap.size, 1, none⟩ = some (.slice os s.S.length cs) := HA.out.cell 1
      have HBb0 : x7.cell? ⟨w.heap.size + 1, 0, none⟩ = some (.slice ol' t.L.length cl') := HBb.out.cell 0
      have HBb1 : x7.cell? ⟨w.heap.size + 1, 1, none⟩ = some (.slice os' t.S.length cs') := HBb.out.cell 1
      have HC0 : x7.cell? ⟨w.heap.size + 2, 0, none⟩ = some (.slice ol'' u.L.length cl'') := HC.out.cell 0
      have HC1 : x7.cell? ⟨w.heap.size + 2, 1, none⟩ = some (.slice os'' u.S.length cs'') := HC.out.cell 1
      have HOm0 : x7.cell? ⟨qm, 0, none⟩ = some (.slice olm (M.1).L.length clm) := HOm.out.b.cell 0
      have HOm1 : x7.cell? ⟨qm, 1, none⟩ = some (.slice osm (M.1).S.length csm) := HOm.out.b.cell 1
      have HOj0 : x7.cell? ⟨qj, 0, none⟩ = some (.slice olj (J.1).L.length clj) := HOj.out.b.cell 0
      have HOj1 : x7.cell? ⟨qj, 1, none⟩ = some (.slice osj (J.1).S.length csj) := HOj.out.b.cell 1
      go_wp2_with (fail)
      refine (within_no s u ol os ol'' os'' cl cs cl'' cs'' (by first | omega | exact HML.out.1 | exact HJL.out.1) (by first | omega | exact HML.out.2 | exact HJL.out.2) (by first | omega | exact HML.out.1 | exact HJL.out.1) (by first | omega | exact HML.out.2 | exact HJL.out.2) (NO.out.1) _ (HR.out.1.1.below encR_len (by decide) HB.out) (HR.out.1.2.below encI_len (by decide) HB.out) (HR.out.2.2.1.below encR_len (by decide) HB.out) (HR.out.2.2.2.below encI_len (by decide) HB.out)).mono ?_
      rintro e x8 ⟨rfl, hB⟩
      replace HA := Lib.hid (HA.out.below' hB)
      replace HBb := Lib.hid (HBb.out.below' hB)
      replace HC := Lib.hid (HC.out.below' hB)
      replace HB := Lib.hid (HB.out.trans (hB.mono HB.out.size))
      replace HK := Lib.hid (Nat.le_trans HK.out hB.size)
      replace HOm := Lib.hid (HOm.out.below hB)
      replace HOj := Lib.hid (HOj.out.below hB)
      clear hB
      clear HA0 HA1 HBb0 HBb1 HC0 HC1 HOm0 HOm1 HOj0 HOj1
      have HA0 : x8.cell? ⟨w.heap.size, 0, none⟩ = some (.slice ol s.L.length cl) := HA.out.cell 0
      have HA1 : x8.cell? ⟨w.heap.size, 1, none⟩ = some (.slice os s.S.length cs) := HA.out.cell 1
      have HBb0 : x8.cell? ⟨w.heap.size + 1, 0, none⟩ = some (.slice ol' t.L.length cl') := HBb.out.cell 0
      have HBb1 : x8.cell? ⟨w.heap.size + 1, 1, none⟩ = some (.slice os' t.S.length cs') := HBb.out.cell 1
      have HC0 : x8.cell? ⟨w.heap.size + 2, 0, none⟩ = some (.slice ol'' u.L.length cl'') := HC.out.cell 0
      have HC1 : x8.cell? ⟨w.heap.size + 2, 1, none⟩ = some (.slice os'' u.S.length cs'') := HC.out.cell 1
      have HOm0 : x8.cell? ⟨qm, 0, none⟩ = some (.slice olm (M.1).L.length clm) := HOm.out.b.cell 0
      have HOm1 : x8.cell? ⟨qm, 1, none⟩ = some (.slice osm (M.1).S.length csm) := HOm.out.b.cell 1
      have HOj0 : x8.cell? ⟨qj, 0, none⟩ = some (.slice olj (J.1).L.length clj) := HOj.out.b.cell 0
      have HOj1 : x8.cell? ⟨qj, 1, none⟩ = some (.slice osj (J.1).S.length csj) := HOj.out.b.cell 1
      go_wp2_with (fail)
      refine (within_no t u ol' os' ol'' os'' cl' cs' cl'' cs'' (by first | omega | exact HML.out.1 | exact HJL.out.1) (by first | omega | exact HML.out.2 | exact HJL.out.2) (by first | omega | exact HML.out.1 | exact HJL.out.1) (by first | omega | exact HML.out.2 | exact HJL.out.2) (NO.out.2.1) _ (HR.out.2.1.1.below encR_len (by decide) HB.out) (HR.out.2.1.2.below encI_len (by decide) HB.out) (HR.out.2.2.1.below encR_len (by decide) HB.out) (HR.out.2.2.2.below encI_len (by decide) HB.out)).mono ?_
      rintro e x9 ⟨rfl, hB⟩
      replace HA := Lib.hid (HA.out.below' hB)
      replace HBb := Lib.hid (HBb.out.below' hB)
      replace HC := Lib.hid (HC.out.below' hB)
      replace HB := Lib.hid (HB.out.trans (hB.mono HB.out.size))
      replace HK := Lib.hid (Nat.le_trans HK.out hB.size)
      replace HOm := Lib.hid (HOm.out.below hB)
      replace HOj := Lib.hid (HOj.out.below hB)
      clear hB
      clear HA0 HA1 HBb0 HBb1 HC0 HC1 HOm0 HOm1 HOj0 HOj1
      have HA0 : x9.cell? ⟨w.heap.size, 0, none⟩ = some (.slice ol s.L.length cl) := HA.out.cell 0
      have HA1 : x9.cell? ⟨w.heap.size, 1, none⟩ = some (.slice os s.S.length cs) := HA.out.cell 1
      have HBb0 : x9.cell? ⟨w.heap.size + 1, 0, none⟩ = some (.slice ol' t.L.length cl') := HBb.out.cell 0
      have HBb1 : x9.cell? ⟨w.heap.size + 1, 1, none⟩ = some (.slice os' t.S.length cs') := HBb.out.cell 1
      have HC0 : x9.cell? ⟨w.heap.size + 2, 0, none⟩ = some (.slice ol'' u.L.length cl'') := HC.out.cell 0
      have HC1 : x9.cell? ⟨w.heap.size + 2, 1, none⟩ = some (.slice os'' u.S.length cs'') := HC.out.cell 1
      have HOm0 : x9.cell? ⟨qm, 0, none⟩ = some (.slice olm (M.1).L.length clm) := HOm.out.b.cell 0
      have HOm1 : x9.cell? ⟨qm, 1, none⟩ = some (.slice osm (M.1).S.length csm) := HOm.out.b.cell 1
      have HOj0 : x9.cell? ⟨qj, 0, none⟩ = some (.slice olj (J.1).L.length clj) := HOj.out.b.cell 0
      have HOj1 : x9.cell? ⟨qj, 1, none⟩ = some (.slice osj (J.1).S.length csj) := HOj.out.b.cell 1
      go_wp2_with (fail)
      refine (within_no J.1 u olj osj ol'' os'' clj csj cl'' cs'' (by first | omega | exact HML.out.1 | exact HJL.out.1) (by first | omega | exact HML.out.2 | exact HJL.out.2) (by first | omega | exact HML.out.1 | exact HJL.out.1) (by first | omega | exact HML.out.2 | exact HJL.out.2) (both_len_no HJF.out.1 HJF.out.2.1 NO.out.2.2) _ HOj.out.o.rowL HOj.out.o.rowS (HR.out.2.2.1.below encR_len (by decide) HB.out) (HR.out.2.2.2.below encI_len (by decide) HB.out)).mono ?_
      rintro e x10 ⟨rfl, hB⟩
      replace HA := Lib.hid (HA.out.below' hB)
      replace HBb := Lib.hid (HBb.out.below' hB)
      replace HC := Lib.hid (HC.out.below' hB)
      replace HB := Lib.hid (HB.out.trans (hB.mono HB.out.size))
      replace HK := Lib.hid (Nat.le_trans HK.out hB.size)
      replace HOm := Lib.hid (HOm.out.below hB)
      replace HOj := Lib.hid (HOj.out.below hB)
      clear hB
      clear HA0 HA1 HBb0 HBb1 HC0 HC1 HOm0 HOm1 HOj0 HOj1
      have HA0 : x10.cell? ⟨w.heap.size, 0, none⟩ = some (.slice ol s.L.length cl) := HA.out.cell 0
      have HA1 : x10.cell? ⟨w.heap.size, 1, none⟩ = some (.slice os s.S.length cs) := HA.out.cell 1
      have HBb0 : x10.cell? ⟨w.heap.size + 1, 0, none⟩ = some (.slice ol' t.L.length cl') := HBb.out.cell 0
      have HBb1 : x10.cell? ⟨w.heap.size + 1, 1, none⟩ = some (.slice os' t.S.length cs') := HBb.out.cell 1
      have HC0 : x10.cell? ⟨w.heap.size + 2, 0, none⟩ = some (.slice ol'' u.L.length cl'') := HC.out.cell 0
      have HC1 : x10.cell? ⟨w.heap.size + 2, 1, none⟩ = some (.slice os'' u.S.length cs'') := HC.out.cell 1
      have HOm0 : x10.cell? ⟨qm, 0, none⟩ = some (.slice olm (M.1).L.length clm) := HOm.out.b.cell 0
      have HOm1 : x10.cell? ⟨qm, 1, none⟩ = some (.slice osm (M.1).S.length csm) := HOm.out.b.cell 1
      have HOj0 : x10.cell? ⟨qj, 0, none⟩ = some (.slice olj (J.1).L.length clj) := HOj.out.b.cell 0
      have HOj1 : x10.cell? ⟨qj, 1, none⟩ = some (.slice osj (J.1).S.length csj) := HOj.out.b.cell 1
      go_wp2_with (fail)
      refine (wakes_any _).mono ?_
      rintro e x11 ⟨rfl, hB⟩
      replace HA := Lib.hid (HA.out.below' hB)
      replace HBb := Lib.hid (HBb.out.below' hB)
      replace HC := Lib.hid (HC.out.below' hB)
      replace HB := Lib.hid (HB.out.trans (hB.mono HB.out.size))
      replace HK := Lib.hid (Nat.le_trans HK.out hB.size)
      replace HOm := Lib.hid (HOm.out.below hB)
      replace HOj := Lib.hid (HOj.out.below hB)
      clear hB
      clear HA0 HA1 HBb0 HBb1 HC0 HC1 HOm0 HOm1 HOj0 HOj1
      go_wp2
      go_ret
      exact ⟨rfl, HB.out⟩
    · skip
      have j0 : ((J.2 : Int) == 0) = false := by rw [hj0]; rfl
      clear hj0
      go_wp2_with (fail)
      refine (wakes_any _).mono ?_
      rintro e x6 ⟨rfl, hB⟩
      replace HA := Lib.hid (HA.out.below' hB)
      replace HBb := Lib.hid (HBb.out.below' hB)
      replace HC := Lib.hid (HC.out.below' hB)
      replace HB := Lib.hid (HB.out.trans (hB.mono HB.out.size))
      replace HK := Lib.hid (Nat.le_trans HK.out hB.size)
      replace HOm := Lib.hid (HOm.out.below hB)
      replace HOj := Lib.hid (HOj.out.below hB)
      clear hB
      clear HA0 HA1 HBb0 HBb1 HC0 HC1 HOm0 HOm1 HOj0 HOj1
      go_wp2
      go_ret
      exact ⟨rfl, HB.out⟩
  · skip
    have m0 : ((M.2 : Int) == 0) = false := by rw [hm0]; rfl
    clear hm0
    rcases HJC.out with hj0 | hj0
    · skip
      have j0 : ((J.2 : Int) == 0) = true := by rw [hj0]; rfl
      have HJF := Lib.hid (join_facts hms HLEN.out HFJ.out HJ.out hj0)
      clear hj0
      go_wp2_with (fail)
      try rw [hV, hqj]
      try rw [hV]
      try clear hV hqj hpj hszj
      refine (withinE_any s J.1 ol os olj osj cl cs clj csj hms HJF.out.1 ((HJF.out.2.1).trans (rfl).symm) true (HJF.out.2.2.1) _ (HR.out.1.1.below encR_len (by decide) HB.out) (HR.out.1.2.below encI_len (by decide) HB.out) HOj.out.o.rowL HOj.out.o.rowS).mono ?_
      rintro e x1 ⟨rfl, hB⟩
      replace HA := Lib.hid (HA.out.below' hB)
      replace HBb := Lib.hid (HBb.out.below' hB)
      replace HC := Lib.hid (HC.out.below' hB)
      replace HB := Lib.hid (HB.out.trans (hB.mono HB.out.size))
      replace HK := Lib.hid (Nat.le_trans HK.out hB.size)
      replace HOm := Lib.hid (HOm.out.below hB)
      replace HOj := Lib.hid (HOj.out.below hB)
      clear hB
      clear HA0 HA1 HBb0 HBb1 HC0 HC1 HOm0 HOm1 HOj0 HOj1
      have HA0 : x1.cell? ⟨w.heap.size, 0, none⟩ = some (.slice ol s.L.length cl) := HA.out.cell 0
      have HA1 : x1.cell? ⟨w.heap.size, 1, none⟩ = some (.slice os s.S.length cs) := HA.out.cell 1
      have HBb0 : x1.cell? ⟨w.heap.size + 1, 0, none⟩ = some (.slice ol' t.L.length cl') := HBb.out.cell 0
      have HBb1 : x1.cell? ⟨w.heap.size + 1, 1, none⟩ = some (.slice os' t.S.length cs') := HBb.out.cell 1
      have HC0 : x1.cell? ⟨w.heap.size + 2, 0, none⟩ = some (.slice ol'' u.L.length cl'') := HC.out.cell 0
      have HC1 : x1.cell? ⟨w.heap.size + 2, 1, none⟩ = some (.slice os'' u.S.length cs'') := HC.out.cell 1
      have HOm0 : x1.cell? ⟨qm, 0, none⟩ = some (.slice olm (M.1).L.length clm) := HOm.out.b.cell 0
      have HOm1 : x1.cell? ⟨qm, 1, none⟩ = some (.slice osm (M.1).S.length csm) := HOm.out.b.cell 1
      have HOj0 : x1.cell? ⟨qj, 0, none⟩ = some (.slice olj (J.1).L.length clj) := HOj.out.b.cell 0
      have HOj1 : x1.cell? ⟨qj, 1, none⟩ = some (.slice osj (J.1).S.length csj) := HOj.out.b.cell 1
      go_wp2_with (fail)
      refine (withinE_any t J.1 ol' os' olj osj cl' cs' clj csj hmt HJF.out.1 ((HJF.out.2.1).trans (HLEN.out).symm) true (HJF.out.2.2.2.1) _ (HR.out.2.1.1.below encR_len (by decide) HB.out) (HR.out.2.1.2.below encI_len (by decide) HB.out) HOj.out.o.rowL HOj.out.o.rowS).mono ?_
      rintro e x2 ⟨rfl, hB⟩
      replace HA := Lib.hid (HA.out.below' hB)
      replace HBb := Lib.hid (HBb.out.below' hB)
      replace HC := Lib.hid (HC.out.below' hB)
      replace HB := Lib.hid (HB.out.trans (hB.mono HB.out.size))
      replace HK := Lib.hid (Nat.le_trans HK.out hB.size)
      replace HOm := Lib.hid (HOm.out.below hB)
      replace HOj := Lib.hid (HOj.out.below hB)
      clear hB
      clear HA0 HA1 HBb0 HBb1 HC0 HC1 HOm0 HOm1 HOj0 HOj1
      have HA0 : x2.cell? ⟨w.heap.size, 0, none⟩ = some (.slice ol s.L.length cl) := HA.out.cell 0
      have HA1 : x2.cell? ⟨w.heap.size, 1, none⟩ = some (.slice os s.S.length cs) := HA.out.cell 1
      have HBb0 : x2.cell? ⟨w.heap.size + 1, 0, none⟩ = some (.slice ol' t.L.length cl') := HBb.out.cell 0
      have HBb1 : x2.cell? ⟨w.heap.size + 1, 1, none⟩ = some (.slice os' t.S.length cs') := HBb.out.cell 1
      have HC0 : x2.cell? ⟨w.heap.size + 2, 0, none⟩ = some (.slice ol'' u.L.length cl'') := HC.out.cell 0
      have HC1 : x2.cell? ⟨w.heap.size + 2, 1, none⟩ = some (.slice os'' u.S.length cs'') := HC.out.cell 1
      have HOm0 : x2.cell? ⟨qm, 0, none⟩ = some (.slice olm (M.1).L.length clm) := HOm.out.b.cell 0
      have HOm1 : x2.cell? ⟨qm, 1, none⟩ = some (.slice osm (M.1).S.length csm) := HOm.out.b.cell 1
      have HOj0 : x2.cell? ⟨qj, 0, none⟩ = some (.slice olj (J.1).L.length clj) := HOj.out.b.cell 0
      have HOj1 : x2.cell? ⟨qj, 1, none⟩ = some (.slice osj (J.1).S.length csj) := HOj.out.b.cell 1
      go_wp2_with (fail)
      refine (within_no s u ol os ol'' os'' cl cs cl'' cs'' (by first | omega | exact HML.out.1 | exact HJL.out.1) (by first | omega | exact HML.out.2 | exact HJL.out.2) (by first | omega | exact HML.out.1 | exact HJL.out.1) (by first | omega | exact HML.out.2 | exact HJL.out.2) (NO.out.1) _ (HR.out.1.1.below encR_len (by decide) HB.out) (HR.out.1.2.below encI_len (by decide) HB.out) (HR.out.2.2.1.below encR_len (by decide) HB.out) (HR.out.2.2.2.below encI_len (by decide) HB.out)).mono ?_
      rintro e x3 ⟨rfl, hB⟩
      replace HA := Lib.hid (HA.out.below' hB)
      replace HBb := Lib.hid (HBb.out.below' hB)
      replace HC := Lib.hid (HC.out.below' hB)
      replace HB := Lib.hid (HB.out.trans (hB.mono HB.out.size))
      replace HK := Lib.hid (Nat.le_trans HK.out hB.size)
      replace HOm := Lib.hid (HOm.out.below hB)
      replace HOj := Lib.hid (HOj.out.below hB)
      clear hB
      clear HA0 HA1 HBb0 HBb1 HC0 HC1 HOm0 HOm1 HOj0 HOj1
      have HA0 : x3.cell? ⟨w.heap.size, 0, none⟩ = some (.slice ol s.L.length cl) := HA.out.cell 0
      have HA1 : x3.cell? ⟨w.heap.size, 1, none⟩ = some (.slice os s.S.length cs) := HA.out.cell 1
      have HBb0 : x3.cell? ⟨w.heap.size + 1, 0, none⟩ = some (.slice ol' t.L.length cl') := HBb.out.cell 0
      have HBb1 : x3.cell? ⟨w.heap.size + 1, 1, none⟩ = some (.slice os' t.S.length cs') := HBb.out.cell 1
      have HC0 : x3.cell? ⟨w.heap.size + 2, 0, none⟩ = some (.slice ol'' u.L.length cl'') := HC.out.cell 0
      have HC1 : x3.cell? ⟨w.heap.size + 2, 1, none⟩ = some (.slice os'' u.S.length cs'') := HC.out.cell 1
      have HOm0 : x3.cell? ⟨qm, 0, none⟩ = some (.slice olm (M.1).L.length clm) := HOm.out.b.cell 0
      have HOm1 : x3.cell? ⟨qm, 1, none⟩ = some (.slice osm (M.1).S.length csm) := HOm.out.b.cell 1
      have HOj0 : x3.cell? ⟨qj, 0, none⟩ = some (.slice olj (J.1).L.length clj) := HOj.out.b.cell 0
      have HOj1 : x3.cell? ⟨qj, 1, none⟩ = some (.slice osj (J.1).S.length csj) := HOj.out.b.cell 1
      go_wp2_with (fail)
      refine (within_no t u ol' os' ol'' os'' cl' cs' cl'' cs'' (by first | omega | exact HML.out.1 | exact HJL.out.1) (by first | omega | exact HML.out.2 | exact HJL.out.2) (by first | omega | exact HML.out.1 | exact HJL.out.1) (by first | omega | exact HML.out.2 | exact HJL.out.2) (NO.out.2.1) _ (HR.out.2.1.1.below encR_len (by decide) HB.out) (HR.out.2.1.2.below encI_len (by decide) HB.out) (HR.out.2.2.1.below encR_len (by decide) HB.out) (HR.out.2.2.2.below encI_len (by decide) HB.out)).mono ?_
      rintro e x4 ⟨rfl, hB⟩
      replace HA := Lib.hid (HA.out.below' hB)
      replace HBb := Lib.hid (HBb.out.below' hB)
      replace HC := Lib.hid (HC.out.below' hB)
      replace HB := Lib.hid (HB.out.trans (hB.mono HB.out.size))
      replace HK := Lib.hid (Nat.le_trans HK.out hB.size)
      replace HOm := Lib.hid (HOm.out.below hB)
      replace HOj := Lib.hid (HOj.out.below hB)
      clear hB
      clear HA0 HA1 HBb0 HBb1 HC0 HC1 HOm0 HOm1 HOj0 HOj1
      have HA0 : x4.cell? ⟨w.heap.size, 0, none⟩ = some (.slice ol s.L.length cl) := HA.out.cell 0
      have HA1 : x4.cell? ⟨w.heap.size, 1, none⟩ = some (.slice os s.S.length cs) := HA.out.cell 1
      have HBb0 : x4.cell? ⟨w.heap.size + 1, 0, none⟩ = some (.slice ol' t.L.length cl') := HBb.out.cell 0
      have HBb1 : x4.cell? ⟨w.heap.size + 1, 1, none⟩ = some (.slice os' t.S.length cs') := HBb.out.cell 1
      have HC0 : x4.cell? ⟨w.heap.size + 2, 0, none⟩ = some (.slice ol'' u.L.length cl'') := HC.out.cell 0
      have HC1 : x4.cell? ⟨w.heap.size + 2, 1, none⟩ = some (.slice os'' u.S.length cs'') := HC.out.cell 1
      have HOm0 : x4.cell? ⟨qm, 0, none⟩ = some (.slice olm (M.1).L.length clm) := HOm.out.b.cell 0
      have HOm1 : x4.cell? ⟨qm, 1, none⟩ = some (.slice osm (M.1).S.length csm) := HOm.out.b.cell 1
      have HOj0 : x4.cell? ⟨qj, 0, none⟩ = some (.slice olj (J.1).L.length clj) := HOj.out.b.cell 0
      have HOj1 : x4.cell? ⟨qj, 1, none⟩ = some (.slice osj (J.1).S.length csj) := HOj.out.b.cell 1
      go_wp2_with (fail)
      refine (within_no J.1 u olj osj ol'' os'' clj csj cl'' cs'' (by first | omega | exact HML.out.1 | exact HJL.out.1) (by first | omega | exact HML.out.2 | exact HJL.out.2) (by first | omega | exact HML.out.1 | exact HJL.out.1) (by first | omega | exact HML.out.2 | exact HJL.out.2) (both_len_no HJF.out.1 HJF.out.2.1 NO.out.2.2) _ HOj.out.o.rowL HOj.out.o.rowS (HR.out.2.2.1.below encR_len (by decide) HB.out) (HR.out.2.2.2.below encI_len (by decide) HB.out)).mono ?_
      rintro e x5 ⟨rfl, hB⟩
      replace HA := Lib.hid (HA.out.below' hB)
      replace HBb := Lib.hid (HBb.out.below' hB)
      replace HC := Lib.hid (HC.out.below' hB)
      replace HB := Lib.hid (HB.out.trans (hB.mono HB.out.size))
      replace HK := Lib.hid (Nat.le_trans HK.out hB.size)
      replace HOm := Lib.hid (HOm.out.below hB)
      replace HOj := Lib.hid (HOj.out.below hB)
      clear hB
      clear HA0 HA1 HBb0 HBb1 HC0 HC1 HOm0 HOm1 HOj0 HOj1
      have HA0 : x5.cell? ⟨w.heap.size, 0, none⟩ = some (.slice ol s.L.length cl) := HA.out.cell 0
      have HA1 : x5.cell? ⟨w.heap.size, 1, none⟩ = some (.slice os s.S.length cs) := HA.out.cell 1
      have HBb0 : x5.cell? ⟨w.heap.size + 1, 0, none⟩ = some (.slice ol' t.L.length cl') := HBb.out.cell 0
      have HBb1 : x5.cell? ⟨w.heap.size + 1, 1, none⟩ = some (.slice os' t.S.length cs') := HBb.out.cell 1
      have HC0 : x5.cell? ⟨w.heap.size + 2, 0, none⟩ = some (.slice ol'' u.L.length cl'') := HC.out.cell 0
      have HC1 : x5.cell? ⟨w.heap.size + 2, 1, none⟩ = some (.slice os'' u.S.length cs'') := HC.out.cell 1
      have HOm0 : x5.cell? ⟨qm, 0, none⟩ = some (.slice olm (M.1).L.length clm) := HOm.out.b.cell 0
      have HOm1 : x5.cell? ⟨qm, 1, none⟩ = some (.slice osm (M.1).S.length csm) := HOm.out.b.cell 1
      have HOj0 : x5.cell? ⟨qj, 0, none⟩ = some (.slice olj (J.1).L.length clj) := HOj.out.b.cell 0
      have HOj1 : x5.cell? ⟨qj, 1, none⟩ = some (.slice osj (J.1).S.length csj) := HOj.out.b.cell 1
      go_wp2_with (fail)
      refine (wakes_any _).mono ?_
      rintro e x6 ⟨rfl, hB⟩
      replace HA := Lib.hid (HA.out.below' hB)
      replace HBb := Lib.hid (HBb.out.below' hB)
      replace HC := Lib.hid (HC.out.below' hB)
      replace HB := Lib.hid (HB.out.trans (hB.mono HB.out.size))
      replace HK := Lib.hid (Nat.le_trans HK.out hB.size)
      replace HOm := Lib.hid (HOm.out.below hB)
      replace HOj := Lib.hid (HOj.out.below hB)
      clear hB
      clear HA0 HA1 HBb0 HBb1 HC0 HC1 HOm0 HOm1 HOj0 HOj1
      go_wp2
      go_ret
      exact ⟨rfl, HB.out⟩
    · skip
      have j0 : ((J.2 : Int) == 0) = false := by rw [hj0]; rfl
      clear hj0
      go_wp2_with (fail)
      try rw [hV, hqj]
      try rw [hV]
      try clear hV hqj hpj hszj
      refine (wakes_any _).mono ?_
      rintro e x1 ⟨rfl, hB⟩
      replace HA := Lib.hid (HA.out.below' hB)
      replace HBb := Lib.hid (HBb.out.below' hB)
      replace HC := Lib.hid (HC.out.below' hB)
      replace HB := Lib.hid (HB.out.trans (hB.mono HB.out.size))
      replace HK := Lib.hid (Nat.le_trans HK.out hB.size)
      replace HOm := Lib.hid (HOm.out.below hB)
      replace HOj := Lib.hid (HOj.out.below hB)
      clear hB
      clear HA0 HA1 HBb0 HBb1 HC0 HC1 HOm0 HOm1 HOj0 HOj1
      go_wp2
      go_ret
      exact ⟨rfl, HB.out⟩
end Go.Proofs.Ytdcmkiggnmajgaa.Pr
