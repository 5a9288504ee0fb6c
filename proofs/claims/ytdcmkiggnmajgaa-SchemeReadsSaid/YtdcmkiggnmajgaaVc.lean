/- Stage 16: the law SchemeReads. -/
import Derived.Test.YtdcmkiggnmajgaaV7
import Derived.Test.YtdcmkiggnmajgaaV8
import Derived.Test.YtdcmkiggnmajgaaV9
import Derived.Test.YtdcmkiggnmajgaaVb
namespace Go.Proofs.Ytdcmkiggnmajgaa
set_option linter.unusedVariables false
set_option linter.unusedSimpArgs false
open Go Go.RowKit Go.Shelf
set_option maxRecDepth 100000

theorem runR_small (s : ByteArray) : ∀ n i st, StOK st → (runR s n i st).1.L.length ≤ 512 ∧ (runR s n i st).1.S.length ≤ 512 := by
  intro n
  induction n with
  | zero =>
    intro i st h
    have h1 : st.L.length ≤ 512 := h.1
    have h2 : st.S.length ≤ st.L.length := h.2.2.2.1
    unfold runR
    split
    · simp
    · exact ⟨h1, by show st.S.length ≤ 512; omega⟩
  | succ n ih =>
    intro i st h
    unfold runR
    split
    · next he => exact ih _ _ (h.next he)
    · simp
theorem readR_small (s : ByteArray) : (readR s).1.L.length ≤ 512 ∧ (readR s).1.S.length ≤ 512 := by
  unfold readR
  split
  · simp
  · exact runR_small s _ _ _ StOK.start
theorem eqB_self (s : Sc) : eqB s s = true := decide_eq_true rfl
theorem own_gr2 {W W' : World} {base n sz : Nat} {e : TypeId} {v : Value} {xs : List Value} {r1 r2 : Option Nat} (h : W.ownsRow base e sz v n xs) (hg : Gr2 W W' r1 r2) (hr : ∀ g, v.ownBlock = some g → some g ≠ r1 ∧ some g ≠ r2) : W'.ownsRow base e sz v n xs :=
  own_same h fun g hgb => hg.2.2.2.2 g (h.lt g hgb).2 (hr g hgb).1 (hr g hgb).2
theorem blk_gr2 {W W' : World} {B : Nat} {cs : Array Value} {t : TypeId} {r1 r2 : Option Nat} (h : Blk W B cs t) (hg : Gr2 W W' r1 r2) (h1 : some B ≠ r1) (h2 : some B ≠ r2) : Blk W' B cs t := (hg.2.2.2.2 B h.lt h1 h2).trans h
theorem below_gr2 {w W W' : World} {base : Nat} {r1 r2 : Option Nat} (h : Below base w W) (hg : Gr2 W W' r1 r2) (hb : base ≤ W.heap.size) (h1 : ∀ g, r1 = some g → base ≤ g) (h2 : ∀ g, r2 = some g → base ≤ g) : Below base w W' :=
  h.trans ⟨hg.1, hg.2.1, hg.2.2.1, hg.2.2.2.1, fun k hk => hg.2.2.2.2 k (by omega) (fun e => by have := h1 k e.symm; omega) (fun e => by have := h2 k e.symm; omega)⟩
/-- Rows of a scheme of one's own, from a place on and ahead of another one. -/
structure OwS (W : World) (b0 b1 : Nat) (ol os : Option Addr) (cl cs : Nat) (t : Sc) : Prop where
  l : W.ownsRow b0 79 2 (.slice ol t.L.length cl) t.L.length (t.L.flatMap encR)
  s : W.ownsRow b0 3 1 (.slice os t.S.length cs) t.S.length (t.S.flatMap encI)
  lt : ∀ g, ((Value.slice ol t.L.length cl).ownBlock = some g ∨ (Value.slice os t.S.length cs).ownBlock = some g) → g < b1
theorem OwS.below {W W' : World} {b0 b1 : Nat} {ol os : Option Addr} {cl cs : Nat} {t : Sc} (h : OwS W b0 b1 ol os cl cs t) (hb : Below W.heap.size W W') : OwS W' b0 b1 ol os cl cs t := ⟨own_below h.l hb, own_below h.s hb, h.lt⟩
theorem OwS.rowL {W : World} {b0 b1 : Nat} {ol os : Option Addr} {cl cs : Nat} {t : Sc} (h : OwS W b0 b1 ol os cl cs t) : RowAt W encR 2 ol t.L := RowAt.of_own encR_len h.l rfl
theorem OwS.rowS {W : World} {b0 b1 : Nat} {ol os : Option Addr} {cl cs : Nat} {t : Sc} (h : OwS W b0 b1 ol os cl cs t) : RowAt W encI 1 os t.S := RowAt.of_own encI_len h.s rfl
theorem OwS.gr2 {W W' : World} {b0 b1 c0 c1 : Nat} {ol os ol' os' : Option Addr} {cl cs cl' cs' : Nat} {t t' : Sc} (h : OwS W b0 b1 ol os cl cs t) (h' : OwS W c0 c1 ol' os' cl' cs' t') (hg : Gr2 W W' (Value.slice ol' t'.L.length cl').ownBlock (Value.slice os' t'.S.length cs').ownBlock) (hd : b1 ≤ c0 ∨ c1 ≤ b0) : OwS W' b0 b1 ol os cl cs t := by
  have key : ∀ g, ((Value.slice ol t.L.length cl).ownBlock = some g ∨ (Value.slice os t.S.length cs).ownBlock = some g) → some g ≠ (Value.slice ol' t'.L.length cl').ownBlock ∧ some g ≠ (Value.slice os' t'.S.length cs').ownBlock := by
    intro g hgb
    have h1 := h.lt g hgb
    have h2 : b0 ≤ g := hgb.elim (fun e => (h.l.lt g e).1) (fun e => (h.s.lt g e).1)
    refine ⟨fun e => ?_, fun e => ?_⟩
    · have h3 := h'.lt g (.inl e.symm)
      have h4 := (h'.l.lt g e.symm).1
      omega
    · have h3 := h'.lt g (.inr e.symm)
      have h4 := (h'.s.lt g e.symm).1
      omega
  exact ⟨own_gr2 h.l hg (fun g e => key g (.inl e)), own_gr2 h.s hg (fun g e => key g (.inr e)), h.lt⟩
theorem OwS.of {w w' : World} {vl vs : Value} {t : Sc} (hl : w'.ownsRow w.heap.size 79 2 vl t.L.length (t.L.flatMap encR)) (hs : w'.ownsRow w.heap.size 3 1 vs t.S.length (t.S.flatMap encI)) :
    ∃ ol os cl cs, vl = .slice ol t.L.length cl ∧ vs = .slice os t.S.length cs ∧ OwS w' w.heap.size w'.heap.size ol os cl cs t := by
  obtain ⟨ol, cl, rfl, _⟩ := own_slice hl
  obtain ⟨os, cs, rfl, _⟩ := own_slice hs
  exact ⟨ol, os, cl, cs, rfl, rfl, hl, hs, fun g h => h.elim (fun e => (hl.lt g e).2) (fun e => (hs.lt g e).2)⟩

set_option maxHeartbeats 8000000 in
theorem reads_law (s : ByteArray) (hs : s.size ≤ 9223372036854775807) (w : World) :
    Calls Try.prog 4 #[.string s] w fun e w' => e = .returned (.bool true) ∧ Below w.heap.size w w' := by
  obtain ⟨hsm1, hsm2⟩ := readR_small s
  have cA : ∀ W, Calls Try.prog 28 #[.string s] W fun e w' => ∃ ol os cl cs, e = .returned (.tuple #[.agg #[.slice ol (readR s).1.L.length cl, .slice os (readR s).1.S.length cs], .agg #[.int .i64 (readR s).2.1, .int .i64 (readR s).2.2]]) ∧ OwS w' W.heap.size w'.heap.size ol os cl cs (readR s).1 ∧ Below W.heap.size W w' := fun W => by
    refine (refRead_any s hs W).mono ?_
    rintro e w1 ⟨vl, vs, rfl, hL, hS, hB⟩
    obtain ⟨ol, os, cl, cs, rfl, rfl, h⟩ := OwS.of hL hS
    exact ⟨ol, os, cl, cs, rfl, h, hB⟩
  have cB : ∀ W, Calls Try.prog 17 #[.string s] W fun e w' => ∃ ol os cl cs, e = .returned (.tuple #[.agg #[.slice ol (readR s).1.L.length cl, .slice os (readR s).1.S.length cs], .agg #[.int .i64 (readR s).2.1, .int .i64 (readR s).2.2]]) ∧ OwS w' W.heap.size w'.heap.size ol os cl cs (readR s).1 ∧ Below W.heap.size W w' := fun W => by
    refine (read_any s hs W).mono ?_
    rintro e w1 ⟨vl, vs, rfl, hL, hS, hB⟩
    obtain ⟨ol, os, cl, cs, rfl, rfl, h⟩ := OwS.of hL hS
    exact ⟨ol, os, cl, cs, rfl, h, hB⟩
  obtain ⟨⟨t, en, pn⟩, hR⟩ : ∃ R, readR s = R := ⟨_, rfl⟩
  rw [hR] at cA cB hsm1 hsm2
  simp only at cA cB hsm1 hsm2
  clear hR
  go_enter Try.func4, Try.ntmps4
  go_wp2_with (fail)
  refine (wakes_any _).mono ?_
  rintro e w1 ⟨rfl, hB1⟩
  go_wp2_with (fail)
  refine (cA _).mono ?_
  rintro e w2 ⟨ol0, os0, cl0, cs0, rfl, hO0, hB2⟩
  have hB2' := hB1.trans (hB2.mono hB1.size)
  have hA0 := (hO0.below (((Below.refl _ w2).alloc (Nat.le_refl _) (.cells #[.slice ol0 t.L.length cl0, .slice os0 t.S.length cs0] 25)).alloc (by simp) (.cells #[.int .i64 en, .int .i64 pn] 32)))
  have bA0 := (Blk.new w2 #[.slice ol0 t.L.length cl0, .slice os0 t.S.length cs0] 25).alloc (.cells #[.int .i64 en, .int .i64 pn] 32)
  have bA1 := Blk.new (w2.alloc (.cells #[.slice ol0 t.L.length cl0, .slice os0 t.S.length cs0] 25)) #[.int .i64 en, .int .i64 pn] 32
  rw [World.size_alloc] at bA1
  have hBA := (hB2'.alloc hB2'.size (.cells #[.slice ol0 t.L.length cl0, .slice os0 t.S.length cs0] 25)).alloc (by have := hB2'.size; simp; omega) (.cells #[.int .i64 en, .int .i64 pn] 32)
  have H0 := Lib.hid (And.intro hA0 (And.intro bA0 (And.intro bA1 hBA)))
  clear hO0 hB1 hB2 hB2' hA0 bA0 bA1 hBA
  go_wp2_with (fail)
  refine (cB _).mono ?_
  rintro e w3 ⟨ol1, os1, cl1, cs1, rfl, hO1, hB3⟩
  obtain ⟨hA0, bA0, bA1, hBA⟩ := H0.out
  have hA0 := hA0.below hB3
  have bA0 := bA0.below' hB3
  have bA1 := bA1.below' hB3
  have hBA := hBA.trans (hB3.mono hBA.size)
  obtain ⟨k1, hk1⟩ : ∃ k, ((w2.alloc (.cells #[.slice ol0 t.L.length cl0, .slice os0 t.S.length cs0] 25)).alloc (.cells #[.int .i64 en, .int .i64 pn] 32)).heap.size = k := ⟨_, rfl⟩
  have hkw := hB3.size
  rw [hk1] at hO1 hkw
  have hw1 : w.heap.size ≤ k1 := by rw [← hk1]; exact H0.out.2.2.2.size
  have hk2 : w2.heap.size + 2 ≤ k1 := by rw [← hk1]; simp
  clear hk1
  -- the first scheme's variables
  have s0 := (Blk.new w3 #[.slice ol1 t.L.length cl1, .slice os1 t.S.length cs1] 25).alloc (.cells #[.int .i64 en, .int .i64 pn] 32)
  have s1 := Blk.new (w3.alloc (.cells #[.slice ol1 t.L.length cl1, .slice os1 t.S.length cs1] 25)) #[.int .i64 en, .int .i64 pn] 32
  rw [World.size_alloc] at s1
  have hb3 := ((Below.refl _ w3).alloc (Nat.le_refl _) (.cells #[.slice ol1 t.L.length cl1, .slice os1 t.S.length cs1] 25)).alloc (by simp) (.cells #[.int .i64 en, .int .i64 pn] 32)
  have H1 := Lib.hid (And.intro (And.intro (hA0.below hb3) (And.intro (bA0.below' hb3) (bA1.below' hb3))) (And.intro (And.intro (hO1.below hb3) (And.intro s0 s1)) (hBA.trans (hb3.mono hBA.size))))
  clear hA0 bA0 bA1 hBA hO1 s0 s1 hb3 hB3 H0
  go_wp2_with (fail)
  refine (cB _).mono ?_
  rintro e w4 ⟨ol2, os2, cl2, cs2, rfl, hO2, hB4⟩
  obtain ⟨⟨hA0, bA0, bA1⟩, ⟨hC0, bC0, bC1⟩, hBA⟩ := H1.out
  have hA0 := hA0.below hB4
  have bA0 := bA0.below' hB4
  have bA1 := bA1.below' hB4
  have hC0 := hC0.below hB4
  have bC0 := bC0.below' hB4
  have bC1 := bC1.below' hB4
  have hBA := hBA.trans (hB4.mono hBA.size)
  obtain ⟨k2, hkk⟩ : ∃ k, ((w3.alloc (.cells #[.slice ol1 t.L.length cl1, .slice os1 t.S.length cs1] 25)).alloc (.cells #[.int .i64 en, .int .i64 pn] 32)).heap.size = k := ⟨_, rfl⟩
  rw [hkk] at hO2
  have hk3 : w3.heap.size + 2 ≤ k2 := by rw [← hkk]; simp
  clear hkk
  have s0 := (Blk.new w4 #[.slice ol2 t.L.length cl2, .slice os2 t.S.length cs2] 25).alloc (.cells #[.int .i64 en, .int .i64 pn] 32)
  have s1 := Blk.new (w4.alloc (.cells #[.slice ol2 t.L.length cl2, .slice os2 t.S.length cs2] 25)) #[.int .i64 en, .int .i64 pn] 32
  rw [World.size_alloc] at s1
  have hb4 := ((Below.refl _ w4).alloc (Nat.le_refl _) (.cells #[.slice ol2 t.L.length cl2, .slice os2 t.S.length cs2] 25)).alloc (by simp) (.cells #[.int .i64 en, .int .i64 pn] 32)
  have H2 := Lib.hid (And.intro (And.intro (hA0.below hb4) (And.intro (bA0.below' hb4) (bA1.below' hb4))) (And.intro (And.intro (hC0.below hb4) (And.intro (bC0.below' hb4) (bC1.below' hb4))) (And.intro (And.intro (hO2.below hb4) (And.intro s0 s1)) (hBA.trans (hb4.mono hBA.size)))))
  clear hA0 bA0 bA1 hC0 bC0 bC1 hBA hO2 s0 s1 hb4 hB4 H1
  obtain ⟨V, hV⟩ : ∃ V, (w4.alloc (.cells #[.slice ol2 t.L.length cl2, .slice os2 t.S.length cs2] 25)).alloc (.cells #[.int .i64 en, .int .i64 pn] 32) = V := ⟨_, rfl⟩
  rw [hV] at H2
  obtain ⟨⟨hA0, bA0, bA1⟩, ⟨hC0, bC0, bC1⟩, ⟨hD0, bD0, bD1⟩, hBA⟩ := H2.out
  have xa0 : V.cell? ⟨w2.heap.size, 0, none⟩ = some (.slice ol0 t.L.length cl0) := bA0.cell 0
  have xa1 : V.cell? ⟨w2.heap.size, 1, none⟩ = some (.slice os0 t.S.length cs0) := bA0.cell 1
  have ya0 : V.cell? ⟨w2.heap.size + 1, 0, none⟩ = some (.int .i64 en) := bA1.cell 0
  have ya1 : V.cell? ⟨w2.heap.size + 1, 1, none⟩ = some (.int .i64 pn) := bA1.cell 1
  have xc0 : V.cell? ⟨w3.heap.size, 0, none⟩ = some (.slice ol1 t.L.length cl1) := bC0.cell 0
  have xc1 : V.cell? ⟨w3.heap.size, 1, none⟩ = some (.slice os1 t.S.length cs1) := bC0.cell 1
  have yc0 : V.cell? ⟨w3.heap.size + 1, 0, none⟩ = some (.int .i64 en) := bC1.cell 0
  have yc1 : V.cell? ⟨w3.heap.size + 1, 1, none⟩ = some (.int .i64 pn) := bC1.cell 1
  have yd0 : V.cell? ⟨w4.heap.size + 1, 0, none⟩ = some (.int .i64 en) := bD1.cell 0
  have yd1 : V.cell? ⟨w4.heap.size + 1, 1, none⟩ = some (.int .i64 pn) := bD1.cell 1
  have cE := equal_any t t ol1 os1 ol0 os0 cl1 cs1 cl0 cs0 (by omega) (by omega) V hC0.rowL hC0.rowS hA0.rowL hA0.rowS
  rw [eqB_self] at cE
  clear hA0 bA0 bA1 hC0 bC0 bC1 hD0 bD0 bD1 hBA
  go_wp2_with (fail)
  clear hV
  refine cE.mono ?_
  rintro e w5 ⟨rfl, hB5⟩
  clear xa0 xa1 ya0 ya1 xc0 xc1 yc0 yc1 yd0 yd1 cE
  obtain ⟨⟨hA0, bA0, bA1⟩, ⟨hC0, bC0, bC1⟩, ⟨hD0, bD0, bD1⟩, hBA⟩ := H2.out
  have hA0 := hA0.below hB5
  have bA0 := bA0.below' hB5
  have hC0 := hC0.below hB5
  have bC0 := bC0.below' hB5
  have hD0 := hD0.below hB5
  have bD0 := bD0.below' hB5
  have hBA := hBA.trans (hB5.mono hBA.size)
  have xc0 : w5.cell? ⟨w3.heap.size, 0, none⟩ = some (.slice ol1 t.L.length cl1) := bC0.cell 0
  have xc1 : w5.cell? ⟨w3.heap.size, 1, none⟩ = some (.slice os1 t.S.length cs1) := bC0.cell 1
  have cP := spoil_any (.slice ol1 t.L.length cl1) (.slice os1 t.S.length cs1) t.L.length t.S.length k1 (t.L.flatMap encR) (t.S.flatMap encI) (by omega) (by omega) w5 (by have := hB5.size; have := bC0.lt; omega) hC0.l hC0.s
  have H3 := Lib.hid (And.intro (And.intro hA0 bA0) (And.intro hC0 (And.intro (And.intro hD0 bD0) hBA)))
  clear hA0 bA0 bA1 hC0 bC0 bC1 hD0 bD0 bD1 hBA hB5 H2
  go_wp2_with (fail)
  refine cP.mono ?_
  rintro e w6 ⟨rfl, hG⟩
  obtain ⟨⟨hA0, bA0⟩, hC0, ⟨hD0, bD0⟩, hBA⟩ := H3.out
  have nA := bA0.not_row (by decide) hC0.l
  have nA' := bA0.not_row (by decide) hC0.s
  have nD := bD0.not_row (by decide) hC0.l
  have nD' := bD0.not_row (by decide) hC0.s
  have hA6 := hA0.gr2 hC0 hG (.inl (by omega))
  have hD6 := hD0.gr2 hC0 hG (.inr (by omega))
  have bA6 := blk_gr2 bA0 hG nA nA'
  have bD6 := blk_gr2 bD0 hG nD nD'
  have hB6 := below_gr2 hBA hG (by have := hBA.size; omega) (fun g e => by have := (hC0.l.lt g e).1; have := hw1; omega) (fun g e => by have := (hC0.s.lt g e).1; have := hw1; omega)
  have xa0 : w6.cell? ⟨w2.heap.size, 0, none⟩ = some (.slice ol0 t.L.length cl0) := bA6.cell 0
  have xa1 : w6.cell? ⟨w2.heap.size, 1, none⟩ = some (.slice os0 t.S.length cs0) := bA6.cell 1
  have xd0 : w6.cell? ⟨w4.heap.size, 0, none⟩ = some (.slice ol2 t.L.length cl2) := bD6.cell 0
  have xd1 : w6.cell? ⟨w4.heap.size, 1, none⟩ = some (.slice os2 t.S.length cs2) := bD6.cell 1
  have cE := equal_any t t ol2 os2 ol0 os0 cl2 cs2 cl0 cs0 (by omega) (by omega) w6 hD6.rowL hD6.rowS hA6.rowL hA6.rowS
  rw [eqB_self] at cE
  have HB6 := Lib.hid hB6
  clear hA0 bA0 hC0 hD0 bD0 hBA nA nA' nD nD' hA6 hD6 bA6 bD6 hB6 H3 cP hG xc0 xc1
  go_wp2_with (fail)
  refine cE.mono ?_
  rintro e w7 ⟨rfl, hB7⟩
  have HB7 := Lib.hid (HB6.out.trans (hB7.mono HB6.out.size))
  clear cE hB7 xa0 xa1 xd0 xd1
  go_wp2_with (fail)
  refine (wakes_any _).mono ?_
  rintro e w8 ⟨rfl, hB8⟩
  have HB8 := Lib.hid (HB7.out.trans (hB8.mono HB7.out.size))
  clear hB8
  go_wp2
  go_ret
  exact ⟨rfl, HB8.out⟩
end Go.Proofs.Ytdcmkiggnmajgaa
