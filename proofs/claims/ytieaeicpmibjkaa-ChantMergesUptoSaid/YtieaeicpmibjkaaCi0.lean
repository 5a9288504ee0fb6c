/- Stage 31: ChantScales. -/
import Derived.Test.YtieaeicpmibjkaaChz
namespace Go.Proofs.Ytieaeicpmibjkaa
set_option linter.unusedVariables false
set_option linter.unusedSimpArgs false
open Go Go.RowKit Go.Shelf
set_option maxRecDepth 100000

theorem fin_nan {x : Nat} (h : fnan x = true) : finB x = false := by
  unfold fnan at h; unfold finB
  cases e : rd x with
  | nan => rfl
  | number => simp [e, Ieee.Datum.isNaN] at h
  | infinity => simp [e, Ieee.Datum.isNaN] at h
theorem fin_ok {x : Nat} (h : finB x = true) : fnan x = false := by
  cases e : fnan x with
  | false => rfl
  | true => simp [fin_nan e] at h
theorem okS_same {r r' : Nat} (total : Nat) (h : FSame r r') : okS total r = okE total r' := by
  have key : ∀ x, okS total x = okE total x := fun x => by
    unfold okS okE
    cases hf : finB x with
    | false => cases finB total <;> rfl
    | true =>
      have hn := fin_ok hf
      unfold flt feq fgt
      have e0 := ford_cases x 0
      have n0 : fnan 0 = false := by unfold fnan; rw [rd_0]; rfl
      rw [hn, n0] at e0
      rcases e0 with ⟨_, h | h⟩ | ⟨_, _, ⟨_, e⟩ | ⟨_, e⟩ | ⟨_, e⟩⟩ <;> first | (cases h; done) | (rw [e]; cases finB total <;> cases (ford total 0 == some Ordering.lt) <;> rfl)
  rcases h with rfl | ⟨a, b⟩
  · exact key r
  · unfold okS okE
    rw [fin_nan a, fin_nan b]; cases finB total <;> rfl
theorem okE_fin {total r : Nat} (h : okE total r = true) : fnan r = false := by
  unfold okE at h
  simp only [Bool.and_eq_true] at h
  exact fin_ok h.1.1.2
theorem ScOK.same {q q' : Nat} {l a b : List Nt} (ha : ScOK q l a) (hb : ScOK q' l b) (hq : FSame q q') : NotesSame a b := by
  refine ⟨ha.1.trans hb.1.symm, fun i x y hx hy => ?_⟩
  have hi : i < l.length := by have := (List.getElem?_eq_some_iff.1 hx).1; rw [ha.1] at this; exact this
  obtain ⟨z, hz⟩ : ∃ z, l[i]? = some z := ⟨_, List.getElem?_eq_getElem hi⟩
  obtain ⟨a1, a2, a3, a4, ⟨p, a5, a6⟩, ⟨p', a7, a8⟩⟩ := ha.2 i z x hz hx
  obtain ⟨b1, b2, b3, b4, ⟨s, b5, b6⟩, ⟨s', b7, b8⟩⟩ := hb.2 i z y hz hy
  refine ⟨a1.trans b1.symm, a2.trans b2.symm, a3.trans b3.symm, a4.trans b4.symm, ?_, ?_⟩
  · rw [a6, b6]; exact plain_same (a5.same (.refl _) hq b5)
  · rw [a8, b8]; exact plain_same (a7.same (.refl _) hq b7)
theorem RowAt.keep {w w' : World} {r : Option Nat} {o : Option Addr} {l : List Nt} (h : RowAt w encN 6 o l) (hg : w.grownBy w' r) (hne : ∀ g off, o = some ⟨g, off, none⟩ → l ≠ [] → r ≠ some g) : RowAt w' encN 6 o l := by
  intro i x hi
  obtain ⟨g, off, ho, hc⟩ := h i x hi
  have hl : l ≠ [] := fun e => by rw [e] at hi; simp at hi
  have h0 := hc 0 (by decide)
  have hlt : g < w.heap.size := lt_cell (h0.trans (show (encN x)[0]? = some (.int .i64 x.line) from rfl))
  have hb := hg.block g hlt (fun e => hne g off ho hl e.symm)
  exact ⟨g, off, ho, fun j hj => by rw [World.cell?_of_block (w := w) (w' := w') (a := ⟨g, off + i * 6 + j, none⟩) hb]; exact hc j hj⟩
theorem RowAt.pre {w : World} {o : Option Addr} {l : List Nt} (h : RowAt w encN 6 o (room9 l)) : RowAt w encN 6 o l := fun i x hi => h i x (by
  unfold room9
  rw [List.getElem?_append_left (List.getElem?_eq_some_iff.1 hi).1]; exact hi)

set_option maxHeartbeats 16000000 in
theorem scales_law (l : List Nt) (o : Option Addr) (cap total : Nat) (hf : NForm o l.length cap) (w : World) (hr : RowAt w encN 6 o l) :
    Calls Try.prog 4 #[.slice o l.length cap, .float .f64 total] w fun e w' => e = .returned (.bool true) ∧ Below w.heap.size w w' := by
  have c1 := fun W => few_any l o cap hf W
  have hrL : RowAt w encN 6 o (l.take 200) := rowAt_take hr 200
  have hfL : NForm o (l.take 200).length cap := hf.take (by rw [List.length_take]; omega)
  have hnL : (l.take 200).length ≤ 200 := by rw [List.length_take]; omega
  obtain ⟨L, hL⟩ : ∃ L, l.take 200 = L := ⟨_, rfl⟩
  rw [hL] at c1 hrL hfL hnL
  have c2 := fun W h => scaleD_any L o cap total (by omega) W h
  have c3 := fun W h => room_any L o cap hfL (by omega) W h
  have c5 := fun W h => lengthD_any L o cap (by omega) W h
  have hR9 : (room9 L).length = L.length + 9 := by simp [room9]
  clear hL hr hf
  go_enter Try.func4, Try.ntmps4
  go_wp2_with (fail)
  refine (wakes_any _).mono ?_
  rintro e w1 ⟨rfl, hb1⟩
  have hr1 := hrL.below encN_len (by decide) hb1
  go_wp2_with (fail)
  refine (c1 _).mono ?_
  rintro e w' ⟨rfl, hw⟩
  obtain rfl : w1 = w' := hw.symm
  clear hw
  go_wp2_with (fail)
  refine (c2 _ hr1).mono ?_
  rintro e w2 ⟨rq, hlq, hcase, hb2⟩
  have hB2 := hb1.trans (hb2.mono hb1.size)
  have hr2 := hr1.below encN_len (by decide) hb2
  rcases hcase with ⟨hok, rfl⟩ | ⟨hok, q, vw, lw, hq, hsc, rfl, hownW⟩
  · clear hb1 hb2 hr1
    go_wp2_with (fail)
    refine (c3 _ hr2).mono ?_
    rintro e w3 ⟨of, cf, rfl, hownF, hb3⟩
    have hB3 := hB2.trans (hb3.mono hB2.size)
    have hr3 := hr2.below encN_len (by decide) hb3
    have hF3 : RowAt w3 encN 6 of (room9 L) := RowAt.of_own encN_len hownF rfl
    obtain ⟨gf, hgf⟩ : ∃ g, of = some ⟨g, 0, none⟩ := by
      obtain ⟨o', c', e', ho'⟩ := own_slice hownF
      cases e'
      exact ho' (by omega)
    subst hgf
    have hgf3 := hownF.lt gf rfl
    have hcf : L.length + 9 ≤ cf ∧ cf ≤ 9223372036854775807 := by
      rcases hownF.2 with ⟨e, _⟩ | ⟨g, c, cur, e, _, _, h1, h2, _⟩
      · cases e
      · simp only [Value.slice.injEq, Option.some.injEq, Addr.mk.injEq, and_true, true_and] at e
        obtain ⟨rfl, rfl⟩ := e
        exact ⟨by omega, h2⟩
    have hfF : NForm (some ⟨gf, 0, none⟩) L.length cf := .inr ⟨_, rfl, by omega, hcf.2⟩
    have c4 := fun W h => length_any L (some ⟨gf, 0, none⟩) cf (by omega) W h
    have c7 := fun W h => scale_any L (some ⟨gf, 0, none⟩) cf total hfF (by omega) W h
    have c8 := fun W h h' => stayed_yes L o (some ⟨gf, 0, none⟩) cap cf (by omega) W h h'
    have hcl : L.length ≤ cf := by omega
    have HC := Lib.hid (And.intro hgf3 hcf)
    clear hownF hb3 hr2 hgf3 hcf hB2 c3
    rw [hR9] at c8 ⊢
    go_wp2_with (fail)
    refine (c4 _ hF3.pre).mono ?_
    rintro e w4 ⟨r4, rfl, hl4, hb4⟩
    have hB4 := hB3.trans (hb4.mono hB3.size)
    have hr4 := hr3.below encN_len (by decide) hb4
    have hF4 := hF3.below encN_len (by decide) hb4
    clear hb4 hr3 hF3
    go_wp2_with (fail)
    refine (c5 _ hr4).mono ?_
    rintro e w5 ⟨r5, rfl, hl5, hb5⟩
    have hB5 := hB4.trans (hb5.mono hB4.size)
    have hr5 := hr4.below encN_len (by decide) hb5
    have hF5 := hF4.below encN_len (by decide) hb5
    clear hb5 hr4 hF4 hB3
    go_wp2_with (fail)
    refine (same_yes r4 r5 (hl4.same hl5) _).mono ?_
    rintro e w' ⟨rfl, hw⟩
    obtain rfl : w5 = w' := hw.symm
    clear hw
    have lt_o : ∀ g off, o = some ⟨g, off, none⟩ → L ≠ [] → g < w5.heap.size := fun g off e hne => by
      subst e; exact hr5.lt encN_len (by decide) hne
    have lt_F : gf < w5.heap.size := hF5.lt encN_len (by decide) (fun e => by rw [e] at hR9; simp at hR9)
    go_wp2_with (fail)
    refine (c7 _ hF5.pre).mono ?_
    rintro e w6 ⟨ra, hla, hcA, hb6⟩
    have hoka := (okS_same total (hla.same hlq)).trans hok
    have hB6 := hB5.trans (hb6.mono hB5.size)
    have hr6 := hr5.below encN_len (by decide) hb6
    have hF6 := hF5.below encN_len (by decide) hb6
    rcases hcA with ⟨_, rfl⟩ | ⟨h, _⟩
    case inr => rw [hoka] at h; cases h
    clear hb6 hr5 hF5 hB4
    go_wp2_with (fail)
    refine (c7 _ hF6.pre).mono ?_
    rintro e w7 ⟨rb, hlb, hcB, hb7⟩
    have hokb := (okS_same total (hlb.same hlq)).trans hok
    have hB7 := hB6.trans (hb7.mono hB6.size)
    have hr7 := hr6.below encN_len (by decide) hb7
    have hF7 := hF6.below encN_len (by decide) hb7
    rcases hcB with ⟨_, rfl⟩ | ⟨h, _⟩
    case inr => rw [hokb] at h; cases h
    clear hb7 hr6 hF6 hB5
    go_wp2_with (fail)
    refine (c8 _ hF7 hr7).mono ?_
    rintro e w8 ⟨rfl, hb8⟩
    have hB8 := hB7.trans (hb8.mono hB7.size)
    clear hb8 hr7 hF7 hB6
    go_wp2_with (fail)
    refine (wakes_any _).mono ?_
    rintro e w9 ⟨rfl, hb9⟩
    have hB9 := hB8.trans (hb9.mono hB8.size)
    go_wp2
    go_ret
    exact ⟨rfl, hB9⟩
  · obtain ⟨ow, cw, rfl, _⟩ := own_slice hownW
    have hW2 : RowAt w2 encN 6 ow lw := RowAt.of_own encN_len hownW hsc.1
    have hlw := hsc.1
    clear hb1 hb2 hr1
    go_wp2_with (fail)
    refine (c3 _ hr2).mono ?_
    rintro e w3 ⟨of, cf, rfl, hownF, hb3⟩
    have hB3 := hB2.trans (hb3.mono hB2.size)
    have hr3 := hr2.below encN_len (by decide) hb3
    have hW3 := hW2.below encN_len (by decide) hb3
    clear hW2 hownW
    have hF3 : RowAt w3 encN 6 of (room9 L) := RowAt.of_own encN_len hownF rfl
    obtain ⟨gf, hgf⟩ : ∃ g, of = some ⟨g, 0, none⟩ := by
      obtain ⟨o', c', e', ho'⟩ := own_slice hownF
      cases e'
      exact ho' (by omega)
    subst hgf
    have hgf3 := hownF.lt gf rfl
    have hcf : L.length + 9 ≤ cf ∧ cf ≤ 9223372036854775807 := by
      rcases hownF.2 with ⟨e, _⟩ | ⟨g, c, cur, e, _, _, h1, h2, _⟩
      · cases e
      · simp only [Value.slice.injEq, Option.some.injEq, Addr.mk.injEq, and_true, true_and] at e
        obtain ⟨rfl, rfl⟩ := e
        exact ⟨by omega, h2⟩
    have hfF : NForm (some ⟨gf, 0, none⟩) L.length cf := .inr ⟨_, rfl, by omega, hcf.2⟩
    have c4 := fun W h => length_any L (some ⟨gf, 0, none⟩) cf (by omega) W h
    have c7 := fun W h => scale_any L (some ⟨gf, 0, none⟩) cf total hfF (by omega) W h
    have c8 := fun W h h' => stayed_yes L o (some ⟨gf, 0, none⟩) cap cf (by omega) W h h'
    have hcl : L.length ≤ cf := by omega
    have HC := Lib.hid (And.intro hgf3 hcf)
    clear hownF hb3 hr2 hgf3 hcf hB2 c3
    rw [hR9] at c8 ⊢
    go_wp2_with (fail)
    refine (c4 _ hF3.pre).mono ?_
    rintro e w4 ⟨r4, rfl, hl4, hb4⟩
    have hB4 := hB3.trans (hb4.mono hB3.size)
    have hr4 := hr3.below encN_len (by decide) hb4
    have hF4 := hF3.below encN_len (by decide) hb4
    have hW4 := hW3.below encN_len (by decide) hb4
    clear hb4 hr3 hF3
    go_wp2_with (fail)
    refine (c5 _ hr4).mono ?_
    rintro e w5 ⟨r5, rfl, hl5, hb5⟩
    have hB5 := hB4.trans (hb5.mono hB4.size)
    have hr5 := hr4.below encN_len (by decide) hb5
    have hF5 := hF4.below encN_len (by decide) hb5
    have hW5 := hW4.below encN_len (by decide) hb5
    clear hb5 hr4 hF4 hB3
    go_wp2_with (fail)
    refine (same_yes r4 r5 (hl4.same hl5) _).mono ?_
    rintro e w' ⟨rfl, hw⟩
    obtain rfl : w5 = w' := hw.symm
    clear hw
    have lt_o : ∀ g off, o = some ⟨g, off, none⟩ → L ≠ [] → g < w5.heap.size := fun g off e hne => by
      subst e; exact hr5.lt encN_len (by decide) hne
    have lt_F : gf < w5.heap.size := hF5.lt encN_len (by decide) (fun e => by rw [e] at hR9; simp at hR9)
    have lt_W : ∀ g off, ow = some ⟨g, off, none⟩ → lw ≠ [] → g < w5.heap.size := fun g off e hne => by
      subst e; exact hW5.lt encN_len (by decide) hne
    have hw5 := hB5.size
    go_wp2_with (fail)
    refine (c7 _ hF5.pre).mono ?_
    rintro e w6 ⟨ra, hla, hcA, hb6⟩
    have hoka := (okS_same total (hla.same hlq)).trans hok
    have hB6 := hB5.trans (hb6.mono hB5.size)
    have hr6 := hr5.below encN_len (by decide) hb6
    have hF6 := hF5.below encN_len (by decide) hb6
    have hW6 := hW5.below encN_len (by decide) hb6
    rcases hcA with ⟨h, _⟩ | ⟨_, qa, va, la, hqa, hsa, rfl, hownA⟩
    case inl => rw [hoka] at h; cases h
    have hqs : FSame qa q := by
      have h1 : FSame ra rq := hla.same hlq
      exact hqa.same (.refl _) h1 hq
    obtain ⟨oa, ca, rfl, hoa⟩ := own_slice hownA
    have hA6 : RowAt w6 encN 6 oa la := RowAt.of_own encN_len hownA hsa.1
    clear hb6 hr5 hF5 hB4
    go_wp2_with (fail)
    refine (c7 _ hF6.pre).mono ?_
    rintro e w7 ⟨rb, hlb, hcB, hb7⟩
    have hokb := (okS_same total (hlb.same hlq)).trans hok
    have hB7 := hB6.trans (hb7.mono hB6.size)
    have hr7 := hr6.below encN_len (by decide) hb7
    have hF7 := hF6.below encN_len (by decide) hb7
    have hW7 := hW6.below encN_len (by decide) hb7
    rcases hcB with ⟨h, _⟩ | ⟨_, qb, vb, lb, hqb, hsb, rfl, hownB⟩
    case inl => rw [hokb] at h; cases h
    have hqs2 : FSame qb q := by
      have h1 : FSame rb rq := hlb.same hlq
      exact hqb.same (.refl _) h1 hq
    obtain ⟨ob, cb, rfl, hob⟩ := own_slice hownB
    have hBb7 : RowAt w7 encN 6 ob lb := RowAt.of_own encN_len hownB hsb.1
    have hA7 := hA6.below encN_len (by decide) hb7
    have hownA7 := own_below hownA hb7
    clear hA6
    clear hb7 hr6 hF6 hB5
    go_wp2_with (fail)
    refine (c8 _ hF7 hr7).mono ?_
    rintro e w8 ⟨rfl, hb8⟩
    have hB8 := hB7.trans (hb8.mono hB7.size)
    have hr8 := hr7.below encN_len (by decide) hb8
    have hF8 := hF7.below encN_len (by decide) hb8
    have hW8 := hW7.below encN_len (by decide) hb8
    have hA8 := hA7.below encN_len (by decide) hb8
    have hBb8 := hBb7.below encN_len (by decide) hb8
    have hownA8 := own_below hownA7 hb8
    have nA := hsa.same hsc hqs
    have nB := hsb.same hsc hqs2
    have c9 := fun W h h' => notes_yes la lw oa ow ca cw nA (by rw [hsa.1]; omega) W h h'
    have c11 := fun W h h' => notes_yes lb lw ob ow cb cw nB (by rw [hsb.1]; omega) W h h'
    have c10 := fun W h => spoil_any (.slice oa L.length ca) L.length w5.heap.size (la.flatMap encN) (by omega) W h
    rw [hsa.1, hlw] at c9
    rw [hsb.1, hlw] at c11
    have hneA : ∀ g, (Value.slice oa L.length ca).ownBlock = some g → w5.heap.size ≤ g ∧ g < w6.heap.size := fun g e => hownA.lt g e
    have hneB : ∀ g, (Value.slice ob L.length cb).ownBlock = some g → w6.heap.size ≤ g := fun g e => (hownB.lt g e).1
    clear hb8 hr7 hF7 hW7 hA7 hBb7 hownA7 hownB hownA hB6
    go_wp2_with (fail)
    refine (c9 _ hA8 hW8).mono ?_
    rintro e w9 ⟨rfl, hb9⟩
    have hB9 := hB8.trans (hb9.mono hB8.size)
    have hr9 := hr8.below encN_len (by decide) hb9
    have hF9 := hF8.below encN_len (by decide) hb9
    have hW9 := hW8.below encN_len (by decide) hb9
    have hBb9 := hBb8.below encN_len (by decide) hb9
    have hownA9 := own_below hownA8 hb9
    clear hb9 hr8 hF8 hW8 hBb8 hA8 hownA8 hB8
    go_wp2_with (fail)
    refine (c10 _ hownA9).mono ?_
    rintro e w10 ⟨rfl, hg⟩
    have hr10 := hr9.keep hg (fun g off e hne e2 => by have := lt_o g off e hne; have := (hneA g e2).1; omega)
    have hF10 := hF9.keep hg (fun g off e hne e2 => by cases e; have := (hneA _ e2).1; omega)
    have hW10 := hW9.keep hg (fun g off e hne e2 => by have := lt_W g off e hne; have := (hneA g e2).1; omega)
    have hBb10 := hBb9.keep hg (fun g off e hne e2 => by
      have h1 := (hneA g e2).2
      have h2 := hneB g (by rw [e]; rfl)
      omega)
    have hB10 := hB9.grown hg hB9.size (fun r e => by have := (hneA r e).1; omega)
    clear hg hr9 hF9 hW9 hBb9 hownA9 hB9
    go_wp2_with (fail)
    refine (c11 _ hBb10 hW10).mono ?_
    rintro e w11 ⟨rfl, hb11⟩
    have hB11 := hB10.trans (hb11.mono hB10.size)
    have hr11 := hr10.below encN_len (by decide) hb11
    have hF11 := hF10.below encN_len (by decide) hb11
    clear hb11 hr10 hF10 hW10 hBb10 hB10
    go_wp2_with (fail)
    refine (c8 _ hF11 hr11).mono ?_
    rintro e w12 ⟨rfl, hb12⟩
    have hB12 := hB11.trans (hb12.mono hB11.size)
    clear hb12 hr11 hF11 hB11
    go_wp2_with (fail)
    refine (wakes_any _).mono ?_
    rintro e w13 ⟨rfl, hb13⟩
    have hB13 := hB12.trans (hb13.mono hB12.size)
    go_wp2
    go_ret
    exact ⟨rfl, hB13⟩
end Go.Proofs.Ytieaeicpmibjkaa
