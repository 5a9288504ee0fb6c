/- Stage 16: SchemePrints at a wrong scheme; an owned scheme in a variable. -/
import Derived.Test.YtdcmkiggnmajgaaVd
import Derived.Test.YtdcmkiggnmajgaaVf
import Derived.Test.YtdcmkiggnmajgaaXh
namespace Go.Proofs.Ytdcmkiggnmajgaa.Pr
set_option linter.unusedVariables false
set_option linter.unusedSimpArgs false
open Go Go.RowKit Go.Shelf
set_option maxRecDepth 100000

/-- A scheme of one's own and the variable that holds it. -/
structure OB (V : World) (k0 k1 : Nat) (ol os : Option Addr) (cl cs : Nat) (t : Sc) : Prop where
  b : Blk V k1 #[.slice ol t.L.length cl, .slice os t.S.length cs] 25
  o : OwS V k0 k1 ol os cl cs t
theorem OB.below {W W' : World} {k0 k1 : Nat} {ol os : Option Addr} {cl cs : Nat} {t : Sc} (h : OB W k0 k1 ol os cl cs t) (hb : Below W.heap.size W W') : OB W' k0 k1 ol os cl cs t := ⟨h.b.below' hb, h.o.below hb⟩
theorem OB.new {w w' : World} {vl vs : Value} {t : Sc} (hl : w'.ownsRow w.heap.size 79 2 vl t.L.length (t.L.flatMap encR)) (hs : w'.ownsRow w.heap.size 3 1 vs t.S.length (t.S.flatMap encI)) :
    ∃ ol os cl cs, vl = .slice ol t.L.length cl ∧ vs = .slice os t.S.length cs ∧ OB (w'.alloc (.cells #[.slice ol t.L.length cl, .slice os t.S.length cs] 25)) w.heap.size w'.heap.size ol os cl cs t := by
  obtain ⟨ol, os, cl, cs, rfl, rfl, h⟩ := OwS.of hl hs
  exact ⟨ol, os, cl, cs, rfl, rfl, Blk.new _ _ _, h.below ((Below.refl _ w').alloc (Nat.le_refl _) _)⟩
theorem OB.gr2 {W W' : World} {k0 k1 c0 c1 : Nat} {ol os ol' os' : Option Addr} {cl cs cl' cs' : Nat} {t t' : Sc} (h : OB W k0 k1 ol os cl cs t) (h' : OwS W c0 c1 ol' os' cl' cs' t') (hg : Gr2 W W' (Value.slice ol' t'.L.length cl').ownBlock (Value.slice os' t'.S.length cs').ownBlock) (hd : k1 ≤ c0 ∨ c1 ≤ k0) : OB W' k0 k1 ol os cl cs t :=
  ⟨blk_gr2 h.b hg (h.b.not_row (by decide) h'.l) (h.b.not_row (by decide) h'.s), h.o.gr2 h' hg hd⟩
theorem OB.formL {W : World} {k0 k1 : Nat} {ol os : Option Addr} {cl cs : Nat} {t : Sc} (h : OB W k0 k1 ol os cl cs t) : NForm ol t.L.length cl := own_form h.o.l
theorem OB.formS {W : World} {k0 k1 : Nat} {ol os : Option Addr} {cl cs : Nat} {t : Sc} (h : OB W k0 k1 ol os cl cs t) : NForm os t.S.length cs := own_form h.o.s

set_option maxHeartbeats 8000000 in
theorem prints_no (s t : Sc) (ol os ol' os' : Option Addr) (cl cs cl' cs' : Nat) (hn : s.L.length ≤ 9223372036854775807) (hm : s.S.length ≤ 9223372036854775807) (hn' : t.L.length ≤ 9223372036854775807) (hm' : t.S.length ≤ 9223372036854775807) (hmay : mayB s = false) (w : World) (hr : RowAt w encR 2 ol s.L) (ht : RowAt w encI 1 os s.S) (hr' : RowAt w encR 2 ol' t.L) (ht' : RowAt w encI 1 os' t.S) :
    Calls Try.prog 5 #[.agg #[.slice ol s.L.length cl, .slice os s.S.length cs], .agg #[.slice ol' t.L.length cl', .slice os' t.S.length cs']] w fun e w' => e = .returned (.bool true) ∧ Below w.heap.size w w' := by
  have cM := fun W h1' h2' => may_any s ol os cl cs hn hm W h1' h2'
  have cS := fun W h1' h2' h3' h4' => same_any s t ol os ol' os' cl cs cl' cs' hn hm hn' hm' W h1' h2' h3' h4'
  rw [hmay] at cM cS
  simp only [Bool.false_and] at cS
  have cP := fun W h1' h2' => print_no s ol os cl cs hn hm hmay W h1' h2'
  have hB0 := ((Below.refl _ w).alloc (Nat.le_refl _) (.cells #[.slice ol s.L.length cl, .slice os s.S.length cs] 25)).alloc (by simp) (.cells #[.slice ol' t.L.length cl', .slice os' t.S.length cs'] 25)
  have bA := (Blk.new w #[.slice ol s.L.length cl, .slice os s.S.length cs] 25).alloc (.cells #[.slice ol' t.L.length cl', .slice os' t.S.length cs'] 25)
  have bB := Blk.new (w.alloc (.cells #[.slice ol s.L.length cl, .slice os s.S.length cs] 25)) #[.slice ol' t.L.length cl', .slice os' t.S.length cs'] 25
  rw [World.size_alloc] at bB
  have H := Lib.hid (And.intro bA (And.intro bB hB0))
  have HR := Lib.hid (And.intro (And.intro hr ht) (And.intro hr' ht'))
  clear bA bB hB0 hr ht hr' ht'
  go_enter Try.func5, Try.ntmps5
  go_wp2_with (fail)
  refine (wakes_any _).mono ?_
  rintro e w1 ⟨rfl, hB⟩
  replace H := Lib.hid (And.intro (H.out.1.below' hB) (And.intro (H.out.2.1.below' hB) (H.out.2.2.trans (hB.mono H.out.2.2.size))))
  clear hB
  have x0 : w1.cell? ⟨w.heap.size, 0, none⟩ = some (.slice ol s.L.length cl) := H.out.1.cell 0
  have x1 : w1.cell? ⟨w.heap.size, 1, none⟩ = some (.slice os s.S.length cs) := H.out.1.cell 1
  have y0 : w1.cell? ⟨w.heap.size + 1, 0, none⟩ = some (.slice ol' t.L.length cl') := H.out.2.1.cell 0
  have y1 : w1.cell? ⟨w.heap.size + 1, 1, none⟩ = some (.slice os' t.S.length cs') := H.out.2.1.cell 1
  go_wp2_with (fail)
  refine (cM _ (HR.out.1.1.below encR_len (by decide) H.out.2.2) (HR.out.1.2.below encI_len (by decide) H.out.2.2)).mono ?_
  rintro e w2 ⟨rfl, hB⟩
  replace H := Lib.hid (And.intro (H.out.1.below' hB) (And.intro (H.out.2.1.below' hB) (H.out.2.2.trans (hB.mono H.out.2.2.size))))
  clear hB x0 x1 y0 y1
  have x0 : w2.cell? ⟨w.heap.size, 0, none⟩ = some (.slice ol s.L.length cl) := H.out.1.cell 0
  have x1 : w2.cell? ⟨w.heap.size, 1, none⟩ = some (.slice os s.S.length cs) := H.out.1.cell 1
  have y0 : w2.cell? ⟨w.heap.size + 1, 0, none⟩ = some (.slice ol' t.L.length cl') := H.out.2.1.cell 0
  have y1 : w2.cell? ⟨w.heap.size + 1, 1, none⟩ = some (.slice os' t.S.length cs') := H.out.2.1.cell 1
  go_wp2_with (fail)
  refine (cS _ (HR.out.1.1.below encR_len (by decide) H.out.2.2) (HR.out.1.2.below encI_len (by decide) H.out.2.2) (HR.out.2.1.below encR_len (by decide) H.out.2.2) (HR.out.2.2.below encI_len (by decide) H.out.2.2)).mono ?_
  rintro e w3 ⟨rfl, hB⟩
  replace H := Lib.hid (And.intro (H.out.1.below' hB) (And.intro (H.out.2.1.below' hB) (H.out.2.2.trans (hB.mono H.out.2.2.size))))
  clear hB x0 x1 y0 y1
  have x0 : w3.cell? ⟨w.heap.size, 0, none⟩ = some (.slice ol s.L.length cl) := H.out.1.cell 0
  have x1 : w3.cell? ⟨w.heap.size, 1, none⟩ = some (.slice os s.S.length cs) := H.out.1.cell 1
  have y0 : w3.cell? ⟨w.heap.size + 1, 0, none⟩ = some (.slice ol' t.L.length cl') := H.out.2.1.cell 0
  have y1 : w3.cell? ⟨w.heap.size + 1, 1, none⟩ = some (.slice os' t.S.length cs') := H.out.2.1.cell 1
  go_wp2_with (fail)
  refine (cP _ (HR.out.1.1.below encR_len (by decide) H.out.2.2) (HR.out.1.2.below encI_len (by decide) H.out.2.2)).mono ?_
  rintro e w4 ⟨rfl, hB⟩
  replace H := Lib.hid (And.intro (H.out.1.below' hB) (And.intro (H.out.2.1.below' hB) (H.out.2.2.trans (hB.mono H.out.2.2.size))))
  clear hB x0 x1 y0 y1
  have x0 : w4.cell? ⟨w.heap.size, 0, none⟩ = some (.slice ol s.L.length cl) := H.out.1.cell 0
  have x1 : w4.cell? ⟨w.heap.size, 1, none⟩ = some (.slice os s.S.length cs) := H.out.1.cell 1
  have y0 : w4.cell? ⟨w.heap.size + 1, 0, none⟩ = some (.slice ol' t.L.length cl') := H.out.2.1.cell 0
  have y1 : w4.cell? ⟨w.heap.size + 1, 1, none⟩ = some (.slice os' t.S.length cs') := H.out.2.1.cell 1
  go_wp2_with (fail)
  refine (wakes_any _).mono ?_
  rintro e w5 ⟨rfl, hB⟩
  replace H := Lib.hid (And.intro (H.out.1.below' hB) (And.intro (H.out.2.1.below' hB) (H.out.2.2.trans (hB.mono H.out.2.2.size))))
  clear hB x0 x1 y0 y1
  have x0 : w5.cell? ⟨w.heap.size, 0, none⟩ = some (.slice ol s.L.length cl) := H.out.1.cell 0
  have x1 : w5.cell? ⟨w.heap.size, 1, none⟩ = some (.slice os s.S.length cs) := H.out.1.cell 1
  have y0 : w5.cell? ⟨w.heap.size + 1, 0, none⟩ = some (.slice ol' t.L.length cl') := H.out.2.1.cell 0
  have y1 : w5.cell? ⟨w.heap.size + 1, 1, none⟩ = some (.slice os' t.S.length cs') := H.out.2.1.cell 1
  go_wp2
  go_ret
  exact ⟨rfl, H.out.2.2⟩
end Go.Proofs.Ytdcmkiggnmajgaa.Pr
