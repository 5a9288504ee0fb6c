/- Stage 16: a scheme of one's own; Print of a wrong scheme. -/
import Derived.Test.YtdcmkiggnmajgaaV7
import Derived.Test.YtdcmkiggnmajgaaV8
import Derived.Test.YtdcmkiggnmajgaaV9
namespace Go.Proofs.Ytdcmkiggnmajgaa.Pr
set_option linter.unusedVariables false
set_option linter.unusedSimpArgs false
open Go Go.RowKit Go.Shelf
set_option maxRecDepth 100000

theorem eqB_self (s : Sc) : eqB s s = true := decide_eq_true rfl
theorem own_gr2 {W W' : World} {base n sz : Nat} {e : TypeId} {v : Value} {xs : List Value} {r1 r2 : Option Nat} (h : W.ownsRow base e sz v n xs) (hg : Gr2 W W' r1 r2) (hr : ∀ g, v.ownBlock = some g → some g ≠ r1 ∧ some g ≠ r2) : W'.ownsRow base e sz v n xs :=
  own_same h fun g hgb => hg.2.2.2.2 g (h.lt g hgb).2 (hr g hgb).1 (hr g hgb).2
theorem blk_gr2 {W W' : World} {B : Nat} {cs : Array Value} {t : TypeId} {r1 r2 : Option Nat} (h : Blk W B cs t) (hg : Gr2 W W' r1 r2) (h1 : some B ≠ r1) (h2 : some B ≠ r2) : Blk W' B cs t := (hg.2.2.2.2 B h.lt h1 h2).trans h
theorem below_gr2 {w W W' : World} {base : Nat} {r1 r2 : Option Nat} (h : Below base w W) (hg : Gr2 W W' r1 r2) (hb : base ≤ W.heap.size) (h1 : ∀ g, r1 = some g → base ≤ g) (h2 : ∀ g, r2 = some g → base ≤ g) : Below base w W' :=
  h.trans ⟨hg.1, hg.2.1, hg.2.2.1, hg.2.2.2.1, fun k hk => hg.2.2.2.2 k (by omega) (fun e => by have := h1 k e.symm; omega) (fun e => by have := h2 k e.symm; omega)⟩
/-- Rows of a scheme of one's own, from a place on and ahead of another one. -/
structure OwS (W : World) (b0 b1 : Nat) (ol os : Option Addr) (cl cs : Nat) (t : Sc) : Prop where
  l : W.ownsRow b0 79 2 (.slice ol t.L.length cl) t.L.length (t.L.flatMap encR)
  s : W.ownsRow b0 3 1 (.slice os t.S.length cs) t.S.length (t.S.flatMap encI)
  lt : ∀ g, ((Value.slice ol t.L.length cl).ownBlock = some g ∨ (Value.slice os t.S.length cs).ownBlock = some g) → g < b1
theorem OwS.below {W W' : World} {b0 b1 : Nat} {ol os : Option Addr} {cl cs : Nat} {t : Sc} (h : OwS W b0 b1 ol os cl cs t) (hb : Below W.heap.size W W') : OwS W' b0 b1 ol os cl cs t := ⟨own_below h.l hb, own_below h.s hb, h.lt⟩
theorem OwS.rowL {W : World} {b0 b1 : Nat} {ol os : Option Addr} {cl cs : Nat} {t : Sc} (h : OwS W b0 b1 ol os cl cs t) : RowAt W encR 2 ol t.L := RowAt.of_own encR_len h.l rfl
theorem OwS.rowS {W : World} {b0 b1 : Nat} {ol os : Option Addr} {cl cs : Nat} {t : Sc} (h : OwS W b0 b1 ol os cl cs t) : RowAt W encI 1 os t.S := RowAt.of_own encI_len h.s rfl
theorem OwS.gr2 {W W' : World} {b0 b1 c0 c1 : Nat} {ol os ol' os' : Option Addr} {cl cs cl' cs' : Nat} {t t' : Sc} (h : OwS W b0 b1 ol os cl cs t) (h' : OwS W c0 c1 ol' os' cl' cs' t') (hg : Gr2 W W' (Value.slice ol' t'.L.length cl').ownBlock (Value.slice os' t'.S.length cs').ownBlock) (hd : b1 ≤ c0 ∨ c1 ≤ b0) : OwS W' b0 b1 ol os cl cs t := by
  have key : ∀ g, ((Value.slice ol t.L.length cl).ownBlock = some g ∨ (Value.slice os t.S.length cs).ownBlock = some g) → some g ≠ (Value.slice ol' t'.L.length cl').ownBlock ∧ some g ≠ (Value.slice os' t'.S.length cs').ownBlock := by
    intro g hgb
    have h1 := h.lt g hgb
    have h2 : b0 ≤ g := hgb.elim (fun e => (h.l.lt g e).1) (fun e => (h.s.lt g e).1)
    refine ⟨fun e => ?_, fun e => ?_⟩
    · have h3 := h'.lt g (.inl e.symm)
      have h4 := (h'.l.lt g e.symm).1
      omega
    · have h3 := h'.lt g (.inr e.symm)
      have h4 := (h'.s.lt g e.symm).1
      omega
  exact ⟨own_gr2 h.l hg (fun g e => key g (.inl e)), own_gr2 h.s hg (fun g e => key g (.inr e)), h.lt⟩
theorem OwS.of {w w' : World} {vl vs : Value} {t : Sc} (hl : w'.ownsRow w.heap.size 79 2 vl t.L.length (t.L.flatMap encR)) (hs : w'.ownsRow w.heap.size 3 1 vs t.S.length (t.S.flatMap encI)) :
    ∃ ol os cl cs, vl = .slice ol t.L.length cl ∧ vs = .slice os t.S.length cs ∧ OwS w' w.heap.size w'.heap.size ol os cl cs t := by
  obtain ⟨ol, cl, rfl, _⟩ := own_slice hl
  obtain ⟨os, cs, rfl, _⟩ := own_slice hs
  exact ⟨ol, os, cl, cs, rfl, rfl, hl, hs, fun g h => h.elim (fun e => (hl.lt g e).2) (fun e => (hs.lt g e).2)⟩

theorem print_no (s : Sc) (ol os : Option Addr) (cl cs : Nat) (h1 : s.L.length ≤ 9223372036854775807) (h3 : s.S.length ≤ 9223372036854775807) (hmay : mayB s = false) (w : World) (hr : RowAt w encR 2 ol s.L) (ht : RowAt w encI 1 os s.S) :
    Calls Try.prog 18 #[.agg #[.slice ol s.L.length cl, .slice os s.S.length cs]] w fun e w' => e = .returned (.tuple #[.string ⟨#[]⟩, .int .i64 2]) ∧ Below w.heap.size w w' := by
  have cK := fun W h1' h2' => check_any s ol os cl cs h1 h3 W h1' h2'
  rw [hmay] at cK
  simp only [Bool.false_eq_true, if_false] at cK
  have hb0 := Blk.new w #[.slice ol s.L.length cl, .slice os s.S.length cs] 25
  have hB0 := (Below.refl _ w).alloc (Nat.le_refl _) (.cells #[.slice ol s.L.length cl, .slice os s.S.length cs] 25)
  have hrA := hr.below encR_len (by decide) hB0
  have htA := ht.below encI_len (by decide) hB0
  go_enter Try.func18, Try.ntmps18
  go_wp2_with (fail)
  refine (cK _ hrA htA).mono ?_
  rintro e W1 ⟨rfl, hB1⟩
  have HB := Lib.hid (hB0.trans (hB1.mono hB0.size))
  clear hB1 hb0 hB0 hrA htA hr ht
  go_wp2
  go_ret2
  exact ⟨rfl, HB.out⟩
end Go.Proofs.Ytdcmkiggnmajgaa.Pr
