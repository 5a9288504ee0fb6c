/- RunesGo: its two long regions: what they call and convert. -/
import Derived.Test.YtgpnheaefagfiaaGr
import Derived.Test.YtgpnheaefagfiaaGn
import Derived.Test.YtgpnheaefagfiaaTxt
import Derived.Test.YtgpnheaefagfiaaSeqD
import Derived.Test.YtgpnheaefagfiaaRt
import Derived.Lib.SlicesS
namespace Go.Proofs.Ytgpnheaefagfiaa
set_option linter.unusedVariables false
set_option linter.unusedSimpArgs false
open Go Go.RowKit
set_option maxRecDepth 100000

section
variable {P : Program} {ops : Array Oper} {Q : Exit → Act → World → Prop} {md : Region.Mode}
/-- The condition may become stronger on the way. -/
theorem wpAnyG_strong {S S' : Array Bool → World → Prop} (h : ∀ l w, S' l w → S l w) : ∀ (fuel : Nat) (listed : Array Bool) (a : Act) (w : World), wpAnyG P md ops Q S' fuel listed a w → wpAnyG P md ops Q S fuel listed a w
  | 0, _, _, _, H => H
  | fuel + 1, _, _, _, H => ⟨H.1, fun i hi => wpOp_mono (fun a' w' h' => ⟨h _ _ h'.1, wpAnyG_strong h fuel _ a' w' h'.2⟩) (H.2 i hi)⟩
theorem wpAnyG_more {ks : List Nat} {T T' : World → Prop} (h : ∀ w, T' w → T w) {fuel : Nat} {listed : Array Bool} {a : Act} {w : World} (H : wpAnyG P md ops Q (untilG ks T') fuel listed a w) : wpAnyG P md ops Q (untilG ks T) fuel listed a w :=
  wpAnyG_strong (fun _ _ h' hk => h _ (h' hk)) fuel listed a w H
end

/-- The frame with these slots filled. -/
def putsG (a : Act) (l : List (Nat × Value)) : Act := { a with tmps := l.foldl (fun t p => t.setIfInBounds p.1 p.2) a.tmps }
def CutG {α : Type} (T : World → Prop) (L : α → List (Nat × Value)) (a : Act) (e : Exit) (a' : Act) (w' : World) : Prop := e = .normal ∧ ∃ v, a' = putsG a (L v) ∧ T w'
/-- A piece of code that ends in one way but for some values: the walk goes on once. -/
theorem wp_cutG {P : Program} {c : Code} {Q : Exit → Act → World → Prop} {a : Act} {w : World} {α : Type} (T : World → Prop) (L : α → List (Nat × Value)) (h1 : c.wp P (CutG T L a) a w) (h2 : ∀ v w', T w' → Q .normal (putsG a (L v)) w') : c.wp P Q a w :=
  Code.wp_mono (fun _ _ _ ⟨he, v, ha, ht⟩ => he ▸ ha ▸ h2 v _ ht) h1

theorem rowI_rns {W : World} {s : ByteArray} {b n : Nat} {o : Option Addr} {c : Nat} (hn : (posns s).length = n) (h : W.ownsRow b 21 1 (.slice o n c) n (rns s (posns s))) : RowI W o (rnZ s (posns s)) := fun j hj => by
  obtain ⟨o', c', e, ho⟩ := own_slice h
  cases e
  have hj2 : j < n := by rw [← hn]; simpa [rnZ] using hj
  obtain ⟨g, rfl⟩ := ho (by omega)
  refine ⟨g, 0, rfl, ?_⟩
  have h9 := h.cellAt j (by omega)
  rw [Nat.zero_add, h9]
  have hj3 : j < (posns s).length := by rw [hn]; exact hj2
  simp [rns, rnZ, List.getElem?_eq_getElem hj3]

/-- To, as a list of numbers. -/
theorem to_z {s : ByteArray} {n : Nat} {zs : List Int} (hs : s.size ≤ 1048576) (hn : (posns s).length = n) (hz : rnZ s (posns s) = zs) (w : World) :
    Calls Try.prog 66 #[.string s] w fun e w' => ∃ o c, e = .returned (.slice o n c) ∧ RowI w' o zs ∧ Below w.heap.size w w' := by
  refine (to_any s (by omega) w).mono ?_
  rintro e w' ⟨v, rfl, hr, hb⟩
  obtain ⟨o, c, rfl, ho⟩ := own_slice hr
  rw [hn] at hr ⊢
  exact ⟨o, c, rfl, hz ▸ rowI_rns hn hr, hb⟩
/-- []rune(s), as a list of numbers. -/
theorem conv_z {s : ByteArray} {n : Nat} {zs : List Int} (hs : s.size ≤ 1048576) (hn : (posns s).length = n) (hz : rnZ s (posns s) = zs) (w : World) :
    ∃ o c w', (convert 9 55 (.string s)).run Try.prog w = .ok (.slice o n c) w' ∧ RowI w' o zs ∧ Below w.heap.size w w' := by
  obtain ⟨c, cs, h1, h2⟩ := conv_to_runes s hs w
  refine ⟨_, c, _, hn ▸ h1, hz ▸ h2, (Below.refl _ _).drew.alloc (Nat.le_refl _) _⟩
theorem rnZ_len {s : ByteArray} {n : Nat} {zs : List Int} (hn : (posns s).length = n) (hz : rnZ s (posns s) = zs) : zs.length = n := by rw [← hz, ← hn]; simp [rnZ]
theorem at_below {X Y : World} {b i : Nat} {v : Value} (h : X.cell? ⟨b, i, none⟩ = some v) (hb : Below X.heap.size X Y) : Y.cell? ⟨b, i, none⟩ = some v := (hb.cell (p := ⟨b, i, none⟩) (lt_cell h)).trans h
theorem mend_z {s : ByteArray} {zs : List Int} (hs : s.size ≤ 1048576) (hz : rnZ s (posns s) = zs) (w : World) :
    Calls Try.prog 43 #[.string s, .string ⟨#[239, 191, 189]⟩] w fun e w' => e = .returned (.string (encA zs)) ∧ Below w.heap.size w w' := by
  refine (mend_any s ⟨#[239, 191, 189]⟩ hs (by decide) w).mono ?_
  rintro e w' ⟨rfl, hb⟩
  exact ⟨by rw [mend_runes, hz], hb⟩
theorem text_z {s : ByteArray} {zs : List Int} (hz : rnZ s (posns s) = zs) : ((encA zs).toList == s.toList) = allR s := by
  rw [Bool.eq_iff_iff, Lib.bytes_beq_iff, ← hz]
  exact runes_text s
/-- Behind the last store: the answer, the range's own object, and what lay there. -/
theorem end22 {w U X : World} {D : Nat} (hD : w.heap.size + 1 < D) (hB : Below w.heap.size w U) (hK : U.heap[D]? = some (.deferred (some []))) (hc : Boxed U (w.heap.size + 1) 4 (.bool false)) (h : Below U.heap.size U X) :
    (X.setCell ⟨w.heap.size + 1, 0, none⟩ (.bool true)).cell? ⟨w.heap.size + 1, 0, none⟩ = some (.bool true) ∧ (X.setCell ⟨w.heap.size + 1, 0, none⟩ (.bool true)).heap[D]? = some (.deferred (some [])) ∧ Below w.heap.size w (X.setCell ⟨w.heap.size + 1, 0, none⟩ (.bool true)) := by
  have hc2 : Boxed X (w.heap.size + 1) 4 (.bool false) := Blk.below (show Blk _ _ _ _ from hc) h (Blk.lt (show Blk _ _ _ _ from hc))
  have hDU := (Array.getElem?_eq_some_iff.1 hK).1
  exact ⟨(hc2.set (.bool true)).cell, (Below.heap_setCell _ _ _ _ (by dsimp only; omega)).trans ((h.block D hDU).trans hK), (hB.trans (h.mono hB.size)).setCell (p := ⟨w.heap.size + 1, 0, none⟩) (by dsimp only; omega) _⟩
end Go.Proofs.Ytgpnheaefagfiaa
