/- A loop over a function whose body appends to a list of its caller's: small facts. -/
import Derived.Test.YtnbhdgbhmcbeoaaK2
namespace Go.Proofs.Ytnbhdgbhmcbeoaa
set_option linter.unusedVariables false
set_option linter.unusedSimpArgs false
open Go Go.RowKit Go.Shelf
set_option maxRecDepth 100000

/-- A variable that holds a list of one's own; the list lies below the mark. -/
def RowM (W : World) (B : Nat) (T : TypeId) (base : Nat) (e : TypeId) (sz n : Nat) (xs : List Value) (m : Nat) : Prop := ∃ v, Boxed W B T v ∧ W.ownsRow base e sz v n xs ∧ ∀ g, v.ownBlock = some g → g < m
theorem rowM_own {β : Type} (B : Nat) (T : TypeId) (base : Nat) (e : TypeId) (sz : Nat) (n : β → Nat) (xs : β → List Value) (m : Nat) : Own (fun s W => RowM W B T base e sz (n s) (xs s) m) := by
  rintro s X Y row ⟨v, h1, h2, h3⟩ hg hr
  have hne : ∀ k, (∃ cs t fz, X.heap[k]? = some (.cells cs t fz)) → some k ≠ row := fun k hk e => by
    obtain ⟨cs, t, fz, h⟩ := hk
    obtain ⟨o, ho, hc⟩ := hr k e.symm
    rw [h] at ho; cases ho; cases hc
  refine ⟨v, h1.kept hg (hne _ ⟨_, _, _, h1⟩), ?_, h3⟩
  refine own_same h2 (fun g hg2 => hg.block g (h2.lt g hg2).2 (hne g ?_))
  rcases h2.2 with ⟨rfl, _⟩ | ⟨g', cap, cur, rfl, _, hgb, _⟩
  · cases hg2
  · obtain rfl : g' = g := by simpa [Value.ownBlock] using hg2
    exact ⟨_, _, _, hgb⟩
theorem row_cells {X : World} {base sz n : Nat} {e : TypeId} {v : Value} {xs : List Value} (h2 : X.ownsRow base e sz v n xs) : ∀ g, v.ownBlock = some g → ∃ cs t fz, X.heap[g]? = some (.cells cs t fz) := by
  intro g hg2
  rcases h2.2 with ⟨rfl, _⟩ | ⟨g', cap, cur, rfl, _, hgb, _⟩
  · cases hg2
  · obtain rfl : g' = g := by simpa [Value.ownBlock] using hg2
    exact ⟨_, _, _, hgb⟩
/-- Behind 'l = append(l, ..)' in a round. -/
theorem rowM_step {X W w2 : World} {B0 base m B n n' sz : Nat} {T e TB : TypeId} {v v' u : Value} {xs xs' : List Value} (hT : T ≠ e) (hTB : TB ≠ e) (hXW : Below X.heap.size X W) (hb : Boxed X B0 T v) (hr : X.ownsRow base e sz v n xs) (hm : ∀ g, v.ownBlock = some g → g < m)
    (hg : W.grownBy w2 v.ownBlock) (hr' : w2.ownsRow base e sz v' n' xs') (hB : Boxed X B TB u) (hB0m : B0 < m) (hne : B0 ≠ B) :
    RowM (w2.setCell ⟨B0, 0, none⟩ v') B0 T base e sz n' xs' (w2.setCell ⟨B0, 0, none⟩ v').heap.size ∧ KpM B m X (w2.setCell ⟨B0, 0, none⟩ v') ∧ KeepsOthers X (w2.setCell ⟨B0, 0, none⟩ v') ∧
      (∀ (n0 : Nat) (w0 : World), Below n0 w0 X → n0 ≤ B0 → n0 ≤ base → n0 ≤ X.heap.size → Below n0 w0 (w2.setCell ⟨B0, 0, none⟩ v')) ∧ X.heap.size ≤ (w2.setCell ⟨B0, 0, none⟩ v').heap.size ∧
      (∀ (b : Nat) (t : TypeId) (cs : Array Value), t ≠ e → b ≠ B0 → Blk X b cs t → Blk (w2.setCell ⟨B0, 0, none⟩ v') b cs t) := by
  have hbW : Boxed W B0 T v := Blk.below' (show Blk X B0 _ _ from hb) hXW
  have hrW := own_below hr hXW
  have k2 : Boxed w2 B0 T v := hbW.kept hg (fun e' => boxed_not_row hbW hT hrW e'.symm)
  have hrow2 : (w2.setCell ⟨B0, 0, none⟩ v').ownsRow base e sz v' n' xs' := hr'.kept (grownBy_setCell w2 B0 0 v') (.inr (fun e1 => boxed_not_row k2 hT hr' e1))
  have hlB := Blk.lt (show Blk _ _ _ _ from hB)
  have hKg : KpM B m W w2 := kpM_grown hg (fun r hr1 => ⟨hm r hr1, fun e1 => boxed_not_row hB hTB hr (by rw [hr1, e1]), row_cells hrW r hr1⟩) (Nat.lt_of_lt_of_le hlB hXW.size)
  refine ⟨⟨v', k2.set v', hrow2, fun g hg1 => (hrow2.lt g hg1).2⟩, kpM_t (kpM_below hXW hlB) (kpM_t hKg (kpM_set hB0m hne _ _)), ?_, fun n0 w0 h h1 h2 h3 => ?_, ?_, fun b t cs ht hbn h => ?_⟩
  · refine (keeps_below hXW).trans ((KeepsOthers.of_grownBy hg (fun j o hj ho => ?_)).trans (KeepsOthers.setCell _ _ _))
    obtain ⟨cs, t, fz, h⟩ := row_cells hrW j hj
    rw [h] at ho; cases ho; rfl
  · exact ((h.trans (hXW.mono h3)).grown hg (Nat.le_trans h3 hXW.size) (fun j hj => Nat.le_trans h2 (hr.lt j hj).1)).setCell (p := ⟨B0, 0, none⟩) h1 _
  · have := hXW.size; have := hg.size; simp; omega
  · exact ((h.below' hXW).kept hg (fun e' => Blk.not_row (h.below' hXW) ht hrW (by rw [e']))).other hbn 0 v'
end Go.Proofs.Ytnbhdgbhmcbeoaa
