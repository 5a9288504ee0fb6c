/- PlaceCut: the law's call. -/
import Derived.Test.YtjlfdoonhfkabaaOneA
import Derived.Test.YtjlfdoonhfkabaaCu0
import Derived.Test.YtjlfdoonhfkabaaEr
namespace Go.Proofs.Ytjlfdoonhfkabaa
set_option linter.unusedVariables false
set_option linter.unusedSimpArgs false
open Go Go.RowKit Go.Shelf
set_option maxRecDepth 100000
attribute [local go_sem] Oper.semAt_some undef

def CutI (w w3 : World) (N N2 m : Nat) (pv : Array Value) (pre : List Nat) (W : World) : Prop :=
  ((((Blk W w.heap.size #[.bool false] 4 ∧ Blk W N #[.pointer (some ⟨m, 0, none⟩)] 23) ∧ Blk W N2 pv 28) ∧ Same w3.heap.size w3 W) ∧ Below w.heap.size w W)
theorem cut_x {w w3 : World} {N N2 m base : Nat} {pv : Array Value} (hb : w3.heap.size ≤ base) (hw : w.heap.size ≤ w3.heap.size) : AbX base FrE (CutI w w3 N N2 m pv) :=
  AbX.and (AbX.and (AbX.and (AbX.and (blk_x _ _ (fun _ => _) _) (blk_x _ _ (fun _ => _) _)) (blk_x _ _ (fun _ => _) _)) (fun _ X Y row h hg hr k hk => by
    have h1 := h k hk
    have h2 : k < X.heap.size := by
      rw [show w3.heap[k]? = some (w3.heap[k]'(by omega)) from Array.getElem?_eq_getElem _] at h1
      exact (Array.getElem?_eq_some_iff.1 h1).1
    exact (hg.block k h2 (fun e => by have := (hr k e.symm).1; omega)).trans h1))
    (fun _ X Y row h hg hr => h.grown hg h.size (fun k hk => by have := (hr k hk).1; omega))

theorem cut_next {w w3 W V : World} {N N2 m base B n0 : Nat} {pv : Array Value} {pre pre' : List Nat} (h : CutI w w3 N N2 m pv pre W) (hB : Below W.heap.size W V) (hBx : B < W.heap.size) (hn : n0 ≤ W.heap.size) (hw3 : w3.heap.size ≤ W.heap.size) :
    KeepsFrom base W V ∧ KpE B n0 W V ∧ CutI w w3 N N2 m pv pre' V := by
  have zK : KeepsOthers W V := KeepsOthers.of_grownBy (grown_none hB) (fun j o hj => by cases hj)
  obtain ⟨⟨⟨⟨h1, h2⟩, h3⟩, h4⟩, h5⟩ := h
  exact ⟨zK.from _, ⟨⟨zK.walks, hB.block _ hBx⟩, fun k hk => hB.block k (by omega)⟩, ⟨⟨⟨h1.below' hB, h2.below' hB⟩, h3.below' hB⟩, h4.trans (fun k hk => hB.block k (by omega))⟩, h5.trans (hB.mono h5.size)⟩
end Go.Proofs.Ytjlfdoonhfkabaa
