/- PlaceOne: between two turns of its range. -/
import Derived.Test.YtjlfdoonhfkabaaQq
namespace Go.Proofs.Ytjlfdoonhfkabaa
set_option linter.unusedVariables false
set_option linter.unusedSimpArgs false
open Go Go.RowKit Go.Shelf
set_option maxRecDepth 100000
attribute [local go_sem] Oper.semAt_some undef

/-- The place told last. -/
def lastC (s : ByteArray) : Nat → Array Value
  | 0 => #[.int .i64 (-1), .int .i64 0, .int .i64 0, .int .i64 0, .int .i64 0]
  | k + 1 => plA (pK s k)
def OneI (s : ByteArray) (w w2 : World) (N m : Nat) (pre : List Nat) (W : World) : Prop :=
  ((((Blk W w.heap.size #[.bool false] 4 ∧ Blk W N #[.pointer (some ⟨m, 0, none⟩)] 23) ∧ Blk W (N + 1) (lastC s pre.length) 28) ∧ Blk W (N + 1 + 1) #[.int .i64 pre.length] 3) ∧ Same N w2 W) ∧ Below w.heap.size w W
theorem blk_x {β : Type} (base B : Nat) (f : β → Array Value) (t : TypeId) : AbX base FrE (fun (s : β) W => Blk W B (f s) t) := fun s X Y row h hg hr => h.kept hg (fun e => by
  obtain ⟨_, o, ho, hc⟩ := hr B e.symm
  rw [show X.heap[B]? = _ from h] at ho; cases ho; cases hc)
theorem one_x {s : ByteArray} {w w2 : World} {N m base : Nat} (hN : w2.heap.size = N) (hb : N ≤ base) (hw : w.heap.size ≤ N) : AbX base FrE (OneI s w w2 N m) :=
  AbX.and (AbX.and (AbX.and (AbX.and (AbX.and (blk_x _ _ _ _) (blk_x _ _ _ _)) (blk_x _ _ _ _)) (blk_x _ _ _ _)) (fun _ X Y row h hg hr k hk => by
    have h1 := h k hk
    have h2 : k < X.heap.size := by
      rw [show w2.heap[k]? = some (w2.heap[k]'(by omega)) from Array.getElem?_eq_getElem _] at h1
      exact (Array.getElem?_eq_some_iff.1 h1).1
    exact (hg.block k h2 (fun e => by have := (hr k e.symm).1; omega)).trans h1))
    (fun _ X Y row h hg hr => h.grown hg h.size (fun k hk => by have := (hr k hk).1; omega))


/-- At the end of a round. -/
theorem one_next {s : ByteArray} {w w2 W V7 : World} {N m pb pk pu pl pc base : Nat} {zb zk zu zl zc : Int} {c0 c1 c2 c3 c4 : Value} (hp : pK s pk = ⟨pb, pk, pu, pl, pc⟩) (hz : (pb : Int) = zb ∧ (pk : Int) = zk ∧ (pu : Int) = zu ∧ (pl : Int) = zl ∧ (pc : Int) = zc)
    (q7 : Blk V7 w.heap.size #[.bool false] 4) (a3 : Blk V7 N #[.pointer (some ⟨m, 0, none⟩)] 23) (al : Blk V7 (N + 1) #[c0, c1, c2, c3, c4] 28) (an : Blk V7 (N + 1 + 1) #[.int .i64 zk] 3)
    (hS : Same N w2 W) (hB7 : Below W.heap.size W V7) (hWs : N + 4 ≤ W.heap.size) (hwN : w.heap.size < N) (hBw : Below w.heap.size w W) :
    KeepsFrom base W ((((((V7.setCell ⟨N + 1, 0, none⟩ (.int .i64 zb)).setCell ⟨N + 1, 1, none⟩ (.int .i64 zk)).setCell ⟨N + 1, 2, none⟩ (.int .i64 zu)).setCell ⟨N + 1, 3, none⟩ (.int .i64 zl)).setCell ⟨N + 1, 4, none⟩ (.int .i64 zc)).setCell ⟨N + 1 + 1, 0, none⟩ (.int .i64 (zk + 1))) ∧ KpE (N + 1 + 1 + 1) N W ((((((V7.setCell ⟨N + 1, 0, none⟩ (.int .i64 zb)).setCell ⟨N + 1, 1, none⟩ (.int .i64 zk)).setCell ⟨N + 1, 2, none⟩ (.int .i64 zu)).setCell ⟨N + 1, 3, none⟩ (.int .i64 zl)).setCell ⟨N + 1, 4, none⟩ (.int .i64 zc)).setCell ⟨N + 1 + 1, 0, none⟩ (.int .i64 (zk + 1))) ∧ OneI s w w2 N m (List.range pk ++ [pk]) ((((((V7.setCell ⟨N + 1, 0, none⟩ (.int .i64 zb)).setCell ⟨N + 1, 1, none⟩ (.int .i64 zk)).setCell ⟨N + 1, 2, none⟩ (.int .i64 zu)).setCell ⟨N + 1, 3, none⟩ (.int .i64 zl)).setCell ⟨N + 1, 4, none⟩ (.int .i64 zc)).setCell ⟨N + 1 + 1, 0, none⟩ (.int .i64 (zk + 1))) := by
  have zK7 : KeepsOthers W V7 := KeepsOthers.of_grownBy (grown_none hB7) (fun j o hj => by cases hj)
  have hlen : (List.range pk ++ [pk]).length = pk + 1 := by rw [List.length_append, List.length_range]; rfl
  obtain ⟨rfl, rfl, rfl, rfl, rfl⟩ := hz
  have keep : ∀ k, k < W.heap.size → k ≠ N + 1 → k ≠ N + 1 + 1 → ((((((V7.setCell ⟨N + 1, 0, none⟩ (.int .i64 (pb : Int))).setCell ⟨N + 1, 1, none⟩ (.int .i64 (pk : Int))).setCell ⟨N + 1, 2, none⟩ (.int .i64 (pu : Int))).setCell ⟨N + 1, 3, none⟩ (.int .i64 (pl : Int))).setCell ⟨N + 1, 4, none⟩ (.int .i64 (pc : Int))).setCell ⟨N + 1 + 1, 0, none⟩ (.int .i64 ((pk : Int) + 1))).heap[k]? = W.heap[k]? := fun k hk h1 h2 => ((((((Below.heap_setCell _ _ _ _ (by dsimp only; omega)).trans (Below.heap_setCell _ _ _ _ (by dsimp only; omega))).trans (Below.heap_setCell _ _ _ _ (by dsimp only; omega))).trans (Below.heap_setCell _ _ _ _ (by dsimp only; omega))).trans (Below.heap_setCell _ _ _ _ (by dsimp only; omega))).trans (Below.heap_setCell _ _ _ _ (by dsimp only; omega))).trans (hB7.block _ hk)
  refine ⟨((((((zK7.trans (KeepsOthers.setCell _ _ _)).trans (KeepsOthers.setCell _ _ _)).trans (KeepsOthers.setCell _ _ _)).trans (KeepsOthers.setCell _ _ _)).trans (KeepsOthers.setCell _ _ _)).trans (KeepsOthers.setCell _ _ _)).from _, ⟨⟨((((((zK7.trans (KeepsOthers.setCell _ _ _)).trans (KeepsOthers.setCell _ _ _)).trans (KeepsOthers.setCell _ _ _)).trans (KeepsOthers.setCell _ _ _)).trans (KeepsOthers.setCell _ _ _)).trans (KeepsOthers.setCell _ _ _)).walks, keep _ (by omega) (by omega) (by omega)⟩, fun k hk => keep k (by omega) (by omega) (by omega)⟩, ⟨⟨⟨⟨⟨((((((q7.other (B' := N + 1) (by omega) 0 (.int .i64 (pb : Int))).other (B' := N + 1) (by omega) 1 (.int .i64 (pk : Int))).other (B' := N + 1) (by omega) 2 (.int .i64 (pu : Int))).other (B' := N + 1) (by omega) 3 (.int .i64 (pl : Int))).other (B' := N + 1) (by omega) 4 (.int .i64 (pc : Int))).other (B' := N + 1 + 1) (by omega) 0 (.int .i64 ((pk : Int) + 1))), ((((((a3.other (B' := N + 1) (by omega) 0 (.int .i64 (pb : Int))).other (B' := N + 1) (by omega) 1 (.int .i64 (pk : Int))).other (B' := N + 1) (by omega) 2 (.int .i64 (pu : Int))).other (B' := N + 1) (by omega) 3 (.int .i64 (pl : Int))).other (B' := N + 1) (by omega) 4 (.int .i64 (pc : Int))).other (B' := N + 1 + 1) (by omega) 0 (.int .i64 ((pk : Int) + 1)))⟩, ?_⟩, ?_⟩, hS.trans (fun k hk => keep k (by omega) (by omega) (by omega))⟩, (((((((hBw.trans (hB7.mono hBw.size)).setCell (p := ⟨N + 1, 0, none⟩) (by dsimp only; omega) (.int .i64 (pb : Int))).setCell (p := ⟨N + 1, 1, none⟩) (by dsimp only; omega) (.int .i64 (pk : Int))).setCell (p := ⟨N + 1, 2, none⟩) (by dsimp only; omega) (.int .i64 (pu : Int))).setCell (p := ⟨N + 1, 3, none⟩) (by dsimp only; omega) (.int .i64 (pl : Int))).setCell (p := ⟨N + 1, 4, none⟩) (by dsimp only; omega) (.int .i64 (pc : Int))).setCell (p := ⟨N + 1 + 1, 0, none⟩) (by dsimp only; omega) (.int .i64 ((pk : Int) + 1)))⟩⟩
  · have h := ((((((al.set 0 (.int .i64 (pb : Int))).set 1 (.int .i64 (pk : Int))).set 2 (.int .i64 (pu : Int))).set 3 (.int .i64 (pl : Int))).set 4 (.int .i64 (pc : Int))).other (B' := N + 1 + 1) (by omega) 0 (.int .i64 ((pk : Int) + 1)))
    rw [hlen]
    show Blk _ _ (plA (pK s pk)) _
    rw [hp]
    simpa [plA] using h
  · have h := ((((((an.other (B' := N + 1) (by omega) 0 (.int .i64 (pb : Int))).other (B' := N + 1) (by omega) 1 (.int .i64 (pk : Int))).other (B' := N + 1) (by omega) 2 (.int .i64 (pu : Int))).other (B' := N + 1) (by omega) 3 (.int .i64 (pl : Int))).other (B' := N + 1) (by omega) 4 (.int .i64 (pc : Int))).set 0 (.int .i64 ((pk : Int) + 1)))
    rw [hlen]
    simpa using h
end Go.Proofs.Ytjlfdoonhfkabaa
