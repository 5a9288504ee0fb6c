/- ClusterTells: what stands between its four ranges. -/
import Derived.Test.YtnbhdgbhmcbeoaaTe0
namespace Go.Proofs.Ytnbhdgbhmcbeoaa
set_option linter.unusedVariables false
set_option linter.unusedSimpArgs false
open Go Go.RowKit Go.Shelf
set_option maxRecDepth 100000

/-- Y: the world ahead of the iterators, S its size; the iterators' texts in S and S + 1, the number in S + 2; Ds: the ranges that are done; N: what is older than the range under way. -/
def TlJ (s : ByteArray) (Y : World) (S : Nat) (v : Value) (Ds : List Nat) (N : Nat) (X : World) : Prop :=
  (Below S Y X ∧ N ≤ X.heap.size) ∧ (Boxed X S 9 (.string s) ∧ Boxed X (S + 1) 9 (.string s)) ∧ Boxed X (S + 2) 3 v ∧ ∀ D ∈ Ds, S + 2 < D ∧ D < N ∧ X.heap[D]? = some (.deferred (some []))
theorem TlJ.grown {s : ByteArray} {Y : World} {S : Nat} {v : Value} {Ds : List Nat} {N : Nat} {X Z : World} {row : Option Nat} (h : TlJ s Y S v Ds N X) (hS : S + 3 ≤ N) (hY : Y.heap.size = S) (hg : X.grownBy Z row) (hr : ∀ r, row = some r → N ≤ r) : TlJ s Y S v Ds N Z := by
  obtain ⟨⟨h1, h2⟩, ⟨h3, h4⟩, h5, h6⟩ := h
  have hn : ∀ k, k < N → some k ≠ row := fun k hk e => by have := hr k e.symm; omega
  refine ⟨⟨h1.grown hg (by omega) (fun r e => by have := hr r e; omega), Nat.le_trans h2 hg.size⟩, ⟨Blk.kept (show Blk _ _ _ _ from h3) hg (hn _ (by omega)), Blk.kept (show Blk _ _ _ _ from h4) hg (hn _ (by omega))⟩, Blk.kept (show Blk _ _ _ _ from h5) hg (hn _ (by omega)), fun D hD => ?_⟩
  obtain ⟨d1, d2, d3⟩ := h6 D hD
  exact ⟨d1, d2, (hg.block D (by omega) (hn D d2)).trans d3⟩
theorem tlJ_abO {s : ByteArray} {Y : World} {S : Nat} {f : List Cel → Value} {p : List Cel → Prop} {Ds : List Nat} {N : Nat} (hS : S + 3 ≤ N) (hY : Y.heap.size = S) : AbX N FrO (fun (pre : List Cel) X => TlJ s Y S (f pre) Ds N X ∧ p pre) :=
  fun t X Z row h hg hr => ⟨h.1.grown hS hY hg (fun r e => (hr r e).1), h.2⟩
theorem tlJ_abT {s : ByteArray} {Y : World} {S : Nat} {f : List Cel → Value} {p : List Cel → Prop} {Ds : List Nat} {N : Nat} (hS : S + 3 ≤ N) (hY : Y.heap.size = S) : AbX N FrT (fun (pre : List Cel) X => TlJ s Y S (f pre) Ds N X ∧ p pre) :=
  fun t X Z row h hg hr => ⟨h.1.grown hS hY hg (fun r e => (hr r e).1), h.2⟩
theorem TlJ.set {s : ByteArray} {Y : World} {S : Nat} {v : Value} {Ds : List Nat} {N : Nat} {X : World} (h : TlJ s Y S v Ds N X) (v' : Value) : TlJ s Y S v' Ds N (X.setCell ⟨S + 2, 0, none⟩ v') := by
  obtain ⟨⟨h1, h2⟩, ⟨h3, h4⟩, h5, h6⟩ := h
  refine ⟨⟨h1.setCell (p := ⟨S + 2, 0, none⟩) (by dsimp only; omega) v', by simpa using h2⟩, ⟨h3.other (by omega) v', h4.other (by omega) v'⟩, h5.set v', fun D hD => ?_⟩
  obtain ⟨d1, d2, d3⟩ := h6 D hD
  exact ⟨d1, d2, (Below.heap_setCell X ⟨S + 2, 0, none⟩ v' D (by dsimp only; omega)).trans d3⟩
/-- A range is done: what it left is old. -/
theorem TlJ.next {s : ByteArray} {Y : World} {S D : Nat} {v : Value} {Ds : List Nat} {N : Nat} {X : World} (h : TlJ s Y S v Ds N X) (hS : S + 3 ≤ N) (hD : N ≤ D) (hK : X.heap[D]? = some (.deferred (some []))) : TlJ s Y S v (D :: Ds) X.heap.size X := by
  obtain ⟨⟨h1, h2⟩, h34, h5, h6⟩ := h
  have hl := (Array.getElem?_eq_some_iff.1 hK).1
  refine ⟨⟨h1, Nat.le_refl _⟩, h34, h5, fun E hE => ?_⟩
  rcases List.mem_cons.1 hE with rfl | hE
  · exact ⟨by omega, hl, hK⟩
  · obtain ⟨d1, d2, d3⟩ := h6 E hE
    exact ⟨d1, by omega, d3⟩
/-- What lay below the iterators is as it was. -/
theorem TlJ.old {s : ByteArray} {Y : World} {S : Nat} {v : Value} {Ds : List Nat} {N : Nat} {X : World} (h : TlJ s Y S v Ds N X) {b : Nat} {T : TypeId} {u : Value} (hb : Boxed Y b T u) (hbS : b < S) : Boxed X b T u := (h.1.1.block b hbS).trans hb
theorem TlJ.row {s : ByteArray} {Y : World} {S : Nat} {v : Value} {Ds : List Nat} {N : Nat} {X : World} (h : TlJ s Y S v Ds N X) (hY : Y.heap.size = S) {o : Option Addr} {l : List Cel} (hr : RowC Y o l) : RowC X o l := hr.below (by rw [hY]; exact h.1.1)
end Go.Proofs.Ytnbhdgbhmcbeoaa
