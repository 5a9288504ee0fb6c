/- Stage 31: Scale, the document's. -/
import Derived.Test.YtdlbopaefkbmhaaChy
namespace Go.Proofs.Ytdlbopaefkbmhaa
set_option linter.unusedVariables false
set_option linter.unusedSimpArgs false
open Go Go.RowKit Go.Shelf
set_option maxRecDepth 100000

def okE (total r : Nat) : Bool := finB total && finB r && !flt total 0 && fgt r 0
def ScPostD (l : List Nt) (total : Nat) (w : World) (e : Ending) (w' : World) : Prop := ∃ r, LenIs l r ∧ ((okE total r = false ∧ e = .returned (.tuple #[.slice none 0 0, .bool false])) ∨
  (okE total r = true ∧ ∃ q v l', FIs .quo total r q ∧ ScOK q l l' ∧ e = .returned (.tuple #[v, .bool true]) ∧ w'.ownsRow w.heap.size 37 6 v l.length (l'.flatMap encN))) ∧ Below w.heap.size w w'
def ScD (w : World) (n nb : Nat) (v : Value) (cs : Array Value) (xs : List Value) (X : World) : Prop := X.ownsRow w.heap.size 37 6 v n xs ∧ Blk X nb cs 37 ∧ Below w.heap.size w X
theorem ScD.drewN {w : World} {n nb : Nat} {v : Value} {cs : Array Value} {xs : List Value} {X : World} (h : ScD w n nb v cs xs X) (k : Nat) : ScD w n nb v cs xs (X.drewN k) :=
  ⟨h.1, h.2.1, ⟨h.2.2.os, h.2.2.tape, h.2.2.output, h.2.2.size, h.2.2.block⟩⟩
theorem ScD.set {w : World} {n nb : Nat} {v : Value} {cs : Array Value} {xs : List Value} {X : World} (h : ScD w n nb v cs xs X) (hne : v.ownBlock ≠ some nb) (hb : w.heap.size ≤ nb) (j : Nat) (u : Value) : ScD w n nb v (cs.setIfInBounds j u) xs (X.setCell ⟨nb, j, none⟩ u) :=
  ⟨h.1.kept (grownBy_setCell X nb j u) (by
    cases e : v.ownBlock with
    | none => exact .inl rfl
    | some q => exact .inr (fun e2 => hne (e.trans (by first | exact e2 | exact e2.symm)))), h.2.1.set j u, h.2.2.setCell (p := ⟨nb, j, none⟩) hb u⟩
def ScJ (l : List Nt) (q : Nat) (w : World) (i s : Value) (wr : World) : Prop := ∃ (k : Nat) (v : Value) (done : List Nt), i = .int .i64 k ∧ v = s ∧ k ≤ l.length ∧ ScOK q (l.take k) done ∧ wr.ownsRow w.heap.size 37 6 v k (done.flatMap encN) ∧ Below w.heap.size w wr

end Go.Proofs.Ytdlbopaefkbmhaa
