/- What the document's Pieces answers: the list of a text's pieces. -/
import Derived.Test.YtjccoiephdopkaaDoorQQRefA
import Derived.Deep.AppendLies
namespace Go.Proofs.YtjccoiephdopkaaDoor.SQ
set_option linter.unusedVariables false
set_option linter.unusedSimpArgs false
open Go Go.RowKit
set_option maxRecDepth 100000

/-- The cells of a list of pieces. -/
def pcs (s : ByteArray) (l : List Nat) : List Value := l.flatMap fun (i : Nat) => [.int .i64 i, .int .i64 (wd s i : Nat), .int .i32 (rn s i : Nat), .bool (bk s i)]
theorem pcs_snoc (s : ByteArray) (l : List Nat) (i : Nat) : pcs s (l ++ [i]) = pcs s l ++ [.int .i64 i, .int .i64 (wd s i : Nat), .int .i32 (rn s i : Nat), .bool (bk s i)] := by simp [pcs]
theorem pcs_len (s : ByteArray) (l : List Nat) : (pcs s l).length = l.length * 4 := by
  induction l with
  | nil => rfl
  | cons x l ih => simp only [pcs, List.flatMap_cons, List.length_append, List.length_cons, List.length_nil] at ih ⊢; omega

theorem own_below {w w1 : World} {base : Nat} {e : TypeId} {size n : Nat} {v : Value} {xs : List Value} (h : w.ownsRow base e size v n xs) (hb : Below w.heap.size w w1) : w1.ownsRow base e size v n xs :=
  h.kept (grown_none hb) (by cases v.ownBlock <;> simp)

theorem own_other {w w1 : World} {base : Nat} {e : TypeId} {size n : Nat} {v : Value} {xs : List Value} (h : w.ownsRow base e size v n xs) {k : Nat} (hk : w.heap.size ≤ k) (hw : w.heap.size ≤ w1.heap.size) : some k ≠ v.ownBlock := by
  intro e1
  have := h.lt k e1.symm
  omega

/-- Between two rounds of the document's Pieces. -/
def PsRel (s : ByteArray) (w : World) (l v : Value) (wr : World) : Prop :=
  ∃ (pre : List Nat) (pos : Nat), v = .int .i64 pos ∧ posns s = pre ++ posG s pos ∧ wr.ownsRow w.heap.size 120 4 l pre.length (pcs s pre) ∧ Below w.heap.size w wr

def PsPost (s : ByteArray) (w : World) (e : Ending) (w' : World) : Prop :=
  ∃ v, e = .returned v ∧ w'.ownsRow w.heap.size 120 4 v (posns s).length (pcs s (posns s)) ∧ Below w.heap.size w w'

end Go.Proofs.YtjccoiephdopkaaDoor.SQ
