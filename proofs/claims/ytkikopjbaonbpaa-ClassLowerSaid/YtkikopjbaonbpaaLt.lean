/- Layer 3: what the iterator of class.Letters tells its caller; the law for a loop over it. -/
import Derived.Test.YtkikopjbaonbpaaPd
import Derived.Test.YtkikopjbaonbpaaCw4
import Derived.RangeFuncMany
namespace Go.Proofs.Ytkikopjbaonbpaa
set_option linter.unusedVariables false
set_option linter.unusedSimpArgs false
open Go Go.RowKit Go.Shelf
set_option maxRecDepth 100000
attribute [local go_sem] Oper.semAt_some

/-- Places at which letters begin. -/
def lpos (s : ByteArray) (l : List Nat) : List Nat := l.filter fun i => leB (rn s i)
theorem lpos_t {s : ByteArray} {i : Nat} (h : leB (rn s i) = true) (l : List Nat) : lpos s (l ++ [i]) = lpos s l ++ [i] := by simp [lpos, h]
theorem lpos_f {s : ByteArray} {i : Nat} (h : leB (rn s i) = false) (l : List Nat) : lpos s (l ++ [i]) = lpos s l := by simp [lpos, h]
theorem lpos_app (s : ByteArray) (a b : List Nat) : lpos s (a ++ b) = lpos s a ++ lpos s b := by simp [lpos]
theorem lpos_len (s : ByteArray) (l : List Nat) : (lpos s l).length ≤ l.length := List.length_filter_le _ _

/-- A letter as the program says it. -/
def leA (s : ByteArray) (i : Nat) : Array Value := #[.int .i64 i, .int .i32 (rn s i : Nat)]

def RelL (s : ByteArray) (B it : Nat) (J : List (Pos s) → World → Prop) (wr : World) : Prop :=
  ∃ (d : List Nat) (pre : List (Pos s)) (pos : Nat), posns s = d ++ posG s pos ∧ pre.map (·.1) = lpos s d ∧ wr.heap[it]? = some (.stringIter s pos) ∧ Boxed wr B 9 (.string s) ∧ J pre wr

end Go.Proofs.Ytkikopjbaonbpaa
