/- Layer 3: the document's HeadText. -/
import Derived.Test.YtkikopjbaonbpaaTx
namespace Go.Proofs.Ytkikopjbaonbpaa
set_option linter.unusedVariables false
set_option linter.unusedSimpArgs false
open Go Go.RowKit Go.Shelf
set_option maxRecDepth 100000

def TyHRel (s : ByteArray) (B : List Nat → List UInt8) (n : Nat) (pv : Value) (w : World) (o i : Value) (wr : World) : Prop :=
  ∃ k : Nat, i = .int .i64 k ∧ k ≤ n ∧ wr.ownsRow w.heap.size 5 1 o (B ((posns s).take k)).length (Lib.strCells ⟨(B ((posns s).take k)).toArray⟩) ∧ wr.ownsRow w.heap.size 31 4 pv n (pcs s (posns s)) ∧ Below w.heap.size w wr

theorem tyH_next {s : ByteArray} {B : List Nat → List UInt8} {n k nb m9 : Nat} {pv v i : Value} {w w9 : World} {t : ByteArray}
    (HB : Hid (B ((posns s).take (k + 1)) = B ((posns s).take k) ++ t.data.toList)) (Hb : Hid ((B ((posns s).take k)).length = nb)) (HM : Hid (nb + t.size = m9))
    (hown : w9.ownsRow w.heap.size 5 1 v m9 (Lib.strCells ⟨(B ((posns s).take k)).toArray⟩ ++ Lib.strCells t)) (hk : k < n)
    (hp : w9.ownsRow w.heap.size 31 4 pv n (pcs s (posns s))) (hB : Below w.heap.size w w9) (hi : i = .int .i64 ((k + 1 : Nat) : Int)) : TyHRel s B n pv w v i w9 := by
  refine ⟨k + 1, hi, hk, ?_, hp, hB⟩
  rw [HB.out, cells_app, show (B ((posns s).take k) ++ t.data.toList).length = m9 by rw [List.length_append, Hb.out, Array.length_toList, ← HM.out]; rfl]
  exact hown

end Go.Proofs.Ytkikopjbaonbpaa
