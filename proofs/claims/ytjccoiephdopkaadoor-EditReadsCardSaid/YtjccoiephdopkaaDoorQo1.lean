/- Stage 27: a text as Print has it, piece by piece (mathematics); bytes that are appended to a row. -/
import Derived.Test.YtjccoiephdopkaaDoorRd0
namespace Go.Proofs.YtjccoiephdopkaaDoor
set_option linter.unusedVariables false
set_option linter.unusedSimpArgs false
open Go Go.RowKit Go.Shelf
set_option maxRecDepth 100000

/-- The piece at i as Print has it. -/
def qP (s : ByteArray) (i : Nat) : List UInt8 := if bk s i = true then qB (bt s i) else qR (rn s i)
/-- What is written ahead of the pieces that are left. -/
def qL (s : ByteArray) (pre : List Nat) : List UInt8 := 34 :: pre.flatMap (qP s)
/-- A text quoted. -/
def quoB (s : ByteArray) : ByteArray := ⟨(qL s (posns s) ++ [34]).toArray⟩
theorem qL_nil (s : ByteArray) : qL s [] = [34] := rfl
theorem qL_next (s : ByteArray) (pre : List Nat) (i : Nat) : qL s (pre ++ [i]) = qL s pre ++ qP s i := by
  unfold qL
  rw [List.flatMap_append, List.flatMap_cons, List.flatMap_nil, List.append_nil, List.cons_append]
/-- Cells of bytes. -/
def bC (l : List UInt8) : List Value := l.map fun b => .int .u8 (b.toNat : Int)
theorem bC_app (a b : List UInt8) : bC (a ++ b) = bC a ++ bC b := List.map_append
theorem bC_len (a : List UInt8) : (bC a).length = a.length := List.length_map _
theorem bC_str (l : List UInt8) : Lib.strCells ⟨l.toArray⟩ = bC l := by
  unfold Lib.strCells bC
  simp
theorem bC_one (l : List UInt8) : ∀ u ∈ bC l, u.oneCell' = true := by
  intro u hu
  obtain ⟨b, _, rfl⟩ := List.mem_map.1 hu
  rfl
theorem hexL_len {n : Nat} : ∀ k, n < 16 ^ (k + 1) → (hexL n).length ≤ k + 1 := by
  intro k
  induction k generalizing n with
  | zero => intro h; rw [hexL_small (by simpa using h)]; simp
  | succ k ih =>
    intro h
    by_cases h1 : n < 16
    · rw [hexL_small h1]; simp
    · rw [hexL_big h1, List.length_append]
      have e := Nat.pow_succ (n := 16) (m := k + 1)
      have := ih (n := n / 16) (Nat.div_lt_of_lt_mul (by rw [Nat.succ_eq_add_one] at e; omega))
      simp; omega
theorem qP_len (s : ByteArray) (i : Nat) (hi : i < s.size) : (qP s i).length ≤ 9 := by
  unfold qP
  split
  · show 4 ≤ 9; omega
  · unfold qR
    split
    · simp
    · split
      · simp
      · have h1 := rn_lt s i hi
        have := hexL_len (n := rn s i) 5 (by have e : (16 : Nat) ^ (5 + 1) = 16777216 := by decide
                                             omega)
        simp only [List.length_append, List.length_cons, List.length_nil]; omega
theorem qL_len (s : ByteArray) : ∀ pre : List Nat, (∀ i ∈ pre, i < s.size) → (qL s pre).length ≤ 1 + 9 * pre.length := by
  intro pre h
  unfold qL
  rw [List.length_cons]
  have : (pre.flatMap (qP s)).length ≤ 9 * pre.length := by
    induction pre with
    | nil => simp
    | cons i pre ih =>
      have h1 := qP_len s i (h i (by simp))
      have h2 := ih (fun j hj => h j (by simp [hj]))
      rw [List.flatMap_cons, List.length_append, List.length_cons]; omega
  omega
end Go.Proofs.YtjccoiephdopkaaDoor
