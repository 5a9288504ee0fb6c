/- Stage 27: steps, and the mathematics of EditMoves. -/
import Derived.Test.YtjccoiephdopkaaDoorHa
namespace Go.Proofs.YtjccoiephdopkaaDoor
set_option linter.unusedVariables false
set_option linter.unusedSimpArgs false
open Go Go.RowKit Go.Shelf
set_option maxRecDepth 100000

/-- A step. -/
structure Sp where
  k : Int
  d : ByteArray
  p : ByteArray
def encS (x : Sp) : List Value := [.int .i64 x.k, .string x.d, .string x.p]
theorem encS_len (x : Sp) : (encS x).length = 3 := rfl
/-- What a step does. -/
def kindN (x : Sp) : Nat :=
  if 0 < x.k ∧ x.d.size = 0 ∧ x.p.size = 0 then 1 else if x.k = 0 ∧ x.d.size ≠ 0 ∧ x.p.size = 0 then 2 else if x.k = 0 ∧ x.d.size = 0 ∧ x.p.size ≠ 0 then 3 else 0
/-- How many bytes a change is of, and makes; none where it may not be. -/
def sizeG : List Sp → Nat → Nat → Option (Nat × Nat)
  | [], f, t => some (f, t)
  | x :: l, f, t => if kindN x = 0 ∨ 65536 < x.k then none else if 65536 < f + x.k.toNat + x.d.size ∨ 65536 < t + x.k.toNat + x.p.size then none else sizeG l (f + x.k.toNat + x.d.size) (t + x.k.toNat + x.p.size)
theorem str_e (s : ByteArray) : (s.toList == []) = decide (s.size = 0) := by
  have h : s.toList.length = s.size := by rw [ByteArray.toList_eq, Array.length_toList]; rfl
  rw [Bool.eq_iff_iff, beq_iff_eq, decide_eq_true_iff, ← h]
  cases s.toList <;> simp
theorem emp_or (s : ByteArray) : s = .empty ∨ (s.size ≠ 0 ∧ (s.toList == []) = false ∧ s.toList.isEmpty = false ∧ (s.toList = []) = False) := by
  by_cases h : s.size = 0
  · left
    apply ByteArray.ext; apply Array.ext'
    have : s.data.size = 0 := h
    rw [Array.eq_empty_of_size_eq_zero this]; rfl
  · right
    have h1 := str_e s
    rw [decide_eq_false h] at h1
    have h2 : s.toList ≠ [] := fun e => by rw [e] at h1; simp at h1
    exact ⟨h, h1, by cases hs : s.toList <;> simp_all, eq_false h2⟩
end Go.Proofs.YtjccoiephdopkaaDoor
