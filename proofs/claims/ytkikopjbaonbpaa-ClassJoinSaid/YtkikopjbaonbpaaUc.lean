/- What the letters' small and great ones are: reckoned for every letter. -/
import Derived.Test.YtkikopjbaonbpaaCw4
namespace Go.Proofs.Ytkikopjbaonbpaa
open Go

def upkB (n : Int) : Bool :=
  !(leB n) || (leB (lowZ n) && leB (upZ n) && lowZ (lowZ n) == lowZ n && lowZ n != 931 && upZ (upZ n) == upZ n && (n == 223 || upZ n != 223) && (n == 304 || upZ (lowZ n) == upZ n) && (n == 223 || lowZ n != 223))
theorem upk_all : (List.range 1120).all (fun n => upkB (n : Int)) = true := by kernel_rfl

structure Turned (r : Int) : Prop where
  lowL : leB (lowZ r) = true
  upL : leB (upZ r) = true
  low2 : lowZ (lowZ r) = lowZ r
  low9 : lowZ r ≠ 931
  up2 : upZ (upZ r) = upZ r
  upS : r = 223 ∨ upZ r ≠ 223
  upLow : r = 304 ∨ upZ (lowZ r) = upZ r
  lowS : r = 223 ∨ lowZ r ≠ 223
theorem turned {r : Int} (h : leB r = true) : Turned r := by
  have hi := leB_in h
  have := fin upk_all r (by omega) (by omega)
  rw [Int.toNat_of_nonneg (by omega)] at this
  unfold upkB at this
  rw [h] at this
  simp only [Bool.not_true, Bool.false_or, Bool.and_eq_true, Bool.or_eq_true, beq_iff_eq, bne_iff_ne] at this
  obtain ⟨⟨⟨⟨⟨⟨⟨a, b⟩, c⟩, d⟩, e⟩, f⟩, g⟩, i⟩ := this
  exact ⟨a, b, c, d, e, f, g, i⟩
theorem turned_962 : lowZ 962 = 962 ∧ leB 962 = true ∧ upZ 962 = 931 ∧ upZ 931 = 931 ∧ leB 83 = true ∧ upZ 83 = 83 ∧ lowZ 223 = 223 := ⟨by kernel_rfl, by kernel_rfl, by kernel_rfl, by kernel_rfl, by kernel_rfl, by kernel_rfl, by kernel_rfl⟩
end Go.Proofs.Ytkikopjbaonbpaa
