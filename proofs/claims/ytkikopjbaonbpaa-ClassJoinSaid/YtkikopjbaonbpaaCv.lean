/- What vowels and Vowel answer. -/
import Derived.Test.YtkikopjbaonbpaaCw4
import Derived.Lib.OthersKept
import Derived.Shelf.Abstract
import Derived.Shelf.RegionOpen
namespace Go.Proofs.Ytkikopjbaonbpaa
set_option linter.unusedVariables false
set_option linter.unusedSimpArgs false
open Go Go.RowKit
set_option maxRecDepth 100000

def vowT : Int → ByteArray
  | 1 => ⟨([97, 101, 105, 111, 117, 121, 195, 160, 195, 161, 195, 162, 195, 163, 195, 164, 195, 165, 195, 166, 195, 168, 195, 169, 195, 170, 195, 171, 195, 172, 195, 173] ++ [195, 174, 195, 175, 195, 178, 195, 179, 195, 180, 195, 181, 195, 182, 195, 184, 195, 185, 195, 186, 195, 187, 195, 188, 195, 189, 195, 191, 196, 129, 196, 131] ++ [196, 133, 196, 147, 196, 149, 196, 151, 196, 153, 196, 155, 196, 169, 196, 171, 196, 173, 196, 175, 196, 177, 197, 141, 197, 143, 197, 145, 197, 147, 197, 169] ++ [197, 171, 197, 173, 197, 175, 197, 177, 197, 179, 197, 183] : List UInt8).toArray⟩
  | 2 => ⟨([206, 144, 206, 172, 206, 173, 206, 174, 206, 175, 206, 176, 206, 177, 206, 181, 206, 183, 206, 185, 206, 191, 207, 133, 207, 137, 207, 138, 207, 139, 207, 140] ++ [207, 141, 207, 142] : List UInt8).toArray⟩
  | 3 => ⟨([208, 176, 208, 181, 208, 184, 208, 190, 209, 131, 209, 139, 209, 141, 209, 142, 209, 143, 209, 144, 209, 145, 209, 148, 209, 150, 209, 151, 209, 157] : List UInt8).toArray⟩
  | _ => ⟨#[]⟩
def vowT4 : ByteArray := ⟨([196, 129, 196, 131, 196, 133, 196, 147, 196, 149, 196, 151, 196, 153, 196, 155, 196, 169, 196, 171, 196, 173, 196, 175, 196, 177, 197, 141, 197, 143, 197, 145] ++ [197, 147, 197, 169, 197, 171, 197, 173, 197, 175, 197, 177, 197, 179, 197, 183, 206, 144, 206, 172, 206, 173, 206, 174, 206, 175, 206, 176, 206, 177, 206, 181] ++ [206, 183, 206, 185, 206, 191, 207, 133, 207, 137, 207, 138, 207, 139, 207, 140, 207, 141, 207, 142, 208, 176, 208, 181, 208, 184, 208, 190, 209, 131, 209, 139] ++ [209, 141, 209, 142, 209, 143, 209, 144, 209, 145, 209, 148, 209, 150, 209, 151, 209, 157] : List UInt8).toArray⟩
/-- The runes of a text, one by one. -/
def runesOf (T : ByteArray) : List Int := (posns T).map fun i => (rn T i : Int)
theorem runes_L : runesOf (vowT 1) = vowL := by kernel_rfl
theorem runes_G : runesOf (vowT 2) = vowG := by kernel_rfl
theorem runes_K : runesOf (vowT 3) = vowK := by kernel_rfl
theorem runes_R : runesOf vowT4 = vowR := by kernel_rfl
theorem runes_N : runesOf ⟨#[]⟩ = [] := by kernel_rfl
theorem scr_four (r : Int) : scrZ r = 0 ∨ scrZ r = 1 ∨ scrZ r = 2 ∨ scrZ r = 3 := by
  unfold scrZ; (repeat' split) <;> simp
theorem vow_runes (r : Int) : (runesOf (vowT (scrZ r))).contains (lowZ r) = vowB r := by
  rw [← (vow_eq r).1]
  unfold vowP
  rcases scr_four r with h | h | h | h
  · rw [h]; show (runesOf ⟨#[]⟩).contains _ = _; rw [runes_N]; rfl
  · rw [h, runes_L]; rfl
  · rw [h, runes_G]; rfl
  · rw [h, runes_K]; rfl

/-- Between two rounds of a search for a rune in a text. -/
def FiRel (T : ByteArray) (x : Int) (w0 : World) (it : Nat) (wr : World) : Prop :=
  ∃ (pre : List Nat) (pos : Nat), posns T = pre ++ posG T pos ∧ (∀ i ∈ pre, (rn T i : Int) ≠ x) ∧ wr.heap[it]? = some (.stringIter T pos) ∧ Below w0.heap.size w0 wr
theorem fi_yes {T : ByteArray} {x : Int} {pre : List Nat} {pos : Nat} (h : posns T = pre ++ posG T pos) (hp : pos < T.size) (hx : (rn T pos : Int) = x) : (runesOf T).contains x = true := by
  rw [List.contains_iff_mem]
  unfold runesOf
  rw [List.mem_map]
  exact ⟨pos, by rw [h, posG_cons T pos hp]; simp, hx⟩
theorem fi_no {T : ByteArray} {x : Int} {pre : List Nat} {pos : Nat} (h : posns T = pre ++ posG T pos) (hp : T.size ≤ pos) (hx : ∀ i ∈ pre, (rn T i : Int) ≠ x) : (runesOf T).contains x = false := by
  rw [Bool.eq_false_iff]
  intro hc
  rw [List.contains_iff_mem] at hc
  unfold runesOf at hc
  rw [List.mem_map, h, posG_end T pos hp, List.append_nil] at hc
  obtain ⟨i, hi, he⟩ := hc
  exact hx i hi he

end Go.Proofs.Ytkikopjbaonbpaa
