/- Rows of pieces of one kind (ClassRuns): what the program's iterator tells, and the document's list: the same. Plain facts: kd gives the kind of the piece at a place. -/
import Derived.Test.YtfnngcecfjlfeaaPc
namespace Go.Proofs.Ytfnngcecfjlfeaa
set_option linter.unusedVariables false
open Go

abbrev Run3 := Nat × Nat × Nat
/-- What is told when a row ends: nothing of an empty one. -/
def told (r : Run3) : List Run3 := if r.1 < r.2.1 then [r] else []
/-- From a row that is open, over the pieces that are left: what the program's iterator tells. -/
def emits (s : ByteArray) (kd : Nat → Nat) : Run3 → List Nat → List Run3
  | r, [] => told r
  | r, p :: ps => if kd p = r.2.2 then emits s kd (r.1, p + wd s p, r.2.2) ps else told r ++ emits s kd (p, p + wd s p, kd p) ps
/-- The document's list: the rows so far, the last one open. -/
def dfold (s : ByteArray) (kd : Nat → Nat) : List Run3 → Option Run3 → List Nat → List Run3
  | out, none, [] => out
  | out, some r, [] => out ++ [r]
  | out, none, p :: ps => dfold s kd out (some (p, p + wd s p, kd p)) ps
  | out, some r, p :: ps => if kd p = r.2.2 then dfold s kd out (some (r.1, p + wd s p, r.2.2)) ps else dfold s kd (out ++ [r]) (some (p, p + wd s p, kd p)) ps

theorem dfold_open (s : ByteArray) (kd : Nat → Nat) : ∀ (d i : Nat) (out : List Run3) (r : Run3), s.size - i = d → r.1 < r.2.1 → r.1 ≤ i → dfold s kd out (some r) (posG s i) = out ++ emits s kd r (posG s i) := by
  intro d
  induction d using Nat.strongRecOn with
  | _ d ih =>
    intro i out r hd hr hi
    by_cases h : i < s.size
    · have hw := wd_pos s i
      rw [posG_cons s i h]
      unfold dfold emits
      by_cases hk : kd i = r.2.2
      · rw [if_pos hk, if_pos hk]
        exact ih (s.size - (i + wd s i)) (by omega) (i + wd s i) out (r.1, i + wd s i, r.2.2) rfl (by simp only; omega) (by simp only; omega)
      · rw [if_neg hk, if_neg hk, ih (s.size - (i + wd s i)) (by omega) (i + wd s i) (out ++ [r]) (i, i + wd s i, kd i) rfl (by simp only; omega) (by simp only; omega)]
        simp [told, hr]
    · rw [posG_end s i (by omega)]
      simp [dfold, emits, told, hr]
/-- Both lists are one. -/
theorem runs_same (s : ByteArray) (kd : Nat → Nat) : dfold s kd [] none (posns s) = emits s kd (0, 0, 0) (posns s) := by
  rw [posns_G]
  by_cases h : 0 < s.size
  · have hw := wd_pos s 0
    rw [posG_cons s 0 h]
    unfold dfold emits
    rw [dfold_open s kd _ (0 + wd s 0) [] (0, 0 + wd s 0, kd 0) rfl (by simp only; omega) (by simp only; omega), List.nil_append]
    by_cases hk : kd 0 = 0
    · rw [if_pos hk, hk]
    · rw [if_neg hk]; simp [told]
  · rw [posG_end s 0 (by omega)]; rfl
/-- A row that is open was never empty once a piece is in it, and the rows told are as many as pieces at most. -/
theorem emits_len (s : ByteArray) (kd : Nat → Nat) : ∀ (ps : List Nat) (r : Run3), (emits s kd r ps).length ≤ ps.length + 1
  | [], r => by unfold emits told; split <;> simp
  | p :: ps, r => by
    unfold emits
    split
    · have := emits_len s kd ps (r.1, p + wd s p, r.2.2); simp; omega
    · have := emits_len s kd ps (p, p + wd s p, kd p)
      rw [List.length_append]
      have : (told r).length ≤ 1 := by unfold told; split <;> simp
      simp; omega
end Go.Proofs.Ytfnngcecfjlfeaa
