/- Stage 16: mathematics of All: the schemes in order. -/
import Derived.Test.YtdcmkiggnmajgaaVm
namespace Go.Proofs.Ytdcmkiggnmajgaa
set_option linter.unusedVariables false
set_option linter.unusedSimpArgs false
open Go Go.RowKit Go.Shelf
set_option maxRecDepth 100000

/-- The number of classes behind a line of class c. -/
def nxQ (q c : Nat) : Nat := max q (c + 1)
theorem unr_step {l q c i : Nat} (hlq : l + 1 + q ≤ 25) (hc : c ≤ q) (hi : i < tT l (nxQ q c)) : unr (l + 1) (c * tT l q + i) q = ⟨(c : Nat), 0⟩ :: unr l i (nxQ q c) := by
  have hT := tT_pos l q (by omega)
  have hm : min ((c * tT l q + i) / tT l q) q = c := by
    rcases Nat.lt_or_ge c q with h | h
    · have hq : nxQ q c = q := by unfold nxQ; omega
      rw [hq] at hi
      rw [Nat.mul_comm, Nat.mul_add_div hT, Nat.div_eq_of_lt hi]
      omega
    · obtain rfl : c = q := by omega
      rw [Nat.mul_comm, Nat.mul_add_div hT]
      generalize i / tT l c = g
      omega
  show (⟨(min ((c * tT l q + i) / tT l q) q : Nat), 0⟩ :: unr l (c * tT l q + i - min ((c * tT l q + i) / tT l q) q * tT l q) (max q (min ((c * tT l q + i) / tT l q) q + 1)) : List Rh) = _
  rw [hm, Nat.add_sub_cancel_left]
  rfl
/-- How many stand ahead of class c. -/
def offQ (l q c : Nat) : Nat := c * tT l q
theorem offQ_next {l q c : Nat} (hc : c < q) : offQ l q (c + 1) = offQ l q c + tT l (nxQ q c) := by
  unfold offQ
  have hq : nxQ q c = q := by unfold nxQ; omega
  rw [hq, Nat.succ_mul]
theorem offQ_end {l q : Nat} (h : l + 1 + q ≤ 25) : offQ l q q + tT l (nxQ q q) = tT (l + 1) q := by
  unfold offQ
  have hq : nxQ q q = q + 1 := by unfold nxQ; omega
  rw [hq, tT_succ h]
theorem offQ_le {l q c : Nat} (h : l + 1 + q ≤ 25) (hc : c ≤ q) : offQ l q c + tT l (nxQ q c) ≤ tT (l + 1) q := by
  rw [← offQ_end h]
  rcases Nat.lt_or_ge c q with h1 | h1
  · rw [← offQ_next h1]
    unfold offQ
    have := Nat.mul_le_mul_right (tT l q) (show c + 1 ≤ q by omega)
    omega
  · obtain rfl : c = q := by omega
    exact Nat.le_refl _
end Go.Proofs.Ytdcmkiggnmajgaa
