/- Stage 16: ranks: mathematics. -/
import Derived.Test.YtdcmkiggnmajgaaVj
import Derived.Test.YtdcmkiggnmajgaaVi
namespace Go.Proofs.Ytdcmkiggnmajgaa
set_option linter.unusedVariables false
set_option linter.unusedSimpArgs false
open Go Go.RowKit Go.Shelf
set_option maxRecDepth 100000

/-- The rank of what is left, so many classes standing ahead. -/
def rnk : List Rh → Nat → Nat
  | [], _ => 0
  | x :: r, q => x.c.toNat * tT r.length q + rnk r (max q (x.c.toNat + 1))
theorem plS_max {q : Nat} {c : Int} (h0 : 0 ≤ c) : max (q : Int) (c + 1) = ((max q (c.toNat + 1) : Nat) : Int) := by omega
theorem tT_pos : ∀ (l k : Nat), l + k ≤ 25 → 1 ≤ tT l k := by
  intro l
  induction l with
  | zero => intro k h; rw [tT_zero (by omega)]; exact Nat.le_refl _
  | succ l ih =>
    intro k h
    rw [tT_succ h]
    have := ih (k + 1) (by omega)
    omega
/-- A rank stands below the number of ways. -/
theorem rnk_lt : ∀ (L : List Rh) (q : Nat), L.length + q ≤ 25 → plS (q : Int) L = true → rnk L q < tT L.length q := by
  intro L
  induction L with
  | nil =>
    intro q h _
    have := tT_pos 0 q (by simpa using h)
    show 0 < tT 0 q
    omega
  | cons x r ih =>
    intro q h hp
    simp only [plS, Bool.and_eq_true, Bool.not_eq_true', Bool.or_eq_false_iff, decide_eq_false_iff_not] at hp
    obtain ⟨⟨⟨h1, h2⟩, h3⟩, h4⟩ := hp
    simp only [List.length_cons] at h ⊢
    rw [plS_max (by omega)] at h4
    obtain ⟨c, hc⟩ : ∃ c, x.c.toNat = c := ⟨_, rfl⟩
    have hcq : c ≤ q := by omega
    simp only [rnk, hc] at h4 ⊢
    rw [tT_succ (by omega)]
    by_cases hlt : c < q
    · rw [show max q (c + 1) = q by omega] at h4 ⊢
      have h5 := ih q (by omega) h4
      have h6 : (c + 1) * tT r.length q ≤ q * tT r.length q := Nat.mul_le_mul_right _ hlt
      rw [Nat.succ_mul] at h6
      omega
    · obtain rfl : c = q := by omega
      rw [show max c (c + 1) = c + 1 by omega] at h4 ⊢
      have h5 := ih (c + 1) (by omega) h4
      omega
end Go.Proofs.Ytdcmkiggnmajgaa
