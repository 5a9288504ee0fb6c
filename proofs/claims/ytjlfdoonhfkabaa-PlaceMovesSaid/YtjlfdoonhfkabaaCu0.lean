/- The places of a text from a boundary on. -/
import Derived.Test.YtjlfdoonhfkabaaTl
import Derived.Test.YtjlfdoonhfkabaaQn
namespace Go.Proofs.Ytjlfdoonhfkabaa
set_option linter.unusedVariables false
set_option linter.unusedSimpArgs false
open Go

theorem tl_lf (s : ByteArray) (n j : Nat) : lfAt (s.extract n s.size) j = lfAt s (n + j) := by
  unfold lfAt
  rw [tl_bt, tl_size]
  congr 1
  exact decide_eq_decide.2 (by omega)
theorem tl_nl (s : ByteArray) (n j : Nat) : nlAt (s.extract n s.size) j = nlAt s (n + j) := by
  unfold nlAt
  rw [tl_bt, tl_lf, Nat.add_assoc]
theorem tl_un (s : ByteArray) (n j : Nat) : un (s.extract n s.size) j = un s (n + j) := by unfold un; rw [tl_rn]
/-- Place number j of the text from place number k on is place number k + j. -/
theorem tl_pK (s : ByteArray) (k : Nat) : ∀ j, (pK s k).b + (pK (s.extract (pK s k).b s.size) j).b = (pK s (k + j)).b ∧ (pK s k).u + (pK (s.extract (pK s k).b s.size) j).u = (pK s (k + j)).u ∧ (pK s k).l + (pK (s.extract (pK s k).b s.size) j).l = (pK s (k + j)).l ∧
    (pK s (k + j)).c = if (pK (s.extract (pK s k).b s.size) j).l = 0 then (pK s k).c + (pK (s.extract (pK s k).b s.size) j).c else (pK (s.extract (pK s k).b s.size) j).c
  | 0 => by simp [pK]
  | j + 1 => by
    obtain ⟨h1, h2, h3, h4⟩ := tl_pK s k j
    obtain ⟨t, ht⟩ : ∃ t, s.extract (pK s k).b s.size = t := ⟨_, rfl⟩
    have e1 : wd t (pK t j).b = wd s (pK s (k + j)).b := by rw [← h1, ← ht, tl_wd]
    have e2 : un t (pK t j).b = un s (pK s (k + j)).b := by rw [← h1, ← ht, tl_un]
    have e3 : nlAt t (pK t j).b = nlAt s (pK s (k + j)).b := by rw [← h1, ← ht, tl_nl]
    rw [ht] at h1 h2 h3 h4 ⊢
    rw [show k + (j + 1) = k + j + 1 by omega]
    simp only [pK, nxt, e1, e2, e3]
    refine ⟨by omega, by omega, ?_, ?_⟩
    · split <;> omega
    · split
      · rw [if_neg (by omega)]
      · rw [h4]; split <;> omega
theorem tl_nP (s : ByteArray) (k : Nat) (hk : k ≤ nP s) : k + nP (s.extract (pK s k).b s.size) = nP s := by
  have h1 := (tl_pK s k (nP (s.extract (pK s k).b s.size))).1
  rw [pK_end, tl_size] at h1
  have h2 := pK_le s k hk
  have h3 := pK_end s
  rcases Nat.lt_trichotomy (k + nP (s.extract (pK s k).b s.size)) (nP s) with h | h | h
  · have := pK_b_lt s h; omega
  · exact h
  · have := pK_b_lt s h; omega
end Go.Proofs.Ytjlfdoonhfkabaa
