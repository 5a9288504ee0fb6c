/- Stage 16: classes numbered anew: mathematics. -/
import Derived.Test.YtdcmkiggnmajgaaVr
namespace Go.Proofs.Ytdcmkiggnmajgaa
set_option linter.unusedVariables false
set_option linter.unusedSimpArgs false
open Go Go.RowKit Go.Shelf
set_option maxRecDepth 100000

theorem fidx_spec : ∀ (L : List Rh) (i : Nat) (c : Int), (∃ f : Nat, fidx L i c = ((i + f : Nat) : Int) ∧ (∃ x, L[f]? = some x ∧ x.c = c) ∧ ∀ (j : Nat) (y : Rh), j < f → L[j]? = some y → y.c ≠ c) ∨ (fidx L i c = -1 ∧ ∀ (j : Nat) (y : Rh), L[j]? = some y → y.c ≠ c) := by
  intro L
  induction L with
  | nil => intro i c; exact .inr ⟨rfl, fun j y h => by simp at h⟩
  | cons x r ih =>
    intro i c
    by_cases h : x.c = c
    · exact .inl ⟨0, by simp [fidx, h], ⟨x, rfl, h⟩, fun j y hj => by omega⟩
    · rcases ih (i + 1) c with ⟨f, h1, ⟨y, h2, h3⟩, h4⟩ | ⟨h1, h2⟩
      · refine .inl ⟨f + 1, by simp only [fidx, if_neg h, h1]; congr 1; omega, ⟨y, by simpa using h2, h3⟩, fun j z hj hz => ?_⟩
        cases j with
        | zero => simp at hz; subst hz; exact h
        | succ j => exact h4 j z (by omega) (by simpa using hz)
      · refine .inr ⟨by simp only [fidx, if_neg h, h1], fun j y hy => ?_⟩
        cases j with
        | zero => simp at hy; subst hy; exact h
        | succ j => exact h2 j y (by simpa using hy)
/-- The first line of a line's class. -/
theorem fidx_at {L : List Rh} {i : Nat} {x : Rh} (h : L[i]? = some x) : ∃ f : Nat, fidx L 0 x.c = (f : Int) ∧ f ≤ i ∧ (∃ y, L[f]? = some y ∧ y.c = x.c) ∧ ∀ (j : Nat) (y : Rh), j < f → L[j]? = some y → y.c ≠ x.c := by
  rcases fidx_spec L 0 x.c with ⟨f, h1, h2, h3⟩ | ⟨_, h2⟩
  · rw [Nat.zero_add] at h1
    refine ⟨f, h1, ?_, h2, h3⟩
    by_cases hf : f ≤ i
    · exact hf
    · exact absurd rfl (h3 i x (by omega) h)
  · exact absurd rfl (h2 i x h)
theorem fidx_same {L : List Rh} {i : Nat} {x : Rh} {f : Nat} (h : L[i]? = some x) (hf : fidx L 0 x.c = (f : Int)) : ∃ y, L[f]? = some y ∧ y.c = x.c ∧ f ≤ i := by
  obtain ⟨f', h1, h2, ⟨y, h3, h4⟩, _⟩ := fidx_at h
  rw [h1] at hf
  obtain rfl : f' = f := by omega
  exact ⟨y, h3, h4, h2⟩
/-- A line is the first one of its class. -/
def isFst (L : List Rh) (i : Nat) : Bool := match L[i]? with | some x => decide (0 ≤ x.c) && decide (fidx L 0 x.c = (i : Int)) | none => false
def cntF (L : List Rh) : Nat → Nat
  | 0 => 0
  | k + 1 => cntF L k + (if isFst L k then 1 else 0)
theorem cntF_le (L : List Rh) (k : Nat) : cntF L k ≤ k := by
  induction k with
  | zero => exact Nat.le_refl _
  | succ k ih => simp only [cntF]; split <;> omega
def canC (L : List Rh) (x : Rh) : Int := if x.c < 0 then x.c else (cntF L (fidx L 0 x.c).toNat : Nat)
def canL (L : List Rh) : List Rh := L.map fun x => ⟨canC L x, x.r⟩
def canS (s : Sc) : Sc := ⟨canL s.L, s.S⟩
theorem canL_len (L : List Rh) : (canL L).length = L.length := by simp [canL]
theorem canL_get {L : List Rh} {i : Nat} {x : Rh} (h : L[i]? = some x) : (canL L)[i]? = some ⟨canC L x, x.r⟩ := by simp [canL, h]
/-- So far written. -/
def canT (L : List Rh) (k : Nat) : List Rh := (canL L).take k ++ L.drop k
theorem canT_len (L : List Rh) (k : Nat) (h : k ≤ L.length) : (canT L k).length = L.length := by simp [canT, canL_len]; omega
theorem canT_zero (L : List Rh) : canT L 0 = L := by simp [canT]
theorem canT_end (L : List Rh) : canT L L.length = canL L := by
  unfold canT
  rw [List.take_of_length_le (by rw [canL_len]; exact Nat.le_refl _), List.drop_of_length_le (Nat.le_refl _), List.append_nil]
theorem canT_at {L : List Rh} {k : Nat} {x : Rh} (h : L[k]? = some x) : (canT L k)[k]? = some x := by
  have hk := (List.getElem?_eq_some_iff.1 h).1
  unfold canT
  rw [List.getElem?_append_right (by simp [canL_len]; omega)]
  simp [canL_len, Nat.min_eq_left (Nat.le_of_lt hk), h]
theorem canT_low {L : List Rh} {k f : Nat} {y : Rh} (hf : f < k) (h : L[f]? = some y) : (canT L k)[f]? = some ⟨canC L y, y.r⟩ := by
  unfold canT
  have h1 := canL_get h
  rw [List.getElem?_append_left (by simp [canL_len]; have := (List.getElem?_eq_some_iff.1 h).1; omega), List.getElem?_take, if_pos hf, h1]
theorem canT_next {L : List Rh} {k : Nat} {x : Rh} (h : L[k]? = some x) : canT L (k + 1) = (canT L k).set k ⟨canC L x, x.r⟩ := by
  have hk := (List.getElem?_eq_some_iff.1 h).1
  have h1 := canL_get h
  unfold canT
  rw [List.set_append_right _ _ (by simp [canL_len]; omega), take_nextL h1, drop_cons h]
  simp [canL_len, Nat.min_eq_left (Nat.le_of_lt hk)]
theorem canT_neg {L : List Rh} {k : Nat} {x : Rh} (h : L[k]? = some x) (hx : x.c < 0) : canT L (k + 1) = canT L k := by
  rw [canT_next h]
  have h2 := canT_at h
  have h3 : canC L x = x.c := if_pos hx
  rw [h3]
  apply List.ext_getElem?
  intro j
  rw [List.getElem?_set]
  by_cases hj : k = j
  · subst hj
    rw [if_pos rfl, if_pos (List.getElem?_eq_some_iff.1 h2).1, h2]
  · rw [if_neg hj]
end Go.Proofs.Ytdcmkiggnmajgaa
