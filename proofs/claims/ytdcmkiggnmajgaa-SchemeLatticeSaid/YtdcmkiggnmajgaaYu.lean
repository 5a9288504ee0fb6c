/- Stage 16: Within: mathematics of the program's way. -/
import Derived.Test.YtdcmkiggnmajgaaYt
namespace Go.Proofs.Ytdcmkiggnmajgaa
set_option linter.unusedVariables false
set_option linter.unusedSimpArgs false
open Go Go.RowKit Go.Shelf
set_option maxRecDepth 100000

theorem alkB_iff {i k : Nat} {x y : Rh} : alkB i k x y = true ↔ i = k ∨ (0 ≤ x.c ∧ x.c = y.c) := by
  unfold alkB
  rw [Bool.or_eq_true, Bool.and_eq_true, decide_eq_true_iff, decide_eq_true_iff, decide_eq_true_iff]
theorem alkB_sym {i k : Nat} {x y : Rh} : alkB i k x y = alkB k i y x := by
  rw [Bool.eq_iff_iff, alkB_iff, alkB_iff]
  omega
/-- A line that is not alike, by the other, to the first of its class. -/
theorem within_stop {A B : List Rh} {k f : Nat} {x u v : Rh} (hx : A[k]? = some x) (hc : 0 ≤ x.c) (hf : fidx A 0 x.c = (f : Int)) (hu : B[f]? = some u) (hv : B[k]? = some v) (h : alkB f k u v = false) : withinB A B = false := by
  obtain ⟨f', hf', hfk, ⟨z, hz, hzc⟩, _⟩ := fidx_at hx
  obtain rfl : f' = f := by rw [hf] at hf'; omega
  have hne : f' ≠ k := by
    intro e
    have h2 : alkB f' k u v = true := alkB_iff.2 (.inl e)
    rw [h] at h2
    cases h2
  refine withinB_no (List.getElem?_eq_some_iff.1 hx).1 (by omega : f' < k) ?_
  unfold witK
  rw [hx, hz, hv, hu]
  simp only
  rw [alkB_iff.2 (.inr ⟨hc, hzc.symm⟩), alkB_sym, h]
  rfl
/-- All lines are. -/
theorem within_all {A B : List Rh} (hl : B.length = A.length) (h : ∀ k x f u v, A[k]? = some x → 0 ≤ x.c → fidx A 0 x.c = ((f : Nat) : Int) → B[f]? = some u → B[k]? = some v → alkB f k u v = true) : withinB A B = true := by
  refine withinB_yes fun i k hi hk => ?_
  obtain ⟨x, hx⟩ : ∃ x, A[i]? = some x := ⟨_, List.getElem?_eq_getElem hi⟩
  obtain ⟨y, hy⟩ : ∃ x, A[k]? = some x := ⟨_, List.getElem?_eq_getElem (by omega)⟩
  obtain ⟨x', hx'⟩ : ∃ x, B[i]? = some x := ⟨_, List.getElem?_eq_getElem (by omega)⟩
  obtain ⟨y', hy'⟩ : ∃ x, B[k]? = some x := ⟨_, List.getElem?_eq_getElem (by omega)⟩
  unfold witK
  rw [hx, hy, hx', hy']
  simp only
  cases e : alkB i k x y
  · rfl
  · rw [Bool.not_true, Bool.false_or]
    rcases alkB_iff.1 e with h1 | ⟨hc, hcc⟩
    · omega
    · obtain ⟨f, hf, hfk, _, _⟩ := fidx_at hy
      obtain ⟨u, hu⟩ : ∃ x, B[f]? = some x := ⟨_, List.getElem?_eq_getElem (by omega)⟩
      have a1 := alkB_iff.1 (h i x f u x' hx hc (by rw [hcc]; exact hf) hu hx')
      have a2 := alkB_iff.1 (h k y f u y' hy (by omega) hf hu hy')
      refine alkB_iff.2 (.inr ?_)
      rcases a1 with a1 | a1
      · omega
      · rcases a2 with a2 | a2
        · subst a2
          rw [hu] at hy'
          cases hy'
          omega
        · omega
end Go.Proofs.Ytdcmkiggnmajgaa
