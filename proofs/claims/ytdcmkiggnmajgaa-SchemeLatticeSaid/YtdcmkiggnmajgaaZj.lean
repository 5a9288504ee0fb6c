/- Stage 16: mathematics of the lattice of schemes. -/
import Derived.Test.YtdcmkiggnmajgaaYy
import Derived.Test.YtdcmkiggnmajgaaXi
namespace Go.Proofs.Ytdcmkiggnmajgaa
set_option linter.unusedVariables false
set_option linter.unusedSimpArgs false
open Go Go.RowKit Go.Shelf
set_option maxRecDepth 100000

theorem within_iff {A B : List Rh} (hl : B.length = A.length) : withinB A B = true ↔ ∀ i k, i < A.length → k < i → alkF A i k = true → alkF B i k = true := by
  have key : ∀ i k, i < A.length → k < i → witK A B i k = (!alkF A i k || alkF B i k) := by
    intro i k hi hk
    obtain ⟨x, hx⟩ : ∃ x, A[i]? = some x := ⟨_, List.getElem?_eq_getElem hi⟩
    obtain ⟨y, hy⟩ : ∃ x, A[k]? = some x := ⟨_, List.getElem?_eq_getElem (by omega)⟩
    obtain ⟨x', hx'⟩ : ∃ x, B[i]? = some x := ⟨_, List.getElem?_eq_getElem (by omega)⟩
    obtain ⟨y', hy'⟩ : ∃ x, B[k]? = some x := ⟨_, List.getElem?_eq_getElem (by omega)⟩
    unfold witK
    rw [hx, hy, hx', hy']
    simp only
    rw [alkB_F hx hy, alkB_F hx' hy']
  constructor
  · intro h i k hi hk ha
    cases hb : alkF B i k
    · have h1 := withinB_no hi hk (by rw [key i k hi hk, ha, hb]; rfl)
      rw [h] at h1; cases h1
    · rfl
  · intro h
    apply withinB_yes
    intro i k hi hk
    rw [key i k hi hk]
    cases ha : alkF A i k
    · rfl
    · rw [h i k hi hk ha]; rfl
theorem within_all2 {A B : List Rh} (hl : B.length = A.length) (h : withinB A B = true) {i k : Nat} (hi : i < A.length) (hk : k < A.length) (ha : alkF A i k = true) : alkF B i k = true := by
  rw [within_iff hl] at h
  rcases Nat.lt_trichotomy i k with h1 | rfl | h1
  · rw [alkF_sym] at ha ⊢
    exact h k i hk h1 ha
  · exact alkF_iff.2 (.inl rfl)
  · exact h i k hi h1 ha
theorem within_mk {A B : List Rh} (hl : B.length = A.length) (h : ∀ i k, i < A.length → k < A.length → alkF A i k = true → alkF B i k = true) : withinB A B = true :=
  (within_iff hl).2 fun i k hi hk ha => h i k hi (by omega) ha
/-- A scheme of marks may be. -/
theorem mayB_tog {s t : Sc} {f : Nat → Nat} (hms : mayB s = true) (h : (togL s.L t.L f s.L.length).2 ≤ 25) : mayB ⟨(togL s.L t.L f s.L.length).1, s.S⟩ = true := by
  unfold mayB at hms ⊢
  simp only [Bool.and_eq_true] at hms ⊢
  refine ⟨⟨?_, ?_⟩, ?_⟩
  · rw [togL_len]; exact hms.1.1
  · rw [List.all_eq_true]
    intro x hx
    obtain ⟨i, hi⟩ := List.mem_iff_getElem?.1 hx
    have hl := (List.getElem?_eq_some_iff.1 hi).1
    rw [togL_len] at hl
    rw [togL_at _ _ _ hl] at hi
    cases hi
    have := clsT_range s.L t.L f i s.L.length hl
    rw [okR_iff]
    dsimp only
    omega
  · rw [togL_len]; exact hms.2
theorem togR_cases (s t : Sc) (f : Nat → Nat) : (togR s t f).2 = 0 ∨ (togR s t f).2 = 5 := by
  unfold togR
  split
  · exact .inr rfl
  · exact .inl rfl
theorem togR_len2 (s t : Sc) (f : Nat → Nat) : (togR s t f).1.L.length ≤ s.L.length ∧ (togR s t f).1.S.length ≤ s.S.length := by
  unfold togR
  split <;> simp [togL_len]
theorem togR_ok {s t : Sc} {f : Nat → Nat} (h : (togR s t f).2 = 0) : (togL s.L t.L f s.L.length).2 ≤ 25 ∧ (togR s t f).1 = ⟨(togL s.L t.L f s.L.length).1, s.S⟩ := by
  unfold togR at h ⊢
  split at h
  · cases h
  · next h1 => rw [if_neg h1]; exact ⟨by omega, rfl⟩
theorem Mk.relM_of {A B : List Rh} {n : Nat} {f : Nat → Nat} (h : Mk n (relM A B) f) {i k : Nat} (hi : i < n) (hk : k < n) (he : f i = f k) : relM A B i k := by
  have h1 := h.con (relM A B) (relM_eqv A B) (fun a b _ _ hab => hab) i hi
  have h2 := h.con (relM A B) (relM_eqv A B) (fun a b _ _ hab => hab) k hk
  rw [← he] at h2
  exact (relM_eqv A B).trans h1 ((relM_eqv A B).symm h2)
theorem meet_facts {s t : Sc} {f : Nat → Nat} {M : Sc × Int} (hms : mayB s = true) (hlen : t.L.length = s.L.length) (hf : Mk s.L.length (relM s.L t.L) f) (hM : togR s t f = M) (h0 : M.2 = 0) :
    mayB M.1 = true ∧ M.1.L.length = s.L.length ∧ withinB M.1.L s.L = true ∧ withinB M.1.L t.L = true ∧ ∀ u : Sc, u.L.length = s.L.length → withinB u.L M.1.L = (withinB u.L s.L && withinB u.L t.L) := by
  subst hM
  obtain ⟨h25, he⟩ := togR_ok h0
  rw [he]
  have hl := togL_len s.L t.L f s.L.length
  have hcl : ∀ i j, i < s.L.length → j < s.L.length → relM s.L t.L i j → i ≠ j → (0 ≤ ca s.L i ∨ 0 ≤ ca t.L i) ∧ (0 ≤ ca s.L j ∨ 0 ≤ ca t.L j) := relM_cls
  refine ⟨mayB_tog hms h25, hl, ?_, ?_, ?_⟩
  · refine within_mk hl.symm fun i k hi hk ha => ?_
    rw [hl] at hi hk
    exact (hf.relM_of hi hk ((tog_alk hf hcl hi hk).1 ha)).1
  · refine within_mk (by dsimp only; omega) fun i k hi hk ha => ?_
    rw [hl] at hi hk
    exact (hf.relM_of hi hk ((tog_alk hf hcl hi hk).1 ha)).2
  · intro u hu
    rw [Bool.eq_iff_iff, Bool.and_eq_true]
    constructor
    · intro h
      have key : ∀ i k, i < u.L.length → k < u.L.length → alkF u.L i k = true → relM s.L t.L i k := fun i k hi hk ha =>
        hf.relM_of (by omega) (by omega) ((tog_alk hf hcl (by omega) (by omega)).1 (within_all2 (by dsimp only; omega) h hi hk ha))
      exact ⟨within_mk (by omega) fun i k hi hk ha => (key i k hi hk ha).1, within_mk (by omega) fun i k hi hk ha => (key i k hi hk ha).2⟩
    · rintro ⟨h1, h2⟩
      refine within_mk (by dsimp only; omega) fun i k hi hk ha => ?_
      refine (tog_alk hf hcl (by omega) (by omega)).2 (hf.eq i k (by omega) (by omega) ⟨?_, ?_⟩)
      · exact within_all2 (by omega) h1 hi hk ha
      · exact within_all2 (by omega) h2 hi hk ha
theorem join_facts {s t : Sc} {f : Nat → Nat} {J : Sc × Int} (hms : mayB s = true) (hlen : t.L.length = s.L.length) (hf : Mk s.L.length (relJ s.L t.L) f) (hJ : togR s t f = J) (h0 : J.2 = 0) :
    mayB J.1 = true ∧ J.1.L.length = s.L.length ∧ withinB s.L J.1.L = true ∧ withinB t.L J.1.L = true ∧ ∀ u : Sc, u.L.length = s.L.length → withinB J.1.L u.L = (withinB s.L u.L && withinB t.L u.L) := by
  subst hJ
  obtain ⟨h25, he⟩ := togR_ok h0
  rw [he]
  have hl := togL_len s.L t.L f s.L.length
  have hcl : ∀ i j, i < s.L.length → j < s.L.length → relJ s.L t.L i j → i ≠ j → (0 ≤ ca s.L i ∨ 0 ≤ ca t.L i) ∧ (0 ≤ ca s.L j ∨ 0 ≤ ca t.L j) := relJ_cls
  refine ⟨mayB_tog hms h25, hl, ?_, ?_, ?_⟩
  · refine within_mk hl fun i k hi hk ha => ?_
    exact (tog_alk hf hcl hi hk).2 (hf.eq i k hi hk (.inl ha))
  · refine within_mk (by dsimp only; omega) fun i k hi hk ha => ?_
    rw [hlen] at hi hk
    exact (tog_alk hf hcl hi hk).2 (hf.eq i k hi hk (.inr ha))
  · intro u hu
    rw [Bool.eq_iff_iff, Bool.and_eq_true]
    constructor
    · intro h
      constructor
      · refine within_mk (by omega) fun i k hi hk ha => ?_
        exact within_all2 (by dsimp only; omega) h (by rw [hl]; exact hi) (by rw [hl]; exact hk) ((tog_alk hf hcl hi hk).2 (hf.eq i k hi hk (.inl ha)))
      · refine within_mk (by omega) fun i k hi hk ha => ?_
        rw [hlen] at hi hk
        exact within_all2 (by dsimp only; omega) h (by rw [hl]; exact hi) (by rw [hl]; exact hk) ((tog_alk hf hcl hi hk).2 (hf.eq i k hi hk (.inr ha)))
    · rintro ⟨h1, h2⟩
      refine within_mk (by dsimp only; omega) fun i k hi hk ha => ?_
      rw [hl] at hi hk
      have he2 := (tog_alk hf hcl hi hk).1 ha
      have hE : ∀ a b, a < s.L.length → b < s.L.length → relJ s.L t.L a b → alkF u.L a b = true := fun a b ha hb hab => hab.elim (fun h => within_all2 (by omega) h1 ha hb h) (fun h => within_all2 (by omega) h2 (by omega) (by omega) h)
      have h3 := hf.con _ (alkF_eqv u.L) hE i hi
      have h4 := hf.con _ (alkF_eqv u.L) hE k hk
      rw [← he2] at h4
      exact (alkF_eqv u.L).trans h3 ((alkF_eqv u.L).symm h4)
end Go.Proofs.Ytdcmkiggnmajgaa
