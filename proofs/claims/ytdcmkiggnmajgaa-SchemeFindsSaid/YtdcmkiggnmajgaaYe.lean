/- Stage 16: keys and schemes: mathematics. -/
import Derived.Test.YtdcmkiggnmajgaaYd
import Derived.Test.YtdcmkiggnmajgaaYb
import Derived.Test.YtdcmkiggnmajgaaVx
namespace Go.Proofs.Ytdcmkiggnmajgaa
set_option linter.unusedVariables false
set_option linter.unusedSimpArgs false
open Go Go.RowKit Go.Shelf
set_option maxRecDepth 100000

theorem fndL_at {ks : List ByteArray} {i : Nat} {s : ByteArray} (hs : ks[i]? = some s) : (fndL ks)[i]? = some ⟨(cntF (keyL ks) (kIx ks s) : Nat), 0⟩ := by
  have h := canL_get (keyL_at hs)
  rw [keyL_can hs] at h
  exact h
theorem fnd_same {ks : List ByteArray} {i k : Nat} {s t : ByteArray} (hs : ks[i]? = some s) (ht : ks[k]? = some t) : cntF (keyL ks) (kIx ks s) = cntF (keyL ks) (kIx ks t) ↔ s = t := by
  have h := canC_inj (keyL_at hs) (keyL_at ht) (by simp) (by simp)
  rw [keyL_can hs, keyL_can ht] at h
  constructor
  · intro e
    have := h.1 (by rw [e])
    simp only at this
    exact (kIx_inj hs ht).1 (by omega)
  · intro e; rw [e]
theorem fnd_fidx {ks : List ByteArray} {k : Nat} {t : ByteArray} (ht : ks[k]? = some t) : fidx (fndL ks) 0 ((cntF (keyL ks) (kIx ks t) : Nat) : Int) = ((kIx ks t : Nat) : Int) := by
  obtain ⟨f, hf, hfk, ⟨y, hy, hyc⟩, hmin⟩ := fidx_at (fndL_at ht)
  simp only at hf hyc hmin
  rw [hf]
  have hfl := (List.getElem?_eq_some_iff.1 hy).1
  rw [fndL_len] at hfl
  obtain ⟨z, hz⟩ : ∃ z, ks[f]? = some z := ⟨_, List.getElem?_eq_getElem hfl⟩
  have hy' := fndL_at hz
  rw [hy] at hy'
  cases hy'
  simp only at hyc
  have hzt := (fnd_same hz ht).1 (by omega)
  subst hzt
  have h1 := (kIx_le hz).1
  rcases Nat.lt_or_ge (kIx ks z) f with h2 | h2
  · exact absurd rfl (hmin _ _ h2 (fndL_at (kIx_le hz).2))
  · omega
theorem flt_none {L : List Rh} {ks : List ByteArray} {n : Nat} (h : fltT L ks n = []) {k : Nat} (hk : k < n) : flt1 L ks k = none := by
  unfold fltT at h
  rw [List.filterMap_eq_nil_iff] at h
  exact h k (List.mem_range.2 hk)
theorem fnd_flt (ks : List ByteArray) : fltT (fndL ks) ks ks.length = [] := by
  unfold fltT
  rw [List.filterMap_eq_nil_iff]
  intro k hk
  have hk := List.mem_range.1 hk
  obtain ⟨t, ht⟩ : ∃ t, ks[k]? = some t := ⟨_, List.getElem?_eq_getElem hk⟩
  unfold flt1
  rw [fndL_at ht, ht]
  simp only [fnd_fidx ht, Int.toNat_natCast]
  by_cases h : kIx ks t < k
  · rw [if_pos ⟨by omega, by omega⟩, if_pos (kIx_le ht).2]
  · rw [if_neg (fun e => h (by omega)), if_neg h]
theorem fnd_may {ks : List ByteArray} (h1 : ¬ 512 < ks.length) (h2 : ¬ 25 < cntF (keyL ks) ks.length) : mayB (fndS ks) = true := by
  unfold mayB fndS
  simp only [fndL_len]
  rw [Bool.and_eq_true, Bool.and_eq_true, decide_eq_true_iff]
  refine ⟨⟨by omega, ?_⟩, ?_⟩
  · rw [List.all_eq_true]
    intro x hx
    obtain ⟨i, hi⟩ := List.getElem?_of_mem hx
    have hil := (List.getElem?_eq_some_iff.1 hi).1
    rw [fndL_len] at hil
    obtain ⟨s, hs⟩ : ∃ s, ks[i]? = some s := ⟨_, List.getElem?_eq_getElem hil⟩
    rw [fndL_at hs] at hi
    cases hi
    have h3 := (List.getElem?_eq_some_iff.1 (kIx_le hs).2).1
    have h4 := cntF_lt (isFst_of (keyL_at (kIx_le hs).2) (by simp) (keyL_fidx hs)) h3
    rw [okR_iff]
    simp only
    omega
  · by_cases h : ks = []
    · subst h; rfl
    · rw [if_neg h]
      have : ks.length ≠ 0 := fun e => h (List.eq_nil_of_length_eq_zero e)
      simp [stB]
      omega
/-- What a fault says. -/
theorem flt1_lt {L : List Rh} {ks : List ByteArray} {k : Nat} {x : Nat × Nat × Int} (h : flt1 L ks k = some x) : x.1 = k ∧ x.2.1 < k := by
  unfold flt1 at h
  split at h
  · next y s hy hs =>
    split at h
    · next hc =>
      split at h
      · cases h
      · cases h
        obtain ⟨f, hf, hfk, _, _⟩ := fidx_at hy
        exact ⟨rfl, by simp only; omega⟩
    · split at h
      · next hk => cases h; exact ⟨rfl, hk⟩
      · cases h
  · cases h
theorem flt_with {L : List Rh} {ks : List ByteArray} {n i : Nat} {x : Nat × Nat × Int} (h : (fltT L ks n)[i]? = some x) : x.2.1 < x.1 := by
  have hm := List.mem_of_getElem? h
  unfold fltT at hm
  rw [List.mem_filterMap] at hm
  obtain ⟨k, _, hk⟩ := hm
  have := flt1_lt hk
  omega
theorem flt_up {L : List Rh} {ks : List ByteArray} {n i : Nat} {x y : Nat × Nat × Int} (hx : (fltT L ks n)[i]? = some x) (hy : (fltT L ks n)[i + 1]? = some y) : x.1 < y.1 := by
  have hp : (fltT L ks n).Pairwise (fun a b => a.1 < b.1) := by
    unfold fltT
    refine List.Pairwise.filterMap _ ?_ List.pairwise_lt_range
    intro a b hab x hx y hy
    have h1 := flt1_lt hx
    have h2 := flt1_lt hy
    omega
  obtain ⟨h1, e1⟩ := List.getElem?_eq_some_iff.1 hx
  obtain ⟨h2, e2⟩ := List.getElem?_eq_some_iff.1 hy
  have := List.pairwise_iff_getElem.1 hp i (i + 1) h1 h2 (by omega)
  rw [e1, e2] at this
  exact this
/-- No fault: what rhymes is alike. -/
theorem flt_clean {L : List Rh} {ks : List ByteArray} (hlen : ks.length = L.length) (h : fltT L ks L.length = []) {i k : Nat} {x y : Rh} {t u : ByteArray} (hk : k < i) (hx : L[i]? = some x) (hy : L[k]? = some y) (ht : ks[i]? = some t) (hu : ks[k]? = some u) :
    (0 ≤ x.c → 0 ≤ y.c → (x.c = y.c ↔ t = u)) ∧ (x.c < 0 → t ≠ u) := by
  have hil := (List.getElem?_eq_some_iff.1 hx).1
  -- at each line
  have key : ∀ {i : Nat} {x : Rh} {t : ByteArray}, L[i]? = some x → ks[i]? = some t → 0 ≤ x.c → ∃ f : Nat, fidx L 0 x.c = (f : Int) ∧ f ≤ i ∧ ks[f]? = some t := by
    intro i x t hx ht hc
    have hil := (List.getElem?_eq_some_iff.1 hx).1
    have h0 := flt_none h hil
    obtain ⟨f, hf, hfi, _, _⟩ := fidx_at hx
    refine ⟨f, hf, hfi, ?_⟩
    rcases Nat.lt_or_ge f i with h1 | h1
    · unfold flt1 at h0
      rw [hx, ht] at h0
      simp only [hf, Int.toNat_natCast] at h0
      rw [if_pos ⟨hc, by omega⟩] at h0
      by_cases e : ks[f]? = some t
      · exact e
      · rw [if_neg e] at h0; cases h0
    · have : f = i := by omega
      rw [this]; exact ht
  have new : ∀ {i : Nat} {x : Rh} {t : ByteArray}, L[i]? = some x → ks[i]? = some t → (x.c < 0 ∨ fidx L 0 x.c = (i : Int)) → i ≤ kIx ks t := by
    intro i x t hx ht hc
    have hil := (List.getElem?_eq_some_iff.1 hx).1
    have h0 := flt_none h hil
    unfold flt1 at h0
    rw [hx, ht] at h0
    simp only at h0
    rw [if_neg (by rcases hc with hc | hc <;> omega)] at h0
    rcases Nat.lt_or_ge (kIx ks t) i with h1 | h1
    · rw [if_pos h1] at h0; cases h0
    · exact h1
  refine ⟨fun hc1 hc2 => ?_, fun hc e => ?_⟩
  · obtain ⟨f, hf, hfi, hft⟩ := key hx ht hc1
    obtain ⟨g, hg, hgk, hgu⟩ := key hy hu hc2
    constructor
    · intro e
      rw [e, hg] at hf
      have : g = f := by omega
      subst this
      rw [hft] at hgu
      cases hgu; rfl
    · intro e
      subst e
      rcases Nat.lt_trichotomy f g with h1 | h1 | h1
      · exfalso
        obtain ⟨g', hg', _, ⟨z, hz, hzc⟩, _⟩ := fidx_at hy
        have hgg : g' = g := by rw [hg] at hg'; omega
        subst hgg
        have h2 := new hz hgu (.inr (by rw [hzc]; exact hg))
        have h3 := (kIx_le hft).1
        omega
      · obtain ⟨f', hf', _, ⟨z, hz, hzc⟩, _⟩ := fidx_at hx
        obtain ⟨g', hg', _, ⟨z', hz', hzc'⟩, _⟩ := fidx_at hy
        rw [hf] at hf'
        rw [hg] at hg'
        have e1 : f' = g' := by omega
        rw [← e1, hz] at hz'
        cases hz'
        rw [← hzc, ← hzc']
      · exfalso
        obtain ⟨f', hf', _, ⟨z, hz, hzc⟩, _⟩ := fidx_at hx
        have hff : f' = f := by rw [hf] at hf'; omega
        subst hff
        have h2 := new hz hft (.inr (by rw [hzc]; exact hf))
        have h3 := (kIx_le hgu).1
        omega
  · subst e
    have h2 := new hx ht (.inl hc)
    have h3 := (kIx_le hu).1
    omega
end Go.Proofs.Ytdcmkiggnmajgaa
