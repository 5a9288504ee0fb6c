/- The document's clusters: places in the list of pieces, plain mathematics. -/
import Derived.Test.YtnbhdgbhmcbeoaaCln
namespace Go.Proofs.Ytnbhdgbhmcbeoaa
set_option linter.unusedVariables false
open Go
set_option maxRecDepth 100000

/-- The most columns. -/
def mxC (s : ByteArray) (l : List Nat) : Nat := l.foldl (fun c p => max c (colc s p)) 0
theorem mxC_snoc (s : ByteArray) (l : List Nat) (p : Nat) : mxC s (l ++ [p]) = max (mxC s l) (colc s p) := by simp [mxC]
theorem mxC_one (s : ByteArray) (p : Nat) : mxC s [p] = colc s p := by simp [mxC]
theorem drop_app {L A B : List Nat} {i : Nat} (h : L.drop i = A ++ B) : L.drop (i + A.length) = B := by rw [← List.drop_drop, h]; simp
theorem drop_head {L B : List Nat} {k q : Nat} (h : L.drop k = q :: B) : k < L.length ∧ L[k]? = some q := by
  have h0 := congrArg (·[0]?) h
  simp only [List.getElem?_drop, Nat.add_zero, List.getElem?_cons_zero] at h0
  exact ⟨(List.getElem?_eq_some_iff.1 h0).1, h0⟩
theorem drop_at {L A B : List Nat} {i j : Nat} (h : L.drop i = A ++ B) (hj : j < A.length) : L[i + j]? = A[j]? := by
  have := congrArg (·[j]?) h
  simp only [List.getElem?_drop] at this
  rw [this, List.getElem?_append_left hj]
theorem drop_end {L : List Nat} {k : Nat} (h : L.drop k = []) : L.length ≤ k := List.drop_eq_nil_iff.1 h
theorem rn_ascii (s : ByteArray) (i : Nat) (hi : i < s.size) (h : bt s i < 128) : rn s i = bt s i := by
  have hl := lenN_of_1 s i hi ((isF1 s i).2 h)
  rcases five s i hi with ⟨_, _, e⟩ | ⟨_, h2, _⟩ | ⟨_, h2, _⟩ | ⟨_, h2, _⟩ | ⟨h2, _⟩ <;> omega
theorem bk_ascii (s : ByteArray) (i : Nat) (hi : i < s.size) (h : bt s i < 128) : bk s i = false := (bk_not s i).2 (by rw [lenN_of_1 s i hi ((isF1 s i).2 h)]; omega)
theorem col_cr (s : ByteArray) (i : Nat) (hi : i < s.size) (h : bt s i = 13 ∨ bt s i = 10) : colc s i = 0 := by
  have hb := bk_ascii s i hi (by omega)
  have hr := rn_ascii s i hi (by omega)
  unfold colc colZ kdc
  rw [hb, hr]
  rcases h with h | h <;> rw [h] <;> rfl
theorem col_mark (s : ByteArray) (q : Nat) (h : kdc s q = 2 ∨ rn s q = 8205) : colc s q = 0 := by
  have hk : kdc s q = 2 ∨ kdc s q = 9 := by
    rcases h with h | h
    · exact .inl h
    · right; unfold kdc; rw [bk_of_rn s q (by omega), h]; rfl
  unfold colc colZ
  rw [if_neg (by omega), if_pos (by omega)]

/-- On the way through a cluster's row: the places so far, where it stands, whether the last is a joiner. -/
def RowA (s : ByteArray) (i q0 : Nat) (L A : List Nat) (q r : Nat) : Prop := L.drop i = A ++ posG s q ∧ q ≤ s.size ∧ (∃ B, A = B ++ [r]) ∧ r + wd s r = q ∧ r < s.size ∧
  rowG s (kdc s q0) (q0 + wd s q0) false (colc s q0) = rowG s (kdc s q0) q (rn s r == 8205 && decide (kdc s q0 = 10)) (mxC s A)
theorem rowG_j (s : ByteArray) (kind q c : Nat) (j j2 : Bool) (h : kind = 10 → j = j2) (hq : q ≤ s.size) : rowG s kind q j c = rowG s kind q j2 c := by
  by_cases hk : kind = 10
  · rw [h hk]
  · by_cases hlt : q < s.size
    · rw [rowG_step s kind q j c hlt, rowG_step s kind q j2 c hlt]
      split
      · rfl
      · rw [if_neg (by simp [hk]), if_neg (by simp [hk])]
    · rw [rowG_end s kind q j c (by omega), rowG_end s kind q j2 c (by omega)]
theorem rowA_start {s : ByteArray} {i q0 : Nat} {L : List Nat} (h : L.drop i = posG s q0) (hq : q0 < s.size) : RowA s i q0 L [q0] (q0 + wd s q0) q0 := by
  refine ⟨by rw [h, posG_cons s q0 hq]; rfl, wd_fits s q0 hq, ⟨[], rfl⟩, rfl, hq, ?_⟩
  rw [mxC_one]
  refine rowG_j s _ _ _ _ _ (fun hk => ?_) (wd_fits s q0 hq)
  have : rn s q0 ≠ 8205 := fun h => by
    have : kdc s q0 = 9 := by unfold kdc; rw [bk_of_rn s q0 (by omega), h]; rfl
    omega
  simp [this]
/-- Does the row go on at a place? -/
def goesOn (s : ByteArray) (q0 q r : Nat) : Bool := decide (kdc s q = 2) || (rn s q == 8205) || (decide (kdc s q0 = 10) && decide (kdc s q = 10) && (rn s r == 8205))
theorem rowA_next {s : ByteArray} {i q0 q r : Nat} {L A : List Nat} (h : RowA s i q0 L A q r) (hq : q < s.size) (hg : goesOn s q0 q r = true) : RowA s i q0 L (A ++ [q]) (q + wd s q) q := by
  obtain ⟨h1, h2, h3, h4, h5, h6⟩ := h
  refine ⟨by rw [h1, posG_cons s q hq]; simp, wd_fits s q hq, ⟨A, rfl⟩, rfl, hq, ?_⟩
  rw [h6, rowG_step s _ q _ _ hq, mxC_snoc]
  by_cases hm : kdc s q = 2 ∨ rn s q = 8205
  · rw [if_pos hm, col_mark s q hm, Nat.max_zero]
    exact rowG_j s _ _ _ _ _ (fun hk => by simp [hk]) (wd_fits s q hq)
  · have hgo : kdc s q0 = 10 ∧ kdc s q = 10 ∧ rn s r = 8205 := by
      unfold goesOn at hg
      simp only [Bool.or_eq_true, Bool.and_eq_true, decide_eq_true_eq, beq_iff_eq] at hg
      rcases hg with (hg | hg) | hg
      · exact absurd (.inl hg) hm
      · exact absurd (.inr hg) hm
      · exact ⟨hg.1.1, hg.1.2, hg.2⟩
    rw [if_neg hm, if_pos ⟨by simp [hgo.1, hgo.2.2], hgo.1, hgo.2.1⟩]
    have hn : rn s q ≠ 8205 := fun h => hm (.inr h)
    rw [show (rn s q == 8205) = false from beq_eq_false_iff_ne.2 hn, Bool.false_and]
theorem rowA_stop {s : ByteArray} {i q0 q r : Nat} {L A : List Nat} (h : RowA s i q0 L A q r) (hg : q < s.size → goesOn s q0 q r = false) : rowG s (kdc s q0) (q0 + wd s q0) false (colc s q0) = (q, mxC s A) := by
  obtain ⟨h1, h2, h3, h4, h5, h6⟩ := h
  rw [h6]
  by_cases hq : q < s.size
  · have hg := hg hq
    unfold goesOn at hg
    simp only [Bool.or_eq_false_iff, decide_eq_false_iff_not, beq_eq_false_iff_ne] at hg
    obtain ⟨⟨g1, g2⟩, g3⟩ := hg
    rw [rowG_step s _ q _ _ hq, if_neg (by rintro (h | h); exact g1 h; exact g2 h), if_neg]
    rintro ⟨j1, j2, j3⟩
    rw [decide_eq_true j2, decide_eq_true j3] at g3
    rw [decide_eq_true j2, Bool.and_true] at j1
    rw [j1] at g3
    cases g3
  · exact rowG_end s _ q _ _ (by omega)
end Go.Proofs.Ytnbhdgbhmcbeoaa
