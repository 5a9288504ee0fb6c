/- Layer 3: a text's letters, as a range over it meets them. -/
import Derived.Test.YtkikopjbaonbpaaCe
import Derived.Test.YtkikopjbaonbpaaTl
namespace Go.Proofs.Ytkikopjbaonbpaa
set_option linter.unusedVariables false
set_option linter.unusedSimpArgs false
open Go Go.RowKit Go.Shelf
set_option maxRecDepth 100000
attribute [local go_sem] Oper.semAt_some

theorem lpos_cons_t {s : ByteArray} {i : Nat} (h : leB (rn s i) = true) (l : List Nat) : lpos s (i :: l) = i :: lpos s l := by simp [lpos, h]
theorem lpos_cons_f {s : ByteArray} {i : Nat} (h : leB (rn s i) = false) (l : List Nat) : lpos s (i :: l) = lpos s l := by simp [lpos, h]
theorem lpos_tail (s : ByteArray) : ∀ i, ∀ (a : List Nat) (p : Nat) (b : List Nat), lpos s (posG s i) = a ++ p :: b → lpos s (posG s (p + wd s p)) = b ∧ leB (rn s p) = true ∧ p < s.size ∧ i ≤ p := by
  apply posG_ind s
  · intro i hi a p b h; rw [posG_end s i hi] at h; cases a <;> cases h
  · intro i hi ih a p b h
    rw [posG_cons s i hi] at h
    have hw := wd_pos s i
    cases hl : leB (rn s i) with
    | true =>
      rw [lpos_cons_t hl] at h
      cases a with
      | nil =>
        obtain ⟨rfl, rfl⟩ := List.cons.inj h
        exact ⟨rfl, hl, hi, Nat.le_refl _⟩
      | cons y a =>
        have := ih a p b (List.cons.inj h).2
        exact ⟨this.1, this.2.1, this.2.2.1, by omega⟩
    | false =>
      rw [lpos_cons_f hl] at h
      have := ih a p b h
      exact ⟨this.1, this.2.1, this.2.2.1, by omega⟩

/-- Where a range over letters goes on. -/
def endL {s : ByteArray} (pre : List (Pos s)) : Nat := match pre.getLast? with | some x => x.1 + widZ (rn s x.1) | none => 0
theorem endL_snoc {s : ByteArray} (pre : List (Pos s)) (x : Pos s) : endL (pre ++ [x]) = x.1 + widZ (rn s x.1) := by simp [endL]
theorem endL_nil {s : ByteArray} : endL ([] : List (Pos s)) = 0 := rfl
theorem letter_wid {s : ByteArray} {p : Nat} (hp : p < s.size) (h : leB (rn s p) = true) : widZ (rn s p) = wd s p := wid_rn s p hp (bk_letter h)
theorem endL_rest {s : ByteArray} (pre : List (Pos s)) (r : List Nat) (h : lpos s (posns s) = pre.map (·.1) ++ r) : lpos s (posG s (endL pre)) = r := by
  rcases List.eq_nil_or_concat pre with rfl | ⟨q, x, e⟩
  · rw [endL_nil]; simpa [posns_G] using h
  · rw [List.concat_eq_append] at e
    subst e
    rw [endL_snoc]
    have h2 : lpos s (posG s 0) = q.map (·.1) ++ x.1 :: r := by rw [← posns_G, h]; simp
    obtain ⟨k1, k2, k3, _⟩ := lpos_tail s 0 _ _ _ h2
    rw [letter_wid k3 k2]; exact k1
theorem endL_le {s : ByteArray} (pre : List (Pos s)) (r : List Nat) (h : lpos s (posns s) = pre.map (·.1) ++ r) : endL pre ≤ s.size := by
  rcases List.eq_nil_or_concat pre with rfl | ⟨q, x, e⟩
  · rw [endL_nil]; omega
  · rw [List.concat_eq_append] at e
    subst e
    rw [endL_snoc]
    have h2 : lpos s (posG s 0) = q.map (·.1) ++ x.1 :: r := by rw [← posns_G, h]; simp
    obtain ⟨k1, k2, k3, _⟩ := lpos_tail s 0 _ _ _ h2
    rw [letter_wid k3 k2]; exact wd_fits s _ k3

theorem keeps_of_below {W P : World} (hb : Below W.heap.size W P) : KeepsOthers W P := ⟨hb.size, fun k o h _ => (hb.block k (Array.getElem?_eq_some_iff.1 h).1).trans h⟩

def LeI (s : ByteArray) (w : World) (pre : List (Pos s)) (W : World) : Prop :=
  (((Boxed W w.heap.size 9 (.string s) ∧ Boxed W (w.heap.size + 1) 4 (.bool false)) ∧ Boxed W (w.heap.size + 2) 9 (.string s)) ∧ Boxed W (w.heap.size + 3) 3 (.int .i64 (endL pre : Nat))) ∧ Below w.heap.size w W
def LiH (s : ByteArray) (N x : Nat) (W : World) (wr : World) : Prop :=
  ∃ (j : Nat) (rest : List Nat), wr.heap[W.heap.size]? = some (.stringIter (s.extract N s.size) j) ∧ lpos s (posG s (N + j)) = x :: rest ∧ Below W.heap.size W wr
def LiN (s : ByteArray) (N : Nat) (W : World) (wr : World) : Prop :=
  ∃ j : Nat, wr.heap[W.heap.size]? = some (.stringIter (s.extract N s.size) j) ∧ Below W.heap.size W wr
def LiD (s : ByteArray) (N : Nat) (W : World) (wr : World) : Prop :=
  ∃ j : Nat, wr.heap[W.heap.size]? = some (.stringIter (s.extract N s.size) j) ∧ lpos s (posG s (N + j)) = [] ∧ Below W.heap.size W wr

end Go.Proofs.Ytkikopjbaonbpaa
