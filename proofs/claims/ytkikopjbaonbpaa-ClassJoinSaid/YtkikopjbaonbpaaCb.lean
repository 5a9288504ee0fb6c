/- Layer 3: how a text's letters are written: the program's Case. -/
import Derived.Test.YtkikopjbaonbpaaCa
namespace Go.Proofs.Ytkikopjbaonbpaa
set_option linter.unusedVariables false
set_option linter.unusedSimpArgs false
open Go Go.RowKit Go.Shelf
set_option maxRecDepth 100000
attribute [local go_sem] Oper.semAt_some

/-- The same over letters alone. -/
def csT (s : ByteArray) (st : Nat × Nat × Bool) (i : Nat) : Nat × Nat × Bool :=
  if grB (rn s i) = true then (st.1 + 1, st.2.1, if st.1 + st.2.1 = 0 then true else st.2.2) else (st.1, st.2.1 + 1, if st.1 + st.2.1 = 0 then false else st.2.2)
def csQ (s : ByteArray) (l : List Nat) : Nat × Nat × Bool := l.foldl (csT s) (0, 0, false)
theorem csQ_snoc (s : ByteArray) (l : List Nat) (i : Nat) : csQ s (l ++ [i]) = csT s (csQ s l) i := by simp [csQ]
theorem ct_g {s : ByteArray} {i : Nat} (hg : grB (rn s i) = true) (G S : Nat) (F : Bool) : csT s (G, S, F) i = (G + 1, S, if G + S = 0 then true else F) := by unfold csT; rw [if_pos hg]
theorem ct_s {s : ByteArray} {i : Nat} (hg : grB (rn s i) = false) (G S : Nat) (F : Bool) : csT s (G, S, F) i = (G, S + 1, if G + S = 0 then false else F) := by unfold csT; rw [if_neg (by rw [hg]; simp)]
theorem cs_ct {s : ByteArray} {i : Nat} (h : leB (rn s i) = true) (st : Nat × Nat × Bool) : csStep s st i = csT s st i := by unfold csStep csT; rw [if_pos h]
theorem csQ_fold (s : ByteArray) : ∀ (l : List Nat) (st : Nat × Nat × Bool), (lpos s l).foldl (csT s) st = l.foldl (csStep s) st := by
  intro l
  induction l with
  | nil => intro st; rfl
  | cons i l ih =>
    intro st
    cases h : leB (rn s i) with
    | true => rw [show lpos s (i :: l) = i :: lpos s l by simp [lpos, h], List.foldl_cons, List.foldl_cons, ih, cs_ct h]
    | false => rw [show lpos s (i :: l) = lpos s l by simp [lpos, h], List.foldl_cons, ih, cs_no h]
theorem csQ_eq (s : ByteArray) (l : List Nat) : csQ s (lpos s l) = csR s l := csQ_fold s l _
theorem ct_le (s : ByteArray) : ∀ (l : List Nat) (st : Nat × Nat × Bool), (l.foldl (csT s) st).1 + (l.foldl (csT s) st).2.1 = st.1 + st.2.1 + l.length := by
  intro l
  induction l with
  | nil => intro st; rfl
  | cons i l ih =>
    intro st
    have h1 := ih (csT s st i)
    have h2 : (csT s st i).1 + (csT s st i).2.1 = st.1 + st.2.1 + 1 := by unfold csT; split <;> simp <;> omega
    rw [List.foldl_cons, List.length_cons]; omega
theorem csQ_le (s : ByteArray) (l : List Nat) : (csQ s l).1 + (csQ s l).2.1 = l.length := by
  have := ct_le s l (0, 0, false)
  simpa [csQ] using this

def CaI (s : ByteArray) (w : World) (pre : List (Pos s)) (W : World) : Prop :=
  (((Boxed W w.heap.size 3 (.int .i64 ((pre.length : Nat))) ∧ Boxed W (w.heap.size + 1) 3 (.int .i64 ((csQ s (pre.map (·.1))).1 : Nat))) ∧ Boxed W (w.heap.size + 2) 4 (.bool (csQ s (pre.map (·.1))).2.2)) ∧ Boxed W (w.heap.size + 3) 9 (.string s)) ∧ Below w.heap.size w W

end Go.Proofs.Ytkikopjbaonbpaa
