/- Layer 3: how a text's letters are written: the document's Case. -/
import Derived.Test.YtkikopjbaonbpaaLt
import Derived.Test.YtkikopjbaonbpaaCd4
namespace Go.Proofs.Ytkikopjbaonbpaa
set_option linter.unusedVariables false
set_option linter.unusedSimpArgs false
open Go Go.RowKit Go.Shelf
set_option maxRecDepth 100000

theorem kind_not {r : Int} (h : leB r = false) : (kindZ r == 1) = false := by
  rw [beq_eq_false_iff_ne]
  by_cases h0 : r < 0 ∨ (55296 ≤ r ∧ r ≤ 57343) ∨ 1114111 < r
  · rw [kind_none h0]; decide
  · rw [kind_other h0 h]
    clear h h0
    unfold kindN
    (repeat' split) <;> decide
theorem bk_letter {s : ByteArray} {i : Nat} (h : leB (rn s i) = true) : bk s i = false := by
  cases hb : bk s i with
  | false => rfl
  | true =>
    rw [(bk_rn s i hb).1] at h
    exact absurd h (by decide)

theorem ofD_t (i wx r : Int) (w : World) :
    Calls Try.prog 15 #[.agg #[.int .i64 i, .int .i64 wx, .int .i32 r, .bool true]] w fun e w' => e = .returned (.int .i64 11) ∧ Below w.heap.size w w' := by
  go_enter Try.func15, Try.ntmps15
  go_wp2
  go_ret
  exact ⟨rfl, (Below.refl _ _).alloc (Nat.le_refl _) _⟩
theorem ofD_f (i wx r : Int) (w : World) :
    Calls Try.prog 15 #[.agg #[.int .i64 i, .int .i64 wx, .int .i32 r, .bool false]] w fun e w' => e = .returned (.int .i64 (kindZ r)) ∧ Below w.heap.size w w' := by
  have cK := kindD_any r
  go_enter Try.func15, Try.ntmps15
  go_wp2_with (go_at_call 27; refine (cK _).mono ?_; rintro e w' ⟨rfl, rfl⟩)
  go_ret
  exact ⟨rfl, (Below.refl _ _).alloc (Nat.le_refl _) _⟩

/-- Great, small letters; is the first one great? -/
def csStep (s : ByteArray) (st : Nat × Nat × Bool) (i : Nat) : Nat × Nat × Bool :=
  if leB (rn s i) = true then
    (if grB (rn s i) = true then (st.1 + 1, st.2.1, if st.1 + st.2.1 = 0 then true else st.2.2) else (st.1, st.2.1 + 1, if st.1 + st.2.1 = 0 then false else st.2.2))
  else st
def csR (s : ByteArray) (l : List Nat) : Nat × Nat × Bool := l.foldl (csStep s) (0, 0, false)
theorem csR_snoc (s : ByteArray) (l : List Nat) (i : Nat) : csR s (l ++ [i]) = csStep s (csR s l) i := by simp [csR]
theorem cs_no {s : ByteArray} {i : Nat} (h : leB (rn s i) = false) (st : Nat × Nat × Bool) : csStep s st i = st := by unfold csStep; rw [if_neg (by rw [h]; simp)]
theorem cs_g0 {s : ByteArray} {i : Nat} (h : leB (rn s i) = true) (hg : grB (rn s i) = true) (f : Bool) : csStep s (0, 0, f) i = (1, 0, true) := by unfold csStep; rw [if_pos h, if_pos hg]; rfl
theorem cs_g {s : ByteArray} {i : Nat} (h : leB (rn s i) = true) (hg : grB (rn s i) = true) {G S : Nat} (h0 : G + S ≠ 0) (f : Bool) : csStep s (G, S, f) i = (G + 1, S, f) := by unfold csStep; rw [if_pos h, if_pos hg, if_neg h0]
theorem cs_s0 {s : ByteArray} {i : Nat} (h : leB (rn s i) = true) (hg : grB (rn s i) = false) (f : Bool) : csStep s (0, 0, f) i = (0, 1, false) := by unfold csStep; rw [if_pos h, if_neg (by rw [hg]; simp)]; rfl
theorem cs_s {s : ByteArray} {i : Nat} (h : leB (rn s i) = true) (hg : grB (rn s i) = false) {G S : Nat} (h0 : G + S ≠ 0) (f : Bool) : csStep s (G, S, f) i = (G, S + 1, f) := by unfold csStep; rw [if_pos h, if_neg (by rw [hg]; simp), if_neg h0]
theorem cs_fold (s : ByteArray) : ∀ (l : List Nat) (st : Nat × Nat × Bool), (lpos s l).foldl (csStep s) st = l.foldl (csStep s) st := by
  intro l
  induction l with
  | nil => intro st; rfl
  | cons i l ih =>
    intro st
    cases h : leB (rn s i) with
    | true => rw [show lpos s (i :: l) = i :: lpos s l by simp [lpos, h], List.foldl_cons, List.foldl_cons, ih]
    | false => rw [show lpos s (i :: l) = lpos s l by simp [lpos, h], List.foldl_cons, ih, cs_no h]
theorem csR_eq (s : ByteArray) (l : List Nat) : csR s (lpos s l) = csR s l := cs_fold s l _
theorem cs_one (s : ByteArray) (st : Nat × Nat × Bool) (i : Nat) : (csStep s st i).1 + (csStep s st i).2.1 ≤ st.1 + st.2.1 + 1 := by
  unfold csStep
  split
  · split <;> simp <;> omega
  · omega
theorem cs_le (s : ByteArray) : ∀ (l : List Nat) (st : Nat × Nat × Bool), (l.foldl (csStep s) st).1 + (l.foldl (csStep s) st).2.1 ≤ st.1 + st.2.1 + l.length := by
  intro l
  induction l with
  | nil => intro st; exact Nat.le_refl _
  | cons i l ih =>
    intro st
    have h1 := ih (csStep s st i)
    have h2 := cs_one s st i
    rw [List.foldl_cons, List.length_cons]; omega
theorem csR_le (s : ByteArray) (l : List Nat) : (csR s l).1 + (csR s l).2.1 ≤ l.length := by
  have := cs_le s l (0, 0, false)
  simpa [csR] using this
def caseZ (st : Nat × Nat × Bool) : Int :=
  if st.1 + st.2.1 = 0 then 0 else if st.1 = 0 then 1 else if st.2.1 = 0 then 2 else if st.2.2 = true ∧ st.1 = 1 then 3 else 4

def CdRel (s : ByteArray) (n : Nat) (v : Value) (w : World) (g sm f i : Value) (wr : World) : Prop :=
  ∃ (k G S : Nat) (F : Bool), i = .int .i64 k ∧ k ≤ n ∧ csR s ((posns s).take k) = (G, S, F) ∧ g = .int .i64 G ∧ sm = .int .i64 S ∧ f = .bool F ∧ wr.ownsRow w.heap.size 31 4 v n (pcs s (posns s)) ∧ Below w.heap.size w wr

end Go.Proofs.Ytkikopjbaonbpaa
