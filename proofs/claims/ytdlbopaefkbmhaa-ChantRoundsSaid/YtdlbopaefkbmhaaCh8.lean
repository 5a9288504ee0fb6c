/- Stage 31: the document's Most. -/
import Derived.Test.YtdlbopaefkbmhaaCh7
namespace Go.Proofs.Ytdlbopaefkbmhaa
set_option linter.unusedVariables false
set_option linter.unusedSimpArgs false
open Go Go.RowKit Go.Shelf
set_option maxRecDepth 100000

def mxF (f : Nt → Nat) (l : List Nt) : Nat := l.foldl (fun m x => max m (f x)) 0
theorem mxF_snoc (f : Nt → Nat) (l : List Nt) (x : Nt) : mxF f (l ++ [x]) = max (mxF f l) (f x) := by simp [mxF]
def mostV (vs : List (List Nt)) : Nat := mxF (fun x => cntS vs x.at') vs.flatten
theorem mxF_le (f : Nt → Nat) (l : List Nt) (b : Nat) (h : ∀ x ∈ l, f x ≤ b) : mxF f l ≤ b := by
  unfold mxF
  have : ∀ (l : List Nt) (a : Nat), a ≤ b → (∀ x ∈ l, f x ≤ b) → l.foldl (fun m x => max m (f x)) a ≤ b := by
    intro l
    induction l with
    | nil => intro a ha _; exact ha
    | cons y l ih => intro a ha h; exact ih _ (Nat.max_le.2 ⟨ha, h y List.mem_cons_self⟩) fun x hx => h x (List.mem_cons_of_mem _ hx)
  exact this l 0 (Nat.zero_le _) h
theorem cntS_le (vs : List (List Nt)) (t : Nat) : cntS vs t ≤ tot vs := by rw [← flat_len]; exact cnL_le _ _

def MdO (vs : List (List Nt)) (w : World) (i c : Value) (wr : World) : Prop := ∃ k : Nat, i = .int .i64 k ∧ k ≤ vs.length ∧ c = .int .i64 (mxF (fun x => cntS vs x.at') (vs.take k).flatten : Nat) ∧ Below w.heap.size w wr
def MdI (vs : List (List Nt)) (l : List Nt) (k : Nat) (w : World) (i c : Value) (wr : World) : Prop := ∃ j : Nat, i = .int .i64 j ∧ j ≤ l.length ∧ c = .int .i64 (mxF (fun x => cntS vs x.at') ((vs.take k).flatten ++ l.take j) : Nat) ∧ Below w.heap.size w wr
end Go.Proofs.Ytdlbopaefkbmhaa
