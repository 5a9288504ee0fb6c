/- Stage 31: Sounding, the program's and the document's. -/
import Derived.Test.YtdlbopaefkbmhaaCh6
namespace Go.Proofs.Ytdlbopaefkbmhaa
set_option linter.unusedVariables false
set_option linter.unusedSimpArgs false
open Go Go.RowKit Go.Shelf
set_option maxRecDepth 100000

/-- Is a float and another, added, above a third? -/
def gtA (a l t : Nat) : Bool := match floatBits .add .f64 a l with | some r => fgt r t | none => false
theorem gtA_is (a l t : Nat) (W : World) : (FloatKind.f64.format.order (fres .add a l W) t == some .gt) = gtA a l t := by
  have h := fres_is .add a l W
  unfold FIs at h
  unfold gtA
  show (ford (fres .add a l W) t == some .gt) = _
  cases e : floatBits .add .f64 a l with
  | some r => rw [e] at h; rw [show fres .add a l W = r from h]; rfl
  | none => rw [e] at h; rw [ford_none.2 (.inl h)]; rfl
/-- Does a note sound at a moment? -/
def sndB (x : Nt) (t : Nat) : Bool := (flt x.at' t || feq x.at' t) && gtA x.at' x.long t
def cnL (l : List Nt) (t : Nat) : Nat := (l.filter fun x => sndB x t).length
theorem cnL_app (a b : List Nt) (t : Nat) : cnL (a ++ b) t = cnL a t + cnL b t := by simp [cnL]
theorem cnL_le (l : List Nt) (t : Nat) : cnL l t ≤ l.length := List.length_filter_le _ _
theorem cnL_one (x : Nt) (t : Nat) : cnL [x] t = if sndB x t then 1 else 0 := by unfold cnL; cases h : sndB x t <;> simp [h]
def cntS (vs : List (List Nt)) (t : Nat) : Nat := cnL vs.flatten t
theorem flat_take {vs : List (List Nt)} {k : Nat} {l : List Nt} (h : vs[k]? = some l) : (vs.take (k + 1)).flatten = (vs.take k).flatten ++ l := by rw [take_nextL h]; simp
theorem flat_len (vs : List (List Nt)) : vs.flatten.length = tot vs := by simp [tot, List.length_flatten]

def SnOsounding_any (vs : List (List Nt)) (t : Nat) (w : World) (i c : Value) (wr : World) : Prop := ∃ k : Nat, i = .int .i64 k ∧ k ≤ vs.length ∧ c = .int .i64 (cnL (vs.take k).flatten t : Nat) ∧ Below w.heap.size w wr
def SnIsounding_any (vs : List (List Nt)) (l : List Nt) (k t : Nat) (w : World) (i c : Value) (wr : World) : Prop := ∃ j : Nat, i = .int .i64 j ∧ j ≤ l.length ∧ c = .int .i64 ((cnL (vs.take k).flatten t + cnL (l.take j) t : Nat) : Int) ∧ Below w.heap.size w wr
def SnOsoundingD_any (vs : List (List Nt)) (t : Nat) (w : World) (i c : Value) (wr : World) : Prop := ∃ k : Nat, i = .int .i64 k ∧ k ≤ vs.length ∧ c = .int .i64 (cnL (vs.take k).flatten t : Nat) ∧ Below w.heap.size w wr
def SnIsoundingD_any (vs : List (List Nt)) (l : List Nt) (k t : Nat) (w : World) (i c : Value) (wr : World) : Prop := ∃ j : Nat, i = .int .i64 j ∧ j ≤ l.length ∧ c = .int .i64 ((cnL (vs.take k).flatten t + cnL (l.take j) t : Nat) : Int) ∧ Below w.heap.size w wr
end Go.Proofs.Ytdlbopaefkbmhaa
