/- Stage 31: Length, the program's and the document's. -/
import Derived.Test.YtdlbopaefkbmhaaChw
namespace Go.Proofs.Ytdlbopaefkbmhaa
set_option linter.unusedVariables false
set_option linter.unusedSimpArgs false
open Go Go.RowKit Go.Shelf
set_option maxRecDepth 100000

def SumR : List Nt → Nat → Prop
  | [], s => s = 0
  | x :: r, t => ∃ s, SumR r s ∧ FIs .add s x.long t
/-- What the Longs of a list, added one by one, may be. -/
def SumIs (l : List Nt) (s : Nat) : Prop := SumR l.reverse s
theorem SumIs.snoc {l : List Nt} {s t : Nat} {x : Nt} (h : SumIs l s) (h' : FIs .add s x.long t) : SumIs (l ++ [x]) t := by
  unfold SumIs
  rw [List.reverse_append]
  exact ⟨s, h, h'⟩
theorem sumR_same : ∀ {r : List Nt} {s s' : Nat}, SumR r s → SumR r s' → FSame s s'
  | [], s, s', h, h' => .inl (h.trans h'.symm)
  | x :: r, t, t', ⟨s, h1, h2⟩, ⟨s', h1', h2'⟩ => h2.same (sumR_same h1 h1') (.refl _) h2'
def LenIs (l : List Nt) (r : Nat) : Prop := ∃ s, SumIs l s ∧ r = plainF s
theorem LenIs.same {l : List Nt} {r r' : Nat} (h : LenIs l r) (h' : LenIs l r') : FSame r r' := by
  obtain ⟨s, h1, rfl⟩ := h
  obtain ⟨s', h1', rfl⟩ := h'
  exact plain_same (sumR_same h1 h1')

end Go.Proofs.Ytdlbopaefkbmhaa
