/- Stage 27: the document's Move, out of what its Say says. -/
import Derived.Test.YtepbplmggladfaaHn
import Derived.Test.YtepbplmggladfaaHe
namespace Go.Proofs.Ytepbplmggladfaa
set_option linter.unusedVariables false
set_option linter.unusedSimpArgs false
open Go Go.RowKit Go.Shelf
set_option maxRecDepth 100000

theorem sD_le (Ps : List ByteArray) (Ds : List Bool) (a : Nat) (bh : Bool) (p : Nat) : ∀ d, sD Ps Ds a bh p ≤ sD Ps Ds a bh (p + d)
  | 0 => Nat.le_refl _
  | d + 1 => Nat.le_trans (sD_le Ps Ds a bh p d) (by rw [← Nat.add_assoc, sD]; omega)
theorem mv_le : ∀ (l : List Sp) (f t F T a : Nat) (bh : Bool) (v : Mv), sizeG l f t = some (F, T) → (l.foldl (mvG a bh) v).n + t ≤ v.n + T
  | [], f, t, F, T, a, bh, v, h => by
    simp only [sizeG, Option.some.injEq, Prod.mk.injEq] at h
    obtain ⟨rfl, rfl⟩ := h
    simp
  | x :: l, f, t, F, T, a, bh, v, h => by
    unfold sizeG at h
    split at h
    · cases h
    · split at h
      · cases h
      · have ih := mv_le l _ _ F T a bh (mvG a bh v x) h
        rw [List.foldl_cons]
        have : (mvG a bh v x).n ≤ v.n + x.p.size + x.k.toNat := by
          simp only [mvG]
          unfold cnt
          split <;> omega
        omega
def encP (s : ByteArray) : List Value := [.string s]
def encO (b : Bool) : List Value := [.bool b]
theorem encP_len (s : ByteArray) : (encP s).length = 1 := rfl
theorem encO_len (b : Bool) : (encO b).length = 1 := rfl
/-- What Say hands back. -/
def SayR (l : List Sp) (F : Nat) (w : World) (e : Ending) (w' : World) : Prop :=
  ∃ (Ps : List ByteArray) (Ds : List Bool) (vP vD vB : Value) (gp : Nat), e = .returned (.agg #[vP, vD, vB]) ∧ w'.ownsRow w.heap.size 9 1 vP (F + 1) (Ps.flatMap encP) ∧ w'.ownsRow w.heap.size 4 1 vD F (Ds.flatMap encO) ∧ (∃ n c o, vB = .slice o n c) ∧
    SayP F Ps Ds F gp (fun a bh => (l.foldl (mvG a bh) ⟨0, 0, 0⟩).n) ∧ Below w.heap.size w w'
end Go.Proofs.Ytepbplmggladfaa
