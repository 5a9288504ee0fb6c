/- Stage 27: the cursor: kind, left. -/
import Derived.Test.YtepbplmggladfaaJx
import Derived.Test.YtepbplmggladfaaJb
namespace Go.Proofs.Ytepbplmggladfaa
set_option linter.unusedVariables false
set_option linter.unusedSimpArgs false
open Go Go.RowKit Go.Shelf
set_option maxRecDepth 100000

def kindC : List Sp → Nat
  | [] => 0
  | x :: _ => kindN x
/-- How many bytes a step has. -/
def szS (x : Sp) : Nat := x.k.toNat + x.d.size + x.p.size
def leftC (u : Nat) : List Sp → Nat
  | [] => 0
  | x :: _ => szS x - u
theorem row_head {W : World} {o : Option Addr} {x : Sp} {l : List Sp} (h : RowAt W encS 3 o (x :: l)) : ∃ g off, o = some ⟨g, off, none⟩ ∧ W.cell? ⟨g, off, none⟩ = some (.int .i64 x.k) ∧ W.cell? ⟨g, off + 1, none⟩ = some (.string x.d) ∧ W.cell? ⟨g, off + 2, none⟩ = some (.string x.p) := by
  obtain ⟨g, off, e, hc⟩ := h 0 x rfl
  have h0 := hc 0 (by decide)
  have h1 := hc 1 (by decide)
  have h2 := hc 2 (by decide)
  simp only [Nat.zero_mul, Nat.add_zero] at h0 h1 h2
  exact ⟨g, off, e, h0, h1, h2⟩
end Go.Proofs.Ytepbplmggladfaa
