/- Stage 27: the cursor: take. -/
import Derived.Test.YtepbplmggladfaaJc
import Derived.Test.YtepbplmggladfaaHe
namespace Go.Proofs.Ytepbplmggladfaa
set_option linter.unusedVariables false
set_option linter.unusedSimpArgs false
open Go Go.RowKit Go.Shelf
set_option maxRecDepth 100000

/-- All stays but one block. -/
structure KpC (C : Nat) (W W' : World) : Prop where
  os : W'.os = W.os
  tape : W'.tape = W.tape
  output : W'.output = W.output
  size : W.heap.size ≤ W'.heap.size
  blk : ∀ q, q < W.heap.size → q ≠ C → W'.heap[q]? = W.heap[q]?
theorem KpC.of_below {C : Nat} {W X : World} (hb : Below W.heap.size W X) : KpC C W X := ⟨hb.os, hb.tape, hb.output, hb.size, fun q hq _ => hb.block q hq⟩
theorem KpC.trans {C : Nat} {X Y Z : World} (h : KpC C X Y) (g : KpC C Y Z) : KpC C X Z :=
  ⟨g.os.trans h.os, g.tape.trans h.tape, g.output.trans h.output, Nat.le_trans h.size g.size, fun q hq hB => (g.blk q (Nat.lt_of_lt_of_le hq h.size) hB).trans (h.blk q hq hB)⟩
theorem KpC.set (C o : Nat) (v : Value) (W : World) : KpC C W (W.setCell ⟨C, o, none⟩ v) := ⟨rfl, rfl, rfl, by simp, fun q hq hB => Below.heap_setCell _ _ _ _ (fun e => hB e)⟩
/-- What a step hands back of its bytes. -/
def takeS (x : Sp) (u n : Nat) : ByteArray := if kindN x = 2 then x.d.extract u (u + n) else if kindN x = 3 then x.p.extract u (u + n) else .empty
theorem row_tail {w : World} {g off : Nat} {x : Sp} {l : List Sp} (h : RowAt w encS 3 (some ⟨g, off, none⟩) (x :: l)) : RowAt w encS 3 (some ⟨g, off + 3, none⟩) l := by
  intro i y hi
  obtain ⟨g', off', e, hc⟩ := h (i + 1) y hi
  cases e
  refine ⟨g, off + 3, rfl, fun j hj => ?_⟩
  rw [← hc j hj, Nat.succ_mul]
  congr 2
  omega
end Go.Proofs.Ytepbplmggladfaa
