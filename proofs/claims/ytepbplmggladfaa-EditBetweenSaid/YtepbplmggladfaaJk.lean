/- Stage 27: two cursors and two makers, side by side. -/
import Derived.Test.YtepbplmggladfaaJp
namespace Go.Proofs.Ytepbplmggladfaa
set_option linter.unusedVariables false
set_option linter.unusedSimpArgs false
open Go Go.RowKit Go.Shelf
set_option maxRecDepth 100000

theorem own_keptQ {W X : World} {b : Nat} {e : TypeId} {sz n : Nat} {v : Value} {xs : List Value} (h : W.ownsRow b e sz v n xs) (hk : ∀ q, v.ownBlock = some q → X.heap[q]? = W.heap[q]?) : X.ownsRow b e sz v n xs := by
  refine ⟨h.1, h.2.imp id ?_⟩
  rintro ⟨g, cap, cur, rfl, hg, h1, rest⟩
  exact ⟨g, cap, cur, rfl, hg, (hk g rfl).trans h1, rest⟩
/-- No block is in both makers' rows. -/
def Ap (t s : Value × Value × Value) : Prop := ∀ q, N3 t q ∨ N3 s q
theorem Ap.symm {t s : Value × Value × Value} (h : Ap t s) : Ap s t := fun q => (h q).symm
theorem MkB.keptM {W X : World} {B B2 b : Nat} {vo vp vd vo2 vp2 vd2 : Value} {m m2 : Mk} {t : Value × Value × Value} (h2 : MkB W B2 b vo2 vp2 vd2 m2) (h : MkB W B b vo vp vd m) (hk : KpM B (vo, vp, vd) t W X) (hne : B ≠ B2) (hap : Ap (vo, vp, vd) (vo2, vp2, vd2)) :
    MkB X B2 b vo2 vp2 vd2 m2 ∧ Ap t (vo2, vp2, vd2) := by
  have hB := h.bb
  have kb : ∀ q, ¬ N3 (vo2, vp2, vd2) q → q < W.heap.size → b ≤ q → X.heap[q]? = W.heap[q]? ∧ N3 t q := fun q hn hq hb => hk.blk q hq (by omega) ((hap q).resolve_right hn)
  refine ⟨⟨(hk.low h h2.bb (fun e => hne e.symm)).trans h2.blk, own_keptQ h2.ro fun q e => ?_, own_keptQ h2.rp fun q e => ?_, own_keptQ h2.rd fun q e => ?_, h2.ap, h2.bb, Nat.le_trans h2.bw hk.size⟩, fun q => ?_⟩
  · have := h2.ro.lt q e
    exact (kb q (fun hn => hn.1 e.symm) this.2 this.1).1
  · have := h2.rp.lt q e
    exact (kb q (fun hn => hn.2.1 e.symm) this.2 this.1).1
  · have := h2.rd.lt q e
    exact (kb q (fun hn => hn.2.2 e.symm) this.2 this.1).1
  · by_cases hn : N3 (vo2, vp2, vd2) q
    · exact .inr hn
    · left
      have : q < W.heap.size ∧ b ≤ q := by
        by_cases e1 : some q = vo2.ownBlock
        · have := h2.ro.lt q e1.symm; omega
        · by_cases e2 : some q = vp2.ownBlock
          · have := h2.rp.lt q e2.symm; omega
          · by_cases e3 : some q = vd2.ownBlock
            · have := h2.rd.lt q e3.symm; omega
            · exact absurd ⟨e1, e2, e3⟩ hn
      exact (kb q hn this.1 this.2).2
section
variable {w0 : World} {C1 C2 B1 B2 b : Nat} {W : World} {l1 l2 : List Sp} {u1 u2 : Nat} {m1 m2 : Mk}
end
end Go.Proofs.Ytepbplmggladfaa
