/- Stage 27: two cursors and a maker, side by side. -/
import Derived.Test.YtepbplmggladfaaJe
import Derived.Test.YtepbplmggladfaaJf
namespace Go.Proofs.Ytepbplmggladfaa
set_option linter.unusedVariables false
set_option linter.unusedSimpArgs false
open Go Go.RowKit Go.Shelf
set_option maxRecDepth 100000

theorem KpC.grown {C : Nat} {W X : World} (h : KpC C W X) : W.grownBy X (some C) :=
  ⟨h.os, h.tape, h.output, h.size, fun q hq hn => h.blk q hq (fun e => hn (by rw [e]))⟩
theorem MkB.keptC {W X : World} {B b C : Nat} {vo vp vd : Value} {m : Mk} (h : MkB W B b vo vp vd m) (hk : KpC C W X) (hC : C < B) : MkB X B b vo vp vd m := by
  have hb := h.bb
  have hn := h.n3 (q := C) (by omega)
  have hg := hk.grown
  exact ⟨(hk.blk B h.blk.lt (by omega)).trans h.blk, h.ro.kept hg (.inr (fun e => hn.1 e.symm)), h.rp.kept hg (.inr (fun e => hn.2.1 e.symm)), h.rd.kept hg (.inr (fun e => hn.2.2 e.symm)), h.ap, hb, Nat.le_trans h.bw hk.size⟩
theorem fd_bd (A : List Atm) : (fdL A mk0).out.length + (fdL A mk0).kept + (fdL A mk0).put.size + (fdL A mk0).drop.size ≤ A.length := by
  obtain ⟨h1, h2⟩ := den_fdL A OkM.new
  have h3 := h2.len
  have e : denM mk0 = [] := rfl
  rw [e, List.nil_append] at h3
  have key : ∀ l : List Sp, (∀ x ∈ l, kindN x ≠ 0) → l.length ≤ (atL l).length := by
    intro l
    induction l with
    | nil => intro _; simp
    | cons x l ih =>
      intro hx
      have e : atL (x :: l) = atS x ++ atL l := rfl
      have h5 := kind_one (hx x (by simp))
      have h6 := ih (fun y hy => hx y (by simp [hy]))
      rw [e, List.length_append, atS_len, List.length_cons]
      unfold szS; omega
  have h4 := key _ h1.nz
  unfold denM at h3
  simp only [List.length_append, List.length_replicate, List.length_map, bL_len] at h3
  omega
section
variable {w0 : World} {C1 C2 B b : Nat} {W : World} {l1 l2 : List Sp} {u1 u2 : Nat} {m : Mk}
theorem left_ok {l : List Sp} {u : Nat} (h : CuV l u) : (∀ x ∈ l, 0 ≤ x.k ∧ x.k ≤ 65536 ∧ x.d.size ≤ 65536 ∧ x.p.size ≤ 65536) ∧ u ≤ leftC 0 l ∧ u ≤ 1000000 ∧ leftC u l ≤ 196608 := by
  refine ⟨fun x hx => (h.ok x hx).2, ?_⟩
  cases l with
  | nil => rw [h.nil rfl]; exact ⟨Nat.zero_le _, Nat.zero_le _, Nat.zero_le _⟩
  | cons x l =>
    have h1 := h.lt x l rfl
    have h2 : szS x ≤ 196608 := by unfold szS; obtain ⟨_, _, _, _, _⟩ := h.ok x (by simp); omega
    exact ⟨by show u ≤ szS x - 0; omega, by omega, by show szS x - u ≤ _; omega⟩
/-- What a take does to what is left. -/
def TkR (l : List Sp) (u n : Nat) (s : ByteArray) (l' : List Sp) (u' : Nat) : Prop :=
  CuV l' u' ∧ Chk (kindC l) s n (restC l u) (restC l' u') ∧ (0 < n → l'.length * 1000000 - u' < l.length * 1000000 - u)
end
end Go.Proofs.Ytepbplmggladfaa
