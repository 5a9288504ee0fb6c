/- Stage 27: the document's Say: small facts of its loops. -/
import Derived.Test.YtepbplmggladfaaHy
namespace Go.Proofs.Ytepbplmggladfaa
set_option linter.unusedVariables false
set_option linter.unusedSimpArgs false
open Go Go.RowKit Go.Shelf
set_option maxRecDepth 100000

section
variable {Y Z W : World} {F gP gD gB b6 : Nat} {Ps : List ByteArray} {Ds : List Bool} {xs : List Value}
theorem SayK.below (h : SayK Y W F gP gD gB b6 Ps Ds xs) (hb : Below Y.heap.size Y Z) : SayK Z W F gP gD gB b6 Ps Ds xs :=
  ⟨h.1.below' hb, own_below h.2.1 hb, own_below h.2.2.1 hb, own_below h.2.2.2.1 hb, h.2.2.2.2.trans (hb.mono h.2.2.2.2.size)⟩
theorem SayK.cells (h : SayK Y W F gP gD gB b6 Ps Ds xs) : Y.cell? ⟨b6, 0, none⟩ = some (.slice (some ⟨gP, 0, none⟩) (F + 1) (F + 1)) ∧ Y.cell? ⟨b6, 1, none⟩ = some (.slice (some ⟨gD, 0, none⟩) F F) ∧ Y.cell? ⟨b6, 2, none⟩ = some (.slice (some ⟨gB, 0, none⟩) F F) := ⟨h.1.cell 0, h.1.cell 1, h.1.cell 2⟩
theorem SayK.putP (h : SayK Y W F gP gD gB b6 Ps Ds xs) (hl : Ps.length = F + 1) {i : Nat} (hi : i < F + 1) (s : ByteArray) : SayK (Y.setCell ⟨gP, i, none⟩ (.string s)) W F gP gD gB b6 (Ps.set i s) Ds xs := by
  obtain ⟨h1, h2, h3, h4, h5⟩ := h
  have e1 : gP ≠ b6 := fun e => Blk.not_row h1 (by decide) h2 (by rw [← e]; rfl)
  have r2 := own_setK h2 (o := i) (by omega) (.string s)
  have h0 := List.getElem?_eq_getElem (l := Ps) (i := i) (by omega)
  have h9 := fl_set (enc := encP) (k := 1) encP_len h0 (j := 0) (y := s) (v := .string s) (by decide) rfl
  rw [Nat.mul_one, Nat.add_zero] at h9
  rw [h9] at r2
  refine ⟨h1.other e1.symm i _, r2, h3.kept (grownBy_setCell Y gP i _) ?_, h4.kept (grownBy_setCell Y gP i _) ?_, h5.setCell (p := ⟨gP, i, none⟩) (h2.lt gP rfl).1 _⟩
  · exact rows_apart h3 h2 (by decide)
  · exact rows_apart h4 h2 (by decide)
theorem SayK.putD (h : SayK Y W F gP gD gB b6 Ps Ds xs) (hl : Ds.length = F) {i : Nat} (hi : i < F) (b : Bool) : SayK (Y.setCell ⟨gD, i, none⟩ (.bool b)) W F gP gD gB b6 Ps (Ds.set i b) xs := by
  obtain ⟨h1, h2, h3, h4, h5⟩ := h
  have e1 : gD ≠ b6 := fun e => Blk.not_row h1 (by decide) h3 (by rw [← e]; rfl)
  have r2 := own_setK h3 (o := i) (by omega) (.bool b)
  have h0 := List.getElem?_eq_getElem (l := Ds) (i := i) (by omega)
  have h9 := fl_set (enc := encO) (k := 1) encO_len h0 (j := 0) (y := b) (v := .bool b) (by decide) rfl
  rw [Nat.mul_one, Nat.add_zero] at h9
  rw [h9] at r2
  refine ⟨h1.other e1.symm i _, h2.kept (grownBy_setCell Y gD i _) ?_, r2, h4.kept (grownBy_setCell Y gD i _) ?_, h5.setCell (p := ⟨gD, i, none⟩) (h3.lt gD rfl).1 _⟩
  · exact rows_apart h2 h3 (by decide)
  · exact rows_apart h4 h3 (by decide)
theorem SayK.putB (h : SayK Y W F gP gD gB b6 Ps Ds xs) {i : Nat} (hi : i < F) (v : Value) : SayK (Y.setCell ⟨gB, i, none⟩ v) W F gP gD gB b6 Ps Ds (xs.set i v) := by
  obtain ⟨h1, h2, h3, h4, h5⟩ := h
  have e1 : gB ≠ b6 := fun e => Blk.not_row h1 (by decide) h4 (by rw [← e]; rfl)
  refine ⟨h1.other e1.symm i _, h2.kept (grownBy_setCell Y gB i _) ?_, h3.kept (grownBy_setCell Y gB i _) ?_, own_setK h4 (o := i) (by omega) v, h5.setCell (p := ⟨gB, i, none⟩) (h4.lt gB rfl).1 _⟩
  · exact rows_apart h2 h4 (by decide)
  · exact rows_apart h3 h4 (by decide)
theorem SayP.congr {pl gp : Nat} {N N' : Nat → Bool → Nat} (h : SayP F Ps Ds pl gp N) (he : ∀ a bh, N a bh = N' a bh) : SayP F Ps Ds pl gp N' :=
  ⟨h.lP, h.lD, h.gl, h.pf, h.cl, fun a bh ha => by rw [← he]; exact h.sm a bh ha⟩
end
theorem sD_get {Ps : List ByteArray} {Ds : List Bool} {a g : Nat} {bh : Bool} {y : ByteArray} (h : Ps[g]? = some y) (hc : g < a ∨ bh = true) : ∀ q, g < q → y.size ≤ sD Ps Ds a bh q
  | 0, hq => absurd hq (Nat.not_lt_zero _)
  | q + 1, hq => by
    unfold sD
    by_cases e : g = q
    · subst e
      rw [h, if_pos hc]
      simp only [Option.getD_some]
      omega
    · have := sD_get (Ds := Ds) h hc q (by omega)
      omega
theorem mvG_ge (a : Nat) (bh : Bool) : ∀ (l : List Sp) (v : Mv), v.n ≤ (l.foldl (mvG a bh) v).n
  | [], _ => Nat.le_refl _
  | x :: l, v => by
    rw [List.foldl_cons]
    exact Nat.le_trans (by simp only [mvG]; omega) (mvG_ge a bh l (mvG a bh v x))
theorem say_small {l : List Sp} {F T k pl gp : Nat} {Ps : List ByteArray} {Ds : List Bool} {y : ByteArray} (hok : sizeG l 0 0 = some (F, T)) (hS : SayP F Ps Ds pl gp (fun a bh => ((l.take k).foldl (mvG a bh) ⟨0, 0, 0⟩).n)) (hy : Ps[gp]? = some y) : y.size ≤ 131072 := by
  have h0 := sizeG_ok l 0 0 F T hok (by omega) (by omega)
  have h1 := hS.sm F true (Nat.le_refl _)
  have h2 := sD_get (Ds := Ds) (a := F) hy (.inr rfl) (F + 1) (by have := hS.gl; have := hS.pf; omega)
  have h3 := mvG_ge F true (l.drop k) ((l.take k).foldl (mvG F true) ⟨0, 0, 0⟩)
  rw [← List.foldl_append, List.take_append_drop] at h3
  have h4 := mv_le l 0 0 F T F true ⟨0, 0, 0⟩ hok
  simp only at h1 h4
  omega
end Go.Proofs.Ytepbplmggladfaa
