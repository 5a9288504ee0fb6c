/- Several texts in one. -/
import Derived.Test.YtjccoiephdopkaaZ09
import Derived.Test.YtjccoiephdopkaaZ08
/- Stage 27: the document's Say: small facts of its loops. -/
namespace Go.Proofs.Ytjccoiephdopkaa
set_option linter.unusedVariables false
set_option linter.unusedSimpArgs false
open Go Go.RowKit Go.Shelf
set_option maxRecDepth 100000

section
variable {Y Z W : World} {F gP gD gB b6 : Nat} {Ps : List ByteArray} {Ds : List Bool} {xs : List Value}
theorem SayK.below (h : SayK Y W F gP gD gB b6 Ps Ds xs) (hb : Below Y.heap.size Y Z) : SayK Z W F gP gD gB b6 Ps Ds xs :=
  ⟨h.1.below' hb, own_below h.2.1 hb, own_below h.2.2.1 hb, own_below h.2.2.2.1 hb, h.2.2.2.2.trans (hb.mono h.2.2.2.2.size)⟩
theorem SayK.cells (h : SayK Y W F gP gD gB b6 Ps Ds xs) : Y.cell? ⟨b6, 0, none⟩ = some (.slice (some ⟨gP, 0, none⟩) (F + 1) (F + 1)) ∧ Y.cell? ⟨b6, 1, none⟩ = some (.slice (some ⟨gD, 0, none⟩) F F) ∧ Y.cell? ⟨b6, 2, none⟩ = some (.slice (some ⟨gB, 0, none⟩) F F) := ⟨h.1.cell 0, h.1.cell 1, h.1.cell 2⟩
theorem SayK.putP (h : SayK Y W F gP gD gB b6 Ps Ds xs) (hl : Ps.length = F + 1) {i : Nat} (hi : i < F + 1) (s : ByteArray) : SayK (Y.setCell ⟨gP, i, none⟩ (.string s)) W F gP gD gB b6 (Ps.set i s) Ds xs := by
  obtain ⟨h1, h2, h3, h4, h5⟩ := h
  have e1 : gP ≠ b6 := fun e => Blk.not_row h1 (by decide) h2 (by rw [← e]; rfl)
  have r2 := own_setK h2 (o := i) (by omega) (.string s)
  have h0 := List.getElem?_eq_getElem (l := Ps) (i := i) (by omega)
  have h9 := fl_set (enc := encP) (k := 1) encP_len h0 (j := 0) (y := s) (v := .string s) (by decide) rfl
  rw [Nat.mul_one, Nat.add_zero] at h9
  rw [h9] at r2
  refine ⟨h1.other e1.symm i _, r2, h3.kept (grownBy_setCell Y gP i _) ?_, h4.kept (grownBy_setCell Y gP i _) ?_, h5.setCell (p := ⟨gP, i, none⟩) (h2.lt gP rfl).1 _⟩
  · exact rows_apart h3 h2 (by decide)
  · exact rows_apart h4 h2 (by decide)
theorem SayK.putD (h : SayK Y W F gP gD gB b6 Ps Ds xs) (hl : Ds.length = F) {i : Nat} (hi : i < F) (b : Bool) : SayK (Y.setCell ⟨gD, i, none⟩ (.bool b)) W F gP gD gB b6 Ps (Ds.set i b) xs := by
  obtain ⟨h1, h2, h3, h4, h5⟩ := h
  have e1 : gD ≠ b6 := fun e => Blk.not_row h1 (by decide) h3 (by rw [← e]; rfl)
  have r2 := own_setK h3 (o := i) (by omega) (.bool b)
  have h0 := List.getElem?_eq_getElem (l := Ds) (i := i) (by omega)
  have h9 := fl_set (enc := encO) (k := 1) encO_len h0 (j := 0) (y := b) (v := .bool b) (by decide) rfl
  rw [Nat.mul_one, Nat.add_zero] at h9
  rw [h9] at r2
  refine ⟨h1.other e1.symm i _, h2.kept (grownBy_setCell Y gD i _) ?_, r2, h4.kept (grownBy_setCell Y gD i _) ?_, h5.setCell (p := ⟨gD, i, none⟩) (h3.lt gD rfl).1 _⟩
  · exact rows_apart h2 h3 (by decide)
  · exact rows_apart h4 h3 (by decide)
theorem SayK.putB (h : SayK Y W F gP gD gB b6 Ps Ds xs) {i : Nat} (hi : i < F) (v : Value) : SayK (Y.setCell ⟨gB, i, none⟩ v) W F gP gD gB b6 Ps Ds (xs.set i v) := by
  obtain ⟨h1, h2, h3, h4, h5⟩ := h
  have e1 : gB ≠ b6 := fun e => Blk.not_row h1 (by decide) h4 (by rw [← e]; rfl)
  refine ⟨h1.other e1.symm i _, h2.kept (grownBy_setCell Y gB i _) ?_, h3.kept (grownBy_setCell Y gB i _) ?_, own_setK h4 (o := i) (by omega) v, h5.setCell (p := ⟨gB, i, none⟩) (h4.lt gB rfl).1 _⟩
  · exact rows_apart h2 h4 (by decide)
  · exact rows_apart h3 h4 (by decide)
theorem SayP.congr {pl gp : Nat} {N N' : Nat → Bool → Nat} (h : SayP F Ps Ds pl gp N) (he : ∀ a bh, N a bh = N' a bh) : SayP F Ps Ds pl gp N' :=
  ⟨h.lP, h.lD, h.gl, h.pf, h.cl, fun a bh ha => by rw [← he]; exact h.sm a bh ha⟩
end
theorem sD_get {Ps : List ByteArray} {Ds : List Bool} {a g : Nat} {bh : Bool} {y : ByteArray} (h : Ps[g]? = some y) (hc : g < a ∨ bh = true) : ∀ q, g < q → y.size ≤ sD Ps Ds a bh q
  | 0, hq => absurd hq (Nat.not_lt_zero _)
  | q + 1, hq => by
    unfold sD
    by_cases e : g = q
    · subst e
      rw [h, if_pos hc]
      simp only [Option.getD_some]
      omega
    · have := sD_get (Ds := Ds) h hc q (by omega)
      omega
theorem mvG_ge (a : Nat) (bh : Bool) : ∀ (l : List Sp) (v : Mv), v.n ≤ (l.foldl (mvG a bh) v).n
  | [], _ => Nat.le_refl _
  | x :: l, v => by
    rw [List.foldl_cons]
    exact Nat.le_trans (by simp only [mvG]; omega) (mvG_ge a bh l (mvG a bh v x))
theorem say_small {l : List Sp} {F T k pl gp : Nat} {Ps : List ByteArray} {Ds : List Bool} {y : ByteArray} (hok : sizeG l 0 0 = some (F, T)) (hS : SayP F Ps Ds pl gp (fun a bh => ((l.take k).foldl (mvG a bh) ⟨0, 0, 0⟩).n)) (hy : Ps[gp]? = some y) : y.size ≤ 131072 := by
  have h0 := sizeG_ok l 0 0 F T hok (by omega) (by omega)
  have h1 := hS.sm F true (Nat.le_refl _)
  have h2 := sD_get (Ds := Ds) (a := F) hy (.inr rfl) (F + 1) (by have := hS.gl; have := hS.pf; omega)
  have h3 := mvG_ge F true (l.drop k) ((l.take k).foldl (mvG F true) ⟨0, 0, 0⟩)
  rw [← List.foldl_append, List.take_append_drop] at h3
  have h4 := mv_le l 0 0 F T F true ⟨0, 0, 0⟩ hok
  simp only at h1 h4
  omega
end Go.Proofs.Ytjccoiephdopkaa

/- Stage 27: the one form byte by byte, exactly; what the document's Say tells, place by place. -/
namespace Go.Proofs.Ytjccoiephdopkaa
set_option linter.unusedVariables false
set_option linter.unusedSimpArgs false
open Go Go.RowKit Go.Shelf
set_option maxRecDepth 100000

/-- The one form: within a gap what is put stands ahead of what is dropped. -/
def canA : List UInt8 → List UInt8 → List Atm → List Atm
  | ps, ds, [] => ps.map .P ++ ds.map .D
  | ps, ds, .K :: A => ps.map .P ++ ds.map .D ++ .K :: canA [] [] A
  | ps, ds, .P c :: A => canA (ps ++ [c]) ds A
  | ps, ds, .D c :: A => canA ps (ds ++ [c]) A
theorem can_P (ps ds l : List UInt8) (A : List Atm) : canA ps ds (l.map .P ++ A) = canA (ps ++ l) ds A := by
  induction l generalizing ps with
  | nil => simp
  | cons c l ih => rw [List.map_cons, List.cons_append, canA, ih]; simp
theorem can_D (ps ds l : List UInt8) (A : List Atm) : canA ps ds (l.map .D ++ A) = canA ps (ds ++ l) A := by
  induction l generalizing ds with
  | nil => simp
  | cons c l ih => rw [List.map_cons, List.cons_append, canA, ih]; simp
theorem can_K (ps ds : List UInt8) (n : Nat) (A : List Atm) (h : 0 < n) : canA ps ds (List.replicate n .K ++ A) = ps.map .P ++ ds.map .D ++ (List.replicate n .K ++ canA [] [] A) := by
  cases n with
  | zero => omega
  | succ n =>
    rw [List.replicate_succ, List.cons_append, canA]
    congr 1
    rw [List.cons_append]
    congr 1
    clear h
    induction n with
    | zero => rfl
    | succ n ih =>
      rw [List.replicate_succ, List.cons_append, canA, ih]; rfl
theorem can_end {m : Mk} (h : OkM m) (A : List Atm) : atL (endM (fdL A m)) = atL m.out ++ List.replicate m.kept .K ++ canA (bL m.put) (bL m.drop) A := by
  induction A generalizing m with
  | nil => rw [fdL_nil, (den_end h).1]; unfold denM canA; simp
  | cons a A ih =>
    show atL (endM (fdL A (fd m a))) = _
    rw [ih (den_feed h a).1]
    cases a with
    | K =>
      show atL (keepM 1 m).out ++ List.replicate (keepM 1 m).kept .K ++ canA (bL (keepM 1 m).put) (bL (keepM 1 m).drop) A = _
      by_cases h0 : 0 < m.put.size + m.drop.size
      · have hk : m.kept = 0 := by
          by_cases hk : 0 < m.kept
          · have := h.alt hk; omega
          · omega
        rw [keepM_yes (by decide) h0]
        have e3 : (gapM m).kept = 0 := hk
        simp only [e3, hk, bL_emp, canA]
        unfold gapM
        simp only [atL_app, atL_put, atL_drop]
        simp
      · rw [keepM_no h0]
        have e1 : bL m.put = [] := bL_nil (by omega)
        have e2 : bL m.drop = [] := bL_nil (by omega)
        simp only [e1, e2, canA, List.map_nil, List.nil_append]
        rw [List.replicate_succ']
        simp
    | P c =>
      show atL (putsM ⟨#[c]⟩ m).out ++ List.replicate (putsM ⟨#[c]⟩ m).kept .K ++ canA (bL (putsM ⟨#[c]⟩ m).put) (bL (putsM ⟨#[c]⟩ m).drop) A = _
      rw [putsM_one]
      have e2 : bL (m.put ++ ⟨#[c]⟩) = bL m.put ++ [c] := by rw [bL_app]; rfl
      simp only [e2, canA]
      unfold rowM
      simp only [atL_app, atL_keep, List.replicate_zero, List.append_nil]
    | D c =>
      show atL (dropsM ⟨#[c]⟩ m).out ++ List.replicate (dropsM ⟨#[c]⟩ m).kept .K ++ canA (bL (dropsM ⟨#[c]⟩ m).put) (bL (dropsM ⟨#[c]⟩ m).drop) A = _
      rw [dropsM_one]
      have e2 : bL (m.drop ++ ⟨#[c]⟩) = bL m.drop ++ [c] := by rw [bL_app]; rfl
      simp only [e2, canA]
      unfold rowM
      simp only [atL_app, atL_keep, List.replicate_zero, List.append_nil]
/-- The one form, exactly. -/
theorem nf_can (A : List Atm) : atL (nfA A) = canA [] [] A := by
  unfold nfA
  rw [can_end OkM.new]
  rfl
/-- A place of what is said. -/
def pP (Ps : List ByteArray) (p : Nat) : List Atm := (bL (Ps[p]?.getD .empty)).map .P
def pD (Ds : List Bool) (Bs : List UInt8) (p : Nat) : Atm := if Ds[p]?.getD false = true then .D (Bs[p]?.getD 0) else .K
/-- What is said ahead of a place. -/
def upS (Ps : List ByteArray) (Ds : List Bool) (Bs : List UInt8) : Nat → List Atm
  | 0 => []
  | q + 1 => upS Ps Ds Bs q ++ (pP Ps q ++ [pD Ds Bs q])
/-- What is said from a place on: so many places are left. -/
def frS (Ps : List ByteArray) (Ds : List Bool) (Bs : List UInt8) : Nat → Nat → List Atm
  | 0, p => pP Ps p
  | n + 1, p => pP Ps p ++ pD Ds Bs p :: frS Ps Ds Bs n (p + 1)
theorem up_fr (Ps : List ByteArray) (Ds : List Bool) (Bs : List UInt8) : ∀ (n p : Nat), upS Ps Ds Bs p ++ frS Ps Ds Bs n p = upS Ps Ds Bs (p + n) ++ pP Ps (p + n)
  | 0, p => rfl
  | n + 1, p => by
    have h := up_fr Ps Ds Bs n (p + 1)
    rw [show p + 1 + n = p + (n + 1) by omega] at h
    rw [← h, frS, upS]
    simp
theorem up_set {Ps Ps' : List ByteArray} {Ds Ds' : List Bool} {Bs Bs' : List UInt8} : ∀ (q : Nat), (∀ i, i < q → Ps'[i]? = Ps[i]? ∧ Ds'[i]? = Ds[i]? ∧ Bs'[i]? = Bs[i]?) → upS Ps' Ds' Bs' q = upS Ps Ds Bs q
  | 0, _ => rfl
  | q + 1, h => by
    obtain ⟨h1, h2, h3⟩ := h q (by omega)
    rw [upS, upS, up_set q (fun i hi => h i (by omega))]
    unfold pP pD
    rw [h1, h2, h3]
def u8V (c : UInt8) : Value := .int .u8 c.toNat
/-- How Say stands: what is said is what came so far. -/
structure SayX (F : Nat) (A0 : List Atm) (Ps : List ByteArray) (Ds : List Bool) (xs : List Value) (pl gp : Nat) (R : List Atm) : Prop where
  lP : Ps.length = F + 1
  lD : Ds.length = F
  gl : gp ≤ pl
  pf : pl ≤ F
  cl : ∀ i, pl ≤ i → i < F → Ds[i]? = some false
  cp : ∀ i, gp < i → i < F + 1 → Ps[i]? = some .empty
  dr : ∀ i, gp ≤ i → i < pl → Ds[i]? = some true
  bs : ∃ Bs : List UInt8, xs = Bs.map u8V ∧ Bs.length = F ∧ canA [] [] A0 = upS Ps Ds Bs gp ++ canA (bL (Ps[gp]?.getD .empty)) ((Bs.drop gp).take (pl - gp)) R
theorem SayX.new (F : Nat) (A : List Atm) : SayX F A (List.replicate (F + 1) .empty) (List.replicate F false) (List.replicate F (.int .u8 0)) 0 0 A := by
  refine ⟨by simp, by simp, Nat.le_refl _, Nat.zero_le _, fun i _ h => by rw [List.getElem?_replicate, if_pos h], fun i _ h => by rw [List.getElem?_replicate, if_pos h], fun i _ h => absurd h (Nat.not_lt_zero _), List.replicate F 0, ?_, by simp, ?_⟩
  · rw [List.map_replicate]; rfl
  · simp [upS, bL_emp]
section
variable {F : Nat} {A0 R : List Atm} {Ps : List ByteArray} {Ds : List Bool} {xs : List Value} {pl gp : Nat}
theorem SayX.put {y : ByteArray} (p : ByteArray) (h : SayX F A0 Ps Ds xs pl gp ((bL p).map .P ++ R)) (hy : Ps[gp]? = some y) : SayX F A0 (Ps.set gp (y ++ p)) Ds xs pl gp R := by
  obtain ⟨Bs, h1, h2, h3⟩ := h.bs
  have hl := (List.getElem?_eq_some_iff.1 hy).1
  refine ⟨by rw [List.length_set]; exact h.lP, h.lD, h.gl, h.pf, h.cl, fun i hi h2 => by rw [List.getElem?_set_ne (by omega)]; exact h.cp i hi h2, h.dr, Bs, h1, h2, ?_⟩
  rw [h3, can_P, up_set (Ps := Ps) (Ps' := Ps.set gp (y ++ p)) gp (fun i hi => ⟨List.getElem?_set_ne (by omega), rfl, rfl⟩), hy, List.getElem?_set_self hl]
  simp only [Option.getD_some, bL_app]
theorem SayX.skip (h : SayX F A0 Ps Ds xs pl gp ((bL .empty).map .P ++ R)) : SayX F A0 Ps Ds xs pl gp R := h
theorem SayX.drop {c : UInt8} (h : SayX F A0 Ps Ds xs pl gp (.D c :: R)) (hp : pl < F) : SayX F A0 Ps (Ds.set pl true) (xs.set pl (u8V c)) (pl + 1) gp R := by
  obtain ⟨Bs, h1, h2, h3⟩ := h.bs
  have hg := h.gl
  refine ⟨h.lP, by rw [List.length_set]; exact h.lD, by omega, hp, fun i hi h2 => by rw [List.getElem?_set_ne (by omega)]; exact h.cl i (by omega) h2, h.cp, fun i hi h2 => ?_, Bs.set pl c, by rw [h1, List.map_set], by rw [List.length_set]; exact h2, ?_⟩
  · by_cases e : i = pl
    · subst e; rw [List.getElem?_set_self (by rw [h.lD]; exact hp)]
    · rw [List.getElem?_set_ne (by omega)]; exact h.dr i hi (by omega)
  · rw [h3, canA, up_set (Ds := Ds) (Bs := Bs) (Ds' := Ds.set pl true) (Bs' := Bs.set pl c) gp (fun i hi => ⟨rfl, List.getElem?_set_ne (by omega), List.getElem?_set_ne (by omega)⟩)]
    congr 2
    rw [show pl + 1 - gp = (pl - gp) + 1 by omega, List.take_add_one, List.getElem?_drop, show gp + (pl - gp) = pl by omega, List.getElem?_set_self (by omega)]
    congr 1
    apply List.ext_getElem?
    intro i
    rw [List.getElem?_take, List.getElem?_take]
    split
    · rw [List.getElem?_drop, List.getElem?_drop, List.getElem?_set_ne (by omega)]
    · rfl
/-- Behind a gap's drops. -/
theorem SayX.upto {Bs : List UInt8} (h : SayX F A0 Ps Ds xs pl gp R) (hB : Bs.length = F) : ∀ (j : Nat), gp + j ≤ pl → upS Ps Ds Bs (gp + j) ++ pP Ps (gp + j) = upS Ps Ds Bs gp ++ (bL (Ps[gp]?.getD .empty)).map .P ++ ((Bs.drop gp).take j).map .D
  | 0, _ => by simp [pP]
  | j + 1, hj => by
    have ih := h.upto hB j (by omega)
    have hpf := h.pf
    have e1 : pD Ds Bs (gp + j) = .D (Bs[gp + j]'(by omega)) := by
      unfold pD
      rw [h.dr (gp + j) (by omega) (by omega), List.getElem?_eq_getElem (by omega)]; simp
    have e2 : pP Ps (gp + (j + 1)) = [] := by
      unfold pP
      rw [h.cp (gp + (j + 1)) (by omega) (by omega)]; rfl
    rw [e2, List.append_nil, show gp + (j + 1) = gp + j + 1 by omega, upS, ← List.append_assoc, ih, e1, List.take_add_one, List.getElem?_drop, List.getElem?_eq_getElem (show gp + j < Bs.length by omega)]
    simp
theorem SayX.keep {k : Nat} (h : SayX F A0 Ps Ds xs pl gp (List.replicate k .K ++ R)) (hk : 0 < k) (hp : pl + k ≤ F) : SayX F A0 Ps Ds xs (pl + k) (pl + k) R := by
  obtain ⟨Bs, h1, h2, h3⟩ := h.bs
  have hg := h.gl
  refine ⟨h.lP, h.lD, Nat.le_refl _, hp, fun i hi h2 => h.cl i (by omega) h2, fun i hi h2 => h.cp i (by omega) h2, fun i hi h2 => by omega, Bs, h1, h2, ?_⟩
  have hu := h.upto h2 (pl - gp) (by omega)
  rw [show gp + (pl - gp) = pl by omega] at hu
  have key : ∀ j, j < k → upS Ps Ds Bs (pl + 1 + j) = upS Ps Ds Bs pl ++ pP Ps pl ++ List.replicate (j + 1) .K := by
    intro j
    induction j with
    | zero =>
      intro _
      have e1 : pD Ds Bs pl = .K := by
        unfold pD
        rw [h.cl pl (Nat.le_refl _) (by omega)]; simp
      rw [Nat.add_zero, upS, e1]
      simp
    | succ j ih =>
      intro hj
      have e1 : pD Ds Bs (pl + 1 + j) = .K := by
        unfold pD
        rw [h.cl (pl + 1 + j) (by omega) (by omega)]; simp
      have e2 : pP Ps (pl + 1 + j) = [] := by
        unfold pP
        rw [h.cp (pl + 1 + j) (by omega) (by omega)]; rfl
      rw [show pl + 1 + (j + 1) = pl + 1 + j + 1 by omega, upS, ih (by omega), e1, e2, List.replicate_succ' (n := j + 1)]
      simp
  have hk2 := key (k - 1) (by omega)
  rw [show pl + 1 + (k - 1) = pl + k by omega, show k - 1 + 1 = k by omega] at hk2
  have e3 : Ps[pl + k]? = some .empty := h.cp (pl + k) (by omega) (by omega)
  rw [h3, can_K _ _ _ _ hk, hk2, hu, e3]
  simp [bL_emp]
theorem SayX.fin (h : SayX F A0 Ps Ds xs F gp []) : ∃ Bs : List UInt8, xs = Bs.map u8V ∧ Bs.length = F ∧ frS Ps Ds Bs F 0 = canA [] [] A0 := by
  obtain ⟨Bs, h1, h2, h3⟩ := h.bs
  refine ⟨Bs, h1, h2, ?_⟩
  have hg := h.gl
  have hu := h.upto h2 (F - gp) (by omega)
  rw [show gp + (F - gp) = F by omega] at hu
  have hf := up_fr Ps Ds Bs F 0
  rw [Nat.zero_add, upS, List.nil_append] at hf
  rw [hf, hu, h3, canA]
  simp
theorem SayX.cast {R' : List Atm} (h : SayX F A0 Ps Ds xs pl gp R) (e : R = R') : SayX F A0 Ps Ds xs pl gp R' := e ▸ h
end
/-- The bytes of a step, in Say's order. -/
theorem atS_pdk {x : Sp} (h : kindN x ≠ 0) : atS x = (bL x.p).map .P ++ ((bL x.d).map .D ++ List.replicate x.k.toNat .K) := by
  obtain ⟨k, d, p⟩ := x
  rcases kind_three k d p with h0 | ⟨h1, h2, h3, h4⟩ | ⟨h1, h2, h3, h4⟩ | ⟨h1, h2, h3, h4⟩
  · exact absurd h0 h
  · subst h2; subst h3; simp [atS, bL_emp]
  · subst h1; subst h2; simp [atS, bL_emp]
  · subst h1; subst h2; simp [atS, bL_emp]
end Go.Proofs.Ytjccoiephdopkaa
