/- Several texts in one. -/
import Derived.Test.YtjccoiephdopkaaZ12
import Derived.Test.YtjccoiephdopkaaZ08
import Derived.WalkKit
import Derived.Test.YtjccoiephdopkaaRows
import Derived.WalkSpells
import Derived.WalkLawsBesides
import Derived.Lib.Hide
import Derived.Deep.Light
import Derived.IntWalk
/- Stage 27: the document's Compose: mathematics. -/
namespace Go.Proofs.Ytjccoiephdopkaa
set_option linter.unusedVariables false
set_option linter.unusedSimpArgs false
open Go Go.RowKit Go.Shelf
set_option maxRecDepth 100000

/-- A byte of what a change makes: put, or of a place. -/
structure Md where
  k : Option Nat
  c : UInt8
def atM (m : Md) : Int := match m.k with | none => -1 | some p => p
def encM (m : Md) : List Value := [.int .i64 (atM m), .int .u8 m.c.toNat]
theorem encM_len (m : Md) : (encM m).length = 2 := rfl
def putsMd (s : ByteArray) : List Md := (bL s).map fun c => ⟨none, c⟩
/-- What a change makes, byte by byte, from a place on. -/
def mdS (Ps : List ByteArray) (Ds : List Bool) : Nat → Nat → List Md
  | 0, p => putsMd (Ps[p]?.getD .empty)
  | n + 1, p => putsMd (Ps[p]?.getD .empty) ++ (if Ds[p]?.getD false = true then [] else [⟨some p, 0⟩]) ++ mdS Ps Ds n (p + 1)
theorem md_succ (Ps : List ByteArray) (Ds : List Bool) (n p : Nat) : mdS Ps Ds (n + 1) p = putsMd (Ps[p]?.getD .empty) ++ (if Ds[p]?.getD false = true then [] else [⟨some p, 0⟩]) ++ mdS Ps Ds n (p + 1) := rfl
theorem md_zero (Ps : List ByteArray) (Ds : List Bool) (p : Nat) : mdS Ps Ds 0 p = putsMd (Ps[p]?.getD .empty) := rfl
def dsF (Bs : List UInt8) (c p : Nat) : List Atm := ((Bs.drop c).take (p - c)).map .D
/-- The change again. -/
def unM (Bs : List UInt8) (F : Nat) : List Md → Nat → List Atm
  | [], c => dsF Bs c F
  | ⟨none, b⟩ :: l, c => .P b :: unM Bs F l c
  | ⟨some p, _⟩ :: l, c => dsF Bs c p ++ .K :: unM Bs F l (p + 1)
def okM (F : Nat) : List Md → Nat → Prop
  | [], c => c ≤ F
  | ⟨none, _⟩ :: l, c => okM F l c
  | ⟨some p, _⟩ :: l, c => c ≤ p ∧ p < F ∧ okM F l (p + 1)
/-- Nothing is put right behind what is dropped. -/
def NoDP : List Atm → Prop
  | .D _ :: .P _ :: _ => False
  | _ :: l => NoDP l
  | [] => True
theorem noDP_tail {a : Atm} {l : List Atm} (h : NoDP (a :: l)) : NoDP l := by
  cases a with
  | D c =>
    cases l with
    | nil => trivial
    | cons b l =>
      cases b with
      | P d => exact h.elim
      | K => exact h
      | D d => exact h
  | K => cases l <;> exact h
  | P c => cases l <;> exact h
theorem noDP_app {l : List Atm} : ∀ (k : List Atm), NoDP (k ++ l) → NoDP l
  | [], h => h
  | a :: k, h => noDP_app k (noDP_tail h)
theorem noDP_P (l : List UInt8) {A : List Atm} (h : NoDP A) : NoDP (l.map .P ++ A) := by
  induction l with
  | nil => exact h
  | cons c l ih =>
    show NoDP (.P c :: (l.map .P ++ A))
    cases hl : (l.map Atm.P ++ A) with
    | nil => trivial
    | cons b B => rw [hl] at ih; exact ih
theorem noDP_D (l : List UInt8) {A : List Atm} (h : NoDP A) (hA : ∀ c B, A ≠ .P c :: B) : NoDP (l.map .D ++ A) ∧ ∀ c B, l.map Atm.D ++ A ≠ .P c :: B := by
  induction l with
  | nil => exact ⟨h, hA⟩
  | cons c l ih =>
    refine ⟨?_, fun d B e => by cases e⟩
    show NoDP (.D c :: (l.map .D ++ A))
    obtain ⟨h1, h2⟩ := ih
    cases hl : (l.map Atm.D ++ A) with
    | nil => trivial
    | cons b B =>
      rw [hl] at h1 h2
      cases b with
      | P d => exact absurd rfl (h2 d B)
      | K => exact h1
      | D d => exact h1
theorem noDP_can (ps ds : List UInt8) (A : List Atm) : NoDP (canA ps ds A) := by
  induction A generalizing ps ds with
  | nil =>
    unfold canA
    have := (noDP_D ds (A := []) trivial (fun c B e => by cases e)).1
    rw [List.append_nil] at this
    exact noDP_P ps this
  | cons a A ih =>
    cases a with
    | K =>
      unfold canA
      rw [List.append_assoc]
      have h1 : NoDP (.K :: canA [] [] A) := by
        have := ih [] []
        cases h : canA [] [] A with
        | nil => trivial
        | cons b B => rw [h] at this; exact this
      exact noDP_P ps (noDP_D ds h1 (fun c B e => by cases e)).1
    | P c => exact ih _ _
    | D c => exact ih _ _
theorem dsF_nil (Bs : List UInt8) (c : Nat) : dsF Bs c c = [] := by unfold dsF; rw [Nat.sub_self]; simp
theorem dsF_cons {Bs : List UInt8} {c p : Nat} (h : c < p) (hp : p ≤ Bs.length) : dsF Bs c p = .D (Bs[c]?.getD 0) :: dsF Bs (c + 1) p := by
  unfold dsF
  rw [List.drop_eq_getElem_cons (by omega), show p - c = (p - (c + 1)) + 1 by omega, List.take_succ_cons, List.map_cons, List.getElem?_eq_getElem (by omega)]
  rfl
theorem dsF_snoc {Bs : List UInt8} {c p : Nat} (h : c ≤ p) (hp : p < Bs.length) : dsF Bs c (p + 1) = dsF Bs c p ++ [.D (Bs[p]?.getD 0)] := by
  unfold dsF
  rw [show p + 1 - c = (p - c) + 1 by omega, List.take_add_one, List.getElem?_drop, show c + (p - c) = p by omega, List.getElem?_eq_getElem hp]
  simp
section
variable {Ps : List ByteArray} {Ds : List Bool} {Bs : List UInt8} {F : Nat}
theorem un_puts (s : ByteArray) (l : List Md) (c : Nat) : unM Bs F (putsMd s ++ l) c = (bL s).map .P ++ unM Bs F l c := by
  unfold putsMd
  induction bL s with
  | nil => rfl
  | cons b r ih => rw [List.map_cons, List.cons_append, unM, ih]; rfl
theorem ok_puts (s : ByteArray) (l : List Md) (c : Nat) : okM F (putsMd s ++ l) c ↔ okM F l c := by
  unfold putsMd
  induction bL s with
  | nil => rfl
  | cons b r ih => rw [List.map_cons, List.cons_append, okM]; exact ih
theorem md_ok : ∀ (n p c : Nat), n + p = F → c ≤ p → okM F (mdS Ps Ds n p) c
  | 0, p, c, h, hc => by
    unfold mdS
    have := (ok_puts (F := F) (Ps[p]?.getD .empty) [] c).2 (by show c ≤ F; omega)
    rwa [List.append_nil] at this
  | n + 1, p, c, h, hc => by
    rw [md_succ]
    rw [List.append_assoc, ok_puts]
    split
    · exact md_ok n (p + 1) c (by omega) (by omega)
    · exact ⟨hc, by omega, md_ok n (p + 1) (p + 1) (by omega) (Nat.le_refl _)⟩
theorem pP_eq (Ps : List ByteArray) (p : Nat) : pP Ps p = (bL (Ps[p]?.getD .empty)).map .P := rfl
/-- Behind a drop. -/
theorem un_drop (hB : Bs.length = F) : ∀ (n p : Nat) (b : UInt8), n + p = F → 0 < p → NoDP (.D b :: frS Ps Ds Bs n p) → unM Bs F (mdS Ps Ds n p) (p - 1) = .D (Bs[p - 1]?.getD 0) :: unM Bs F (mdS Ps Ds n p) p
  | 0, p, b, h, hp, hN => by
    unfold frS at hN
    rw [pP_eq] at hN
    unfold mdS
    have e : bL (Ps[p]?.getD .empty) = [] := by
      cases hb : bL (Ps[p]?.getD .empty) with
      | nil => rfl
      | cons c r => rw [hb] at hN; exact hN.elim
    have e2 : putsMd (Ps[p]?.getD .empty) = [] := by unfold putsMd; rw [e]; rfl
    rw [e2, unM, unM, dsF_cons (by omega) (by omega), show p - 1 + 1 = p by omega]
  | n + 1, p, b, h, hp, hN => by
    unfold frS at hN
    rw [pP_eq] at hN
    have e : bL (Ps[p]?.getD .empty) = [] := by
      cases hb : bL (Ps[p]?.getD .empty) with
      | nil => rfl
      | cons c r => rw [hb] at hN; exact hN.elim
    have e2 : putsMd (Ps[p]?.getD .empty) = [] := by unfold putsMd; rw [e]; rfl
    rw [md_succ, e2, List.nil_append]
    by_cases hd : Ds[p]?.getD false = true
    · rw [if_pos hd, List.nil_append]
      have e3 : pD Ds Bs p = .D (Bs[p]?.getD 0) := by unfold pD; rw [if_pos hd]
      rw [e, e3, List.map_nil, List.nil_append] at hN
      have ih := un_drop hB n (p + 1) _ (by omega) (by omega) (noDP_tail hN)
      rw [Nat.add_sub_cancel] at ih
      have key : ∀ (l : List Md) (q : Nat), (∀ b r, l ≠ ⟨none, b⟩ :: r) → okM F l q → 0 < q → unM Bs F l (q - 1) = .D (Bs[q - 1]?.getD 0) :: unM Bs F l q := by
        intro l q hl ho hq
        cases l with
        | nil =>
          have : q ≤ F := ho
          rw [unM, unM, dsF_cons (by omega) (by omega), show q - 1 + 1 = q by omega]
        | cons m r =>
          obtain ⟨k, c⟩ := m
          cases k with
          | none => exact absurd rfl (hl c r)
          | some k =>
            have : q ≤ k ∧ k < F := ⟨ho.1, ho.2.1⟩
            rw [unM, unM, dsF_cons (by omega) (by omega), show q - 1 + 1 = q by omega]
            rfl
      refine key _ p ?_ (md_ok n (p + 1) p (by omega) (by omega)) hp
      intro c r e5
      rw [e5, unM, unM] at ih
      cases ih
    · rw [if_neg hd]
      show unM Bs F (⟨some p, 0⟩ :: mdS Ps Ds n (p + 1)) (p - 1) = _ :: unM Bs F (⟨some p, 0⟩ :: mdS Ps Ds n (p + 1)) p
      rw [unM, unM, dsF_cons (by omega) (by omega), show p - 1 + 1 = p by omega]
      rfl
theorem fr_un (hB : Bs.length = F) : ∀ (n p : Nat), n + p = F → NoDP (frS Ps Ds Bs n p) → frS Ps Ds Bs n p = unM Bs F (mdS Ps Ds n p) p
  | 0, p, h, _ => by
    unfold frS
    rw [md_zero]
    have := un_puts (Bs := Bs) (F := F) (Ps[p]?.getD .empty) [] p
    rw [List.append_nil] at this
    rw [this, unM, show F = p by omega, dsF_nil, List.append_nil]
    rfl
  | n + 1, p, h, hN => by
    unfold frS at hN ⊢
    have hN2 := noDP_app _ hN
    have hN3 := noDP_tail hN2
    rw [fr_un hB n (p + 1) (by omega) hN3]
    rw [md_succ, List.append_assoc, un_puts, pP_eq]
    congr 1
    by_cases hd : Ds[p]?.getD false = true
    · have e3 : pD Ds Bs p = .D (Bs[p]?.getD 0) := by unfold pD; rw [if_pos hd]
      rw [e3] at hN2 ⊢
      have := un_drop hB n (p + 1) _ (by omega) (by omega) hN2
      rw [Nat.add_sub_cancel] at this
      rw [if_pos hd, List.nil_append]
      exact this.symm
    · have e3 : pD Ds Bs p = .K := by unfold pD; rw [if_neg hd]
      rw [e3, if_neg hd]
      show _ = unM Bs F (⟨some p, 0⟩ :: mdS Ps Ds n (p + 1)) p
      rw [unM, dsF_nil]
      rfl
theorem md_out : ∀ (n p : Nat), (mdS Ps Ds n p).length = outA (frS Ps Ds Bs n p)
  | 0, p => by
    unfold frS
    rw [md_zero, pP_eq, (in_map_P _).2]
    simp [putsMd]
  | n + 1, p => by
    unfold frS
    rw [md_succ, pP_eq, outA_append, (in_map_P _).2]
    simp only [List.length_append]
    rw [md_out n (p + 1)]
    unfold pD putsMd
    split
    · simp [outA]
    · simp [outA]; omega
end
/-- Two told lists that come to the same. -/
def Eqf (A A' : List Atm) : Prop := ∀ m, fdL A m = fdL A' m
theorem Eqf.refl (A : List Atm) : Eqf A A := fun _ => rfl
theorem Eqf.app {A A' : List Atm} (h : Eqf A A') (B : List Atm) : Eqf (A ++ B) (A' ++ B) := fun m => by rw [fdL_app, fdL_app, h]
theorem Eqf.app2 {A A' B B' : List Atm} (h : Eqf A A') (g : Eqf B B') : Eqf (A ++ B) (A' ++ B') := fun m => by rw [fdL_app, fdL_app, h, g]
theorem Eqf.trans {A B C : List Atm} (h : Eqf A B) (g : Eqf B C) : Eqf A C := fun m => (h m).trans (g m)
theorem eqf_nf {A A' : List Atm} (h : Eqf A A') : nfA A = nfA A' := by unfold nfA; rw [h]
theorem fd_swap (m : Mk) (c d : UInt8) : fd (fd m (.P c)) (.D d) = fd (fd m (.D d)) (.P c) := by
  show dropsM ⟨#[d]⟩ (putsM ⟨#[c]⟩ m) = putsM ⟨#[c]⟩ (dropsM ⟨#[d]⟩ m)
  rw [putsM_one, dropsM_one, dropsM_one, putsM_one, row_zero (m := ⟨(rowM m).out, 0, m.put ++ ⟨#[c]⟩, m.drop⟩) rfl, row_zero (m := ⟨(rowM m).out, 0, m.put, m.drop ++ ⟨#[d]⟩⟩) rfl]
theorem fd_swap1 (c : UInt8) (ds : List UInt8) : Eqf (.P c :: ds.map .D) (ds.map .D ++ [.P c]) := by
  induction ds with
  | nil => exact Eqf.refl _
  | cons d ds ih =>
    intro m
    show fdL (ds.map .D) (fd (fd m (.P c)) (.D d)) = fdL (ds.map .D ++ [.P c]) (fd m (.D d))
    rw [fd_swap]
    exact ih (fd m (.D d))
theorem eqf_swap (ps ds : List UInt8) : Eqf (ds.map .D ++ ps.map .P) (ps.map .P ++ ds.map .D) := by
  induction ps with
  | nil => rw [List.map_nil, List.append_nil, List.nil_append]; exact Eqf.refl _
  | cons c ps ih =>
    intro m
    have h1 : fdL (ds.map .D ++ (c :: ps).map .P) m = fdL (ps.map .P) (fdL (ds.map .D ++ [.P c]) m) := by
      rw [← fdL_app]; simp
    rw [h1, ← fd_swap1 c ds m]
    show fdL (ps.map .P) (fdL (ds.map .D) (fd m (.P c))) = fdL (ps.map .P ++ ds.map .D) (fd m (.P c))
    rw [← fdL_app]
    exact ih _
/-- How the document's second loop stands. -/
structure CmP (X0 Y0 : List Atm) (Bs : List UInt8) (F : Nat) (y : Sd) (T q c : Nat) (rest : List Md) (Ad : List Atm) : Prop where
  ln : rest.length + q = T
  ok : okM F rest c
  cp : ∃ Ap, compA X0 Y0 = (compA (unM Bs F rest c) (y.fr (T - q) q)).map (Ap ++ ·) ∧ Eqf Ap Ad
  sz : Ad.length + (unM Bs F rest c).length + (y.fr (T - q) q).length ≤ 300000
theorem un_noD {Bs : List UInt8} {F : Nat} {b : UInt8} {l : List Md} {c : Nat} : ∀ (d : UInt8) (z : List Atm), unM Bs F (⟨none, b⟩ :: l) c = .D d :: z → False := by
  intro d z e
  unfold unM at e
  cases e
theorem map_app_one (a : Atm) (o : Option (List Atm)) : o.map (a :: ·) = o.map ([a] ++ ·) := rfl
theorem comp_Ps0 (ps : List UInt8) (x : List Atm) (hx : ∀ (c : UInt8) (z : List Atm), x = .D c :: z → False) (y : List Atm) : compA x (ps.map .P ++ y) = (compA x y).map (ps.map .P ++ ·) := comp_Ps ps x y hx
section
variable {X0 Y0 : List Atm} {Bs : List UInt8} {F T q c : Nat} {y : Sd} {rest : List Md} {Ad : List Atm} {s : ByteArray}
theorem cm_putK {b : UInt8} (h : CmP X0 Y0 Bs F y T q c (⟨none, b⟩ :: rest) Ad) (hq : q < T) (hs : y.P[q]? = some s) (hd : y.D[q]? = some false) : CmP X0 Y0 Bs F y T (q + 1) c rest (Ad ++ (bL s).map .P ++ [.P b]) := by
  obtain ⟨h1, h2, ⟨Ap, h3, h4⟩, h5⟩ := h
  have hl : (y.fr (T - q) q).length = s.size + 1 + (y.fr (T - (q + 1)) (q + 1)).length := by
    rw [fr_lt hq, pP_get hs, fr_next]
    simp only [List.length_append, List.length_map, List.length_cons, bL_len]; omega
  refine ⟨by simp only [List.length_cons] at h1; omega, h2, ⟨Ap ++ (bL s).map .P ++ [.P b], ?_, (h4.app _).app _⟩, ?_⟩
  · rw [h3, fr_lt hq, pP_get hs, pD_no hd, comp_Ps0 _ _ un_noD, unM, compA, fr_next, map2_app, map_app_one, map2_app]
  · rw [hl] at h5
    rw [unM] at h5
    simp only [List.length_append, List.length_map, List.length_cons, List.length_nil, bL_len] at h5 ⊢
    omega
theorem cm_putD {b d : UInt8} (h : CmP X0 Y0 Bs F y T q c (⟨none, b⟩ :: rest) Ad) (hq : q < T) (hs : y.P[q]? = some s) (hd : y.D[q]? = some true) (hb : y.B[q]? = some d) : if b = d then CmP X0 Y0 Bs F y T (q + 1) c rest (Ad ++ (bL s).map .P) else compA X0 Y0 = none := by
  obtain ⟨h1, h2, ⟨Ap, h3, h4⟩, h5⟩ := h
  have hl : (y.fr (T - q) q).length = s.size + 1 + (y.fr (T - (q + 1)) (q + 1)).length := by
    rw [fr_lt hq, pP_get hs, fr_next]
    simp only [List.length_append, List.length_map, List.length_cons, bL_len]; omega
  rw [fr_lt hq, pP_get hs, pD_yes hd hb, comp_Ps0 _ _ un_noD, unM, compA, fr_next] at h3
  split
  · rename_i e
    rw [if_pos e, map2_app] at h3
    refine ⟨by simp only [List.length_cons] at h1; omega, h2, ⟨_, h3, h4.app _⟩, ?_⟩
    rw [hl] at h5
    rw [unM] at h5
    simp only [List.length_append, List.length_map, List.length_cons, bL_len] at h5 ⊢
    omega
  · rename_i e
    rw [if_neg e] at h3
    rw [h3]; rfl
theorem dsF_map (Bs : List UInt8) (c p : Nat) : ∃ ds : List UInt8, dsF Bs c p = ds.map .D := ⟨_, rfl⟩
theorem cm_keep {p : Nat} {b : UInt8} (h : CmP X0 Y0 Bs F y T q c (⟨some p, b⟩ :: rest) Ad) (hq : q < T) (hs : y.P[q]? = some s) (v : Bool) (hd : y.D[q]? = some v) (d : UInt8) (hb : y.B[q]? = some d) : CmP X0 Y0 Bs F y T (q + 1) (p + 1) rest (Ad ++ (bL s).map .P ++ dsF Bs c p ++ [if v = true then .D d else .K]) := by
  obtain ⟨h1, h2, ⟨Ap, h3, h4⟩, h5⟩ := h
  have hl : (y.fr (T - q) q).length = s.size + 1 + (y.fr (T - (q + 1)) (q + 1)).length := by
    rw [fr_lt hq, pP_get hs, fr_next]
    simp only [List.length_append, List.length_map, List.length_cons, bL_len]; omega
  obtain ⟨ds, hds⟩ := dsF_map Bs c p
  refine ⟨by simp only [List.length_cons] at h1; omega, h2.2.2, ⟨Ap ++ ds.map .D ++ (bL s).map .P ++ [if v = true then .D d else .K], ?_, ?_⟩, ?_⟩
  · rw [h3, fr_lt hq, pP_get hs, unM, hds, comp_Ds, map2_app, comp_Ps0 _ _ (by intro c z e; cases e), map2_app, fr_next]
    cases v with
    | true => rw [pD_yes hd hb, compA, if_pos rfl, map_app_one, map2_app]
    | false => rw [pD_no hd, compA, if_neg (by simp), map_app_one, map2_app]
  · rw [hds]
    refine Eqf.app ?_ _
    rw [List.append_assoc, List.append_assoc]
    exact Eqf.app2 h4 (eqf_swap _ _)
  · rw [hl] at h5
    rw [unM] at h5
    simp only [List.length_append, List.length_map, List.length_cons, List.length_nil, bL_len] at h5 ⊢
    omega
theorem cm_end (h : CmP X0 Y0 Bs F y T q c [] Ad) (hq : ¬ q < T) (hs : y.P[q]? = some s) : ∃ C, compA X0 Y0 = some C ∧ Eqf C (Ad ++ (bL s).map .P ++ dsF Bs c F) := by
  obtain ⟨h1, h2, ⟨Ap, h3, h4⟩, h5⟩ := h
  obtain ⟨ds, hds⟩ := dsF_map Bs c F
  have e : T - q = 0 := by omega
  rw [e, fr_end, pP_get hs, unM, hds] at h3
  have h6 := comp_Ds ds [] ((bL s).map .P)
  have h7 := comp_Ps (bL s) [] [] (by intro c z e; cases e)
  rw [List.append_nil] at h6 h7
  rw [h6, h7] at h3
  simp only [compA, Option.map_some, List.append_nil] at h3
  refine ⟨_, h3, ?_⟩
  rw [hds, List.append_assoc]
  exact Eqf.app2 h4 (eqf_swap _ _)
end
end Go.Proofs.Ytjccoiephdopkaa

/- Stage 27: the one form of the one form; changes turned about, byte by byte. -/
namespace Go.Proofs.Ytjccoiephdopkaa
set_option linter.unusedVariables false
set_option linter.unusedSimpArgs false
open Go Go.RowKit Go.Shelf
set_option maxRecDepth 100000

theorem can_fd (A : List Atm) : ∀ (ps ds : List UInt8) (m : Mk), fdL (canA ps ds A) m = fdL A (fdL (ps.map .P ++ ds.map .D) m) := by
  induction A with
  | nil => intro ps ds m; rw [canA]; rfl
  | cons a A ih =>
    intro ps ds m
    cases a with
    | K =>
      rw [canA, fdL_app]
      show fdL (canA [] [] A) (fd _ .K) = _
      rw [ih]; rfl
    | P c =>
      rw [canA, ih]
      show _ = fdL A (fd (fdL (ps.map .P ++ ds.map .D) m) (.P c))
      congr 1
      rw [List.map_append, List.append_assoc, fdL_app, fdL_app (ps.map Atm.P) (ds.map .D)]
      have h := fd_swap1 c ds (fdL (ps.map .P) m)
      rw [fdL_app (ds.map Atm.D)] at h
      exact h
    | D c =>
      rw [canA, ih]
      show _ = fdL A (fd (fdL (ps.map .P ++ ds.map .D) m) (.D c))
      congr 1
      rw [List.map_append, ← List.append_assoc, fdL_app]
      rfl
theorem nf_canA (A : List Atm) : nfA (canA [] [] A) = nfA A := by unfold nfA; rw [can_fd]; rfl
theorem nf_idem (A : List Atm) : nfA (atL (nfA A)) = nfA A := by rw [nf_can, nf_canA]
theorem plain_plain (l : List Sp) : nfA (atL (plainM l)) = plainM l := by rw [plain_fd, nf_idem]

/-- A byte turned about. -/
def invA : Atm → Atm
  | .K => .K
  | .P c => .D c
  | .D c => .P c
def invL (A : List Atm) : List Atm := A.map invA
theorem invL_app (A B : List Atm) : invL (A ++ B) = invL A ++ invL B := List.map_append
theorem invL_inv (A : List Atm) : invL (invL A) = A := by
  unfold invL
  rw [List.map_map]
  conv => rhs; rw [← List.map_id A]
  congr 1
  funext a
  cases a <;> rfl
theorem invL_len (A : List Atm) : (invL A).length = A.length := List.length_map _
theorem invL_P (l : List UInt8) : invL (l.map .P) = l.map .D := by unfold invL; rw [List.map_map]; rfl
theorem invL_D (l : List UInt8) : invL (l.map .D) = l.map .P := by unfold invL; rw [List.map_map]; rfl
theorem invL_K (n : Nat) : invL (List.replicate n .K) = List.replicate n .K := by unfold invL; rw [List.map_replicate]; rfl
theorem inv_can (A : List Atm) : ∀ (ps ds : List UInt8), Eqf (invL (canA ps ds A)) (invL (ps.map .P ++ ds.map .D) ++ invL A) := by
  induction A with
  | nil => intro ps ds; rw [canA]; show Eqf _ (_ ++ []); rw [List.append_nil]; exact Eqf.refl _
  | cons a A ih =>
    intro ps ds
    cases a with
    | K =>
      rw [canA, invL_app]
      refine Eqf.app2 (Eqf.refl _) ?_
      show Eqf ([.K] ++ invL (canA [] [] A)) ([.K] ++ invL A)
      refine Eqf.app2 (Eqf.refl _) ?_
      exact ih [] []
    | P c =>
      rw [canA]
      refine (ih _ _).trans ?_
      rw [invL_app, invL_app, invL_P, invL_D, invL_P, List.map_append]
      show Eqf _ (ps.map .D ++ ds.map .P ++ ([.D c] ++ invL A))
      have h := Eqf.app (Eqf.app2 (Eqf.refl (ps.map .D)) (eqf_swap ds [c])) (invL A)
      simp only [List.append_assoc] at h ⊢
      exact h
    | D c =>
      rw [canA]
      refine (ih _ _).trans ?_
      rw [invL_app, invL_app, invL_P, invL_D, invL_D, List.map_append]
      show Eqf _ (ps.map .D ++ ds.map .P ++ ([.P c] ++ invL A))
      simp only [List.append_assoc]
      exact Eqf.refl _
theorem nf_inv (A : List Atm) : nfA (invL (canA [] [] A)) = nfA (invL A) := eqf_nf (inv_can A [] [])
theorem nf_inv2 (A : List Atm) : nfA (invL (atL (nfA A))) = nfA (invL A) := by rw [nf_can, nf_inv]
theorem nf_inv3 (A : List Atm) : nfA (invL (atL (nfA (invL A)))) = nfA A := by rw [nf_inv2, invL_inv]
theorem inv_size (A : List Atm) : inA (invL A) = outA A ∧ outA (invL A) = inA A := by
  induction A with
  | nil => exact ⟨rfl, rfl⟩
  | cons a A ih =>
    obtain ⟨h1, h2⟩ := ih
    cases a <;> (simp only [invL, List.map_cons, invA, inA, outA] at h1 h2 ⊢; omega)
theorem run_inv : ∀ (A : List Atm) (s t : List UInt8), runA A s = some (t, []) → runA (invL A) t = some (s, [])
  | [], s, t, h => by
    obtain ⟨rfl, h2⟩ := run_nil h
    rw [← h2]; rfl
  | .P c :: A, s, t, h => by
    obtain ⟨t', rfl, h2⟩ := run_P h
    exact run_Di c (run_inv A s t' h2)
  | .K :: A, s, t, h => by
    obtain ⟨c, s', t', rfl, rfl, h2⟩ := run_K h
    exact run_Ki c (run_inv A s' t' h2)
  | .D d :: A, s, t, h => by
    obtain ⟨s', rfl, h2⟩ := run_D h
    exact run_Pi d (run_inv A s' t h2)
end Go.Proofs.Ytjccoiephdopkaa

/- Plain facts on UTF-8: what a form is, byte by byte; no program is spoken of. -/
namespace Go.Proofs.Ytjccoiephdopkaa
set_option linter.unusedVariables false
set_option linter.unusedSimpArgs false

/-- The byte of s at i. -/
def bt (s : ByteArray) (i : Nat) : Nat := (s.get! i).toNat

theorem bt_lt (s : ByteArray) (i : Nat) : bt s i < 256 := by
  unfold bt; exact (s.get! i).toNat_lt

theorem bt_get (s : ByteArray) (i : Nat) (h : i < s.size) : s[i].toNat = bt s i := by
  unfold bt
  simp [ByteArray.get!, getElem!_pos, h]
  rfl

/-- How long the form is that a byte begins; 0: none. -/
def whN (b : Nat) : Nat := if b < 128 then 1 else if 194 ≤ b ∧ b ≤ 223 then 2 else if 224 ≤ b ∧ b ≤ 239 then 3 else if 240 ≤ b ∧ b ≤ 244 then 4 else 0

theorem whN_le (b : Nat) : whN b ≤ 4 := by unfold whN; split <;> (try split) <;> (try split) <;> (try split) <;> omega

/-- May c stand k bytes behind the first byte b of a form? -/
def okB (b c k : Nat) : Bool :=
  if c < 128 ∨ 191 < c then false else if 1 < k then true
  else if b = 224 then decide (160 ≤ c) else if b = 237 then decide (c ≤ 159) else if b = 240 then decide (144 ≤ c) else if b = 244 then decide (c ≤ 143) else true

theorem okB_iff (b c k : Nat) : okB b c k = true ↔ (128 ≤ c ∧ c ≤ 191 ∧ (k ≤ 1 → (b = 224 → 160 ≤ c) ∧ (b = 237 → c ≤ 159) ∧ (b = 240 → 144 ≤ c) ∧ (b = 244 → c ≤ 143))) := by
  unfold okB
  split
  · simp; omega
  · split
    · simp; omega
    · split
      · simp; omega
      · split
        · simp; omega
        · split
          · simp; omega
          · split
            · simp; omega
            · simp; omega

theorem okB_not (b c k : Nat) (h : ¬ (128 ≤ c ∧ c ≤ 191 ∧ (k ≤ 1 → (b = 224 → 160 ≤ c) ∧ (b = 237 → c ≤ 159) ∧ (b = 240 → 144 ≤ c) ∧ (b = 244 → c ≤ 143)))) : okB b c k = false := by
  rw [Bool.eq_false_iff]; intro hk; exact h ((okB_iff b c k).1 hk)

/-- The loop of fitting: from k on. -/
def fitFrom (s : ByteArray) (i n : Nat) : Nat → Nat → Nat
  | 0, _ => n
  | f + 1, k => if k < n then if okB (bt s i) (bt s (i + k)) k then fitFrom s i n f (k + 1) else k else n

def fitN (s : ByteArray) (i : Nat) : Nat := fitFrom s i (min (whN (bt s i)) (s.size - i)) 4 1

def lenN (s : ByteArray) (i : Nat) : Nat := if fitN s i < whN (bt s i) then 0 else whN (bt s i)

theorem lenN_le (s : ByteArray) (i : Nat) : lenN s i ≤ 4 := by
  unfold lenN; split
  · omega
  · exact whN_le _

theorem fitFrom_le (s : ByteArray) (i n : Nat) : ∀ f k, k ≤ n → fitFrom s i n f k ≤ n := by
  intro f; induction f with
  | zero => intro k _; simp [fitFrom]
  | succ f ih =>
    intro k hk; simp only [fitFrom]; split
    · split
      · exact ih _ (by omega)
      · exact hk
    · omega

theorem fitFrom_ge (s : ByteArray) (i n f : Nat) (k : Nat) (h : n ≤ k) : fitFrom s i n (f + 1) k = n := by
  simp only [fitFrom]; rw [if_neg (by omega)]

theorem fitFrom_step (s : ByteArray) (i n f k : Nat) (h : k < n) (ho : okB (bt s i) (bt s (i + k)) k = true) : fitFrom s i n (f + 1) k = fitFrom s i n f (k + 1) := by
  simp only [fitFrom]; rw [if_pos h, if_pos ho]

theorem fitFrom_stop (s : ByteArray) (i n f k : Nat) (h : k < n) (ho : okB (bt s i) (bt s (i + k)) k = false) : fitFrom s i n (f + 1) k = k := by
  simp only [fitFrom]; rw [if_pos h, ho]; simp

theorem lenN_fits (s : ByteArray) (i : Nat) (h : lenN s i ≠ 0) : i + lenN s i ≤ s.size ∧ lenN s i = whN (bt s i) := by
  unfold lenN at h ⊢
  split at h
  · exact absurd rfl h
  · rename_i hf
    rw [if_neg hf]
    refine ⟨?_, rfl⟩
    have h1 : fitN s i ≤ s.size - i := by
      unfold fitN
      by_cases hk : 1 ≤ min (whN (bt s i)) (s.size - i)
      · have := fitFrom_le s i (min (whN (bt s i)) (s.size - i)) 4 1 hk; omega
      · rw [fitFrom_ge _ _ _ _ _ (by omega)]; omega
    omega

/-- What the first byte of a form of n bytes says of its rune. -/
def hdN (b n : Nat) : Nat := if n = 1 then b else if n = 2 then b % 32 else if n = 3 then b % 16 else b % 8

/-- What the first k bytes of the form at i say of its rune. -/
def rdN (s : ByteArray) (i n : Nat) : Nat → Nat
  | 0 => 0
  | 1 => hdN (bt s i) n
  | k + 2 => rdN s i n (k + 1) * 64 + bt s (i + (k + 1)) % 64

theorem rdN_succ (s : ByteArray) (i n k : Nat) (h : 1 ≤ k) : rdN s i n (k + 1) = rdN s i n k * 64 + bt s (i + k) % 64 := by
  match k, h with
  | k + 1, _ => rfl

theorem rdN_lt (s : ByteArray) (i n : Nat) : ∀ k, 1 ≤ k → k ≤ 4 → rdN s i n k < 256 * 64 ^ (k - 1) := by
  have hb := bt_lt s i
  intro k h1 h4
  have e1 : rdN s i n 1 < 256 := by show hdN _ _ < 256; unfold hdN; split <;> (try split) <;> (try split) <;> omega
  have e2 : rdN s i n 2 < 256 * 64 := by rw [rdN_succ _ _ _ 1 (by omega)]; omega
  have e3 : rdN s i n 3 < 256 * 4096 := by rw [rdN_succ _ _ _ 2 (by omega)]; omega
  have e4 : rdN s i n 4 < 256 * 262144 := by rw [rdN_succ _ _ _ 3 (by omega)]; omega
  rcases (show k = 1 ∨ k = 2 ∨ k = 3 ∨ k = 4 by omega) with rfl | rfl | rfl | rfl
  · simpa using e1
  · simpa using e2
  · simpa using e3
  · simpa using e4

end Go.Proofs.Ytjccoiephdopkaa

/- What runes.whole, fitting and length answer. -/
namespace Go.Proofs.Ytjccoiephdopkaa
set_option linter.unusedVariables false
set_option linter.unusedSimpArgs false
open Go Go.RowKit
set_option maxRecDepth 100000

theorem ret_int {k : IntKind} {a b : Int} (h : a = b) : Ending.returned (.int k a) = .returned (.int k b) := by rw [h]

set_option maxHeartbeats 400000 in
theorem whole_any (b : Nat) (hb : b < 256) (w : World) :
    Calls Try.prog 43 #[.int .u8 (b : Int)] w fun e w' => e = .returned (.int .i64 (whN b : Nat)) ∧ w = w' := by
  go_enter Try.func43, Try.ntmps43
  go_wp2
  all_goals go_ret
  all_goals exact ⟨ret_int (by unfold whN; repeat (first | rw [if_pos (by omega)] | rw [if_neg (by omega)] | rfl)), rfl⟩


set_option maxHeartbeats 1000000 in
theorem fitting_any (s : ByteArray) (i : Nat) (hi : i < s.size) (hs : s.size ≤ 9223372036854775807) (w : World) :
    Calls Try.prog 44 #[.string s, .int .i64 (i : Int)] w fun e w' => e = .returned (.int .i64 (fitN s i : Nat)) ∧ w = w' := by
  have hb := bt_lt s i
  have hg := bt_get s i hi
  have hw4 := whN_le (bt s i)
  obtain ⟨N, hN⟩ : ∃ N, fitN s i = N := ⟨_, rfl⟩
  obtain ⟨g, hgg⟩ : ∃ g, whN (bt s i) = g := ⟨_, rfl⟩
  rw [hgg] at hw4
  obtain ⟨m, hm⟩ : ∃ m, s.size - i = m := ⟨_, rfl⟩
  have hsub : (↑s.size : Int) - ↑i = (m : Int) := by omega
  obtain ⟨n, hn, hgm⟩ : ∃ n, min g m = n ∧ ((g ≤ m ∧ n = g) ∨ (m < g ∧ n = m)) := ⟨_, rfl, by omega⟩
  have hnm : n ≤ 4 ∧ n ≤ m ∧ i + m = s.size := by omega
  have HN : Hid (fitFrom s i n 4 1 = N) := by apply Lib.hid; rw [← hN, fitN, hgg, hm, hn]
  rw [hN]
  have HG := Lib.hid hgg
  clear hN hgg hm hn
  obtain ⟨hn4, hnm, hims⟩ := hnm
  have HI := Lib.hid hims; clear hims
  rcases hgm with ⟨h1, rfl⟩ | ⟨h1, rfl⟩
  all_goals
    go_enter Try.func44, Try.ntmps44
    go_wp2
    go_step3
    go_wp2_with (go_at_call 43; refine (whole_any (bt s i) hb _).mono ?_; rintro e w' ⟨rfl, rfl⟩; rw [HG.out])
    go_step3
    go_wp2
    go_loop [6] (fun v => ∃ k f : Nat, v = .int .i64 k ∧ 1 ≤ k ∧ k + f = 5 ∧ Hid (fitFrom s i n f k = N)) (fun v => 5 - (intOf v).toNat)
    case atStart => exact ⟨1, 4, rfl, by omega, by omega, HN⟩
    case round =>
      obtain ⟨k, f, rfl, hk1, hkf, HK⟩ := hrel
      by_cases hlt : k < n
      · have hik : i + k < s.size := by have := HI.out; omega
        have hg2 := bt_get s (i + k) hik
        have hc := bt_lt s (i + k)
        go_wp2
        all_goals first
          | (refine ⟨⟨k + 1, f - 1, by go_num, by omega, by omega, ?_⟩, by simp [intOf]; omega⟩
             apply Lib.hid
             rw [← HK.out, show f = (f - 1) + 1 by omega, fitFrom_step _ _ _ _ _ hlt ((okB_iff _ _ _).2 ?_)]
             · rfl
             · go_light; (try simp only [beq_iff_eq, beq_eq_false_iff_ne, ne_eq] at *); omega)
          | ((try rw [Exit.noGoto_ret]); go_ret
             refine ⟨ret_int ?_, rfl⟩
             rw [← HK.out, show f = (f - 1) + 1 by omega, fitFrom_stop _ _ _ _ _ hlt (okB_not _ _ _ ?_)]
             go_light; (try simp only [beq_iff_eq, beq_eq_false_iff_ne, ne_eq] at *); omega)
      · go_wp2
        (try rw [Exit.noGoto_ret]); go_ret
        refine ⟨ret_int ?_, rfl⟩
        rw [← HK.out]
        cases f with
        | zero => rfl
        | succ f => rw [fitFrom_ge _ _ _ _ _ (by omega)]
end Go.Proofs.Ytjccoiephdopkaa

/- Plain facts on the bits of a form's bytes. -/
namespace Go.Proofs.Ytjccoiephdopkaa
set_option linter.unusedVariables false
set_option linter.unusedSimpArgs false
open Go Go.RowKit

theorem ofInt32 (a : Nat) (ha : a < 2147483648) : (BitVec.ofInt 32 (a : Int)).toNat = a := by
  rw [BitVec.ofInt_natCast, BitVec.toNat_ofNat]; exact Nat.mod_eq_of_lt (by omega)
theorem wrap_i32 (a : Nat) (ha : a < 2147483648) : IntKind.i32.wrap (a : Int) = a := by
  unfold IntKind.wrap
  simp [IntKind.bits, IntKind.signed]
  omega
theorem i32_and_nat (a b : Nat) (ha : a < 2147483648) (hb : b < 2147483648) : bits .and .i32 (a : Int) (b : Int) = ((a &&& b : Nat) : Int) := by
  have hx : a &&& b < 2 ^ 31 := Nat.and_lt_two_pow _ (by omega)
  show IntKind.i32.wrap ((BitVec.ofInt 32 (a : Int) &&& BitVec.ofInt 32 (b : Int)).toNat : Int) = _
  rw [BitVec.toNat_and, ofInt32 a ha, ofInt32 b hb, wrap_i32 _ (by omega)]
theorem i32_or_nat (a b : Nat) (ha : a < 2147483648) (hb : b < 2147483648) : bits .or .i32 (a : Int) (b : Int) = ((a ||| b : Nat) : Int) := by
  have hx : a ||| b < 2 ^ 31 := Nat.or_lt_two_pow (by omega) (by omega)
  show IntKind.i32.wrap ((BitVec.ofInt 32 (a : Int) ||| BitVec.ofInt 32 (b : Int)).toNat : Int) = _
  rw [BitVec.toNat_or, ofInt32 a ha, ofInt32 b hb, wrap_i32 _ (by omega)]

theorem hd_bits (b n : Nat) (hb : b < 256) (h1 : 1 < n) (h4 : n ≤ 4) : bits .and .i32 (b : Int) (127 / 2 ^ n) = (hdN b n : Int) := by
  rcases (show n = 2 ∨ n = 3 ∨ n = 4 by omega) with rfl | rfl | rfl
  · have := i32_and_nat b 31 (by omega) (by omega)
    rw [Nat.and_two_pow_sub_one_eq_mod b 5] at this
    exact this
  · have := i32_and_nat b 15 (by omega) (by omega)
    rw [Nat.and_two_pow_sub_one_eq_mod b 4] at this
    exact this
  · have := i32_and_nat b 7 (by omega) (by omega)
    rw [Nat.and_two_pow_sub_one_eq_mod b 3] at this
    exact this

theorem or_bits (r c : Nat) (hr : r < 33554432) : bits .or .i32 (wrap32 ((r : Int) * 64)) ((c : Int) % 64) = ((r * 64 + c % 64 : Nat) : Int) := by
  have e1 : wrap32 ((r : Int) * 64) = ((r * 64 : Nat) : Int) := by
    rw [show wrap32 ((r : Int) * 64) = (r : Int) * 64 from by unfold wrap32; omega]; push_cast; rfl
  have e2 : (c : Int) % 64 = ((c % 64 : Nat) : Int) := by omega
  rw [e1, e2, i32_or_nat _ _ (by omega) (by omega)]
  congr 1
  have := Nat.two_pow_add_eq_or_of_lt (i := 6) (b := c % 64) (by omega) r
  rw [Nat.mul_comm r 64, ← this]

end Go.Proofs.Ytjccoiephdopkaa

/- What runes.length, broken and read answer. -/
namespace Go.Proofs.Ytjccoiephdopkaa
set_option linter.unusedVariables false
set_option linter.unusedSimpArgs false
open Go Go.RowKit
set_option maxRecDepth 100000

set_option maxHeartbeats 400000 in
theorem length_any (s : ByteArray) (i : Nat) (hi : i < s.size) (hs : s.size ≤ 9223372036854775807) (w : World) :
    Calls Try.prog 41 #[.string s, .int .i64 (i : Int)] w fun e w' => e = .returned (.int .i64 (lenN s i : Nat)) ∧ w = w' := by
  have hb := bt_lt s i
  have hg := bt_get s i hi
  obtain ⟨N, hN⟩ : ∃ N, lenN s i = N := ⟨_, rfl⟩
  have HN := Lib.hid hN; rw [hN]; clear hN
  go_enter Try.func41, Try.ntmps41
  go_wp2_with (first | (go_at_call 43; refine (whole_any (bt s i) hb _).mono ?_; rintro e w' ⟨rfl, rfl⟩) | (go_at_call 44; refine (fitting_any s i hi hs _).mono ?_; rintro e w' ⟨rfl, rfl⟩))
  all_goals go_ret
  all_goals refine ⟨ret_int ?_, rfl⟩
  all_goals rw [← HN.out, lenN]
  · rw [if_pos (by omega)]; rfl
  · rw [if_neg (by omega)]

theorem bcell {W w1 : World} (hb : Below W.heap.size W w1) : (∀ b o, b < W.heap.size → w1.cell? ⟨b, o, none⟩ = W.cell? ⟨b, o, none⟩) ∧ (∀ b o, b < W.heap.size → w1.frozen? ⟨b, o, none⟩ = W.frozen? ⟨b, o, none⟩) :=
  ⟨fun b o h => hb.cell (p := ⟨b, o, none⟩) h, fun b o h => hb.frozen (p := ⟨b, o, none⟩) h⟩

set_option maxHeartbeats 400000 in
theorem broken_any (i : Int) (w : World) :
    Calls Try.prog 42 #[.int .i64 i] w fun e w' => e = .returned (.agg #[.int .i64 i, .int .i64 1, .int .i32 65533, .bool true]) ∧ Below w.heap.size w w' := by
  go_enter Try.func42, Try.ntmps42
  go_wp2
  refine bodyPost_ret (v := .agg #[.int .i64 i, .int .i64 1, .int .i32 65533, .bool true]) (by simp [results, Try.results42, go_sem]) rfl ⟨rfl, ?_⟩
  exact (Below.refl _ _).alloc (Nat.le_refl _) _


set_option maxHeartbeats 400000 in
theorem read_any (s : ByteArray) (i : Nat) (hi : i < s.size) (hs : s.size ≤ 9223372036854775807) (w : World) (n : Nat) (hn : lenN s i = n) (h1 : 1 ≤ n) :
    Calls Try.prog 40 #[.string s, .int .i64 (i : Int)] w fun e w' => e = .returned (.agg #[.int .i64 i, .int .i64 n, .int .i32 (rdN s i n n : Nat), .bool false]) ∧ Below w.heap.size w w' := by
  have hb := bt_lt s i
  have hg := bt_get s i hi
  have hf := lenN_fits s i (by omega)
  have hn4 := lenN_le s i
  rw [hn] at hf hn4
  have HN := Lib.hid hn; clear hn
  have HF := Lib.hid hf.2
  have hf1 := hf.1
  clear hf
  have h0 : ((n : Int) == 0) = false := by rw [beq_eq_false_iff_ne]; omega
  have H1 : Hid (rdN s i n 1 = hdN (bt s i) n) := Lib.hid rfl
  have hcases : (decide ((1 : Int) < (n : Int)) = true ∧ bits .and .i32 (bt s i : Int) (127 / 2 ^ n) = (rdN s i n 1 : Int)) ∨ (decide ((1 : Int) < (n : Int)) = false ∧ (bt s i : Int) = (rdN s i n 1 : Int)) := by
    by_cases h : 1 < n
    · exact .inl ⟨by simp; omega, hd_bits _ _ hb h hn4⟩
    · exact .inr ⟨by simp; omega, by rw [H1.out, hdN, if_pos (by omega)]⟩
  rcases hcases with ⟨hd, hr⟩ | ⟨hd, hr⟩
  all_goals
    go_enter Try.func40, Try.ntmps40
    go_wp2_with (go_at_call 41; refine (length_any s i hi hs _).mono ?_; rintro e w' ⟨rfl, rfl⟩; rw [HN.out])
    go_loop [6, 7] (fun r v => ∃ k : Nat, v = .int .i64 k ∧ 1 ≤ k ∧ k ≤ n ∧ r = .int .i32 (rdN s i n k : Nat)) (fun _ v => 5 - (intOf v).toNat)
    case atStart => exact ⟨1, rfl, by omega, by omega, by first | rfl | rw [hr]⟩
    case round =>
      obtain ⟨k, rfl, hk1, hkn, rfl⟩ := hrel
      by_cases hlt : k < n
      · have hik : i + k < s.size := by omega
        have hg2 := bt_get s (i + k) hik
        have hc := bt_lt s (i + k)
        have hrl := rdN_lt s i n k hk1 (by omega)
        have hrl2 : rdN s i n k < 33554432 := by
          refine Nat.lt_of_lt_of_le hrl ?_
          rcases (show k = 1 ∨ k = 2 ∨ k = 3 by omega) with rfl | rfl | rfl <;> decide
        clear hrl
        have hor : bits .or .i32 (wrap32 ((rdN s i n k : Int) * 64)) ((bt s (i + k) : Int) % 64) = (rdN s i n (k + 1) : Int) := by
          rw [or_bits _ _ hrl2, rdN_succ _ _ _ _ hk1]
        go_wp2
        go_round
        case rel => exact ⟨k + 1, by go_num, by omega, by omega, by rw [rdN_succ _ _ _ _ hk1]; go_num⟩
        case measure => simp [intOf]; omega
      · obtain rfl : k = n := by omega
        go_wp2
        refine bodyPost_ret (v := .agg #[.int .i64 i, .int .i64 k, .int .i32 (rdN s i k k : Nat), .bool false]) (by simp [results, Try.results40, go_sem]) rfl ⟨rfl, ?_⟩
        exact (Below.refl _ _).alloc (Nat.le_refl _) _

set_option maxHeartbeats 400000 in
theorem read_none (s : ByteArray) (i : Nat) (hi : i < s.size) (hs : s.size ≤ 9223372036854775807) (w : World) (hn : lenN s i = 0) :
    Calls Try.prog 40 #[.string s, .int .i64 (i : Int)] w fun e w' => e = .returned (.agg #[.int .i64 i, .int .i64 1, .int .i32 65533, .bool true]) ∧ Below w.heap.size w w' := by
  have HN := Lib.hid hn; clear hn
  go_enter Try.func40, Try.ntmps40
  go_wp2_with (first | (go_at_call 41; refine (length_any s i hi hs _).mono ?_; rintro e w' ⟨rfl, rfl⟩; rw [HN.out]) | (go_at_call 42; refine (broken_any _ _).mono ?_; rintro e w' ⟨rfl, hb⟩; obtain ⟨hc, hf⟩ := bcell hb; have hz := hb.size))
  refine bodyPost_ret (v := .agg #[.int .i64 i, .int .i64 1, .int .i32 65533, .bool true]) (by simp [results, Try.results40, go_sem, hc, hz]) rfl ⟨rfl, ?_⟩
  exact (((((((Below.refl _ _).alloc (Nat.le_refl _) _).trans (hb.mono (by simp))).setCell (p := ⟨_, 0, none⟩) (Nat.le_refl _) _).setCell (p := ⟨_, 1, none⟩) (Nat.le_refl _) _).setCell (p := ⟨_, 2, none⟩) (Nat.le_refl _) _).setCell (p := ⟨_, 3, none⟩) (Nat.le_refl _) _)
end Go.Proofs.Ytjccoiephdopkaa
