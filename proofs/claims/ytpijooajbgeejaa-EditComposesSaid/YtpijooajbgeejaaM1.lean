/- Stage 27: the document's Compose: mathematics. -/
import Derived.Test.YtpijooajbgeejaaJ5
import Derived.Test.YtpijooajbgeejaaJp
namespace Go.Proofs.Ytpijooajbgeejaa
set_option linter.unusedVariables false
set_option linter.unusedSimpArgs false
open Go Go.RowKit Go.Shelf
set_option maxRecDepth 100000

/-- A byte of what a change makes: put, or of a place. -/
structure Md where
  k : Option Nat
  c : UInt8
def atM (m : Md) : Int := match m.k with | none => -1 | some p => p
def encM (m : Md) : List Value := [.int .i64 (atM m), .int .u8 m.c.toNat]
theorem encM_len (m : Md) : (encM m).length = 2 := rfl
def putsMd (s : ByteArray) : List Md := (bL s).map fun c => ⟨none, c⟩
/-- What a change makes, byte by byte, from a place on. -/
def mdS (Ps : List ByteArray) (Ds : List Bool) : Nat → Nat → List Md
  | 0, p => putsMd (Ps[p]?.getD .empty)
  | n + 1, p => putsMd (Ps[p]?.getD .empty) ++ (if Ds[p]?.getD false = true then [] else [⟨some p, 0⟩]) ++ mdS Ps Ds n (p + 1)
theorem md_succ (Ps : List ByteArray) (Ds : List Bool) (n p : Nat) : mdS Ps Ds (n + 1) p = putsMd (Ps[p]?.getD .empty) ++ (if Ds[p]?.getD false = true then [] else [⟨some p, 0⟩]) ++ mdS Ps Ds n (p + 1) := rfl
theorem md_zero (Ps : List ByteArray) (Ds : List Bool) (p : Nat) : mdS Ps Ds 0 p = putsMd (Ps[p]?.getD .empty) := rfl
def dsF (Bs : List UInt8) (c p : Nat) : List Atm := ((Bs.drop c).take (p - c)).map .D
/-- The change again. -/
def unM (Bs : List UInt8) (F : Nat) : List Md → Nat → List Atm
  | [], c => dsF Bs c F
  | ⟨none, b⟩ :: l, c => .P b :: unM Bs F l c
  | ⟨some p, _⟩ :: l, c => dsF Bs c p ++ .K :: unM Bs F l (p + 1)
def okM (F : Nat) : List Md → Nat → Prop
  | [], c => c ≤ F
  | ⟨none, _⟩ :: l, c => okM F l c
  | ⟨some p, _⟩ :: l, c => c ≤ p ∧ p < F ∧ okM F l (p + 1)
/-- Nothing is put right behind what is dropped. -/
def NoDP : List Atm → Prop
  | .D _ :: .P _ :: _ => False
  | _ :: l => NoDP l
  | [] => True
theorem noDP_tail {a : Atm} {l : List Atm} (h : NoDP (a :: l)) : NoDP l := by
  cases a with
  | D c =>
    cases l with
    | nil => trivial
    | cons b l =>
      cases b with
      | P d => exact h.elim
      | K => exact h
      | D d => exact h
  | K => cases l <;> exact h
  | P c => cases l <;> exact h
theorem noDP_app {l : List Atm} : ∀ (k : List Atm), NoDP (k ++ l) → NoDP l
  | [], h => h
  | a :: k, h => noDP_app k (noDP_tail h)
theorem noDP_P (l : List UInt8) {A : List Atm} (h : NoDP A) : NoDP (l.map .P ++ A) := by
  induction l with
  | nil => exact h
  | cons c l ih =>
    show NoDP (.P c :: (l.map .P ++ A))
    cases hl : (l.map Atm.P ++ A) with
    | nil => trivial
    | cons b B => rw [hl] at ih; exact ih
theorem noDP_D (l : List UInt8) {A : List Atm} (h : NoDP A) (hA : ∀ c B, A ≠ .P c :: B) : NoDP (l.map .D ++ A) ∧ ∀ c B, l.map Atm.D ++ A ≠ .P c :: B := by
  induction l with
  | nil => exact ⟨h, hA⟩
  | cons c l ih =>
    refine ⟨?_, fun d B e => by cases e⟩
    show NoDP (.D c :: (l.map .D ++ A))
    obtain ⟨h1, h2⟩ := ih
    cases hl : (l.map Atm.D ++ A) with
    | nil => trivial
    | cons b B =>
      rw [hl] at h1 h2
      cases b with
      | P d => exact absurd rfl (h2 d B)
      | K => exact h1
      | D d => exact h1
theorem noDP_can (ps ds : List UInt8) (A : List Atm) : NoDP (canA ps ds A) := by
  induction A generalizing ps ds with
  | nil =>
    unfold canA
    have := (noDP_D ds (A := []) trivial (fun c B e => by cases e)).1
    rw [List.append_nil] at this
    exact noDP_P ps this
  | cons a A ih =>
    cases a with
    | K =>
      unfold canA
      rw [List.append_assoc]
      have h1 : NoDP (.K :: canA [] [] A) := by
        have := ih [] []
        cases h : canA [] [] A with
        | nil => trivial
        | cons b B => rw [h] at this; exact this
      exact noDP_P ps (noDP_D ds h1 (fun c B e => by cases e)).1
    | P c => exact ih _ _
    | D c => exact ih _ _
theorem dsF_nil (Bs : List UInt8) (c : Nat) : dsF Bs c c = [] := by unfold dsF; rw [Nat.sub_self]; simp
theorem dsF_cons {Bs : List UInt8} {c p : Nat} (h : c < p) (hp : p ≤ Bs.length) : dsF Bs c p = .D (Bs[c]?.getD 0) :: dsF Bs (c + 1) p := by
  unfold dsF
  rw [List.drop_eq_getElem_cons (by omega), show p - c = (p - (c + 1)) + 1 by omega, List.take_succ_cons, List.map_cons, List.getElem?_eq_getElem (by omega)]
  rfl
theorem dsF_snoc {Bs : List UInt8} {c p : Nat} (h : c ≤ p) (hp : p < Bs.length) : dsF Bs c (p + 1) = dsF Bs c p ++ [.D (Bs[p]?.getD 0)] := by
  unfold dsF
  rw [show p + 1 - c = (p - c) + 1 by omega, List.take_add_one, List.getElem?_drop, show c + (p - c) = p by omega, List.getElem?_eq_getElem hp]
  simp
section
variable {Ps : List ByteArray} {Ds : List Bool} {Bs : List UInt8} {F : Nat}
theorem un_puts (s : ByteArray) (l : List Md) (c : Nat) : unM Bs F (putsMd s ++ l) c = (bL s).map .P ++ unM Bs F l c := by
  unfold putsMd
  induction bL s with
  | nil => rfl
  | cons b r ih => rw [List.map_cons, List.cons_append, unM, ih]; rfl
theorem ok_puts (s : ByteArray) (l : List Md) (c : Nat) : okM F (putsMd s ++ l) c ↔ okM F l c := by
  unfold putsMd
  induction bL s with
  | nil => rfl
  | cons b r ih => rw [List.map_cons, List.cons_append, okM]; exact ih
theorem md_ok : ∀ (n p c : Nat), n + p = F → c ≤ p → okM F (mdS Ps Ds n p) c
  | 0, p, c, h, hc => by
    unfold mdS
    have := (ok_puts (F := F) (Ps[p]?.getD .empty) [] c).2 (by show c ≤ F; omega)
    rwa [List.append_nil] at this
  | n + 1, p, c, h, hc => by
    rw [md_succ]
    rw [List.append_assoc, ok_puts]
    split
    · exact md_ok n (p + 1) c (by omega) (by omega)
    · exact ⟨hc, by omega, md_ok n (p + 1) (p + 1) (by omega) (Nat.le_refl _)⟩
theorem pP_eq (Ps : List ByteArray) (p : Nat) : pP Ps p = (bL (Ps[p]?.getD .empty)).map .P := rfl
/-- Behind a drop. -/
theorem un_drop (hB : Bs.length = F) : ∀ (n p : Nat) (b : UInt8), n + p = F → 0 < p → NoDP (.D b :: frS Ps Ds Bs n p) → unM Bs F (mdS Ps Ds n p) (p - 1) = .D (Bs[p - 1]?.getD 0) :: unM Bs F (mdS Ps Ds n p) p
  | 0, p, b, h, hp, hN => by
    unfold frS at hN
    rw [pP_eq] at hN
    unfold mdS
    have e : bL (Ps[p]?.getD .empty) = [] := by
      cases hb : bL (Ps[p]?.getD .empty) with
      | nil => rfl
      | cons c r => rw [hb] at hN; exact hN.elim
    have e2 : putsMd (Ps[p]?.getD .empty) = [] := by unfold putsMd; rw [e]; rfl
    rw [e2, unM, unM, dsF_cons (by omega) (by omega), show p - 1 + 1 = p by omega]
  | n + 1, p, b, h, hp, hN => by
    unfold frS at hN
    rw [pP_eq] at hN
    have e : bL (Ps[p]?.getD .empty) = [] := by
      cases hb : bL (Ps[p]?.getD .empty) with
      | nil => rfl
      | cons c r => rw [hb] at hN; exact hN.elim
    have e2 : putsMd (Ps[p]?.getD .empty) = [] := by unfold putsMd; rw [e]; rfl
    rw [md_succ, e2, List.nil_append]
    by_cases hd : Ds[p]?.getD false = true
    · rw [if_pos hd, List.nil_append]
      have e3 : pD Ds Bs p = .D (Bs[p]?.getD 0) := by unfold pD; rw [if_pos hd]
      rw [e, e3, List.map_nil, List.nil_append] at hN
      have ih := un_drop hB n (p + 1) _ (by omega) (by omega) (noDP_tail hN)
      rw [Nat.add_sub_cancel] at ih
      have key : ∀ (l : List Md) (q : Nat), (∀ b r, l ≠ ⟨none, b⟩ :: r) → okM F l q → 0 < q → unM Bs F l (q - 1) = .D (Bs[q - 1]?.getD 0) :: unM Bs F l q := by
        intro l q hl ho hq
        cases l with
        | nil =>
          have : q ≤ F := ho
          rw [unM, unM, dsF_cons (by omega) (by omega), show q - 1 + 1 = q by omega]
        | cons m r =>
          obtain ⟨k, c⟩ := m
          cases k with
          | none => exact absurd rfl (hl c r)
          | some k =>
            have : q ≤ k ∧ k < F := ⟨ho.1, ho.2.1⟩
            rw [unM, unM, dsF_cons (by omega) (by omega), show q - 1 + 1 = q by omega]
            rfl
      refine key _ p ?_ (md_ok n (p + 1) p (by omega) (by omega)) hp
      intro c r e5
      rw [e5, unM, unM] at ih
      cases ih
    · rw [if_neg hd]
      show unM Bs F (⟨some p, 0⟩ :: mdS Ps Ds n (p + 1)) (p - 1) = _ :: unM Bs F (⟨some p, 0⟩ :: mdS Ps Ds n (p + 1)) p
      rw [unM, unM, dsF_cons (by omega) (by omega), show p - 1 + 1 = p by omega]
      rfl
theorem fr_un (hB : Bs.length = F) : ∀ (n p : Nat), n + p = F → NoDP (frS Ps Ds Bs n p) → frS Ps Ds Bs n p = unM Bs F (mdS Ps Ds n p) p
  | 0, p, h, _ => by
    unfold frS
    rw [md_zero]
    have := un_puts (Bs := Bs) (F := F) (Ps[p]?.getD .empty) [] p
    rw [List.append_nil] at this
    rw [this, unM, show F = p by omega, dsF_nil, List.append_nil]
    rfl
  | n + 1, p, h, hN => by
    unfold frS at hN ⊢
    have hN2 := noDP_app _ hN
    have hN3 := noDP_tail hN2
    rw [fr_un hB n (p + 1) (by omega) hN3]
    rw [md_succ, List.append_assoc, un_puts, pP_eq]
    congr 1
    by_cases hd : Ds[p]?.getD false = true
    · have e3 : pD Ds Bs p = .D (Bs[p]?.getD 0) := by unfold pD; rw [if_pos hd]
      rw [e3] at hN2 ⊢
      have := un_drop hB n (p + 1) _ (by omega) (by omega) hN2
      rw [Nat.add_sub_cancel] at this
      rw [if_pos hd, List.nil_append]
      exact this.symm
    · have e3 : pD Ds Bs p = .K := by unfold pD; rw [if_neg hd]
      rw [e3, if_neg hd]
      show _ = unM Bs F (⟨some p, 0⟩ :: mdS Ps Ds n (p + 1)) p
      rw [unM, dsF_nil]
      rfl
theorem md_out : ∀ (n p : Nat), (mdS Ps Ds n p).length = outA (frS Ps Ds Bs n p)
  | 0, p => by
    unfold frS
    rw [md_zero, pP_eq, (in_map_P _).2]
    simp [putsMd]
  | n + 1, p => by
    unfold frS
    rw [md_succ, pP_eq, outA_append, (in_map_P _).2]
    simp only [List.length_append]
    rw [md_out n (p + 1)]
    unfold pD putsMd
    split
    · simp [outA]
    · simp [outA]; omega
end
/-- Two told lists that come to the same. -/
def Eqf (A A' : List Atm) : Prop := ∀ m, fdL A m = fdL A' m
theorem Eqf.refl (A : List Atm) : Eqf A A := fun _ => rfl
theorem Eqf.app {A A' : List Atm} (h : Eqf A A') (B : List Atm) : Eqf (A ++ B) (A' ++ B) := fun m => by rw [fdL_app, fdL_app, h]
theorem Eqf.app2 {A A' B B' : List Atm} (h : Eqf A A') (g : Eqf B B') : Eqf (A ++ B) (A' ++ B') := fun m => by rw [fdL_app, fdL_app, h, g]
theorem Eqf.trans {A B C : List Atm} (h : Eqf A B) (g : Eqf B C) : Eqf A C := fun m => (h m).trans (g m)
theorem eqf_nf {A A' : List Atm} (h : Eqf A A') : nfA A = nfA A' := by unfold nfA; rw [h]
theorem fd_swap (m : Mk) (c d : UInt8) : fd (fd m (.P c)) (.D d) = fd (fd m (.D d)) (.P c) := by
  show dropsM ⟨#[d]⟩ (putsM ⟨#[c]⟩ m) = putsM ⟨#[c]⟩ (dropsM ⟨#[d]⟩ m)
  rw [putsM_one, dropsM_one, dropsM_one, putsM_one, row_zero (m := ⟨(rowM m).out, 0, m.put ++ ⟨#[c]⟩, m.drop⟩) rfl, row_zero (m := ⟨(rowM m).out, 0, m.put, m.drop ++ ⟨#[d]⟩⟩) rfl]
theorem fd_swap1 (c : UInt8) (ds : List UInt8) : Eqf (.P c :: ds.map .D) (ds.map .D ++ [.P c]) := by
  induction ds with
  | nil => exact Eqf.refl _
  | cons d ds ih =>
    intro m
    show fdL (ds.map .D) (fd (fd m (.P c)) (.D d)) = fdL (ds.map .D ++ [.P c]) (fd m (.D d))
    rw [fd_swap]
    exact ih (fd m (.D d))
theorem eqf_swap (ps ds : List UInt8) : Eqf (ds.map .D ++ ps.map .P) (ps.map .P ++ ds.map .D) := by
  induction ps with
  | nil => rw [List.map_nil, List.append_nil, List.nil_append]; exact Eqf.refl _
  | cons c ps ih =>
    intro m
    have h1 : fdL (ds.map .D ++ (c :: ps).map .P) m = fdL (ps.map .P) (fdL (ds.map .D ++ [.P c]) m) := by
      rw [← fdL_app]; simp
    rw [h1, ← fd_swap1 c ds m]
    show fdL (ps.map .P) (fdL (ds.map .D) (fd m (.P c))) = fdL (ps.map .P ++ ds.map .D) (fd m (.P c))
    rw [← fdL_app]
    exact ih _
/-- How the document's second loop stands. -/
structure CmP (X0 Y0 : List Atm) (Bs : List UInt8) (F : Nat) (y : Sd) (T q c : Nat) (rest : List Md) (Ad : List Atm) : Prop where
  ln : rest.length + q = T
  ok : okM F rest c
  cp : ∃ Ap, compA X0 Y0 = (compA (unM Bs F rest c) (y.fr (T - q) q)).map (Ap ++ ·) ∧ Eqf Ap Ad
  sz : Ad.length + (unM Bs F rest c).length + (y.fr (T - q) q).length ≤ 300000
theorem un_noD {Bs : List UInt8} {F : Nat} {b : UInt8} {l : List Md} {c : Nat} : ∀ (d : UInt8) (z : List Atm), unM Bs F (⟨none, b⟩ :: l) c = .D d :: z → False := by
  intro d z e
  unfold unM at e
  cases e
theorem map_app_one (a : Atm) (o : Option (List Atm)) : o.map (a :: ·) = o.map ([a] ++ ·) := rfl
theorem comp_Ps0 (ps : List UInt8) (x : List Atm) (hx : ∀ (c : UInt8) (z : List Atm), x = .D c :: z → False) (y : List Atm) : compA x (ps.map .P ++ y) = (compA x y).map (ps.map .P ++ ·) := comp_Ps ps x y hx
section
variable {X0 Y0 : List Atm} {Bs : List UInt8} {F T q c : Nat} {y : Sd} {rest : List Md} {Ad : List Atm} {s : ByteArray}
theorem cm_putK {b : UInt8} (h : CmP X0 Y0 Bs F y T q c (⟨none, b⟩ :: rest) Ad) (hq : q < T) (hs : y.P[q]? = some s) (hd : y.D[q]? = some false) : CmP X0 Y0 Bs F y T (q + 1) c rest (Ad ++ (bL s).map .P ++ [.P b]) := by
  obtain ⟨h1, h2, ⟨Ap, h3, h4⟩, h5⟩ := h
  have hl : (y.fr (T - q) q).length = s.size + 1 + (y.fr (T - (q + 1)) (q + 1)).length := by
    rw [fr_lt hq, pP_get hs, fr_next]
    simp only [List.length_append, List.length_map, List.length_cons, bL_len]; omega
  refine ⟨by simp only [List.length_cons] at h1; omega, h2, ⟨Ap ++ (bL s).map .P ++ [.P b], ?_, (h4.app _).app _⟩, ?_⟩
  · rw [h3, fr_lt hq, pP_get hs, pD_no hd, comp_Ps0 _ _ un_noD, unM, compA, fr_next, map2_app, map_app_one, map2_app]
  · rw [hl] at h5
    rw [unM] at h5
    simp only [List.length_append, List.length_map, List.length_cons, List.length_nil, bL_len] at h5 ⊢
    omega
theorem cm_putD {b d : UInt8} (h : CmP X0 Y0 Bs F y T q c (⟨none, b⟩ :: rest) Ad) (hq : q < T) (hs : y.P[q]? = some s) (hd : y.D[q]? = some true) (hb : y.B[q]? = some d) : if b = d then CmP X0 Y0 Bs F y T (q + 1) c rest (Ad ++ (bL s).map .P) else compA X0 Y0 = none := by
  obtain ⟨h1, h2, ⟨Ap, h3, h4⟩, h5⟩ := h
  have hl : (y.fr (T - q) q).length = s.size + 1 + (y.fr (T - (q + 1)) (q + 1)).length := by
    rw [fr_lt hq, pP_get hs, fr_next]
    simp only [List.length_append, List.length_map, List.length_cons, bL_len]; omega
  rw [fr_lt hq, pP_get hs, pD_yes hd hb, comp_Ps0 _ _ un_noD, unM, compA, fr_next] at h3
  split
  · rename_i e
    rw [if_pos e, map2_app] at h3
    refine ⟨by simp only [List.length_cons] at h1; omega, h2, ⟨_, h3, h4.app _⟩, ?_⟩
    rw [hl] at h5
    rw [unM] at h5
    simp only [List.length_append, List.length_map, List.length_cons, bL_len] at h5 ⊢
    omega
  · rename_i e
    rw [if_neg e] at h3
    rw [h3]; rfl
theorem dsF_map (Bs : List UInt8) (c p : Nat) : ∃ ds : List UInt8, dsF Bs c p = ds.map .D := ⟨_, rfl⟩
theorem cm_keep {p : Nat} {b : UInt8} (h : CmP X0 Y0 Bs F y T q c (⟨some p, b⟩ :: rest) Ad) (hq : q < T) (hs : y.P[q]? = some s) (v : Bool) (hd : y.D[q]? = some v) (d : UInt8) (hb : y.B[q]? = some d) : CmP X0 Y0 Bs F y T (q + 1) (p + 1) rest (Ad ++ (bL s).map .P ++ dsF Bs c p ++ [if v = true then .D d else .K]) := by
  obtain ⟨h1, h2, ⟨Ap, h3, h4⟩, h5⟩ := h
  have hl : (y.fr (T - q) q).length = s.size + 1 + (y.fr (T - (q + 1)) (q + 1)).length := by
    rw [fr_lt hq, pP_get hs, fr_next]
    simp only [List.length_append, List.length_map, List.length_cons, bL_len]; omega
  obtain ⟨ds, hds⟩ := dsF_map Bs c p
  refine ⟨by simp only [List.length_cons] at h1; omega, h2.2.2, ⟨Ap ++ ds.map .D ++ (bL s).map .P ++ [if v = true then .D d else .K], ?_, ?_⟩, ?_⟩
  · rw [h3, fr_lt hq, pP_get hs, unM, hds, comp_Ds, map2_app, comp_Ps0 _ _ (by intro c z e; cases e), map2_app, fr_next]
    cases v with
    | true => rw [pD_yes hd hb, compA, if_pos rfl, map_app_one, map2_app]
    | false => rw [pD_no hd, compA, if_neg (by simp), map_app_one, map2_app]
  · rw [hds]
    refine Eqf.app ?_ _
    rw [List.append_assoc, List.append_assoc]
    exact Eqf.app2 h4 (eqf_swap _ _)
  · rw [hl] at h5
    rw [unM] at h5
    simp only [List.length_append, List.length_map, List.length_cons, List.length_nil, bL_len] at h5 ⊢
    omega
theorem cm_end (h : CmP X0 Y0 Bs F y T q c [] Ad) (hq : ¬ q < T) (hs : y.P[q]? = some s) : ∃ C, compA X0 Y0 = some C ∧ Eqf C (Ad ++ (bL s).map .P ++ dsF Bs c F) := by
  obtain ⟨h1, h2, ⟨Ap, h3, h4⟩, h5⟩ := h
  obtain ⟨ds, hds⟩ := dsF_map Bs c F
  have e : T - q = 0 := by omega
  rw [e, fr_end, pP_get hs, unM, hds] at h3
  have h6 := comp_Ds ds [] ((bL s).map .P)
  have h7 := comp_Ps (bL s) [] [] (by intro c z e; cases e)
  rw [List.append_nil] at h6 h7
  rw [h6, h7] at h3
  simp only [compA, Option.map_some, List.append_nil] at h3
  refine ⟨_, h3, ?_⟩
  rw [hds, List.append_assoc]
  exact Eqf.app2 h4 (eqf_swap _ _)
end
end Go.Proofs.Ytpijooajbgeejaa
