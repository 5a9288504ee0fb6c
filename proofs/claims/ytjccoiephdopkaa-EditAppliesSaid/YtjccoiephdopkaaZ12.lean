/- Several texts in one. -/
import Derived.Test.YtjccoiephdopkaaZ08
import Derived.Test.YtjccoiephdopkaaZ09
import Derived.Test.YtjccoiephdopkaaJ1
/- Stage 27: two cursors and two makers, side by side. -/
namespace Go.Proofs.Ytjccoiephdopkaa
set_option linter.unusedVariables false
set_option linter.unusedSimpArgs false
open Go Go.RowKit Go.Shelf
set_option maxRecDepth 100000

theorem own_keptQ {W X : World} {b : Nat} {e : TypeId} {sz n : Nat} {v : Value} {xs : List Value} (h : W.ownsRow b e sz v n xs) (hk : ∀ q, v.ownBlock = some q → X.heap[q]? = W.heap[q]?) : X.ownsRow b e sz v n xs := by
  refine ⟨h.1, h.2.imp id ?_⟩
  rintro ⟨g, cap, cur, rfl, hg, h1, rest⟩
  exact ⟨g, cap, cur, rfl, hg, (hk g rfl).trans h1, rest⟩
/-- No block is in both makers' rows. -/
def Ap (t s : Value × Value × Value) : Prop := ∀ q, N3 t q ∨ N3 s q
theorem Ap.symm {t s : Value × Value × Value} (h : Ap t s) : Ap s t := fun q => (h q).symm
theorem MkB.keptM {W X : World} {B B2 b : Nat} {vo vp vd vo2 vp2 vd2 : Value} {m m2 : Mk} {t : Value × Value × Value} (h2 : MkB W B2 b vo2 vp2 vd2 m2) (h : MkB W B b vo vp vd m) (hk : KpM B (vo, vp, vd) t W X) (hne : B ≠ B2) (hap : Ap (vo, vp, vd) (vo2, vp2, vd2)) :
    MkB X B2 b vo2 vp2 vd2 m2 ∧ Ap t (vo2, vp2, vd2) := by
  have hB := h.bb
  have kb : ∀ q, ¬ N3 (vo2, vp2, vd2) q → q < W.heap.size → b ≤ q → X.heap[q]? = W.heap[q]? ∧ N3 t q := fun q hn hq hb => hk.blk q hq (by omega) ((hap q).resolve_right hn)
  refine ⟨⟨(hk.low h h2.bb (fun e => hne e.symm)).trans h2.blk, own_keptQ h2.ro fun q e => ?_, own_keptQ h2.rp fun q e => ?_, own_keptQ h2.rd fun q e => ?_, h2.ap, h2.bb, Nat.le_trans h2.bw hk.size⟩, fun q => ?_⟩
  · have := h2.ro.lt q e
    exact (kb q (fun hn => hn.1 e.symm) this.2 this.1).1
  · have := h2.rp.lt q e
    exact (kb q (fun hn => hn.2.1 e.symm) this.2 this.1).1
  · have := h2.rd.lt q e
    exact (kb q (fun hn => hn.2.2 e.symm) this.2 this.1).1
  · by_cases hn : N3 (vo2, vp2, vd2) q
    · exact .inr hn
    · left
      have : q < W.heap.size ∧ b ≤ q := by
        by_cases e1 : some q = vo2.ownBlock
        · have := h2.ro.lt q e1.symm; omega
        · by_cases e2 : some q = vp2.ownBlock
          · have := h2.rp.lt q e2.symm; omega
          · by_cases e3 : some q = vd2.ownBlock
            · have := h2.rd.lt q e3.symm; omega
            · exact absurd ⟨e1, e2, e3⟩ hn
      exact (kb q hn this.1 this.2).2
section
variable {w0 : World} {C1 C2 B1 B2 b : Nat} {W : World} {l1 l2 : List Sp} {u1 u2 : Nat} {m1 m2 : Mk}
end
end Go.Proofs.Ytjccoiephdopkaa

/- Stage 27: the rounds of Carry, byte by byte. -/
namespace Go.Proofs.Ytjccoiephdopkaa
set_option linter.unusedVariables false
set_option linter.unusedSimpArgs false
open Go Go.RowKit Go.Shelf
set_option maxRecDepth 100000

def mapU (A B : List Atm) (o : Option (List Atm × List Atm)) : Option (List Atm × List Atm) := o.map fun r => (A ++ r.1, B ++ r.2)
theorem mapU_nil (o : Option (List Atm × List Atm)) : mapU [] [] o = o := by cases o <;> rfl
theorem mapU_mapU (A B C D : List Atm) (o : Option (List Atm × List Atm)) : mapU A B (mapU C D o) = mapU (A ++ C) (B ++ D) o := by cases o <;> simp [mapU]
theorem carr_P (c : UInt8) (x y : List Atm) : carrA (.P c :: x) y = mapU [.P c] [.K] (carrA x y) := by rw [carrA]; rfl
theorem carr_yP (c : UInt8) (x y : List Atm) (hx : ∀ (c : UInt8) (z : List Atm), x = .P c :: z → False) : carrA x (.P c :: y) = mapU [.K] [.P c] (carrA x y) := carrA.eq_2 x c y hx
theorem carr_Ps (ps : List UInt8) (x y : List Atm) : carrA (ps.map .P ++ x) y = mapU (ps.map .P) (List.replicate ps.length .K) (carrA x y) := by
  induction ps with
  | nil => exact (mapU_nil _).symm
  | cons c ps ih => rw [List.map_cons, List.cons_append, carr_P, ih, mapU_mapU]; rfl
theorem carr_yPs (ps : List UInt8) (x y : List Atm) (hx : ∀ (c : UInt8) (z : List Atm), x = .P c :: z → False) : carrA x (ps.map .P ++ y) = mapU (List.replicate ps.length .K) (ps.map .P) (carrA x y) := by
  induction ps with
  | nil => exact (mapU_nil _).symm
  | cons c ps ih => rw [List.map_cons, List.cons_append, carr_yP _ _ _ hx, ih, mapU_mapU]; rfl
theorem carr_KK (n : Nat) (x y : List Atm) : carrA (List.replicate n .K ++ x) (List.replicate n .K ++ y) = mapU (List.replicate n .K) (List.replicate n .K) (carrA x y) := by
  induction n with
  | zero => exact (mapU_nil _).symm
  | succ n ih =>
    rw [List.replicate_succ, List.cons_append, List.cons_append, carrA, ih]
    show mapU [.K] [.K] _ = _
    rw [mapU_mapU]; rfl
theorem carr_DK (ds : List UInt8) (x y : List Atm) : carrA (ds.map .D ++ x) (List.replicate ds.length .K ++ y) = mapU (ds.map .D) [] (carrA x y) := by
  induction ds with
  | nil => exact (mapU_nil _).symm
  | cons c ds ih =>
    rw [List.map_cons, List.length_cons, List.replicate_succ, List.cons_append, List.cons_append, carrA, ih]
    show mapU [.D c] [] _ = _
    rw [mapU_mapU]; rfl
theorem carr_KD (ds : List UInt8) (x y : List Atm) : carrA (List.replicate ds.length .K ++ x) (ds.map .D ++ y) = mapU [] (ds.map .D) (carrA x y) := by
  induction ds with
  | nil => exact (mapU_nil _).symm
  | cons c ds ih =>
    rw [List.map_cons, List.length_cons, List.replicate_succ, List.cons_append, List.cons_append, carrA, ih]
    show mapU [] [.D c] _ = _
    rw [mapU_mapU]; rfl
theorem carr_DD : ∀ (ps ds : List UInt8) (x y : List Atm), ps.length = ds.length → carrA (ps.map .D ++ x) (ds.map .D ++ y) = if ps = ds then carrA x y else none
  | [], [], x, y, _ => by simp
  | [], d :: ds, _, _, h => by simp at h
  | c :: ps, [], _, _, h => by simp at h
  | c :: ps, d :: ds, x, y, h => by
    rw [List.map_cons, List.map_cons, List.cons_append, List.cons_append, carrA, carr_DD ps ds x y (by simpa using h)]
    by_cases e : c = d
    · subst e; simp
    · simp [e]
theorem carr_noP {l : List Sp} {u : Nat} (h : CuV l u) (hk : kindC l ≠ 3) : ∀ (c : UInt8) (z : List Atm), restC l u = .P c :: z → False := by
  intro c z e
  rcases kind_rest h with ⟨_, _, h3⟩ | ⟨_, _, r, h3⟩ | ⟨_, _, d, r, h3⟩ | ⟨h1, _⟩
  · rw [h3] at e; cases e
  · rw [h3] at e; cases e
  · rw [h3] at e; cases e
  · exact hk h1
/-- How the loop of Carry stands. -/
structure CaP (X0 Y0 : List Atm) (l1 : List Sp) (u1 : Nat) (l2 : List Sp) (u2 : Nat) (U V : List Atm) (z : Nat) : Prop where
  v1 : CuV l1 u1
  v2 : CuV l2 u2
  cp : carrA X0 Y0 = mapU U V (carrA (restC l1 u1) (restC l2 u2))
  ct : inA (restC l1 u1) = inA (restC l2 u2)
  b1 : inA (restC l1 u1) ≤ 65536
  b2 : outA (restC l1 u1) ≤ 65536
  b3 : outA (restC l2 u2) ≤ 65536
  sz : z = outA U
  lu : U.length + (restC l1 u1).length + (restC l2 u2).length ≤ 300000
  lv : V.length + (restC l1 u1).length + (restC l2 u2).length ≤ 300000
theorem out_le (A : List Atm) : outA A ≤ A.length := by
  induction A with
  | nil => exact Nat.le_refl _
  | cons a A ih => cases a <;> simp only [outA, List.length_cons] <;> omega
section
variable {X0 Y0 : List Atm} {l1 l2 : List Sp} {u1 u2 n z : Nat} {U V : List Atm} {s t : ByteArray} {l' k' : List Sp} {u' v' : Nat}
theorem CaP.z6 (h : CaP X0 Y0 l1 u1 l2 u2 U V z) : z ≤ 300000 ∧ U.length ≤ 300000 ∧ V.length ≤ 300000 := by
  have := out_le U
  have := h.sz
  have := h.lu
  have := h.lv
  omega
theorem ca_x3 (h : CaP X0 Y0 l1 u1 l2 u2 U V z) (ht : TkR l1 u1 n s l' u') (hk : kindC l1 = 3) : CaP X0 Y0 l' u' l2 u2 (U ++ (bL s).map .P) (V ++ List.replicate n .K) (z + n) ∧ s.size = n ∧ n ≤ 65536 := by
  obtain ⟨h1, h2⟩ := chk3 ht.2.1 hk
  have c1 := h.ct
  have c2 := h.b1
  have c3 := h.b2
  have c4 := h.lu
  have c5 := h.lv
  have c6 := h.sz
  have c7 := h.cp
  rw [h2] at c1 c2 c3 c4 c5 c7
  rw [carr_Ps, mapU_mapU, h1] at c7
  rw [inA_append, (in_map_P _).1] at c1 c2
  rw [outA_append, (in_map_P _).2] at c3
  simp only [List.length_append, List.length_map] at c4 c5
  refine ⟨⟨ht.1, h.v2, c7, by omega, by omega, by omega, h.b3, ?_, ?_, ?_⟩, by rw [← bL_len]; exact h1, by omega⟩
  · rw [outA_append, (in_map_P _).2]; omega
  · simp only [List.length_append, List.length_map]; omega
  · simp only [List.length_append, List.length_replicate]; omega
theorem ca_y3 (h : CaP X0 Y0 l1 u1 l2 u2 U V z) (ht : TkR l2 u2 n s l' u') (hk1 : kindC l1 ≠ 3) (hk : kindC l2 = 3) : CaP X0 Y0 l1 u1 l' u' (U ++ List.replicate n .K) (V ++ (bL s).map .P) (z + n) ∧ s.size = n ∧ n ≤ 65536 := by
  obtain ⟨h1, h2⟩ := chk3 ht.2.1 hk
  have c1 := h.ct
  have c3 := h.b3
  have c4 := h.lu
  have c5 := h.lv
  have c6 := h.sz
  have c7 := h.cp
  rw [h2] at c1 c3 c4 c5 c7
  rw [carr_yPs _ _ _ (carr_noP h.v1 hk1), mapU_mapU, h1] at c7
  rw [inA_append, (in_map_P _).1] at c1
  rw [outA_append, (in_map_P _).2] at c3
  simp only [List.length_append, List.length_map] at c4 c5
  refine ⟨⟨h.v1, ht.1, c7, by omega, h.b1, h.b2, by omega, ?_, ?_, ?_⟩, by rw [← bL_len]; exact h1, by omega⟩
  · rw [outA_append, (in_rep_K _).2]; omega
  · simp only [List.length_append, List.length_replicate]; omega
  · simp only [List.length_append, List.length_map]; omega
theorem ca_11 (h : CaP X0 Y0 l1 u1 l2 u2 U V z) (ht : TkR l1 u1 n s l' u') (hq : TkR l2 u2 n t k' v') (hk1 : kindC l1 = 1) (hk2 : kindC l2 = 1) : CaP X0 Y0 l' u' k' v' (U ++ List.replicate n .K) (V ++ List.replicate n .K) (z + n) ∧ n ≤ 65536 := by
  have h2 := chk1 ht.2.1 hk1
  have g2 := chk1 hq.2.1 hk2
  obtain ⟨c1, c2, c3, c8, c4, c5, c6, c7⟩ := And.intro h.ct (And.intro h.b1 (And.intro h.b2 (And.intro h.b3 (And.intro h.lu (And.intro h.lv (And.intro h.sz h.cp))))))
  rw [h2] at c1 c2 c3 c4 c5 c7
  rw [g2] at c1 c8 c4 c5 c7
  rw [carr_KK, mapU_mapU] at c7
  simp only [inA_append, outA_append, (in_rep_K n).1, (in_rep_K n).2, List.length_append, List.length_replicate] at c1 c2 c3 c8 c4 c5
  refine ⟨⟨ht.1, hq.1, c7, by omega, by omega, by omega, by omega, ?_, ?_, ?_⟩, by omega⟩
  · rw [outA_append, (in_rep_K _).2]; omega
  · simp only [List.length_append, List.length_replicate]; omega
  · simp only [List.length_append, List.length_replicate]; omega
theorem ca_21 (h : CaP X0 Y0 l1 u1 l2 u2 U V z) (ht : TkR l1 u1 n s l' u') (hq : TkR l2 u2 n t k' v') (hk1 : kindC l1 = 2) (hk2 : kindC l2 = 1) : CaP X0 Y0 l' u' k' v' (U ++ (bL s).map .D) V z ∧ s.size = n := by
  obtain ⟨h1, h2⟩ := chk2 ht.2.1 hk1
  have g2 := chk1 hq.2.1 hk2
  rw [← h1] at g2
  obtain ⟨c1, c2, c3, c8, c4, c5, c6, c7⟩ := And.intro h.ct (And.intro h.b1 (And.intro h.b2 (And.intro h.b3 (And.intro h.lu (And.intro h.lv (And.intro h.sz h.cp))))))
  rw [h2] at c1 c2 c3 c4 c5 c7
  rw [g2] at c1 c8 c4 c5 c7
  rw [carr_DK, mapU_mapU, List.append_nil] at c7
  simp only [inA_append, outA_append, (in_rep_K _).1, (in_rep_K _).2, (in_map_D _).1, (in_map_D _).2, List.length_append, List.length_replicate, List.length_map] at c1 c2 c3 c8 c4 c5
  refine ⟨⟨ht.1, hq.1, c7, by omega, by omega, by omega, by omega, ?_, ?_, by omega⟩, by rw [← bL_len]; exact h1⟩
  · rw [outA_append, (in_map_D _).2]; omega
  · simp only [List.length_append, List.length_map]; omega
theorem ca_12 (h : CaP X0 Y0 l1 u1 l2 u2 U V z) (ht : TkR l1 u1 n s l' u') (hq : TkR l2 u2 n t k' v') (hk1 : kindC l1 = 1) (hk2 : kindC l2 = 2) : CaP X0 Y0 l' u' k' v' U (V ++ (bL t).map .D) z ∧ t.size = n := by
  have h2 := chk1 ht.2.1 hk1
  obtain ⟨g1, g2⟩ := chk2 hq.2.1 hk2
  rw [← g1] at h2
  obtain ⟨c1, c2, c3, c8, c4, c5, c6, c7⟩ := And.intro h.ct (And.intro h.b1 (And.intro h.b2 (And.intro h.b3 (And.intro h.lu (And.intro h.lv (And.intro h.sz h.cp))))))
  rw [h2] at c1 c2 c3 c4 c5 c7
  rw [g2] at c1 c8 c4 c5 c7
  rw [carr_KD, mapU_mapU, List.append_nil] at c7
  simp only [inA_append, outA_append, (in_rep_K _).1, (in_rep_K _).2, (in_map_D _).1, (in_map_D _).2, List.length_append, List.length_replicate, List.length_map] at c1 c2 c3 c8 c4 c5
  refine ⟨⟨ht.1, hq.1, c7, by omega, by omega, by omega, by omega, c6, by omega, ?_⟩, by rw [← bL_len]; exact g1⟩
  simp only [List.length_append, List.length_map]; omega
theorem ca_22 (h : CaP X0 Y0 l1 u1 l2 u2 U V z) (ht : TkR l1 u1 n s l' u') (hq : TkR l2 u2 n t k' v') (hk1 : kindC l1 = 2) (hk2 : kindC l2 = 2) : if bL s = bL t then CaP X0 Y0 l' u' k' v' U V z else carrA X0 Y0 = none := by
  obtain ⟨h1, h2⟩ := chk2 ht.2.1 hk1
  obtain ⟨g1, g2⟩ := chk2 hq.2.1 hk2
  obtain ⟨c1, c2, c3, c8, c4, c5, c6, c7⟩ := And.intro h.ct (And.intro h.b1 (And.intro h.b2 (And.intro h.b3 (And.intro h.lu (And.intro h.lv (And.intro h.sz h.cp))))))
  rw [h2] at c1 c2 c3 c4 c5 c7
  rw [g2] at c1 c8 c4 c5 c7
  rw [carr_DD _ _ _ _ (by omega)] at c7
  simp only [inA_append, outA_append, (in_rep_K _).1, (in_rep_K _).2, (in_map_D _).1, (in_map_D _).2, List.length_append, List.length_replicate, List.length_map] at c1 c2 c3 c8 c4 c5
  split
  · rename_i e
    rw [if_pos e] at c7
    exact ⟨ht.1, hq.1, c7, by omega, by omega, by omega, by omega, c6, by omega, by omega⟩
  · rename_i e
    rw [if_neg e] at c7
    exact c7
theorem ca_end (h : CaP X0 Y0 l1 u1 l2 u2 U V z) (hk1 : kindC l1 = 0) (hk2 : kindC l2 ≠ 3) : carrA X0 Y0 = some (U, V) := by
  have hc := h.cp
  have hct := h.ct
  rcases kind_rest h.v1 with ⟨_, _, h3⟩ | ⟨e, _⟩ | ⟨e, _⟩ | ⟨e, _⟩
  · rw [h3] at hc hct
    rcases kind_rest h.v2 with ⟨_, _, g3⟩ | ⟨_, _, r, g3⟩ | ⟨_, _, c, r, g3⟩ | ⟨e, _⟩
    · rw [g3] at hc
      rw [hc]; simp [carrA, mapU]
    · rw [g3] at hct; simp only [inA] at hct; omega
    · rw [g3] at hct; simp only [inA] at hct; omega
    · omega
  · omega
  · omega
  · omega
theorem ca_no0 (h : CaP X0 Y0 l1 u1 l2 u2 U V z) (hk1 : kindC l1 ≠ 0) (hk1' : kindC l1 ≠ 3) : l1 ≠ [] ∧ l2 ≠ [] ∧ 0 < leftC u1 l1 ∧ 0 < leftC u2 l2 ∧ kindC l2 ≠ 0 := by
  have hct := h.ct
  have h0 : 0 < inA (restC l1 u1) ∧ 0 < leftC u1 l1 ∧ l1 ≠ [] := by
    rcases kind_rest h.v1 with ⟨e, _⟩ | ⟨_, q, r, h3⟩ | ⟨_, q, c, r, h3⟩ | ⟨e, _⟩
    · omega
    · rw [h3]; simp only [inA]; exact ⟨by omega, q, fun e => by rw [e] at q; exact absurd q (Nat.lt_irrefl 0)⟩
    · rw [h3]; simp only [inA]; exact ⟨by omega, q, fun e => by rw [e] at q; exact absurd q (Nat.lt_irrefl 0)⟩
    · omega
  rcases kind_rest h.v2 with ⟨e, _, g3⟩ | ⟨e, q, r, g3⟩ | ⟨e, q, c, r, g3⟩ | ⟨e, q, c, r, g3⟩
  · rw [g3] at hct; simp only [inA] at hct; omega
  all_goals exact ⟨h0.2.2, fun e2 => by rw [e2] at q; exact absurd q (Nat.lt_irrefl 0), h0.2.1, q, by omega⟩
end
end Go.Proofs.Ytjccoiephdopkaa

/- Stage 27: the document's maker, byte by byte; two of them side by side. -/
namespace Go.Proofs.Ytjccoiephdopkaa
set_option linter.unusedVariables false
set_option linter.unusedSimpArgs false
open Go Go.RowKit Go.Shelf
set_option maxRecDepth 100000

/-- A maker that holds nothing has made nothing. -/
def InvK (m : Mk) : Prop := m.kept = 0 → m.put.size = 0 → m.drop.size = 0 → m.out = []
theorem invK_fdL (A : List Atm) : InvK (fdL A mk0) := by
  rcases List.eq_nil_or_concat A with rfl | ⟨A, a, rfl⟩
  · exact fun _ _ _ => rfl
  · rw [List.concat_eq_append, fdL_app]
    show InvK (fd (fdL A mk0) a)
    generalize fdL A mk0 = m
    cases a with
    | K =>
      intro h1
      have : (keepM 1 m).kept = 0 := h1
      by_cases h : 0 < m.put.size + m.drop.size
      · rw [keepM_yes (by decide) h] at this; simp at this
      · rw [keepM_no h] at this; simp at this
    | P c =>
      intro _ h2
      have : (putsM ⟨#[c]⟩ m).put.size = 0 := h2
      rw [putsM_one] at this
      simp only [ByteArray.size_append] at this
      have h3 : (⟨#[c]⟩ : ByteArray).size = 1 := rfl
      omega
    | D c =>
      intro _ _ h2
      have : (dropsM ⟨#[c]⟩ m).drop.size = 0 := h2
      rw [dropsM_one] at this
      simp only [ByteArray.size_append] at this
      have h3 : (⟨#[c]⟩ : ByteArray).size = 1 := rfl
      omega
/-- The document's maker that has been told these bytes. -/
def DkA (W : World) (B b : Nat) (vL : Value) (A : List Atm) : Prop := DkB W B b vL (rowM (fdL A mk0)).out (fdL A mk0).put (fdL A mk0).drop
theorem row_put (s : ByteArray) (m : Mk) : (rowM (putsM s m)).out = (rowM m).out ∧ (putsM s m).put = m.put ++ s ∧ (putsM s m).drop = m.drop := by
  unfold putsM
  split
  · refine ⟨?_, rfl, rfl⟩
    show (rowM (⟨(rowM m).out, (rowM m).kept, _, _⟩ : Mk)).out = _
    rw [row_zero (m := ⟨(rowM m).out, (rowM m).kept, (rowM m).put ++ s, (rowM m).drop⟩) rfl]
  · exact ⟨rfl, rfl, rfl⟩
theorem row_drop (s : ByteArray) (m : Mk) : (rowM (dropsM s m)).out = (rowM m).out ∧ (dropsM s m).put = m.put ∧ (dropsM s m).drop = m.drop ++ s := by
  unfold dropsM
  split
  · refine ⟨?_, rfl, rfl⟩
    show (rowM (⟨(rowM m).out, (rowM m).kept, _, _⟩ : Mk)).out = _
    rw [row_zero (m := ⟨(rowM m).out, (rowM m).kept, (rowM m).put, (rowM m).drop ++ s⟩) rfl]
  · exact ⟨rfl, rfl, rfl⟩
theorem kpD_nil (n : Nat) : kpD n [] = [⟨n, .empty, .empty⟩] := rfl
theorem kpD_app (n : Nat) (L : List Sp) (x : Sp) : kpD n (L ++ [x]) = if 0 < x.k then L ++ [⟨x.k + n, x.d, x.p⟩] else L ++ [x] ++ [⟨n, .empty, .empty⟩] := by
  unfold kpD
  rw [List.getLast?_append, List.getLast?_singleton]
  simp only [Option.some_or]
  split
  · rw [List.dropLast_concat]
  · rfl
theorem row_keep {n : Nat} {m : Mk} (hn : 0 < n) (h : OkM m) (hi : InvK m) : kpD n ((rowM m).out ++ flD m.put m.drop) = (rowM (keepM n m)).out ∧ (keepM n m).put = .empty ∧ (keepM n m).drop = .empty := by
  have emp : ∀ s : ByteArray, s.size = 0 → s = .empty := fun s hs => (emp_or s).resolve_right (fun hh => hh.1 hs)
  by_cases h0 : 0 < m.put.size + m.drop.size
  · have hk : m.kept = 0 := by
      by_cases hk : 0 < m.kept
      · have := h.alt hk; omega
      · omega
    rw [keepM_yes hn h0, row_zero hk]
    refine ⟨?_, rfl, rfl⟩
    have e3 : (gapM m).kept = 0 := hk
    have e1 : (rowM ⟨(gapM m).out, (gapM m).kept + n, .empty, .empty⟩).out = m.out ++ flD m.put m.drop ++ [⟨n, .empty, .empty⟩] := by
      unfold rowM flD
      simp only [e3, Nat.zero_add]
      rw [if_pos hn]
      unfold gapM
      simp
    rw [e1]
    by_cases hd : 0 < m.drop.size
    · have e : m.out ++ flD m.put m.drop = (m.out ++ (if 0 < m.put.size then [⟨0, .empty, m.put⟩] else [])) ++ [⟨0, m.drop, .empty⟩] := by
        unfold flD; rw [if_pos hd, List.append_assoc]
      rw [e, kpD_app, if_neg (by simp)]
    · have e : m.out ++ flD m.put m.drop = m.out ++ [⟨0, .empty, m.put⟩] := by
        unfold flD; rw [if_pos (by omega), if_neg hd, List.append_nil]
      rw [e, kpD_app, if_neg (by simp)]
  · have e1 : m.put = .empty := emp _ (by omega)
    have e2 : m.drop = .empty := emp _ (by omega)
    have e3 : flD m.put m.drop = [] := by rw [e1, e2]; rfl
    rw [keepM_no h0, e3, List.append_nil]
    refine ⟨?_, e1, e2⟩
    by_cases hk : 0 < m.kept
    · have e4 : (rowM m).out = m.out ++ [⟨m.kept, .empty, .empty⟩] := by unfold rowM; rw [if_pos hk]
      rw [e4, kpD_app, if_pos (by simp only; omega)]
      unfold rowM
      rw [if_pos (by simp only; omega)]
      simp
    · have hk0 : m.kept = 0 := by omega
      have e5 := hi hk0 (by rw [e1]; rfl) (by rw [e2]; rfl)
      rw [row_zero hk0, e5, kpD_nil]
      unfold rowM
      simp only [hk0, Nat.zero_add]
      rw [if_pos hn]; rfl
theorem row_end {m : Mk} (h : OkM m) : (rowM m).out ++ flD m.put m.drop = endM m := by
  have emp : ∀ s : ByteArray, s.size = 0 → s = .empty := fun s hs => (emp_or s).resolve_right (fun hh => hh.1 hs)
  by_cases hk : 0 < m.kept
  · obtain ⟨h1, h2⟩ := h.alt hk
    rw [emp _ h1, emp _ h2]
    show (rowM m).out ++ [] = _
    rw [List.append_nil]
    unfold endM gapM rowM
    simp [h1, h2]
  · have hk0 : m.kept = 0 := by omega
    rw [row_zero hk0]
    unfold endM
    rw [row_zero (m := gapM m) hk0]
    unfold gapM flD
    simp
theorem dk_bd (A : List Atm) : (rowM (fdL A mk0)).out.length ≤ A.length + 1 ∧ (fdL A mk0).put.size ≤ A.length ∧ (fdL A mk0).drop.size ≤ A.length ∧ ∀ x ∈ (rowM (fdL A mk0)).out, 0 ≤ x.k ∧ x.k ≤ A.length := by
  have h1 := fd_bd A
  have h2 := row_len (fdL A mk0)
  obtain ⟨h3, h4⟩ := den_fdL A OkM.new
  have h5 := h4.len
  have e : denM mk0 = [] := rfl
  rw [e, List.nil_append, ← den_row] at h5
  unfold denM at h5
  simp only [List.length_append, List.length_replicate, List.length_map, bL_len] at h5
  refine ⟨by omega, by omega, by omega, fun x hx => ?_⟩
  have h6 := mem_bd hx
  have h7 := kind_pos (h3.row.nz x hx)
  have h8 : inA (atL (rowM (fdL A mk0)).out) ≤ (atL (rowM (fdL A mk0)).out).length := by
    generalize atL (rowM (fdL A mk0)).out = Z
    induction Z with
    | nil => exact Nat.le_refl _
    | cons a Z ih => cases a <;> simp only [inA, List.length_cons] <;> omega
  omega
section
variable {W X : World} {B b : Nat} {vL : Value} {A : List Atm}
theorem dka_keep (h : DkA W B b vL A) (n : Nat) (hn : n ≤ 1000000) (hA : A.length ≤ 900000) :
    Calls Try.prog 23 #[.pointer (some ⟨B, 0, none⟩), .int .i64 n] W fun e W' => e = .returned (.tuple #[]) ∧ ∃ v', DkA W' B b v' (A ++ List.replicate n .K) ∧ KpD B vL v' W W' := by
  have hb := dk_bd A
  refine (dkeep_any h n hn (by omega) (fun x hx => by have := hb.2.2.2 x hx; omega)).mono ?_
  rintro e W' ⟨rfl, h1⟩
  refine ⟨rfl, ?_⟩
  rcases h1 with ⟨rfl, g1, g2⟩ | ⟨h0, v', g1, g2⟩
  · exact ⟨vL, by rw [List.replicate_zero, List.append_nil]; exact g1, g2⟩
  · refine ⟨v', ?_, g2⟩
    obtain ⟨e1, e2, e3⟩ := row_keep h0 (den_fdL A OkM.new).1 (invK_fdL A)
    rw [e1, keep_fd, ← fdL_app] at g1
    rw [keep_fd, ← fdL_app] at e2 e3
    unfold DkA
    rw [e2, e3]
    exact g1
theorem dka_drop (h : DkA W B b vL A) (c : UInt8) (hA : A.length ≤ 900000) :
    Calls Try.prog 22 #[.pointer (some ⟨B, 0, none⟩), .int .u8 c.toNat] W fun e W' => e = .returned (.tuple #[]) ∧ ∃ v', DkA W' B b v' (A ++ [.D c]) ∧ KpD B vL v' W W' := by
  have hb := dk_bd A
  refine (ddrop_any h c (by omega)).mono ?_
  rintro e W' ⟨rfl, g1, g2⟩
  refine ⟨rfl, vL, ?_, g2⟩
  obtain ⟨e1, e2, e3⟩ := row_drop ⟨#[c]⟩ (fdL A mk0)
  rw [drops_fd, ← fdL_app] at e1 e2 e3
  unfold DkA
  have e4 : (bL ⟨#[c]⟩).map Atm.D = [.D c] := rfl
  rw [e4] at e1 e2 e3
  rw [e1, e2, e3]
  exact g1
theorem dka_end (h : DkA W B b vL A) (hA : A.length ≤ 900000) :
    Calls Try.prog 24 #[.pointer (some ⟨B, 0, none⟩)] W fun e W' => e = .returned (.tuple #[]) ∧ ∃ v', DkB W' B b v' (nfA A) .empty .empty ∧ KpD B vL v' W W' := by
  have hb := dk_bd A
  refine (dend_any h (by omega)).mono ?_
  rintro e W' ⟨rfl, v', g1, g2⟩
  rw [row_end (den_fdL A OkM.new).1] at g1
  exact ⟨rfl, v', g1, g2⟩
theorem DkA.below (h : DkA W B b vL A) (hb : Below W.heap.size W X) : DkA X B b vL A := DkB.below h hb
theorem DkA.put (h : DkA W B b vL A) (s : ByteArray) : DkA (W.setCell ⟨B, 1, none⟩ (.string ((fdL A mk0).put ++ s))) B b vL (A ++ (bL s).map .P) := by
  obtain ⟨e1, e2, e3⟩ := row_put s (fdL A mk0)
  rw [puts_fd, ← fdL_app] at e1 e2 e3
  unfold DkA
  rw [e1, e2, e3]
  exact DkB.setP h _
theorem KpD.low {vL' v' : Value} {L : List Sp} {pu dr : ByteArray} (k : KpD B vL v' W X) (h : DkB W B b vL L pu dr) {q : Nat} (hq : q < b) (hn : q ≠ B) : X.heap[q]? = W.heap[q]? :=
  (k.blk q (Nat.lt_of_lt_of_le hq h.bw) hn (fun e => by have := (h.ro.lt q e.symm).1; omega)).1
theorem KpD.belowK {v' : Value} {L : List Sp} {pu dr : ByteArray} (k : KpD B vL v' W X) (h : DkB W B b vL L pu dr) {c : Nat} {w0 : World} (hc : c ≤ B) (h0 : Below c w0 W) : Below c w0 X :=
  ⟨k.os.trans h0.os, k.tape.trans h0.tape, k.output.trans h0.output, Nat.le_trans h0.size k.size, fun i hi => (k.low (vL' := vL) h (by have := h.bb; omega) (by omega)).trans (h0.block i hi)⟩
end
/-- No block is in both rows. -/
def ApD (v s : Value) : Prop := ∀ q, some q ≠ v.ownBlock ∨ some q ≠ s.ownBlock
theorem ApD.symm {v s : Value} (h : ApD v s) : ApD s v := fun q => (h q).symm
theorem DkB.keptD {W X : World} {B B2 b : Nat} {v v2 v' : Value} {L L2 : List Sp} {pu dr pu2 dr2 : ByteArray} (h2 : DkB W B2 b v2 L2 pu2 dr2) (h : DkB W B b v L pu dr) (hk : KpD B v v' W X) (hne : B ≠ B2) (hap : ApD v v2) : DkB X B2 b v2 L2 pu2 dr2 ∧ ApD v' v2 := by
  have hB := h.bb
  have kb : ∀ q, some q = v2.ownBlock → X.heap[q]? = W.heap[q]? ∧ some q ≠ v'.ownBlock := fun q e => by
    have := h2.ro.lt q e.symm
    exact hk.blk q (by omega) (by omega) ((hap q).resolve_right (fun hn => hn e))
  refine ⟨⟨(hk.low (vL' := v) h h2.bb (fun e => hne e.symm)).trans h2.blk, own_keptQ h2.ro fun q e => (kb q e.symm).1, h2.bb, Nat.le_trans h2.bw hk.size⟩, fun q => ?_⟩
  by_cases e : some q = v2.ownBlock
  · exact .inl (kb q e).2
  · exact .inr e
/-- Two makers of the document's. -/
def D2 (w0 : World) (B1 B2 b : Nat) (W : World) (U V : List Atm) : Prop :=
  ∃ v1 v2, DkA W B1 b v1 U ∧ DkA W B2 b v2 V ∧ ApD v1 v2 ∧ B1 < B2 ∧ w0.heap.size ≤ B1 ∧ Below w0.heap.size w0 W
section
variable {w0 W X : World} {B1 B2 b : Nat} {U V : List Atm}
theorem D2.below (h : D2 w0 B1 B2 b W U V) (hb : Below W.heap.size W X) : D2 w0 B1 B2 b X U V := by
  obtain ⟨v1, v2, h1, h2, h3, h4, h5, h6⟩ := h
  exact ⟨v1, v2, h1.below hb, h2.below hb, h3, h4, h5, h6.trans (hb.mono h6.size)⟩
theorem D2.low (h : D2 w0 B1 B2 b W U V) : Below w0.heap.size w0 W := by
  obtain ⟨v1, v2, h1, h2, h3, h4, h5, h6⟩ := h
  exact h6
theorem d2_keep1 (h : D2 w0 B1 B2 b W U V) (n : Nat) (hn : n ≤ 1000000) (hU : U.length ≤ 900000) :
    Calls Try.prog 23 #[.pointer (some ⟨B1, 0, none⟩), .int .i64 n] W fun e W' => e = .returned (.tuple #[]) ∧ D2 w0 B1 B2 b W' (U ++ List.replicate n .K) V := by
  obtain ⟨v1, v2, h1, h2, h3, h4, h5, h6⟩ := h
  refine (dka_keep h1 n hn hU).mono ?_
  rintro e W' ⟨rfl, v', g1, g2⟩
  obtain ⟨k1, k2⟩ := DkB.keptD h2 h1 g2 (by omega) h3
  exact ⟨rfl, v', v2, g1, k1, k2, h4, h5, g2.belowK h1 h5 h6⟩
theorem d2_keep2 (h : D2 w0 B1 B2 b W U V) (n : Nat) (hn : n ≤ 1000000) (hV : V.length ≤ 900000) :
    Calls Try.prog 23 #[.pointer (some ⟨B2, 0, none⟩), .int .i64 n] W fun e W' => e = .returned (.tuple #[]) ∧ D2 w0 B1 B2 b W' U (V ++ List.replicate n .K) := by
  obtain ⟨v1, v2, h1, h2, h3, h4, h5, h6⟩ := h
  refine (dka_keep h2 n hn hV).mono ?_
  rintro e W' ⟨rfl, v', g1, g2⟩
  obtain ⟨k1, k2⟩ := DkB.keptD h1 h2 g2 (by omega) h3.symm
  exact ⟨rfl, v1, v', k1, g1, k2.symm, h4, h5, g2.belowK h2 (by omega) h6⟩
theorem d2_drop1 (h : D2 w0 B1 B2 b W U V) (c : UInt8) (hU : U.length ≤ 900000) :
    Calls Try.prog 22 #[.pointer (some ⟨B1, 0, none⟩), .int .u8 c.toNat] W fun e W' => e = .returned (.tuple #[]) ∧ D2 w0 B1 B2 b W' (U ++ [.D c]) V := by
  obtain ⟨v1, v2, h1, h2, h3, h4, h5, h6⟩ := h
  refine (dka_drop h1 c hU).mono ?_
  rintro e W' ⟨rfl, v', g1, g2⟩
  obtain ⟨k1, k2⟩ := DkB.keptD h2 h1 g2 (by omega) h3
  exact ⟨rfl, v', v2, g1, k1, k2, h4, h5, g2.belowK h1 h5 h6⟩
theorem d2_drop2 (h : D2 w0 B1 B2 b W U V) (c : UInt8) (hV : V.length ≤ 900000) :
    Calls Try.prog 22 #[.pointer (some ⟨B2, 0, none⟩), .int .u8 c.toNat] W fun e W' => e = .returned (.tuple #[]) ∧ D2 w0 B1 B2 b W' U (V ++ [.D c]) := by
  obtain ⟨v1, v2, h1, h2, h3, h4, h5, h6⟩ := h
  refine (dka_drop h2 c hV).mono ?_
  rintro e W' ⟨rfl, v', g1, g2⟩
  obtain ⟨k1, k2⟩ := DkB.keptD h1 h2 g2 (by omega) h3.symm
  exact ⟨rfl, v1, v', k1, g1, k2.symm, h4, h5, g2.belowK h2 (by omega) h6⟩
theorem D2.put1 (h : D2 w0 B1 B2 b W U V) (s : ByteArray) : D2 w0 B1 B2 b (W.setCell ⟨B1, 1, none⟩ (.string ((fdL U mk0).put ++ s))) (U ++ (bL s).map .P) V := by
  obtain ⟨v1, v2, h1, h2, h3, h4, h5, h6⟩ := h
  obtain ⟨k1, k2⟩ := DkB.keptD h2 h1 (KpD.set h1 1 (.string ((fdL U mk0).put ++ s))) (by omega) h3
  exact ⟨v1, v2, h1.put s, k1, k2, h4, h5, (KpD.set h1 1 (.string ((fdL U mk0).put ++ s))).belowK h1 h5 h6⟩
theorem D2.put2 (h : D2 w0 B1 B2 b W U V) (s : ByteArray) : D2 w0 B1 B2 b (W.setCell ⟨B2, 1, none⟩ (.string ((fdL V mk0).put ++ s))) U (V ++ (bL s).map .P) := by
  obtain ⟨v1, v2, h1, h2, h3, h4, h5, h6⟩ := h
  obtain ⟨k1, k2⟩ := DkB.keptD h1 h2 (KpD.set h2 1 (.string ((fdL V mk0).put ++ s))) (by omega) h3.symm
  exact ⟨v1, v2, k1, h2.put s, k2.symm, h4, h5, (KpD.set h2 1 (.string ((fdL V mk0).put ++ s))).belowK h2 (by omega) h6⟩
theorem D2.cell1 (h : D2 w0 B1 B2 b W U V) : W.cell? ⟨B1, 1, none⟩ = some (.string (fdL U mk0).put) ∧ W.frozen? ⟨B1, 1, none⟩ = false := by
  obtain ⟨v1, v2, h1, h2, _⟩ := h
  exact ⟨(DkB.cells h1).2.1, DkB.blk h1 |>.frozen 1⟩
theorem D2.cell2 (h : D2 w0 B1 B2 b W U V) : W.cell? ⟨B2, 1, none⟩ = some (.string (fdL V mk0).put) ∧ W.frozen? ⟨B2, 1, none⟩ = false := by
  obtain ⟨v1, v2, h1, h2, _⟩ := h
  exact ⟨(DkB.cells h2).2.1, DkB.blk h2 |>.frozen 1⟩
/-- Both ends. -/
def D2E (w0 : World) (B1 B2 b : Nat) (W : World) (v1 v2 : Value) (L1 L2 : List Sp) (pu dr : ByteArray) : Prop :=
  DkB W B1 b v1 L1 .empty .empty ∧ DkB W B2 b v2 L2 pu dr ∧ ApD v1 v2 ∧ B1 < B2 ∧ w0.heap.size ≤ B1 ∧ Below w0.heap.size w0 W
theorem d2_end1 (h : D2 w0 B1 B2 b W U V) (hU : U.length ≤ 900000) :
    Calls Try.prog 24 #[.pointer (some ⟨B1, 0, none⟩)] W fun e W' => e = .returned (.tuple #[]) ∧ ∃ v1 v2, D2E w0 B1 B2 b W' v1 v2 (nfA U) (rowM (fdL V mk0)).out (fdL V mk0).put (fdL V mk0).drop := by
  obtain ⟨v1, v2, h1, h2, h3, h4, h5, h6⟩ := h
  refine (dka_end h1 hU).mono ?_
  rintro e W' ⟨rfl, v', g1, g2⟩
  obtain ⟨k1, k2⟩ := DkB.keptD h2 h1 g2 (by omega) h3
  exact ⟨rfl, v', v2, g1, k1, k2, h4, h5, g2.belowK h1 h5 h6⟩
theorem d2_end2 {v1 v2 : Value} {L1 : List Sp} (h : D2E w0 B1 B2 b W v1 v2 L1 (rowM (fdL V mk0)).out (fdL V mk0).put (fdL V mk0).drop) (hV : V.length ≤ 900000) :
    Calls Try.prog 24 #[.pointer (some ⟨B2, 0, none⟩)] W fun e W' => e = .returned (.tuple #[]) ∧ ∃ v2', D2E w0 B1 B2 b W' v1 v2' L1 (nfA V) .empty .empty := by
  obtain ⟨h1, h2, h3, h4, h5, h6⟩ := h
  refine (dka_end h2 hV).mono ?_
  rintro e W' ⟨rfl, v', g1, g2⟩
  obtain ⟨k1, k2⟩ := DkB.keptD h1 h2 g2 (by omega) h3.symm
  exact ⟨rfl, v', k1, g1, k2.symm, h4, h5, g2.belowK h2 (by omega) h6⟩
end
end Go.Proofs.Ytjccoiephdopkaa

/- Stage 27: the document's Carry, place by place: mathematics. -/
namespace Go.Proofs.Ytjccoiephdopkaa
set_option linter.unusedVariables false
set_option linter.unusedSimpArgs false
open Go Go.RowKit Go.Shelf
set_option maxRecDepth 100000

/-- What Say has told of a change: puts, drops, bytes. -/
structure Sd where
  P : List ByteArray
  D : List Bool
  B : List UInt8
def Sd.fr (x : Sd) (n p : Nat) : List Atm := frS x.P x.D x.B n p
structure SdOk (x : Sd) (F : Nat) (A : List Atm) : Prop where
  lP : x.P.length = F + 1
  lD : x.D.length = F
  lB : x.B.length = F
  fr : x.fr F 0 = A
/-- How the document's loop stands at a place. -/
structure CdP (X0 Y0 : List Atm) (x y : Sd) (F p : Nat) (U V : List Atm) (z : Nat) : Prop where
  le : p ≤ F
  cp : carrA X0 Y0 = mapU U V (carrA (x.fr (F - p) p) (y.fr (F - p) p))
  sz : z = outA U
  lu : U.length + (x.fr (F - p) p).length + (y.fr (F - p) p).length ≤ 300000
  lv : V.length + (x.fr (F - p) p).length + (y.fr (F - p) p).length ≤ 300000
/-- Behind the puts of a place. -/
structure CdQ (X0 Y0 : List Atm) (x y : Sd) (F p : Nat) (U V : List Atm) (z : Nat) : Prop where
  cp : carrA X0 Y0 = mapU U V (if p < F then carrA (pD x.D x.B p :: x.fr (F - p - 1) (p + 1)) (pD y.D y.B p :: y.fr (F - p - 1) (p + 1)) else some ([], []))
  sz : z = outA U
  lu : U.length + (if p < F then (x.fr (F - p - 1) (p + 1)).length + (y.fr (F - p - 1) (p + 1)).length + 2 else 0) ≤ 300000
  lv : V.length + (if p < F then (x.fr (F - p - 1) (p + 1)).length + (y.fr (F - p - 1) (p + 1)).length + 2 else 0) ≤ 300000
theorem fr_end (x : Sd) (p : Nat) : x.fr 0 p = pP x.P p := rfl
theorem fr_lt {x : Sd} {F p : Nat} (h : p < F) : x.fr (F - p) p = pP x.P p ++ pD x.D x.B p :: x.fr (F - p - 1) (p + 1) := by
  obtain ⟨k, hk⟩ : ∃ k, F - p = k + 1 := ⟨F - p - 1, by omega⟩
  rw [hk]; rfl
theorem pP_get {Ps : List ByteArray} {p : Nat} {s : ByteArray} (h : Ps[p]? = some s) : pP Ps p = (bL s).map .P := by unfold pP; rw [h]; rfl
theorem cd_put {X0 Y0 : List Atm} {x y : Sd} {F p : Nat} {U V : List Atm} {z : Nat} {s t : ByteArray} (h : CdP X0 Y0 x y F p U V z) (hs : x.P[p]? = some s) (ht : y.P[p]? = some t) :
    CdQ X0 Y0 x y F p (U ++ (bL s).map .P ++ List.replicate t.size .K) (V ++ List.replicate s.size .K ++ (bL t).map .P) (z + s.size + t.size) ∧ U.length + s.size + t.size ≤ 300000 ∧ V.length + s.size + t.size ≤ 300000 ∧ z + s.size + t.size ≤ 300000 := by
  obtain ⟨c0, c1, c2, c3, c4⟩ := h
  have hz := out_le U
  have hout : outA (U ++ (bL s).map .P ++ List.replicate t.size .K) = outA U + s.size + t.size := by
    rw [outA_append, outA_append, (in_map_P _).2, (in_rep_K _).2, bL_len]
  have hlU : (U ++ (bL s).map Atm.P ++ List.replicate t.size Atm.K).length = U.length + s.size + t.size := by
    simp only [List.length_append, List.length_map, List.length_replicate, bL_len]
  have hlV : (V ++ List.replicate s.size Atm.K ++ (bL t).map Atm.P).length = V.length + s.size + t.size := by
    simp only [List.length_append, List.length_map, List.length_replicate, bL_len]
  by_cases hp : p < F
  · rw [fr_lt hp, fr_lt hp, pP_get hs, pP_get ht] at c1 c3 c4
    simp only [List.length_append, List.length_map, List.length_cons, bL_len] at c3 c4
    rw [carr_Ps, mapU_mapU, carr_yPs _ _ _ (by intro c z e; unfold pD at e; split at e <;> cases e), mapU_mapU, bL_len, bL_len] at c1
    refine ⟨⟨by rw [if_pos hp]; exact c1, by omega, by rw [hlU, if_pos hp]; omega, by rw [hlV, if_pos hp]; omega⟩, by omega, by omega, by omega⟩
  · have e : F - p = 0 := by omega
    rw [e, fr_end, fr_end, pP_get hs, pP_get ht] at c1 c3 c4
    simp only [List.length_map, bL_len] at c3 c4
    have c5 : carrA X0 Y0 = mapU (U ++ (bL s).map .P ++ List.replicate t.size .K) (V ++ List.replicate s.size .K ++ (bL t).map .P) (some ([], [])) := by
      have h1 := carr_Ps (bL s) [] ((bL t).map .P)
      have h2 := carr_yPs (bL t) [] [] (by intro c z e; cases e)
      rw [List.append_nil] at h1 h2
      rw [c1, h1, mapU_mapU, h2, mapU_mapU, bL_len, bL_len]
      simp [carrA]
    refine ⟨⟨by rw [if_neg hp]; exact c5, by omega, by rw [hlU, if_neg hp]; omega, by rw [hlV, if_neg hp]; omega⟩, by omega, by omega, by omega⟩
section
variable {X0 Y0 : List Atm} {x y : Sd} {F p : Nat} {U V : List Atm} {z : Nat}
theorem cd_end (h : CdQ X0 Y0 x y F p U V z) (hp : ¬ p < F) : carrA X0 Y0 = some (U, V) := by
  have := h.cp
  rw [if_neg hp] at this
  rw [this]; simp [mapU]
theorem pD_yes {Ds : List Bool} {Bs : List UInt8} {c : UInt8} (h : Ds[p]? = some true) (hb : Bs[p]? = some c) : pD Ds Bs p = .D c := by unfold pD; rw [h, hb]; rfl
theorem pD_no {Ds : List Bool} {Bs : List UInt8} (h : Ds[p]? = some false) : pD Ds Bs p = .K := by unfold pD; rw [h]; rfl
theorem fr_next (x : Sd) (F p : Nat) : x.fr (F - p - 1) (p + 1) = x.fr (F - (p + 1)) (p + 1) := by rw [show F - p - 1 = F - (p + 1) by omega]
theorem cd_DD {c d : UInt8} (h : CdQ X0 Y0 x y F p U V z) (hp : p < F) (h1 : x.D[p]? = some true) (h2 : y.D[p]? = some true) (g1 : x.B[p]? = some c) (g2 : y.B[p]? = some d) : if c = d then CdP X0 Y0 x y F (p + 1) U V z else carrA X0 Y0 = none := by
  obtain ⟨c1, c2, c3, c4⟩ := h
  rw [if_pos hp, pD_yes h1 g1, pD_yes h2 g2, carrA] at c1
  rw [if_pos hp] at c3 c4
  split
  · rename_i e
    rw [if_pos e, fr_next, fr_next] at c1
    rw [fr_next, fr_next] at c3 c4
    exact ⟨hp, c1, c2, by omega, by omega⟩
  · rename_i e
    rw [if_neg e] at c1
    exact c1
theorem cd_DK {c : UInt8} (h : CdQ X0 Y0 x y F p U V z) (hp : p < F) (h1 : x.D[p]? = some true) (h2 : y.D[p]? = some false) (g1 : x.B[p]? = some c) : CdP X0 Y0 x y F (p + 1) (U ++ [.D c]) V z := by
  obtain ⟨c1, c2, c3, c4⟩ := h
  rw [if_pos hp, pD_yes h1 g1, pD_no h2, carrA, fr_next, fr_next] at c1
  rw [if_pos hp, fr_next, fr_next] at c3 c4
  refine ⟨hp, ?_, by rw [outA_append]; simpa [outA] using c2, by simp only [List.length_append, List.length_cons, List.length_nil]; omega, by omega⟩
  rw [c1]
  show mapU U V (mapU [.D c] [] _) = _
  rw [mapU_mapU, List.append_nil]
theorem cd_KD {c : UInt8} (h : CdQ X0 Y0 x y F p U V z) (hp : p < F) (h1 : x.D[p]? = some false) (h2 : y.D[p]? = some true) (g1 : y.B[p]? = some c) : CdP X0 Y0 x y F (p + 1) U (V ++ [.D c]) z := by
  obtain ⟨c1, c2, c3, c4⟩ := h
  rw [if_pos hp, pD_yes h2 g1, pD_no h1, carrA, fr_next, fr_next] at c1
  rw [if_pos hp, fr_next, fr_next] at c3 c4
  refine ⟨hp, ?_, c2, by omega, by simp only [List.length_append, List.length_cons, List.length_nil]; omega⟩
  rw [c1]
  show mapU U V (mapU [] [.D c] _) = _
  rw [mapU_mapU, List.append_nil]
theorem cd_KK (h : CdQ X0 Y0 x y F p U V z) (hp : p < F) (h1 : x.D[p]? = some false) (h2 : y.D[p]? = some false) : CdP X0 Y0 x y F (p + 1) (U ++ List.replicate 1 .K) (V ++ List.replicate 1 .K) (z + 1) := by
  obtain ⟨c1, c2, c3, c4⟩ := h
  rw [if_pos hp, pD_no h1, pD_no h2, carrA, fr_next, fr_next] at c1
  rw [if_pos hp, fr_next, fr_next] at c3 c4
  refine ⟨hp, ?_, by rw [outA_append]; simpa [outA] using c2, by simp only [List.length_append, List.length_replicate]; omega, by simp only [List.length_append, List.length_replicate]; omega⟩
  rw [c1]
  show mapU U V (mapU [.K] [.K] _) = _
  rw [mapU_mapU]; rfl
end
theorem cd_start {x y : Sd} {F : Nat} {X0 Y0 : List Atm} (hx : SdOk x F X0) (hy : SdOk y F Y0) (hl : X0.length + Y0.length ≤ 300000) : CdP X0 Y0 x y F 0 [] [] 0 := by
  refine ⟨Nat.zero_le _, ?_, rfl, ?_, ?_⟩
  · rw [Nat.sub_zero, hx.fr, hy.fr, mapU_nil]
  · rw [Nat.sub_zero, hx.fr, hy.fr]; show 0 + _ + _ ≤ _; omega
  · rw [Nat.sub_zero, hx.fr, hy.fr]; show 0 + _ + _ ≤ _; omega
/-- What Say has told, as it lies in memory. -/
structure SdM (W : World) (bx : Nat) (x : Sd) (F : Nat) : Prop where
  lt : bx < W.heap.size
  mem : ∃ gP gD gB cP cD cB, Blk W bx #[.slice gP (F + 1) cP, .slice gD F cD, .slice gB F cB] 43 ∧ RowAt W encP 1 gP x.P ∧ RowAt W encO 1 gD x.D ∧ RowAt W (fun c => [u8V c]) 1 gB x.B ∧ F + 1 ≤ cP ∧ F ≤ cD ∧ F ≤ cB
/-- What a read of it finds. -/
def SdC (X : World) (bx : Nat) (F p : Nat) (s : ByteArray) : Prop := ∃ g o c, X.cell? ⟨bx, 0, none⟩ = some (.slice (some ⟨g, o, none⟩) (F + 1) c) ∧ X.cell? ⟨g, o + p, none⟩ = some (.string s)
theorem SdM.getP {W X : World} {bx : Nat} {x : Sd} {F p : Nat} {s : ByteArray} (h : SdM W bx x F) (hX : Below W.heap.size W X) (hs : x.P[p]? = some s) : SdC X bx F p s := by
  obtain ⟨hl, gP, gD, gB, cP, cD, cB, h1, h2, h3, h4, _⟩ := h
  obtain ⟨g, o, rfl, hc⟩ := h2 p s hs
  have h0 := hc 0 (by decide)
  rw [Nat.mul_one, Nat.add_zero] at h0
  refine ⟨g, o, cP, at_below (show W.cell? ⟨bx, 0, none⟩ = some _ from h1.cell 0) hX, at_below h0 hX⟩
def SdD (X : World) (bx : Nat) (F p : Nat) (v : Bool) : Prop := ∃ g o c, X.cell? ⟨bx, 1, none⟩ = some (.slice (some ⟨g, o, none⟩) F c) ∧ X.cell? ⟨g, o + p, none⟩ = some (.bool v)
theorem SdM.getD {W X : World} {bx : Nat} {x : Sd} {F p : Nat} {v : Bool} (h : SdM W bx x F) (hX : Below W.heap.size W X) (hs : x.D[p]? = some v) : SdD X bx F p v := by
  obtain ⟨hl, gP, gD, gB, cP, cD, cB, h1, h2, h3, h4, _⟩ := h
  obtain ⟨g, o, rfl, hc⟩ := h3 p v hs
  have h0 := hc 0 (by decide)
  rw [Nat.mul_one, Nat.add_zero] at h0
  refine ⟨g, o, cD, at_below (show W.cell? ⟨bx, 1, none⟩ = some _ from h1.cell 1) hX, at_below h0 hX⟩
def SdB (X : World) (bx : Nat) (F p : Nat) (v : UInt8) : Prop := ∃ g o c, X.cell? ⟨bx, 2, none⟩ = some (.slice (some ⟨g, o, none⟩) F c) ∧ X.cell? ⟨g, o + p, none⟩ = some (.int .u8 v.toNat)
theorem SdM.getB {W X : World} {bx : Nat} {x : Sd} {F p : Nat} {v : UInt8} (h : SdM W bx x F) (hX : Below W.heap.size W X) (hs : x.B[p]? = some v) : SdB X bx F p v := by
  obtain ⟨hl, gP, gD, gB, cP, cD, cB, h1, h2, h3, h4, _⟩ := h
  obtain ⟨g, o, rfl, hc⟩ := h4 p v hs
  have h0 := hc 0 (by decide)
  rw [Nat.mul_one, Nat.add_zero] at h0
  refine ⟨g, o, cB, at_below (show W.cell? ⟨bx, 2, none⟩ = some _ from h1.cell 2) hX, at_below h0 hX⟩
theorem SdM.allP {W : World} {bx : Nat} {x : Sd} {F p : Nat} {s : ByteArray} (h : SdM W bx x F) (hs : x.P[p]? = some s) : ∃ g o c, ∀ X, Below W.heap.size W X → X.cell? ⟨bx, 0, none⟩ = some (.slice (some ⟨g, o, none⟩) (F + 1) c) ∧ X.cell? ⟨g, o + p, none⟩ = some (.string s) := by
  obtain ⟨hl, gP, gD, gB, cP, cD, cB, h1, h2, h3, h4, _⟩ := h
  obtain ⟨g, o, rfl, hc⟩ := h2 p s hs
  have h0 := hc 0 (by decide)
  rw [Nat.mul_one, Nat.add_zero] at h0
  exact ⟨g, o, cP, fun X hX => ⟨at_below (show W.cell? ⟨bx, 0, none⟩ = some _ from h1.cell 0) hX, at_below h0 hX⟩⟩
theorem SdM.allD {W : World} {bx : Nat} {x : Sd} {F p : Nat} {v : Bool} (h : SdM W bx x F) (hs : x.D[p]? = some v) : ∃ g o c, ∀ X, Below W.heap.size W X → X.cell? ⟨bx, 1, none⟩ = some (.slice (some ⟨g, o, none⟩) F c) ∧ X.cell? ⟨g, o + p, none⟩ = some (.bool v) := by
  obtain ⟨hl, gP, gD, gB, cP, cD, cB, h1, h2, h3, h4, _⟩ := h
  obtain ⟨g, o, rfl, hc⟩ := h3 p v hs
  have h0 := hc 0 (by decide)
  rw [Nat.mul_one, Nat.add_zero] at h0
  exact ⟨g, o, cD, fun X hX => ⟨at_below (show W.cell? ⟨bx, 1, none⟩ = some _ from h1.cell 1) hX, at_below h0 hX⟩⟩
theorem SdM.allB {W : World} {bx : Nat} {x : Sd} {F p : Nat} {v : UInt8} (h : SdM W bx x F) (hs : x.B[p]? = some v) : ∃ g o c, ∀ X, Below W.heap.size W X → X.cell? ⟨bx, 2, none⟩ = some (.slice (some ⟨g, o, none⟩) F c) ∧ X.cell? ⟨g, o + p, none⟩ = some (.int .u8 v.toNat) := by
  obtain ⟨hl, gP, gD, gB, cP, cD, cB, h1, h2, h3, h4, _⟩ := h
  obtain ⟨g, o, rfl, hc⟩ := h4 p v hs
  have h0 := hc 0 (by decide)
  rw [Nat.mul_one, Nat.add_zero] at h0
  exact ⟨g, o, cB, fun X hX => ⟨at_below (show W.cell? ⟨bx, 2, none⟩ = some _ from h1.cell 2) hX, at_below h0 hX⟩⟩
/-- What Say hands back, laid down. -/
theorem SdM.of {W X : World} {b bx F : Nat} {x : Sd} {vP vD vB : Value} (hx1 : x.P.length = F + 1) (hx2 : x.D.length = F) (hx3 : x.B.length = F) (hP : W.ownsRow b 9 1 vP (F + 1) (x.P.flatMap encP)) (hD : W.ownsRow b 4 1 vD F (x.D.flatMap encO)) (hB : W.ownsRow b 5 1 vB F (x.B.map u8V)) (hX : Below W.heap.size W X) (hb : Blk X bx #[vP, vD, vB] 43) : SdM X bx x F := by
  obtain ⟨oP, cP, rfl, _⟩ := own_slice hP
  obtain ⟨oD, cD, rfl, _⟩ := own_slice hD
  obtain ⟨oB, cB, rfl, _⟩ := own_slice hB
  have e : x.B.map u8V = x.B.flatMap (fun c => [u8V c]) := by induction x.B with
    | nil => rfl
    | cons c l ih => rw [List.map_cons, List.flatMap_cons, ih]; rfl
  rw [e] at hB
  refine ⟨hb.lt, oP, oD, oB, cP, cD, cB, hb, (RowAt.of_own encP_len hP hx1).below encP_len (by decide) hX, (RowAt.of_own encO_len hD hx2).below encO_len (by decide) hX, RowAt.below (k := 1) (fun _ => rfl) (by decide) (RowAt.of_own (enc := fun c => [u8V c]) (k := 1) (fun _ => rfl) hB hx3) hX, (row_caps hP).1, (row_caps hD).1, (row_caps hB).1⟩
end Go.Proofs.Ytjccoiephdopkaa
