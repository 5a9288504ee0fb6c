/- Stage 27: the rounds of Carry, byte by byte. -/
import Derived.Test.YtepbplmggladfaaJk
namespace Go.Proofs.Ytepbplmggladfaa
set_option linter.unusedVariables false
set_option linter.unusedSimpArgs false
open Go Go.RowKit Go.Shelf
set_option maxRecDepth 100000

def mapU (A B : List Atm) (o : Option (List Atm × List Atm)) : Option (List Atm × List Atm) := o.map fun r => (A ++ r.1, B ++ r.2)
theorem mapU_nil (o : Option (List Atm × List Atm)) : mapU [] [] o = o := by cases o <;> rfl
theorem mapU_mapU (A B C D : List Atm) (o : Option (List Atm × List Atm)) : mapU A B (mapU C D o) = mapU (A ++ C) (B ++ D) o := by cases o <;> simp [mapU]
theorem carr_P (c : UInt8) (x y : List Atm) : carrA (.P c :: x) y = mapU [.P c] [.K] (carrA x y) := by rw [carrA]; rfl
theorem carr_yP (c : UInt8) (x y : List Atm) (hx : ∀ (c : UInt8) (z : List Atm), x = .P c :: z → False) : carrA x (.P c :: y) = mapU [.K] [.P c] (carrA x y) := carrA.eq_2 x c y hx
theorem carr_Ps (ps : List UInt8) (x y : List Atm) : carrA (ps.map .P ++ x) y = mapU (ps.map .P) (List.replicate ps.length .K) (carrA x y) := by
  induction ps with
  | nil => exact (mapU_nil _).symm
  | cons c ps ih => rw [List.map_cons, List.cons_append, carr_P, ih, mapU_mapU]; rfl
theorem carr_yPs (ps : List UInt8) (x y : List Atm) (hx : ∀ (c : UInt8) (z : List Atm), x = .P c :: z → False) : carrA x (ps.map .P ++ y) = mapU (List.replicate ps.length .K) (ps.map .P) (carrA x y) := by
  induction ps with
  | nil => exact (mapU_nil _).symm
  | cons c ps ih => rw [List.map_cons, List.cons_append, carr_yP _ _ _ hx, ih, mapU_mapU]; rfl
theorem carr_KK (n : Nat) (x y : List Atm) : carrA (List.replicate n .K ++ x) (List.replicate n .K ++ y) = mapU (List.replicate n .K) (List.replicate n .K) (carrA x y) := by
  induction n with
  | zero => exact (mapU_nil _).symm
  | succ n ih =>
    rw [List.replicate_succ, List.cons_append, List.cons_append, carrA, ih]
    show mapU [.K] [.K] _ = _
    rw [mapU_mapU]; rfl
theorem carr_DK (ds : List UInt8) (x y : List Atm) : carrA (ds.map .D ++ x) (List.replicate ds.length .K ++ y) = mapU (ds.map .D) [] (carrA x y) := by
  induction ds with
  | nil => exact (mapU_nil _).symm
  | cons c ds ih =>
    rw [List.map_cons, List.length_cons, List.replicate_succ, List.cons_append, List.cons_append, carrA, ih]
    show mapU [.D c] [] _ = _
    rw [mapU_mapU]; rfl
theorem carr_KD (ds : List UInt8) (x y : List Atm) : carrA (List.replicate ds.length .K ++ x) (ds.map .D ++ y) = mapU [] (ds.map .D) (carrA x y) := by
  induction ds with
  | nil => exact (mapU_nil _).symm
  | cons c ds ih =>
    rw [List.map_cons, List.length_cons, List.replicate_succ, List.cons_append, List.cons_append, carrA, ih]
    show mapU [] [.D c] _ = _
    rw [mapU_mapU]; rfl
theorem carr_DD : ∀ (ps ds : List UInt8) (x y : List Atm), ps.length = ds.length → carrA (ps.map .D ++ x) (ds.map .D ++ y) = if ps = ds then carrA x y else none
  | [], [], x, y, _ => by simp
  | [], d :: ds, _, _, h => by simp at h
  | c :: ps, [], _, _, h => by simp at h
  | c :: ps, d :: ds, x, y, h => by
    rw [List.map_cons, List.map_cons, List.cons_append, List.cons_append, carrA, carr_DD ps ds x y (by simpa using h)]
    by_cases e : c = d
    · subst e; simp
    · simp [e]
theorem carr_noP {l : List Sp} {u : Nat} (h : CuV l u) (hk : kindC l ≠ 3) : ∀ (c : UInt8) (z : List Atm), restC l u = .P c :: z → False := by
  intro c z e
  rcases kind_rest h with ⟨_, _, h3⟩ | ⟨_, _, r, h3⟩ | ⟨_, _, d, r, h3⟩ | ⟨h1, _⟩
  · rw [h3] at e; cases e
  · rw [h3] at e; cases e
  · rw [h3] at e; cases e
  · exact hk h1
/-- How the loop of Carry stands. -/
structure CaP (X0 Y0 : List Atm) (l1 : List Sp) (u1 : Nat) (l2 : List Sp) (u2 : Nat) (U V : List Atm) (z : Nat) : Prop where
  v1 : CuV l1 u1
  v2 : CuV l2 u2
  cp : carrA X0 Y0 = mapU U V (carrA (restC l1 u1) (restC l2 u2))
  ct : inA (restC l1 u1) = inA (restC l2 u2)
  b1 : inA (restC l1 u1) ≤ 65536
  b2 : outA (restC l1 u1) ≤ 65536
  b3 : outA (restC l2 u2) ≤ 65536
  sz : z = outA U
  lu : U.length + (restC l1 u1).length + (restC l2 u2).length ≤ 300000
  lv : V.length + (restC l1 u1).length + (restC l2 u2).length ≤ 300000
theorem out_le (A : List Atm) : outA A ≤ A.length := by
  induction A with
  | nil => exact Nat.le_refl _
  | cons a A ih => cases a <;> simp only [outA, List.length_cons] <;> omega
section
variable {X0 Y0 : List Atm} {l1 l2 : List Sp} {u1 u2 n z : Nat} {U V : List Atm} {s t : ByteArray} {l' k' : List Sp} {u' v' : Nat}
theorem CaP.z6 (h : CaP X0 Y0 l1 u1 l2 u2 U V z) : z ≤ 300000 ∧ U.length ≤ 300000 ∧ V.length ≤ 300000 := by
  have := out_le U
  have := h.sz
  have := h.lu
  have := h.lv
  omega
theorem ca_x3 (h : CaP X0 Y0 l1 u1 l2 u2 U V z) (ht : TkR l1 u1 n s l' u') (hk : kindC l1 = 3) : CaP X0 Y0 l' u' l2 u2 (U ++ (bL s).map .P) (V ++ List.replicate n .K) (z + n) ∧ s.size = n ∧ n ≤ 65536 := by
  obtain ⟨h1, h2⟩ := chk3 ht.2.1 hk
  have c1 := h.ct
  have c2 := h.b1
  have c3 := h.b2
  have c4 := h.lu
  have c5 := h.lv
  have c6 := h.sz
  have c7 := h.cp
  rw [h2] at c1 c2 c3 c4 c5 c7
  rw [carr_Ps, mapU_mapU, h1] at c7
  rw [inA_append, (in_map_P _).1] at c1 c2
  rw [outA_append, (in_map_P _).2] at c3
  simp only [List.length_append, List.length_map] at c4 c5
  refine ⟨⟨ht.1, h.v2, c7, by omega, by omega, by omega, h.b3, ?_, ?_, ?_⟩, by rw [← bL_len]; exact h1, by omega⟩
  · rw [outA_append, (in_map_P _).2]; omega
  · simp only [List.length_append, List.length_map]; omega
  · simp only [List.length_append, List.length_replicate]; omega
theorem ca_y3 (h : CaP X0 Y0 l1 u1 l2 u2 U V z) (ht : TkR l2 u2 n s l' u') (hk1 : kindC l1 ≠ 3) (hk : kindC l2 = 3) : CaP X0 Y0 l1 u1 l' u' (U ++ List.replicate n .K) (V ++ (bL s).map .P) (z + n) ∧ s.size = n ∧ n ≤ 65536 := by
  obtain ⟨h1, h2⟩ := chk3 ht.2.1 hk
  have c1 := h.ct
  have c3 := h.b3
  have c4 := h.lu
  have c5 := h.lv
  have c6 := h.sz
  have c7 := h.cp
  rw [h2] at c1 c3 c4 c5 c7
  rw [carr_yPs _ _ _ (carr_noP h.v1 hk1), mapU_mapU, h1] at c7
  rw [inA_append, (in_map_P _).1] at c1
  rw [outA_append, (in_map_P _).2] at c3
  simp only [List.length_append, List.length_map] at c4 c5
  refine ⟨⟨h.v1, ht.1, c7, by omega, h.b1, h.b2, by omega, ?_, ?_, ?_⟩, by rw [← bL_len]; exact h1, by omega⟩
  · rw [outA_append, (in_rep_K _).2]; omega
  · simp only [List.length_append, List.length_replicate]; omega
  · simp only [List.length_append, List.length_map]; omega
theorem ca_11 (h : CaP X0 Y0 l1 u1 l2 u2 U V z) (ht : TkR l1 u1 n s l' u') (hq : TkR l2 u2 n t k' v') (hk1 : kindC l1 = 1) (hk2 : kindC l2 = 1) : CaP X0 Y0 l' u' k' v' (U ++ List.replicate n .K) (V ++ List.replicate n .K) (z + n) ∧ n ≤ 65536 := by
  have h2 := chk1 ht.2.1 hk1
  have g2 := chk1 hq.2.1 hk2
  obtain ⟨c1, c2, c3, c8, c4, c5, c6, c7⟩ := And.intro h.ct (And.intro h.b1 (And.intro h.b2 (And.intro h.b3 (And.intro h.lu (And.intro h.lv (And.intro h.sz h.cp))))))
  rw [h2] at c1 c2 c3 c4 c5 c7
  rw [g2] at c1 c8 c4 c5 c7
  rw [carr_KK, mapU_mapU] at c7
  simp only [inA_append, outA_append, (in_rep_K n).1, (in_rep_K n).2, List.length_append, List.length_replicate] at c1 c2 c3 c8 c4 c5
  refine ⟨⟨ht.1, hq.1, c7, by omega, by omega, by omega, by omega, ?_, ?_, ?_⟩, by omega⟩
  · rw [outA_append, (in_rep_K _).2]; omega
  · simp only [List.length_append, List.length_replicate]; omega
  · simp only [List.length_append, List.length_replicate]; omega
theorem ca_21 (h : CaP X0 Y0 l1 u1 l2 u2 U V z) (ht : TkR l1 u1 n s l' u') (hq : TkR l2 u2 n t k' v') (hk1 : kindC l1 = 2) (hk2 : kindC l2 = 1) : CaP X0 Y0 l' u' k' v' (U ++ (bL s).map .D) V z ∧ s.size = n := by
  obtain ⟨h1, h2⟩ := chk2 ht.2.1 hk1
  have g2 := chk1 hq.2.1 hk2
  rw [← h1] at g2
  obtain ⟨c1, c2, c3, c8, c4, c5, c6, c7⟩ := And.intro h.ct (And.intro h.b1 (And.intro h.b2 (And.intro h.b3 (And.intro h.lu (And.intro h.lv (And.intro h.sz h.cp))))))
  rw [h2] at c1 c2 c3 c4 c5 c7
  rw [g2] at c1 c8 c4 c5 c7
  rw [carr_DK, mapU_mapU, List.append_nil] at c7
  simp only [inA_append, outA_append, (in_rep_K _).1, (in_rep_K _).2, (in_map_D _).1, (in_map_D _).2, List.length_append, List.length_replicate, List.length_map] at c1 c2 c3 c8 c4 c5
  refine ⟨⟨ht.1, hq.1, c7, by omega, by omega, by omega, by omega, ?_, ?_, by omega⟩, by rw [← bL_len]; exact h1⟩
  · rw [outA_append, (in_map_D _).2]; omega
  · simp only [List.length_append, List.length_map]; omega
theorem ca_12 (h : CaP X0 Y0 l1 u1 l2 u2 U V z) (ht : TkR l1 u1 n s l' u') (hq : TkR l2 u2 n t k' v') (hk1 : kindC l1 = 1) (hk2 : kindC l2 = 2) : CaP X0 Y0 l' u' k' v' U (V ++ (bL t).map .D) z ∧ t.size = n := by
  have h2 := chk1 ht.2.1 hk1
  obtain ⟨g1, g2⟩ := chk2 hq.2.1 hk2
  rw [← g1] at h2
  obtain ⟨c1, c2, c3, c8, c4, c5, c6, c7⟩ := And.intro h.ct (And.intro h.b1 (And.intro h.b2 (And.intro h.b3 (And.intro h.lu (And.intro h.lv (And.intro h.sz h.cp))))))
  rw [h2] at c1 c2 c3 c4 c5 c7
  rw [g2] at c1 c8 c4 c5 c7
  rw [carr_KD, mapU_mapU, List.append_nil] at c7
  simp only [inA_append, outA_append, (in_rep_K _).1, (in_rep_K _).2, (in_map_D _).1, (in_map_D _).2, List.length_append, List.length_replicate, List.length_map] at c1 c2 c3 c8 c4 c5
  refine ⟨⟨ht.1, hq.1, c7, by omega, by omega, by omega, by omega, c6, by omega, ?_⟩, by rw [← bL_len]; exact g1⟩
  simp only [List.length_append, List.length_map]; omega
theorem ca_22 (h : CaP X0 Y0 l1 u1 l2 u2 U V z) (ht : TkR l1 u1 n s l' u') (hq : TkR l2 u2 n t k' v') (hk1 : kindC l1 = 2) (hk2 : kindC l2 = 2) : if bL s = bL t then CaP X0 Y0 l' u' k' v' U V z else carrA X0 Y0 = none := by
  obtain ⟨h1, h2⟩ := chk2 ht.2.1 hk1
  obtain ⟨g1, g2⟩ := chk2 hq.2.1 hk2
  obtain ⟨c1, c2, c3, c8, c4, c5, c6, c7⟩ := And.intro h.ct (And.intro h.b1 (And.intro h.b2 (And.intro h.b3 (And.intro h.lu (And.intro h.lv (And.intro h.sz h.cp))))))
  rw [h2] at c1 c2 c3 c4 c5 c7
  rw [g2] at c1 c8 c4 c5 c7
  rw [carr_DD _ _ _ _ (by omega)] at c7
  simp only [inA_append, outA_append, (in_rep_K _).1, (in_rep_K _).2, (in_map_D _).1, (in_map_D _).2, List.length_append, List.length_replicate, List.length_map] at c1 c2 c3 c8 c4 c5
  split
  · rename_i e
    rw [if_pos e] at c7
    exact ⟨ht.1, hq.1, c7, by omega, by omega, by omega, by omega, c6, by omega, by omega⟩
  · rename_i e
    rw [if_neg e] at c7
    exact c7
theorem ca_end (h : CaP X0 Y0 l1 u1 l2 u2 U V z) (hk1 : kindC l1 = 0) (hk2 : kindC l2 ≠ 3) : carrA X0 Y0 = some (U, V) := by
  have hc := h.cp
  have hct := h.ct
  rcases kind_rest h.v1 with ⟨_, _, h3⟩ | ⟨e, _⟩ | ⟨e, _⟩ | ⟨e, _⟩
  · rw [h3] at hc hct
    rcases kind_rest h.v2 with ⟨_, _, g3⟩ | ⟨_, _, r, g3⟩ | ⟨_, _, c, r, g3⟩ | ⟨e, _⟩
    · rw [g3] at hc
      rw [hc]; simp [carrA, mapU]
    · rw [g3] at hct; simp only [inA] at hct; omega
    · rw [g3] at hct; simp only [inA] at hct; omega
    · omega
  · omega
  · omega
  · omega
theorem ca_no0 (h : CaP X0 Y0 l1 u1 l2 u2 U V z) (hk1 : kindC l1 ≠ 0) (hk1' : kindC l1 ≠ 3) : l1 ≠ [] ∧ l2 ≠ [] ∧ 0 < leftC u1 l1 ∧ 0 < leftC u2 l2 ∧ kindC l2 ≠ 0 := by
  have hct := h.ct
  have h0 : 0 < inA (restC l1 u1) ∧ 0 < leftC u1 l1 ∧ l1 ≠ [] := by
    rcases kind_rest h.v1 with ⟨e, _⟩ | ⟨_, q, r, h3⟩ | ⟨_, q, c, r, h3⟩ | ⟨e, _⟩
    · omega
    · rw [h3]; simp only [inA]; exact ⟨by omega, q, fun e => by rw [e] at q; exact absurd q (Nat.lt_irrefl 0)⟩
    · rw [h3]; simp only [inA]; exact ⟨by omega, q, fun e => by rw [e] at q; exact absurd q (Nat.lt_irrefl 0)⟩
    · omega
  rcases kind_rest h.v2 with ⟨e, _, g3⟩ | ⟨e, q, r, g3⟩ | ⟨e, q, c, r, g3⟩ | ⟨e, q, c, r, g3⟩
  · rw [g3] at hct; simp only [inA] at hct; omega
  all_goals exact ⟨h0.2.2, fun e2 => by rw [e2] at q; exact absurd q (Nat.lt_irrefl 0), h0.2.1, q, by omega⟩
end
end Go.Proofs.Ytepbplmggladfaa
