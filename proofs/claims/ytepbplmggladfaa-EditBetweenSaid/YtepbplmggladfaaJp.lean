/- Stage 27: the rounds of Compose, byte by byte. -/
import Derived.Test.YtepbplmggladfaaJh
namespace Go.Proofs.Ytepbplmggladfaa
set_option linter.unusedVariables false
set_option linter.unusedSimpArgs false
open Go Go.RowKit Go.Shelf
set_option maxRecDepth 100000

theorem comp_noD {l : List Sp} {u : Nat} (h : CuV l u) (hk : kindC l ≠ 2) : ∀ (c : UInt8) (z : List Atm), restC l u = .D c :: z → False := by
  intro c z e
  rcases kind_rest h with ⟨_, _, h3⟩ | ⟨_, _, r, h3⟩ | ⟨h1, _⟩ | ⟨_, _, d, r, h3⟩
  · rw [h3] at e; cases e
  · rw [h3] at e; cases e
  · exact hk h1
  · rw [h3] at e; cases e
theorem bL_eq (s t : ByteArray) : (s.toList == t.toList) = decide (bL s = bL t) := by
  rw [ByteArray.toList_eq, ByteArray.toList_eq]
  show (bL s == bL t) = _
  by_cases h : bL s = bL t
  · rw [decide_eq_true h, beq_iff_eq]; exact h
  · rw [decide_eq_false h, beq_eq_false_iff_ne]; exact h
/-- How the loop of Compose stands. -/
structure CoP (X0 Y0 : List Atm) (N : Nat) (l1 : List Sp) (u1 : Nat) (l2 : List Sp) (u2 : Nat) (A : List Atm) : Prop where
  v1 : CuV l1 u1
  v2 : CuV l2 u2
  cp : compA X0 Y0 = (compA (restC l1 u1) (restC l2 u2)).map (A ++ ·)
  ct : outA (restC l1 u1) = inA (restC l2 u2)
  bd : inA (restC l2 u2) ≤ 65536
  ln : A.length + (restC l1 u1).length + (restC l2 u2).length ≤ N
theorem map2_app (A B : List Atm) (o : Option (List Atm)) : (o.map (B ++ ·)).map (A ++ ·) = o.map ((A ++ B) ++ ·) := by
  cases o with
  | none => rfl
  | some x => simp [List.append_assoc]
section
variable {X0 Y0 : List Atm} {N : Nat} {l1 l2 : List Sp} {u1 u2 n : Nat} {A : List Atm} {s t : ByteArray} {l' k' : List Sp} {u' v' : Nat}
theorem chk1 {k : Nat} {a b : List Atm} (h : Chk k s n a b) (hk : k = 1) : a = List.replicate n .K ++ b := by
  rcases h with ⟨_, h⟩ | ⟨h, _⟩ | ⟨h, _⟩
  · exact h
  · omega
  · omega
theorem chk2 {k : Nat} {a b : List Atm} (h : Chk k s n a b) (hk : k = 2) : (bL s).length = n ∧ a = (bL s).map .D ++ b := by
  rcases h with ⟨h, _⟩ | ⟨_, h⟩ | ⟨h, _⟩
  · omega
  · exact h
  · omega
theorem chk3 {k : Nat} {a b : List Atm} (h : Chk k s n a b) (hk : k = 3) : (bL s).length = n ∧ a = (bL s).map .P ++ b := by
  rcases h with ⟨h, _⟩ | ⟨h, _⟩ | ⟨_, h⟩
  · omega
  · omega
  · exact h
theorem co_x2 (h : CoP X0 Y0 N l1 u1 l2 u2 A) (ht : TkR l1 u1 n s l' u') (hk : kindC l1 = 2) : CoP X0 Y0 N l' u' l2 u2 (A ++ (bL s).map .D) ∧ s.size = n := by
  obtain ⟨h1, h2⟩ := chk2 ht.2.1 hk
  refine ⟨⟨ht.1, h.v2, ?_, ?_, h.bd, ?_⟩, by rw [← bL_len]; exact h1⟩
  · rw [h.cp, h2, comp_Ds, map2_app]
  · have := h.ct
    rw [h2, outA_append, (in_map_D _).2, Nat.zero_add] at this
    exact this
  · have := h.ln
    rw [h2] at this
    simp only [List.length_append, List.length_map] at this ⊢
    omega
theorem co_y3 (h : CoP X0 Y0 N l1 u1 l2 u2 A) (ht : TkR l2 u2 n s l' u') (hk1 : kindC l1 ≠ 2) (hk : kindC l2 = 3) : CoP X0 Y0 N l1 u1 l' u' (A ++ (bL s).map .P) ∧ s.size = n := by
  obtain ⟨h1, h2⟩ := chk3 ht.2.1 hk
  have e : inA (restC l2 u2) = inA (restC l' u') := by rw [h2, inA_append, (in_map_P _).1, Nat.zero_add]
  refine ⟨⟨h.v1, ht.1, ?_, h.ct.trans e, by have := h.bd; omega, ?_⟩, by rw [← bL_len]; exact h1⟩
  · rw [h.cp, h2, comp_Ps _ _ _ (comp_noD h.v1 hk1), map2_app]
  · have := h.ln
    rw [h2] at this
    simp only [List.length_append, List.length_map] at this ⊢
    omega
theorem co_11 (h : CoP X0 Y0 N l1 u1 l2 u2 A) (ht : TkR l1 u1 n s l' u') (hq : TkR l2 u2 n t k' v') (hk1 : kindC l1 = 1) (hk2 : kindC l2 = 1) : CoP X0 Y0 N l' u' k' v' (A ++ List.replicate n .K) ∧ n ≤ 65536 := by
  have h2 := chk1 ht.2.1 hk1
  have g2 := chk1 hq.2.1 hk2
  have hb := h.bd
  rw [g2, inA_append, (in_rep_K n).1] at hb
  refine ⟨⟨ht.1, hq.1, ?_, ?_, by omega, ?_⟩, by omega⟩
  · rw [h.cp, h2, g2, comp_KK, map2_app]
  · have := h.ct
    rw [h2, g2, outA_append, inA_append, (in_rep_K n).1, (in_rep_K n).2] at this
    omega
  · have := h.ln
    rw [h2, g2] at this
    simp only [List.length_append, List.length_replicate] at this ⊢
    omega
theorem co_12 (h : CoP X0 Y0 N l1 u1 l2 u2 A) (ht : TkR l1 u1 n s l' u') (hq : TkR l2 u2 n t k' v') (hk1 : kindC l1 = 1) (hk2 : kindC l2 = 2) : CoP X0 Y0 N l' u' k' v' (A ++ (bL t).map .D) ∧ t.size = n := by
  have h2 := chk1 ht.2.1 hk1
  obtain ⟨g1, g2⟩ := chk2 hq.2.1 hk2
  have hb := h.bd
  rw [g2, inA_append, (in_map_D _).1] at hb
  rw [← g1] at h2
  refine ⟨⟨ht.1, hq.1, ?_, ?_, by omega, ?_⟩, by rw [← bL_len]; exact g1⟩
  · rw [h.cp, h2, g2, comp_KD, map2_app]
  · have := h.ct
    rw [h2, g2, outA_append, inA_append, (in_rep_K _).2, (in_map_D _).1] at this
    omega
  · have := h.ln
    rw [h2, g2] at this
    simp only [List.length_append, List.length_replicate, List.length_map] at this ⊢
    omega
theorem co_31 (h : CoP X0 Y0 N l1 u1 l2 u2 A) (ht : TkR l1 u1 n s l' u') (hq : TkR l2 u2 n t k' v') (hk1 : kindC l1 = 3) (hk2 : kindC l2 = 1) : CoP X0 Y0 N l' u' k' v' (A ++ (bL s).map .P) ∧ s.size = n := by
  obtain ⟨h1, h2⟩ := chk3 ht.2.1 hk1
  have g2 := chk1 hq.2.1 hk2
  rw [← h1] at g2
  have hb := h.bd
  rw [g2, inA_append, (in_rep_K _).1] at hb
  refine ⟨⟨ht.1, hq.1, ?_, ?_, by omega, ?_⟩, by rw [← bL_len]; exact h1⟩
  · rw [h.cp, h2, g2, comp_PK, map2_app]
  · have := h.ct
    rw [h2, g2, outA_append, inA_append, (in_rep_K _).1, (in_map_P _).2] at this
    omega
  · have := h.ln
    rw [h2, g2] at this
    simp only [List.length_append, List.length_replicate, List.length_map] at this ⊢
    omega
theorem co_32 (h : CoP X0 Y0 N l1 u1 l2 u2 A) (ht : TkR l1 u1 n s l' u') (hq : TkR l2 u2 n t k' v') (hk1 : kindC l1 = 3) (hk2 : kindC l2 = 2) : if bL s = bL t then CoP X0 Y0 N l' u' k' v' A else compA X0 Y0 = none := by
  obtain ⟨h1, h2⟩ := chk3 ht.2.1 hk1
  obtain ⟨g1, g2⟩ := chk2 hq.2.1 hk2
  have hb := h.bd
  rw [g2, inA_append, (in_map_D _).1] at hb
  have hc := h.cp
  rw [h2, g2, comp_PD _ _ _ _ (by omega)] at hc
  split
  · rename_i e
    rw [if_pos e] at hc
    refine ⟨ht.1, hq.1, hc, ?_, by omega, ?_⟩
    · have := h.ct
      rw [h2, g2, outA_append, inA_append, (in_map_D _).1, (in_map_P _).2] at this
      omega
    · have := h.ln
      rw [h2, g2] at this
      simp only [List.length_append, List.length_map] at this ⊢
      omega
  · rename_i e
    rw [if_neg e] at hc
    exact hc
theorem co_end (h : CoP X0 Y0 N l1 u1 l2 u2 A) (hk1 : kindC l1 = 0) (hk2 : kindC l2 ≠ 3) : compA X0 Y0 = some A := by
  have hc := h.cp
  have hct := h.ct
  rcases kind_rest h.v1 with ⟨_, _, h3⟩ | ⟨e, _⟩ | ⟨e, _⟩ | ⟨e, _⟩
  · rw [h3] at hc hct
    rcases kind_rest h.v2 with ⟨_, _, g3⟩ | ⟨_, _, r, g3⟩ | ⟨_, _, c, r, g3⟩ | ⟨e, _⟩
    · rw [g3] at hc
      rw [hc]; simp [compA]
    · rw [g3] at hct; simp only [outA, inA] at hct; omega
    · rw [g3] at hct; simp only [outA, inA] at hct; omega
    · omega
  · omega
  · omega
  · omega
theorem co_no0 (h : CoP X0 Y0 N l1 u1 l2 u2 A) (hk1 : kindC l1 ≠ 0) (hk1' : kindC l1 ≠ 2) : l1 ≠ [] ∧ l2 ≠ [] ∧ 0 < leftC u1 l1 ∧ 0 < leftC u2 l2 ∧ kindC l2 ≠ 0 := by
  have hct := h.ct
  have h0 : 0 < outA (restC l1 u1) ∧ 0 < leftC u1 l1 ∧ l1 ≠ [] := by
    rcases kind_rest h.v1 with ⟨e, _⟩ | ⟨_, q, r, h3⟩ | ⟨e, _⟩ | ⟨_, q, c, r, h3⟩
    · omega
    · rw [h3]; simp only [outA]; exact ⟨by omega, q, fun e => by rw [e] at q; exact absurd q (Nat.lt_irrefl 0)⟩
    · omega
    · rw [h3]; simp only [outA]; exact ⟨by omega, q, fun e => by rw [e] at q; exact absurd q (Nat.lt_irrefl 0)⟩
  rcases kind_rest h.v2 with ⟨e, _, g3⟩ | ⟨e, q, r, g3⟩ | ⟨e, q, c, r, g3⟩ | ⟨e, q, c, r, g3⟩
  · rw [g3] at hct; simp only [inA] at hct; omega
  all_goals exact ⟨h0.2.2, fun e2 => by rw [e2] at q; exact absurd q (Nat.lt_irrefl 0), h0.2.1, q, by omega⟩
theorem ne_of_kind {l : List Sp} (h : kindC l ≠ 0) : l ≠ [] := fun e => h (by rw [e]; rfl)
theorem kind_lt {l : List Sp} {u : Nat} (h : CuV l u) : kindC l = 0 ∨ kindC l = 1 ∨ kindC l = 2 ∨ kindC l = 3 := by
  rcases kind_rest h with h | h | h | h
  · exact .inl h.1
  · exact .inr (.inl h.1)
  · exact .inr (.inr (.inl h.1))
  · exact .inr (.inr (.inr h.1))
end
theorem row_caps {W : World} {b : Nat} {e : TypeId} {sz n c : Nat} {a : Option Addr} {xs : List Value} (h : W.ownsRow b e sz (.slice a n c) n xs) : n ≤ c ∧ c ≤ 9223372036854775807 := by
  rcases h.2 with ⟨e, h0⟩ | ⟨g', c', cur, e, hb, hg, h1, h2, h3, h4⟩
  · simp only [Value.slice.injEq] at e; omega
  · simp only [Value.slice.injEq] at e; unfold maxLen at h2; omega
/-- What a call of plain has told of a change. -/
def PlF (l : List Sp) (F T : Nat) : Prop := CuV l 0 ∧ inA (atL l) = F ∧ outA (atL l) = T ∧ F ≤ 65536 ∧ T ≤ 65536 ∧ l.length ≤ F + T ∧ (atL l).length ≤ F + T
end Go.Proofs.Ytepbplmggladfaa
