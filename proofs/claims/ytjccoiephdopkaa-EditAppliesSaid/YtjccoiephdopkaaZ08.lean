/- Several texts in one. -/
import Derived.Test.YtjccoiephdopkaaZ07
import Derived.Scope
/- Stage 27: sizes of the one form; what Compose answers where two changes may not be laid together. -/
namespace Go.Proofs.Ytjccoiephdopkaa
set_option linter.unusedVariables false
set_option linter.unusedSimpArgs false
open Go Go.RowKit Go.Shelf
set_option maxRecDepth 100000

theorem in_map_P (l : List UInt8) : inA (l.map .P) = 0 ∧ outA (l.map .P) = l.length := by
  induction l with
  | nil => exact ⟨rfl, rfl⟩
  | cons c l ih => simp only [List.map_cons, inA, outA, List.length_cons]; omega
theorem in_map_D (l : List UInt8) : inA (l.map .D) = l.length ∧ outA (l.map .D) = 0 := by
  induction l with
  | nil => exact ⟨rfl, rfl⟩
  | cons c l ih => simp only [List.map_cons, inA, outA, List.length_cons]; omega
theorem in_rep_K (n : Nat) : inA (List.replicate n .K) = n ∧ outA (List.replicate n .K) = n := by
  induction n with
  | zero => exact ⟨rfl, rfl⟩
  | succ n ih => simp only [List.replicate_succ, inA, outA]; omega
theorem in_atS (x : Sp) : inA (atS x) = x.k.toNat + x.d.size ∧ outA (atS x) = x.k.toNat + x.p.size := by
  unfold atS
  rw [inA_append, inA_append, outA_append, outA_append, (in_rep_K _).1, (in_rep_K _).2, (in_map_P _).1, (in_map_P _).2, (in_map_D _).1, (in_map_D _).2, bL_len, bL_len]
  omega
theorem atL_cons (x : Sp) (l : List Sp) : atL (x :: l) = atS x ++ atL l := rfl
theorem sizeG_in : ∀ (l : List Sp) (f t F T : Nat), sizeG l f t = some (F, T) → F = f + inA (atL l) ∧ T = t + outA (atL l) ∧ ∀ x ∈ l, kindN x ≠ 0
  | [], f, t, F, T, h => by
    simp only [sizeG, Option.some.injEq, Prod.mk.injEq] at h
    obtain ⟨rfl, rfl⟩ := h
    exact ⟨rfl, rfl, fun x hx => by cases hx⟩
  | x :: l, f, t, F, T, h => by
    unfold sizeG at h
    by_cases h0 : kindN x = 0 ∨ 65536 < x.k
    · rw [if_pos h0] at h; cases h
    · rw [if_neg h0] at h
      by_cases h1 : 65536 < f + x.k.toNat + x.d.size ∨ 65536 < t + x.k.toNat + x.p.size
      · rw [if_pos h1] at h; cases h
      · rw [if_neg h1] at h
        obtain ⟨e1, e2, e3⟩ := sizeG_in l _ _ F T h
        rw [atL_cons, inA_append, outA_append, (in_atS x).1, (in_atS x).2]
        refine ⟨by omega, by omega, fun y hy => ?_⟩
        rcases List.mem_cons.1 hy with rfl | hy
        · exact fun e => h0 (.inl e)
        · exact e3 y hy
theorem sizeG_of : ∀ (l : List Sp) (f t : Nat), (∀ x ∈ l, kindN x ≠ 0) → f + inA (atL l) ≤ 65536 → t + outA (atL l) ≤ 65536 → sizeG l f t = some (f + inA (atL l), t + outA (atL l))
  | [], f, t, _, _, _ => rfl
  | x :: l, f, t, h, hf, ht => by
    rw [atL_cons, inA_append, (in_atS x).1] at hf
    rw [atL_cons, outA_append, (in_atS x).2] at ht
    have hk := kind_pos (h x (by simp))
    unfold sizeG
    rw [if_neg (by intro e; rcases e with e | e; exact h x (by simp) e; omega), if_neg (by omega), sizeG_of l _ _ (fun y hy => h y (by simp [hy])) (by omega) (by omega)]
    rw [atL_cons, inA_append, outA_append, (in_atS x).1, (in_atS x).2]
    simp only [Option.some.injEq, Prod.mk.injEq]; omega
theorem mem_bd {l : List Sp} {x : Sp} (h : x ∈ l) : x.k.toNat + x.d.size ≤ inA (atL l) ∧ x.k.toNat + x.p.size ≤ outA (atL l) := by
  induction l with
  | nil => cases h
  | cons y l ih =>
    rw [atL_cons, inA_append, outA_append, (in_atS y).1, (in_atS y).2]
    rcases List.mem_cons.1 h with rfl | h
    · omega
    · have := ih h; omega
theorem len_le (l : List Sp) (h : ∀ x ∈ l, kindN x ≠ 0) : l.length ≤ (atL l).length := by
  induction l with
  | nil => simp
  | cons x l ih =>
    have h5 := kind_one (h x (by simp))
    have h6 := ih (fun y hy => h y (by simp [hy]))
    rw [atL_cons, List.length_append, atS_len, List.length_cons]
    unfold szS; omega
theorem at_len (A : List Atm) : A.length ≤ inA A + outA A := by
  induction A with
  | nil => simp
  | cons a A ih => cases a <;> simp only [List.length_cons, inA, outA] <;> omega
/-- The one form of a change that may be, for a cursor. -/
theorem plain_cu {l : List Sp} {F T : Nat} (h : sizeG l 0 0 = some (F, T)) : CuV (plainM l) 0 ∧ inA (atL (plainM l)) = F ∧ outA (atL (plainM l)) = T ∧ F ≤ 65536 ∧ T ≤ 65536 ∧ (plainM l).length ≤ F + T ∧ (atL (plainM l)).length ≤ F + T := by
  obtain ⟨e1, e2, e3⟩ := sizeG_in l 0 0 F T h
  have h6 : F ≤ 65536 ∧ T ≤ 65536 := by
    have key : ∀ (l : List Sp) (f t : Nat), f ≤ 65536 → t ≤ 65536 → sizeG l f t = some (F, T) → F ≤ 65536 ∧ T ≤ 65536 := by
      intro l
      induction l with
      | nil => intro f t hf ht h; simp only [sizeG, Option.some.injEq, Prod.mk.injEq] at h; omega
      | cons x l ih =>
        intro f t hf ht h
        unfold sizeG at h
        by_cases h0 : kindN x = 0 ∨ 65536 < x.k
        · rw [if_pos h0] at h; cases h
        · rw [if_neg h0] at h
          by_cases h1 : 65536 < f + x.k.toNat + x.d.size ∨ 65536 < t + x.k.toNat + x.p.size
          · rw [if_pos h1] at h; cases h
          · rw [if_neg h1] at h
            exact ih _ _ (by omega) (by omega) h
    exact key l 0 0 (by omega) (by omega) h
  rw [plain_fd]
  obtain ⟨g1, g2⟩ := nf_eq (atL l)
  have i1 := g1.inn
  have i2 := g1.out
  have hA := at_len (atL (nfA (atL l)))
  have hl := len_le _ g2
  refine ⟨⟨fun x hx => ?_, fun _ => rfl, fun x r e => ?_, by omega⟩, by omega, by omega, h6.1, h6.2, by omega, by omega⟩
  · have := mem_bd hx
    have hk := kind_pos (g2 x hx)
    exact ⟨g2 x hx, hk, by omega, by omega, by omega⟩
  · have := kind_one (g2 x (by rw [e]; simp))
    unfold szS; omega
theorem rowC2 {w : World} {g : Nat} {t : TypeId} {o1 o2 : Option Addr} {l1 l2 : List Sp} {c1 c2 : Nat} (h : w.heap[g]? = some (.cells #[.slice o1 l1.length c1, .slice o2 l2.length c2] t (0, 0))) : RowAt w encC 1 (some ⟨g, 0, none⟩) [⟨o1, l1, c1⟩, ⟨o2, l2, c2⟩] := by
  intro i x hi
  have hl : i < 2 := (List.getElem?_eq_some_iff.1 hi).1
  refine ⟨g, 0, rfl, fun j hj => ?_⟩
  have hc : ∀ o, w.cell? ⟨g, o, none⟩ = (#[.slice o1 l1.length c1, .slice o2 l2.length c2] : Array Value)[o]? := fun o => Blk.cell (t := t) h o
  rw [hc]
  match i, hl, hi, j, hj with
  | 0, _, hi, 0, _ => cases hi; rfl
  | 1, _, hi, 0, _ => cases hi; rfl
/-- What may of two changes says. -/
theorem may2_any (o1 o2 : Option Addr) (l1 l2 : List Sp) (c1 c2 : Nat) (hn1 : l1.length ≤ 9223372036854775807) (ho1 : OkS l1) (hn2 : l2.length ≤ 9223372036854775807) (ho2 : OkS l2) (w : World) (hr1 : RowAt w encS 3 o1 l1) (hr2 : RowAt w encS 3 o2 l2) :
    Calls Try.prog 25 #[.slice (some ⟨w.heap.size, 0, none⟩) 2 2] (w.alloc (.cells #[.slice o1 l1.length c1, .slice o2 l2.length c2] 22)) fun e w' => e = .returned (.bool ((sizeG l1 0 0).isSome && (sizeG l2 0 0).isSome)) ∧ Below w.heap.size w w' := by
  have hb := (Below.refl w.heap.size w).alloc (Nat.le_refl _) (.cells #[.slice o1 l1.length c1, .slice o2 l2.length c2] 22)
  refine (may_any [⟨o1, l1, c1⟩, ⟨o2, l2, c2⟩] (some ⟨w.heap.size, 0, none⟩) 2 (by simp) _ (rowC2 (World.alloc_heap_new w _)) ?_).mono ?_
  · intro x hx
    simp only [List.mem_cons, List.not_mem_nil, or_false] at hx
    rcases hx with rfl | rfl
    · exact ⟨hn1, ho1, hr1.below encS_len (by decide) hb⟩
    · exact ⟨hn2, ho2, hr2.below encS_len (by decide) hb⟩
  · rintro e w' ⟨rfl, hb2⟩
    exact ⟨by simp [mayB], hb.trans (hb2.mono (by simp))⟩
end Go.Proofs.Ytjccoiephdopkaa

/- Stage 27: the rounds of Compose, byte by byte. -/
namespace Go.Proofs.Ytjccoiephdopkaa
set_option linter.unusedVariables false
set_option linter.unusedSimpArgs false
open Go Go.RowKit Go.Shelf
set_option maxRecDepth 100000

theorem comp_noD {l : List Sp} {u : Nat} (h : CuV l u) (hk : kindC l ≠ 2) : ∀ (c : UInt8) (z : List Atm), restC l u = .D c :: z → False := by
  intro c z e
  rcases kind_rest h with ⟨_, _, h3⟩ | ⟨_, _, r, h3⟩ | ⟨h1, _⟩ | ⟨_, _, d, r, h3⟩
  · rw [h3] at e; cases e
  · rw [h3] at e; cases e
  · exact hk h1
  · rw [h3] at e; cases e
theorem bL_eq (s t : ByteArray) : (s.toList == t.toList) = decide (bL s = bL t) := by
  rw [ByteArray.toList_eq, ByteArray.toList_eq]
  show (bL s == bL t) = _
  by_cases h : bL s = bL t
  · rw [decide_eq_true h, beq_iff_eq]; exact h
  · rw [decide_eq_false h, beq_eq_false_iff_ne]; exact h
/-- How the loop of Compose stands. -/
structure CoP (X0 Y0 : List Atm) (N : Nat) (l1 : List Sp) (u1 : Nat) (l2 : List Sp) (u2 : Nat) (A : List Atm) : Prop where
  v1 : CuV l1 u1
  v2 : CuV l2 u2
  cp : compA X0 Y0 = (compA (restC l1 u1) (restC l2 u2)).map (A ++ ·)
  ct : outA (restC l1 u1) = inA (restC l2 u2)
  bd : inA (restC l2 u2) ≤ 65536
  ln : A.length + (restC l1 u1).length + (restC l2 u2).length ≤ N
theorem map2_app (A B : List Atm) (o : Option (List Atm)) : (o.map (B ++ ·)).map (A ++ ·) = o.map ((A ++ B) ++ ·) := by
  cases o with
  | none => rfl
  | some x => simp [List.append_assoc]
section
variable {X0 Y0 : List Atm} {N : Nat} {l1 l2 : List Sp} {u1 u2 n : Nat} {A : List Atm} {s t : ByteArray} {l' k' : List Sp} {u' v' : Nat}
theorem chk1 {k : Nat} {a b : List Atm} (h : Chk k s n a b) (hk : k = 1) : a = List.replicate n .K ++ b := by
  rcases h with ⟨_, h⟩ | ⟨h, _⟩ | ⟨h, _⟩
  · exact h
  · omega
  · omega
theorem chk2 {k : Nat} {a b : List Atm} (h : Chk k s n a b) (hk : k = 2) : (bL s).length = n ∧ a = (bL s).map .D ++ b := by
  rcases h with ⟨h, _⟩ | ⟨_, h⟩ | ⟨h, _⟩
  · omega
  · exact h
  · omega
theorem chk3 {k : Nat} {a b : List Atm} (h : Chk k s n a b) (hk : k = 3) : (bL s).length = n ∧ a = (bL s).map .P ++ b := by
  rcases h with ⟨h, _⟩ | ⟨h, _⟩ | ⟨_, h⟩
  · omega
  · omega
  · exact h
theorem co_x2 (h : CoP X0 Y0 N l1 u1 l2 u2 A) (ht : TkR l1 u1 n s l' u') (hk : kindC l1 = 2) : CoP X0 Y0 N l' u' l2 u2 (A ++ (bL s).map .D) ∧ s.size = n := by
  obtain ⟨h1, h2⟩ := chk2 ht.2.1 hk
  refine ⟨⟨ht.1, h.v2, ?_, ?_, h.bd, ?_⟩, by rw [← bL_len]; exact h1⟩
  · rw [h.cp, h2, comp_Ds, map2_app]
  · have := h.ct
    rw [h2, outA_append, (in_map_D _).2, Nat.zero_add] at this
    exact this
  · have := h.ln
    rw [h2] at this
    simp only [List.length_append, List.length_map] at this ⊢
    omega
theorem co_y3 (h : CoP X0 Y0 N l1 u1 l2 u2 A) (ht : TkR l2 u2 n s l' u') (hk1 : kindC l1 ≠ 2) (hk : kindC l2 = 3) : CoP X0 Y0 N l1 u1 l' u' (A ++ (bL s).map .P) ∧ s.size = n := by
  obtain ⟨h1, h2⟩ := chk3 ht.2.1 hk
  have e : inA (restC l2 u2) = inA (restC l' u') := by rw [h2, inA_append, (in_map_P _).1, Nat.zero_add]
  refine ⟨⟨h.v1, ht.1, ?_, h.ct.trans e, by have := h.bd; omega, ?_⟩, by rw [← bL_len]; exact h1⟩
  · rw [h.cp, h2, comp_Ps _ _ _ (comp_noD h.v1 hk1), map2_app]
  · have := h.ln
    rw [h2] at this
    simp only [List.length_append, List.length_map] at this ⊢
    omega
theorem co_11 (h : CoP X0 Y0 N l1 u1 l2 u2 A) (ht : TkR l1 u1 n s l' u') (hq : TkR l2 u2 n t k' v') (hk1 : kindC l1 = 1) (hk2 : kindC l2 = 1) : CoP X0 Y0 N l' u' k' v' (A ++ List.replicate n .K) ∧ n ≤ 65536 := by
  have h2 := chk1 ht.2.1 hk1
  have g2 := chk1 hq.2.1 hk2
  have hb := h.bd
  rw [g2, inA_append, (in_rep_K n).1] at hb
  refine ⟨⟨ht.1, hq.1, ?_, ?_, by omega, ?_⟩, by omega⟩
  · rw [h.cp, h2, g2, comp_KK, map2_app]
  · have := h.ct
    rw [h2, g2, outA_append, inA_append, (in_rep_K n).1, (in_rep_K n).2] at this
    omega
  · have := h.ln
    rw [h2, g2] at this
    simp only [List.length_append, List.length_replicate] at this ⊢
    omega
theorem co_12 (h : CoP X0 Y0 N l1 u1 l2 u2 A) (ht : TkR l1 u1 n s l' u') (hq : TkR l2 u2 n t k' v') (hk1 : kindC l1 = 1) (hk2 : kindC l2 = 2) : CoP X0 Y0 N l' u' k' v' (A ++ (bL t).map .D) ∧ t.size = n := by
  have h2 := chk1 ht.2.1 hk1
  obtain ⟨g1, g2⟩ := chk2 hq.2.1 hk2
  have hb := h.bd
  rw [g2, inA_append, (in_map_D _).1] at hb
  rw [← g1] at h2
  refine ⟨⟨ht.1, hq.1, ?_, ?_, by omega, ?_⟩, by rw [← bL_len]; exact g1⟩
  · rw [h.cp, h2, g2, comp_KD, map2_app]
  · have := h.ct
    rw [h2, g2, outA_append, inA_append, (in_rep_K _).2, (in_map_D _).1] at this
    omega
  · have := h.ln
    rw [h2, g2] at this
    simp only [List.length_append, List.length_replicate, List.length_map] at this ⊢
    omega
theorem co_31 (h : CoP X0 Y0 N l1 u1 l2 u2 A) (ht : TkR l1 u1 n s l' u') (hq : TkR l2 u2 n t k' v') (hk1 : kindC l1 = 3) (hk2 : kindC l2 = 1) : CoP X0 Y0 N l' u' k' v' (A ++ (bL s).map .P) ∧ s.size = n := by
  obtain ⟨h1, h2⟩ := chk3 ht.2.1 hk1
  have g2 := chk1 hq.2.1 hk2
  rw [← h1] at g2
  have hb := h.bd
  rw [g2, inA_append, (in_rep_K _).1] at hb
  refine ⟨⟨ht.1, hq.1, ?_, ?_, by omega, ?_⟩, by rw [← bL_len]; exact h1⟩
  · rw [h.cp, h2, g2, comp_PK, map2_app]
  · have := h.ct
    rw [h2, g2, outA_append, inA_append, (in_rep_K _).1, (in_map_P _).2] at this
    omega
  · have := h.ln
    rw [h2, g2] at this
    simp only [List.length_append, List.length_replicate, List.length_map] at this ⊢
    omega
theorem co_32 (h : CoP X0 Y0 N l1 u1 l2 u2 A) (ht : TkR l1 u1 n s l' u') (hq : TkR l2 u2 n t k' v') (hk1 : kindC l1 = 3) (hk2 : kindC l2 = 2) : if bL s = bL t then CoP X0 Y0 N l' u' k' v' A else compA X0 Y0 = none := by
  obtain ⟨h1, h2⟩ := chk3 ht.2.1 hk1
  obtain ⟨g1, g2⟩ := chk2 hq.2.1 hk2
  have hb := h.bd
  rw [g2, inA_append, (in_map_D _).1] at hb
  have hc := h.cp
  rw [h2, g2, comp_PD _ _ _ _ (by omega)] at hc
  split
  · rename_i e
    rw [if_pos e] at hc
    refine ⟨ht.1, hq.1, hc, ?_, by omega, ?_⟩
    · have := h.ct
      rw [h2, g2, outA_append, inA_append, (in_map_D _).1, (in_map_P _).2] at this
      omega
    · have := h.ln
      rw [h2, g2] at this
      simp only [List.length_append, List.length_map] at this ⊢
      omega
  · rename_i e
    rw [if_neg e] at hc
    exact hc
theorem co_end (h : CoP X0 Y0 N l1 u1 l2 u2 A) (hk1 : kindC l1 = 0) (hk2 : kindC l2 ≠ 3) : compA X0 Y0 = some A := by
  have hc := h.cp
  have hct := h.ct
  rcases kind_rest h.v1 with ⟨_, _, h3⟩ | ⟨e, _⟩ | ⟨e, _⟩ | ⟨e, _⟩
  · rw [h3] at hc hct
    rcases kind_rest h.v2 with ⟨_, _, g3⟩ | ⟨_, _, r, g3⟩ | ⟨_, _, c, r, g3⟩ | ⟨e, _⟩
    · rw [g3] at hc
      rw [hc]; simp [compA]
    · rw [g3] at hct; simp only [outA, inA] at hct; omega
    · rw [g3] at hct; simp only [outA, inA] at hct; omega
    · omega
  · omega
  · omega
  · omega
theorem co_no0 (h : CoP X0 Y0 N l1 u1 l2 u2 A) (hk1 : kindC l1 ≠ 0) (hk1' : kindC l1 ≠ 2) : l1 ≠ [] ∧ l2 ≠ [] ∧ 0 < leftC u1 l1 ∧ 0 < leftC u2 l2 ∧ kindC l2 ≠ 0 := by
  have hct := h.ct
  have h0 : 0 < outA (restC l1 u1) ∧ 0 < leftC u1 l1 ∧ l1 ≠ [] := by
    rcases kind_rest h.v1 with ⟨e, _⟩ | ⟨_, q, r, h3⟩ | ⟨e, _⟩ | ⟨_, q, c, r, h3⟩
    · omega
    · rw [h3]; simp only [outA]; exact ⟨by omega, q, fun e => by rw [e] at q; exact absurd q (Nat.lt_irrefl 0)⟩
    · omega
    · rw [h3]; simp only [outA]; exact ⟨by omega, q, fun e => by rw [e] at q; exact absurd q (Nat.lt_irrefl 0)⟩
  rcases kind_rest h.v2 with ⟨e, _, g3⟩ | ⟨e, q, r, g3⟩ | ⟨e, q, c, r, g3⟩ | ⟨e, q, c, r, g3⟩
  · rw [g3] at hct; simp only [inA] at hct; omega
  all_goals exact ⟨h0.2.2, fun e2 => by rw [e2] at q; exact absurd q (Nat.lt_irrefl 0), h0.2.1, q, by omega⟩
theorem ne_of_kind {l : List Sp} (h : kindC l ≠ 0) : l ≠ [] := fun e => h (by rw [e]; rfl)
theorem kind_lt {l : List Sp} {u : Nat} (h : CuV l u) : kindC l = 0 ∨ kindC l = 1 ∨ kindC l = 2 ∨ kindC l = 3 := by
  rcases kind_rest h with h | h | h | h
  · exact .inl h.1
  · exact .inr (.inl h.1)
  · exact .inr (.inr (.inl h.1))
  · exact .inr (.inr (.inr h.1))
end
theorem row_caps {W : World} {b : Nat} {e : TypeId} {sz n c : Nat} {a : Option Addr} {xs : List Value} (h : W.ownsRow b e sz (.slice a n c) n xs) : n ≤ c ∧ c ≤ 9223372036854775807 := by
  rcases h.2 with ⟨e, h0⟩ | ⟨g', c', cur, e, hb, hg, h1, h2, h3, h4⟩
  · simp only [Value.slice.injEq] at e; omega
  · simp only [Value.slice.injEq] at e; unfold maxLen at h2; omega
/-- What a call of plain has told of a change. -/
def PlF (l : List Sp) (F T : Nat) : Prop := CuV l 0 ∧ inA (atL l) = F ∧ outA (atL l) = T ∧ F ≤ 65536 ∧ T ≤ 65536 ∧ l.length ≤ F + T ∧ (atL l).length ≤ F + T
end Go.Proofs.Ytjccoiephdopkaa

/- Stage 27: Apply. -/
namespace Go.Proofs.Ytjccoiephdopkaa
set_option linter.unusedVariables false
set_option linter.unusedSimpArgs false
open Go Go.RowKit Go.Shelf
set_option maxRecDepth 100000

theorem run_Ks (n : Nat) (A : List Atm) (s : List UInt8) (h : n ≤ s.length) : runA (List.replicate n .K ++ A) s = (runA A (s.drop n)).map fun r => (s.take n ++ r.1, r.2) := by
  induction n generalizing s with
  | zero => cases hr : runA A s <;> simp [hr]
  | succ n ih =>
    cases s with
    | nil => simp at h
    | cons c s =>
      rw [List.replicate_succ, List.cons_append, runA, ih s (by simpa using h)]
      cases hr : runA A (s.drop n) <;> simp [hr]
theorem run_Ps (ps : List UInt8) (A : List Atm) (s : List UInt8) : runA (ps.map .P ++ A) s = (runA A s).map fun r => (ps ++ r.1, r.2) := by
  induction ps with
  | nil => cases hr : runA A s <;> simp [hr]
  | cons c ps ih =>
    rw [List.map_cons, List.cons_append, runA, ih]
    cases hr : runA A s <;> simp
theorem run_Ds (ds : List UInt8) (A : List Atm) (s : List UInt8) (h : ds.length ≤ s.length) : runA (ds.map .D ++ A) s = if s.take ds.length = ds then runA A (s.drop ds.length) else none := by
  induction ds generalizing s with
  | nil => simp
  | cons d ds ih =>
    cases s with
    | nil => simp at h
    | cons c s =>
      rw [List.map_cons, List.cons_append, runA, ih s (by simpa using h)]
      by_cases e : c = d
      · subst e; simp
      · simp [e]
theorem run_step {x : Sp} (hx : okSp x) (A : List Atm) (s : List UInt8) (h : inA (atS x) ≤ s.length) :
    runA (atS x ++ A) s = if s.take x.d.size = bL x.d then (runA A (s.drop (x.k.toNat + x.d.size))).map fun r => (s.take x.k.toNat ++ bL x.p ++ r.1, r.2) else none := by
  rw [(in_atS x).1] at h
  obtain ⟨k, d, p⟩ := x
  rcases kind_three k d p with h0 | ⟨h1, h2, h3, h4⟩ | ⟨h1, h2, h3, h4⟩ | ⟨h1, h2, h3, h4⟩
  · exact absurd h0 hx.1
  · subst h2; subst h3
    simp only [emp_size, Nat.add_zero] at h
    have e : atS ⟨k, .empty, .empty⟩ = List.replicate k.toNat .K := by simp [atS, bL_emp]
    rw [e, run_Ks _ _ _ h]
    simp [emp_size, bL_emp]
  · subst h1; subst h2
    have e : atS ⟨0, d, .empty⟩ = (bL d).map .D := by simp [atS, bL_emp]
    rw [e, run_Ds _ _ _ (by rw [bL_len]; simpa using h), bL_len]
    simp only [Int.toNat_zero, Nat.zero_add, List.take_zero, bL_emp, List.append_nil, List.nil_append]
    split
    · cases runA A (s.drop d.size) <;> rfl
    · rfl
  · subst h1; subst h2
    have e : atS ⟨0, .empty, p⟩ = (bL p).map .P := by simp [atS, bL_emp]
    rw [e, run_Ps]
    simp [emp_size, bL_emp]
/-- What Apply answers of a change of as many bytes. -/
def AppR (s : ByteArray) (l : List Sp) (e : Ending) : Prop :=
  (runA (atL l) (bL s) = none ∧ e = .returned (.tuple #[.string .empty, .int .i64 270])) ∨ ∃ t : ByteArray, runA (atL l) (bL s) = some (bL t, []) ∧ e = .returned (.tuple #[.string t, .int .i64 0])
theorem infoByte : (Try.prog.info? 5).map (fun i => (i.zero, i.size, i.bytes)) = some (some (.int .u8 0), 1, 1) := by kernel_rfl
/-- How the loop of Apply stands. -/
structure ApP (s : ByteArray) (l : List Sp) (k at' : Nat) (out : ByteArray) : Prop where
  le : k ≤ l.length
  rn : runA (atL l) (bL s) = (runA (atL (l.drop k)) ((bL s).drop at')).map fun r => (bL out ++ r.1, r.2)
  fr : at' + inA (atL (l.drop k)) = s.size
  ot : out.size + outA (atL (l.drop k)) ≤ 65536
theorem ap_step {s : ByteArray} {l : List Sp} {k at' : Nat} {out : ByteArray} {x : Sp} (h : ApP s l k at' out) (hx : l[k]? = some x) (ho : okSp x) :
    at' + x.d.size ≤ s.size ∧ at' + x.k.toNat ≤ s.size ∧ at' + x.k.toNat + x.d.size ≤ s.size ∧ out.size + x.k.toNat + x.p.size ≤ 65536 ∧
    if bL (s.extract at' (at' + x.d.size)) = bL x.d then ApP s l (k + 1) (at' + x.k.toNat + x.d.size) (out ++ s.extract at' (at' + x.k.toNat) ++ x.p) else runA (atL l) (bL s) = none := by
  have hlt := (List.getElem?_eq_some_iff.1 hx).1
  have hd : l.drop k = x :: l.drop (k + 1) := (List.drop_eq_getElem_cons hlt).trans (by rw [(List.getElem?_eq_some_iff.1 hx).2])
  obtain ⟨h1, h2, h3, h4⟩ := h
  rw [hd, atL_cons] at h2 h3 h4
  rw [inA_append, (in_atS x).1] at h3
  rw [outA_append, (in_atS x).2] at h4
  have hlen : ((bL s).drop at').length = s.size - at' := by rw [List.length_drop, bL_len]
  rw [run_step ho _ _ (by rw [hlen, (in_atS x).1]; omega)] at h2
  refine ⟨by omega, by omega, by omega, by omega, ?_⟩
  rw [bL_ext]
  split
  · rename_i e
    rw [if_pos e] at h2
    refine ⟨hlt, ?_, by omega, ?_⟩
    · rw [h2, List.drop_drop, show at' + (x.k.toNat + x.d.size) = at' + x.k.toNat + x.d.size by omega, bL_app, bL_app, bL_ext]
      cases runA (atL (l.drop (k + 1))) ((bL s).drop (at' + x.k.toNat + x.d.size)) <;> simp
    · have : (s.extract at' (at' + x.k.toNat)).size = x.k.toNat := by rw [ByteArray.size_extract]; omega
      rw [ByteArray.size_append, ByteArray.size_append, this]; omega
  · rename_i e
    rw [if_neg e] at h2
    exact h2
set_option maxHeartbeats 8000000 in
theorem apply_of (s : ByteArray) (l : List Sp) (o : Option Addr) (c T : Nat) (hn : l.length ≤ 9223372036854775807) (ho : OkS l) (hz : sizeG l 0 0 = some (s.size, T)) (w : World) (hr : RowAt w encS 3 o l) :
    Calls Try.prog 8 #[.string s, .slice o l.length c] w fun e w' => AppR s l e ∧ Below w.heap.size w w' := by
  obtain ⟨i0, hi, hz0, hz1, hz2⟩ := info_parts infoByte
  have cS := sizes_any l o c hn ho w hr
  rw [hz] at cS
  obtain ⟨f1, f2, f3⟩ := sizeG_in l 0 0 _ _ hz
  have f4 := plain_cu hz
  have hok : ∀ x ∈ l, okSp x := fun x hx => by
    have := mem_bd hx
    have hk := kind_pos (f3 x hx)
    obtain ⟨_, _, _, g1, g2, _⟩ := f4
    exact ⟨f3 x hx, hk, by omega, by omega, by omega⟩
  have hs6 : s.size ≤ 65536 := f4.2.2.2.1
  have hT6 : T ≤ 65536 := f4.2.2.2.2.1
  have hA0 : ApP s l 0 0 .empty := ⟨Nat.zero_le _, by rw [List.drop_zero, List.drop_zero]; cases runA (atL l) (bL s) <;> simp [bL_emp], by rw [List.drop_zero]; omega, by rw [List.drop_zero]; simp only [emp_size]; omega⟩
  have HR := Lib.hid (And.intro hr (And.intro hok hA0))
  have es : ((s.size : Int) == (s.size : Int)) = true := beq_self_eq_true _
  clear hr f1 f2 f3 f4 hok hA0 hz ho
  go_enter Try.func8, Try.ntmps8
  go_wp2_with (fail)
  refine cS.mono ?_
  rintro e W ⟨rfl, hB⟩
  simp only [szV]
  have HB := Lib.hid hB
  clear hB cS
  have hmk := run_make (P := Try.prog) W 41 5 i0 (.int .u8 0) Try.underlying41 hi hz0 .i64 .i64 0 T (by omega) (by omega) (by rw [hz2]; omega) (by omega)
  have hrow0 : (W.alloc (.cells (madeCells #[Value.int .u8 0] T) 5)).ownsRow w.heap.size 5 1 (.slice (some ⟨W.heap.size, 0, none⟩) 0 T) 0 (Lib.strCells .empty) :=
    ⟨rfl, .inr ⟨W.heap.size, T, _, rfl, HB.out.size, World.alloc_heap_new W _, by omega, by unfold maxLen; omega, by rw [size_madeCells]; simp, rfl⟩⟩
  have hb0 := HB.out.alloc HB.out.size (.cells (madeCells #[Value.int .u8 0] T) 5)
  have H0 := Lib.hid (And.intro hrow0 hb0)
  rw [hz1, show (Value.int .u8 0).cells = #[Value.int .u8 0] from rfl] at hmk
  have hmk' : (Instr.makeSlice 41 (.int .i64 0) (.int .i64 (T : Int))).run Try.prog W = .ok (.slice (some ⟨W.heap.size, 0, none⟩) 0 T) (W.alloc (.cells (madeCells #[Value.int .u8 0] T) 5)) := by
    simpa using hmk
  clear hrow0 hb0 hmk
  go_wp2
  go_loopw [9, 10, 32] (fun v a i X => ∃ (k at' : Nat) (out : ByteArray), i = .int .i64 k ∧ a = .int .i64 at' ∧ ApP s l k at' out ∧ X.ownsRow w.heap.size 5 1 v out.size (Lib.strCells out) ∧ Below w.heap.size w X) (fun _ _ i _ => l.length - (intOf i).toNat)
  case atStart => exact ⟨0, 0, .empty, rfl, rfl, HR.out.2.2, H0.out.1, H0.out.2⟩
  case round =>
    obtain ⟨k, at', out, rfl, rfl, hP, hown, hX⟩ := hrel
    have hk := hP.le
    by_cases hlt : k < l.length
    · obtain ⟨x, hx⟩ : ∃ x, l[k]? = some x := ⟨_, List.getElem?_eq_getElem hlt⟩
      obtain ⟨g, off, rfl, hc⟩ := HR.out.1.below encS_len (by decide) hX k x hx
      obtain ⟨q0, q1, q2⟩ := get3 (l := l) hc
      have hok := HR.out.2.1 x (List.mem_of_getElem? hx)
      obtain ⟨s1, s2, s3, s4, hst⟩ := ap_step hP hx hok
      obtain ⟨kk, d, p⟩ := x
      obtain ⟨kn, rfl⟩ : ∃ kn : Nat, kk = kn := ⟨kk.toNat, by have := hok.2.1; simp only at this; omega⟩
      simp only [Int.toNat_natCast] at s1 s2 s3 s4 hst q0 q1 q2
      have hd6 : d.size ≤ 65536 := hok.2.2.2.1
      have hkn6 : kn ≤ 65536 := by have := hok.2.2.1; simp only at this; omega
      have ho6 : out.size ≤ 65536 := by have := hP.ot; omega
      have hkl : (k : Int) < (l.length : Int) := by omega
      have j5 : IntKind.i64.wrap ((k : Int) + 1) = ((k + 1 : Nat) : Int) := by rw [IntWalk.i64_in _ (by omega)]; omega
      obtain ⟨A, hA⟩ : ∃ A, at' + d.size = A := ⟨_, rfl⟩
      obtain ⟨K, hK⟩ : ∃ K, at' + kn = K := ⟨_, rfl⟩
      obtain ⟨D, hD⟩ : ∃ D, kn + d.size = D := ⟨_, rfl⟩
      obtain ⟨E, hE⟩ : ∃ E, at' + D = E := ⟨_, rfl⟩
      have j1 : IntKind.i64.wrap ((at' : Int) + (d.size : Int)) = (A : Int) := by rw [IntWalk.i64_in _ (by omega)]; omega
      have j2 : IntKind.i64.wrap ((at' : Int) + (kn : Int)) = (K : Int) := by rw [IntWalk.i64_in _ (by omega)]; omega
      have j3 : IntKind.i64.wrap ((kn : Int) + (d.size : Int)) = (D : Int) := by rw [IntWalk.i64_in _ (by omega)]; omega
      have j4 : IntKind.i64.wrap ((at' : Int) + (D : Int)) = (E : Int) := by rw [IntWalk.i64_in _ (by omega)]; omega
      have b1 : (at' : Int) ≤ (A : Int) := by omega
      have b2 : (A : Int) ≤ (s.size : Int) := by omega
      have b3 : (at' : Int) ≤ (K : Int) := by omega
      have b4 : (K : Int) ≤ (s.size : Int) := by omega
      rw [hA] at hst
      rw [hK] at hst
      have hEe : K + d.size = E := by omega
      rw [hEe] at hst
      have hbe := bL_eq (s.extract at' A) d
      have hex : (s.extract at' K).size = kn := by rw [ByteArray.size_extract]; omega
      have n := Blk.new wr #[.int .i64 kn, .string d, .string p] 29
      have hb := (Below.refl wr.heap.size wr).alloc (Nat.le_refl _) (.cells #[.int .i64 kn, .string d, .string p] 29)
      have m1 := n.cell 1
      simp only [List.getElem?_toArray, List.getElem?_cons_succ, List.getElem?_cons_zero] at m1
      have HK := Lib.hid (And.intro hst (And.intro hown (And.intro hX (And.intro n (And.intro hb (And.intro hex s4))))))
      obtain ⟨ov, cv, rfl, _⟩ := own_slice hown
      by_cases heq : bL (s.extract at' A) = bL d
      · rw [decide_eq_true heq] at hbe
        have HE := Lib.hid heq
        clear hown hX hc hst n hb hP hx hA hK hD hE s1 s2 s3 s4 hex heq hEe hok
        go_wp2
        go_quiet (fail)
        generalize hU : World.drewN _ _ = U
        have hbU := HK.out.2.2.2.2.1.trans ((hU ▸ below_drewN _ _ : Below (wr.alloc (.cells #[.int .i64 kn, .string d, .string p] 29)).heap.size (wr.alloc (.cells #[.int .i64 kn, .string d, .string p] 29)) U).mono (by simp))
        have nU := HK.out.2.2.2.1.below' (hU ▸ below_drewN _ _ : Below (wr.alloc (.cells #[.int .i64 kn, .string d, .string p] 29)).heap.size (wr.alloc (.cells #[.int .i64 kn, .string d, .string p] 29)) U)
        obtain ⟨B, hBq⟩ : ∃ B, wr.heap.size = B := ⟨_, rfl⟩
        have hBu : w.heap.size ≤ U.heap.size := Nat.le_trans HK.out.2.2.1.size hbU.size
        have rU := own_below HK.out.2.1 hbU
        have HU := Lib.hid (And.intro (HK.out.2.2.1.trans (hbU.mono HK.out.2.2.1.size)) (And.intro rU nU))
        rw [hBq] at nU ⊢
        have u0 := nU.cell 0
        have u1 := nU.cell 1
        have u2 := nU.cell 2
        simp only [List.getElem?_toArray, List.getElem?_cons_succ, List.getElem?_cons_zero] at u0 u1 u2
        have NU := Lib.hid nU
        clear hU hbU nU hBq q0 q1 q2 m1
        go_wp2_with (first | (at_builtin; refine Lib.wpList_append_own_string _ rfl _ _ 41 9 rfl w.heap.size 5 i0 Try.underlying41 Try.underlying9 hi hz0 hz1 hz2 _ _ _ rfl r2 _ rfl (by have := HK.out.2.2.2.2.2; unfold maxLen; omega) (by have := HK.out.2.2.2.2.2; omega) (Nat.le_trans hBu g2.size) ?_; intro v3 w3 r3 g3 hz9; clear hz9; have n3 := n2.kept g3 (n2.not_row (by decide) r2); have y0 := n3.cell 0; have y1 := n3.cell 1; have y2 := n3.cell 2; simp only [List.getElem?_toArray, List.getElem?_cons_succ, List.getElem?_cons_zero] at y0 y1 y2) | (at_builtin; refine Lib.wpList_append_own_string _ rfl _ _ 41 9 rfl w.heap.size 5 i0 Try.underlying41 Try.underlying9 hi hz0 hz1 hz2 _ _ _ rfl rU _ rfl (by have := HK.out.2.2.2.2.2; unfold maxLen; omega) (by have := HK.out.2.2.2.2.2; omega) hBu ?_; intro v2 w2 r2 g2 hz9; clear hz9; have n2 := NU.out.kept g2 (Blk.not_row NU.out (by decide) rU); have z0 := n2.cell 0; have z1 := n2.cell 1; have z2 := n2.cell 2; simp only [List.getElem?_toArray, List.getElem?_cons_succ, List.getElem?_cons_zero] at z0 z1 z2))
        have HG := Lib.hid (And.intro r3 (And.intro g2 g3))
        clear r3 g2 g3
        go_simp
        go_roundw
        case rel =>
          have hst := HK.out.1
          rw [if_pos HE.out] at hst
          refine ⟨k + 1, by go_num, E, rfl, out ++ s.extract at' K ++ p, hst, ?_, (HU.out.1.grown HG.out.2.1 HU.out.1.size (fun r e => (rU.lt r e).1)).grown HG.out.2.2 (Nat.le_trans HU.out.1.size HG.out.2.1.size) (fun r e => (r2.lt r e).1)⟩
          rw [ByteArray.size_append, ByteArray.size_append, strCells_app, strCells_app]
          exact HG.out.1
        case measure => simp [intOf] <;> omega
      · rw [decide_eq_false heq] at hbe
        rw [if_neg heq] at hst
        have HE := Lib.hid hst
        clear hown hc hst n hP hx hA hK hD hE s1 s2 s3 s4 hex heq hEe hok
        go_wp2
        go_quiet (fail)
        generalize hU : World.drewN _ _ = U
        have hbU := HK.out.2.2.2.2.1.trans ((hU ▸ below_drewN _ _ : Below (wr.alloc (.cells #[.int .i64 kn, .string d, .string p] 29)).heap.size (wr.alloc (.cells #[.int .i64 kn, .string d, .string p] 29)) U).mono (by simp))
        have HU := Lib.hid (HK.out.2.2.1.trans (hbU.mono HK.out.2.2.1.size))
        clear hU hbU
        go_wp2
        refine bodyPost_ret (results_tmp2 rfl _ _ _) rfl ?_
        exact ⟨.inl ⟨HE.out, rfl⟩, HU.out⟩
    · obtain rfl : k = l.length := by omega
      have hend : runA (atL l) (bL s) = some (bL out, []) := by
        have h1 := hP.rn
        have h2 := hP.fr
        rw [List.drop_length] at h1 h2
        rw [h1]
        have h3 : (bL s).drop at' = [] := List.length_eq_zero_iff.1 (by rw [List.length_drop, bL_len]; simp only [atL, List.flatMap_nil, inA] at h2; omega)
        rw [h3]
        simp [atL, runA]
      have hconv := conv_own rfl hown
      have HX := Lib.hid (And.intro hX hend)
      clear hX hend hP hown
      go_wp2
      refine bodyPost_ret (results_tmp2 rfl _ _ _) rfl ?_
      exact ⟨.inr ⟨out, HX.out.2, rfl⟩, HX.out.1⟩
end Go.Proofs.Ytjccoiephdopkaa

/- Stage 27: Apply, whatever comes in; what is put together again. -/
namespace Go.Proofs.Ytjccoiephdopkaa
set_option linter.unusedVariables false
set_option linter.unusedSimpArgs false
open Go Go.RowKit Go.Shelf
set_option maxRecDepth 100000

/-- What Apply answers. -/
def appF (s : ByteArray) (l : List Sp) : ByteArray × Nat :=
  match sizeG l 0 0 with
  | none => (.empty, 2)
  | some (F, _) => if F ≠ s.size then (.empty, 5) else match runA (atL l) (bL s) with | none => (.empty, 270) | some r => (⟨⟨r.1⟩⟩, 0)
theorem bL_mk (s : ByteArray) : (⟨⟨bL s⟩⟩ : ByteArray) = s := bL_inj rfl
theorem bL_mk' (l : List UInt8) : bL ⟨⟨l⟩⟩ = l := rfl
theorem appF_ok {s : ByteArray} {l : List Sp} (h : (appF s l).2 = 0) : ∃ T, sizeG l 0 0 = some (s.size, T) ∧ runA (atL l) (bL s) = some (bL (appF s l).1, []) := by
  unfold appF at h ⊢
  cases hz : sizeG l 0 0 with
  | none => rw [hz] at h; simp at h
  | some ft =>
    obtain ⟨F, T⟩ := ft
    rw [hz] at h
    simp only at h ⊢
    by_cases hF : F = s.size
    · rw [if_neg (by simpa using hF)] at h ⊢
      subst hF
      cases hr : runA (atL l) (bL s) with
      | none => rw [hr] at h; simp at h
      | some r =>
        obtain ⟨r1, r2⟩ := r
        refine ⟨T, rfl, ?_⟩
        have h1 := (run_len hr).1
        have h2 := (sizeG_in l 0 0 _ _ hz).1
        rw [bL_len] at h1
        have : r2 = [] := List.length_eq_zero_iff.1 (by omega)
        subst this
        rfl
    · rw [if_pos hF] at h; simp at h
theorem appF_run {s : ByteArray} {l : List Sp} {T : Nat} {w : List UInt8} (hz : sizeG l 0 0 = some (s.size, T)) (hr : runA (atL l) (bL s) = some (w, [])) : appF s l = (⟨⟨w⟩⟩, 0) := by
  unfold appF
  rw [hz]
  simp only
  rw [if_neg (by simp), hr]
set_option maxHeartbeats 4000000 in
theorem apply_any (s : ByteArray) (l : List Sp) (o : Option Addr) (c : Nat) (hn : l.length ≤ 9223372036854775807) (hs : s.size ≤ 9223372036854775807) (ho : OkS l) (w : World) (hr : RowAt w encS 3 o l) :
    Calls Try.prog 8 #[.string s, .slice o l.length c] w fun e w' => e = .returned (.tuple #[.string (appF s l).1, .int .i64 (appF s l).2]) ∧ Below w.heap.size w w' := by
  cases hz : sizeG l 0 0 with
  | none =>
    have e : appF s l = (.empty, 2) := by unfold appF; rw [hz]
    rw [e]
    have cS := sizes_any l o c hn ho w hr
    rw [hz] at cS
    clear hr ho e
    go_enter Try.func8, Try.ntmps8
    go_wp2_with (fail)
    refine cS.mono ?_
    rintro e W ⟨rfl, hB⟩
    simp only [szV]
    have HB := Lib.hid hB
    clear hB cS
    go_wp2
    refine bodyPost_ret (results_tmp2 rfl _ _ _) rfl ?_
    exact ⟨rfl, HB.out⟩
  | some ft =>
    obtain ⟨F, T⟩ := ft
    by_cases hF : F = s.size
    · subst hF
      refine (apply_of s l o c T hn ho hz w hr).mono ?_
      rintro e w' ⟨h, hB⟩
      refine ⟨?_, hB⟩
      rcases h with ⟨h1, rfl⟩ | ⟨t, h1, rfl⟩
      · have : appF s l = (.empty, 270) := by unfold appF; rw [hz]; simp only; rw [if_neg (by simp), h1]
        rw [this]
        rfl
      · rw [appF_run hz h1, bL_mk]
        rfl
    · have e : appF s l = (.empty, 5) := by unfold appF; rw [hz]; simp only; rw [if_pos hF]
      rw [e]
      have cS := sizes_any l o c hn ho w hr
      rw [hz] at cS
      have e1 : ((s.size : Int) == (F : Int)) = false := by rw [beq_eq_false_iff_ne]; omega
      have e2 : (s.size == F) = false := by rw [beq_eq_false_iff_ne]; omega
      have HF := Lib.hid hF
      clear hr ho e hF
      go_enter Try.func8, Try.ntmps8
      go_wp2_with (fail)
      refine cS.mono ?_
      rintro e W ⟨rfl, hB⟩
      simp only [szV]
      have HB := Lib.hid hB
      clear hB cS
      go_wp2
      refine bodyPost_ret (results_tmp2 rfl _ _ _) rfl ?_
      exact ⟨rfl, HB.out⟩
/-- The one form of few bytes: its sizes, and that it may come in. -/
theorem nf_ok {A : List Atm} (hi : inA A ≤ 65536) (ho : outA A ≤ 65536) : sizeG (nfA A) 0 0 = some (inA A, outA A) ∧ OkS (nfA A) ∧ (nfA A).length ≤ 131072 := by
  obtain ⟨g1, g2⟩ := nf_eq A
  have i1 := g1.inn
  have i2 := g1.out
  have hA := at_len (atL (nfA A))
  have hl := len_le _ g2
  refine ⟨?_, fun x hx => ?_, by omega⟩
  · rw [sizeG_of _ 0 0 g2 (by omega) (by omega), i1, i2, Nat.zero_add, Nat.zero_add]
  · have := mem_bd hx
    have hk := kind_pos (g2 x hx)
    exact ⟨by omega, by omega, by omega, by omega⟩
theorem appF_nf {A : List Atm} {s : ByteArray} {w : List UInt8} (hr : runA A (bL s) = some (w, [])) (hs : s.size ≤ 65536) (hw : w.length ≤ 65536) : appF s (nfA A) = (⟨⟨w⟩⟩, 0) ∧ inA A = s.size ∧ outA A = w.length := by
  have h1 := run_len hr
  rw [bL_len] at h1
  simp only [List.length_nil, Nat.add_zero] at h1
  obtain ⟨h2, _⟩ := nf_ok (A := A) (by omega) (by omega)
  rw [← h1.1] at h2
  exact ⟨appF_run h2 (by rw [(nf_eq A).1.run]; exact hr), h1.1.symm, h1.2.symm⟩
theorem plain_run {l : List Sp} {s : ByteArray} {t : List UInt8} (h : runA (atL l) (bL s) = some (t, [])) : runA (atL (plainM l)) (bL s) = some (t, []) := by
  rw [plain_fd, (nf_eq (atL l)).1.run]; exact h
theorem nf_nf {A : List Atm} {s w : List UInt8} (h : runA A s = some (w, [])) : runA (atL (plainM (nfA A))) s = some (w, []) := by
  rw [plain_fd, (nf_eq _).1.run, (nf_eq A).1.run]; exact h
end Go.Proofs.Ytjccoiephdopkaa
