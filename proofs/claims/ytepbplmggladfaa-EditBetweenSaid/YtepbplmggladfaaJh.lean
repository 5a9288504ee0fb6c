/- Stage 27: sizes of the one form; what Compose answers where two changes may not be laid together. -/
import Derived.Test.YtepbplmggladfaaJg
import Derived.Scope
namespace Go.Proofs.Ytepbplmggladfaa
set_option linter.unusedVariables false
set_option linter.unusedSimpArgs false
open Go Go.RowKit Go.Shelf
set_option maxRecDepth 100000

theorem in_map_P (l : List UInt8) : inA (l.map .P) = 0 ∧ outA (l.map .P) = l.length := by
  induction l with
  | nil => exact ⟨rfl, rfl⟩
  | cons c l ih => simp only [List.map_cons, inA, outA, List.length_cons]; omega
theorem in_map_D (l : List UInt8) : inA (l.map .D) = l.length ∧ outA (l.map .D) = 0 := by
  induction l with
  | nil => exact ⟨rfl, rfl⟩
  | cons c l ih => simp only [List.map_cons, inA, outA, List.length_cons]; omega
theorem in_rep_K (n : Nat) : inA (List.replicate n .K) = n ∧ outA (List.replicate n .K) = n := by
  induction n with
  | zero => exact ⟨rfl, rfl⟩
  | succ n ih => simp only [List.replicate_succ, inA, outA]; omega
theorem in_atS (x : Sp) : inA (atS x) = x.k.toNat + x.d.size ∧ outA (atS x) = x.k.toNat + x.p.size := by
  unfold atS
  rw [inA_append, inA_append, outA_append, outA_append, (in_rep_K _).1, (in_rep_K _).2, (in_map_P _).1, (in_map_P _).2, (in_map_D _).1, (in_map_D _).2, bL_len, bL_len]
  omega
theorem atL_cons (x : Sp) (l : List Sp) : atL (x :: l) = atS x ++ atL l := rfl
theorem sizeG_in : ∀ (l : List Sp) (f t F T : Nat), sizeG l f t = some (F, T) → F = f + inA (atL l) ∧ T = t + outA (atL l) ∧ ∀ x ∈ l, kindN x ≠ 0
  | [], f, t, F, T, h => by
    simp only [sizeG, Option.some.injEq, Prod.mk.injEq] at h
    obtain ⟨rfl, rfl⟩ := h
    exact ⟨rfl, rfl, fun x hx => by cases hx⟩
  | x :: l, f, t, F, T, h => by
    unfold sizeG at h
    by_cases h0 : kindN x = 0 ∨ 65536 < x.k
    · rw [if_pos h0] at h; cases h
    · rw [if_neg h0] at h
      by_cases h1 : 65536 < f + x.k.toNat + x.d.size ∨ 65536 < t + x.k.toNat + x.p.size
      · rw [if_pos h1] at h; cases h
      · rw [if_neg h1] at h
        obtain ⟨e1, e2, e3⟩ := sizeG_in l _ _ F T h
        rw [atL_cons, inA_append, outA_append, (in_atS x).1, (in_atS x).2]
        refine ⟨by omega, by omega, fun y hy => ?_⟩
        rcases List.mem_cons.1 hy with rfl | hy
        · exact fun e => h0 (.inl e)
        · exact e3 y hy
theorem sizeG_of : ∀ (l : List Sp) (f t : Nat), (∀ x ∈ l, kindN x ≠ 0) → f + inA (atL l) ≤ 65536 → t + outA (atL l) ≤ 65536 → sizeG l f t = some (f + inA (atL l), t + outA (atL l))
  | [], f, t, _, _, _ => rfl
  | x :: l, f, t, h, hf, ht => by
    rw [atL_cons, inA_append, (in_atS x).1] at hf
    rw [atL_cons, outA_append, (in_atS x).2] at ht
    have hk := kind_pos (h x (by simp))
    unfold sizeG
    rw [if_neg (by intro e; rcases e with e | e; exact h x (by simp) e; omega), if_neg (by omega), sizeG_of l _ _ (fun y hy => h y (by simp [hy])) (by omega) (by omega)]
    rw [atL_cons, inA_append, outA_append, (in_atS x).1, (in_atS x).2]
    simp only [Option.some.injEq, Prod.mk.injEq]; omega
theorem mem_bd {l : List Sp} {x : Sp} (h : x ∈ l) : x.k.toNat + x.d.size ≤ inA (atL l) ∧ x.k.toNat + x.p.size ≤ outA (atL l) := by
  induction l with
  | nil => cases h
  | cons y l ih =>
    rw [atL_cons, inA_append, outA_append, (in_atS y).1, (in_atS y).2]
    rcases List.mem_cons.1 h with rfl | h
    · omega
    · have := ih h; omega
theorem len_le (l : List Sp) (h : ∀ x ∈ l, kindN x ≠ 0) : l.length ≤ (atL l).length := by
  induction l with
  | nil => simp
  | cons x l ih =>
    have h5 := kind_one (h x (by simp))
    have h6 := ih (fun y hy => h y (by simp [hy]))
    rw [atL_cons, List.length_append, atS_len, List.length_cons]
    unfold szS; omega
theorem at_len (A : List Atm) : A.length ≤ inA A + outA A := by
  induction A with
  | nil => simp
  | cons a A ih => cases a <;> simp only [List.length_cons, inA, outA] <;> omega
/-- The one form of a change that may be, for a cursor. -/
theorem plain_cu {l : List Sp} {F T : Nat} (h : sizeG l 0 0 = some (F, T)) : CuV (plainM l) 0 ∧ inA (atL (plainM l)) = F ∧ outA (atL (plainM l)) = T ∧ F ≤ 65536 ∧ T ≤ 65536 ∧ (plainM l).length ≤ F + T ∧ (atL (plainM l)).length ≤ F + T := by
  obtain ⟨e1, e2, e3⟩ := sizeG_in l 0 0 F T h
  have h6 : F ≤ 65536 ∧ T ≤ 65536 := by
    have key : ∀ (l : List Sp) (f t : Nat), f ≤ 65536 → t ≤ 65536 → sizeG l f t = some (F, T) → F ≤ 65536 ∧ T ≤ 65536 := by
      intro l
      induction l with
      | nil => intro f t hf ht h; simp only [sizeG, Option.some.injEq, Prod.mk.injEq] at h; omega
      | cons x l ih =>
        intro f t hf ht h
        unfold sizeG at h
        by_cases h0 : kindN x = 0 ∨ 65536 < x.k
        · rw [if_pos h0] at h; cases h
        · rw [if_neg h0] at h
          by_cases h1 : 65536 < f + x.k.toNat + x.d.size ∨ 65536 < t + x.k.toNat + x.p.size
          · rw [if_pos h1] at h; cases h
          · rw [if_neg h1] at h
            exact ih _ _ (by omega) (by omega) h
    exact key l 0 0 (by omega) (by omega) h
  rw [plain_fd]
  obtain ⟨g1, g2⟩ := nf_eq (atL l)
  have i1 := g1.inn
  have i2 := g1.out
  have hA := at_len (atL (nfA (atL l)))
  have hl := len_le _ g2
  refine ⟨⟨fun x hx => ?_, fun _ => rfl, fun x r e => ?_, by omega⟩, by omega, by omega, h6.1, h6.2, by omega, by omega⟩
  · have := mem_bd hx
    have hk := kind_pos (g2 x hx)
    exact ⟨g2 x hx, hk, by omega, by omega, by omega⟩
  · have := kind_one (g2 x (by rw [e]; simp))
    unfold szS; omega
theorem rowC2 {w : World} {g : Nat} {t : TypeId} {o1 o2 : Option Addr} {l1 l2 : List Sp} {c1 c2 : Nat} (h : w.heap[g]? = some (.cells #[.slice o1 l1.length c1, .slice o2 l2.length c2] t (0, 0))) : RowAt w encC 1 (some ⟨g, 0, none⟩) [⟨o1, l1, c1⟩, ⟨o2, l2, c2⟩] := by
  intro i x hi
  have hl : i < 2 := (List.getElem?_eq_some_iff.1 hi).1
  refine ⟨g, 0, rfl, fun j hj => ?_⟩
  have hc : ∀ o, w.cell? ⟨g, o, none⟩ = (#[.slice o1 l1.length c1, .slice o2 l2.length c2] : Array Value)[o]? := fun o => Blk.cell (t := t) h o
  rw [hc]
  match i, hl, hi, j, hj with
  | 0, _, hi, 0, _ => cases hi; rfl
  | 1, _, hi, 0, _ => cases hi; rfl
/-- What may of two changes says. -/
theorem may2_any (o1 o2 : Option Addr) (l1 l2 : List Sp) (c1 c2 : Nat) (hn1 : l1.length ≤ 9223372036854775807) (ho1 : OkS l1) (hn2 : l2.length ≤ 9223372036854775807) (ho2 : OkS l2) (w : World) (hr1 : RowAt w encS 3 o1 l1) (hr2 : RowAt w encS 3 o2 l2) :
    Calls Try.prog 37 #[.slice (some ⟨w.heap.size, 0, none⟩) 2 2] (w.alloc (.cells #[.slice o1 l1.length c1, .slice o2 l2.length c2] 22)) fun e w' => e = .returned (.bool ((sizeG l1 0 0).isSome && (sizeG l2 0 0).isSome)) ∧ Below w.heap.size w w' := by
  have hb := (Below.refl w.heap.size w).alloc (Nat.le_refl _) (.cells #[.slice o1 l1.length c1, .slice o2 l2.length c2] 22)
  refine (may_any [⟨o1, l1, c1⟩, ⟨o2, l2, c2⟩] (some ⟨w.heap.size, 0, none⟩) 2 (by simp) _ (rowC2 (World.alloc_heap_new w _)) ?_).mono ?_
  · intro x hx
    simp only [List.mem_cons, List.not_mem_nil, or_false] at hx
    rcases hx with rfl | rfl
    · exact ⟨hn1, ho1, hr1.below encS_len (by decide) hb⟩
    · exact ⟨hn2, ho2, hr2.below encS_len (by decide) hb⟩
  · rintro e w' ⟨rfl, hb2⟩
    exact ⟨by simp [mayB], hb.trans (hb2.mono (by simp))⟩
end Go.Proofs.Ytepbplmggladfaa
