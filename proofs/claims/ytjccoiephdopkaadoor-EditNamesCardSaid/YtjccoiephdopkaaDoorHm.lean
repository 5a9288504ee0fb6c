/- Stage 27: mathematics: where a place goes, by the steps, by the one form. -/
import Derived.Test.YtjccoiephdopkaaDoorHc
namespace Go.Proofs.YtjccoiephdopkaaDoor
set_option linter.unusedVariables false
set_option linter.unusedSimpArgs false
open Go Go.RowKit Go.Shelf
set_option maxRecDepth 100000

/-- What a put at a place counts. -/
def cnt (a : Nat) (bh : Bool) (g s : Nat) : Nat := if g < a ∨ (g = a ∧ bh = true) then s else 0
/-- One step, place by place: place, gap, how many. -/
structure Mv where
  pl : Nat
  gp : Nat
  n : Nat
def mvG (a : Nat) (bh : Bool) (m : Mv) (x : Sp) : Mv := ⟨m.pl + x.k.toNat + x.d.size, if 0 < x.k then m.pl + x.k.toNat else m.gp, m.n + cnt a bh m.gp x.p.size + min x.k.toNat (a - m.pl)⟩
def mvP (a : Nat) (bh : Bool) (m : Nat × Nat) (x : Sp) : Nat × Nat := (m.1 + x.k.toNat + x.d.size, m.2 + cnt a bh m.1 x.p.size + min x.k.toNat (a - m.1))
/-- What a maker holds. -/
structure Mk where
  out : List Sp
  kept : Nat
  put : ByteArray
  drop : ByteArray
def gapM (m : Mk) : Mk := ⟨m.out ++ (if 0 < m.put.size then [⟨0, .empty, m.put⟩] else []) ++ (if 0 < m.drop.size then [⟨0, m.drop, .empty⟩] else []), m.kept, .empty, .empty⟩
def rowM (m : Mk) : Mk := ⟨m.out ++ (if 0 < m.kept then [⟨m.kept, .empty, .empty⟩] else []), 0, m.put, m.drop⟩
def keepM (n : Nat) (m : Mk) : Mk := let m' := if 0 < n ∧ 0 < m.put.size + m.drop.size then gapM m else m; ⟨m'.out, m'.kept + n, m'.put, m'.drop⟩
def putsM (s : ByteArray) (m : Mk) : Mk := let m' := if 0 < s.size then rowM m else m; ⟨m'.out, m'.kept, m'.put ++ s, m'.drop⟩
def dropsM (s : ByteArray) (m : Mk) : Mk := let m' := if 0 < s.size then rowM m else m; ⟨m'.out, m'.kept, m'.put, m'.drop ++ s⟩
def stepM (m : Mk) (x : Sp) : Mk := dropsM x.d (putsM x.p (keepM x.k.toNat m))
def endM (m : Mk) : List Sp := (rowM (gapM m)).out
def plainM (l : List Sp) : List Sp := endM (l.foldl stepM ⟨[], 0, .empty, .empty⟩)

def InvM (a : Nat) (bh : Bool) (m : Mk) (v : Mv) : Prop :=
  ∃ P T, m.out.foldl (mvP a bh) (0, 0) = (P, T) ∧ v.pl = P + m.kept + m.drop.size ∧ v.gp = P + m.kept ∧ v.n = T + min m.kept (a - P) + cnt a bh P m.put.size ∧ (0 < m.kept → m.put.size = 0 ∧ m.drop.size = 0)
theorem cnt_add (a : Nat) (bh : Bool) (g s t : Nat) : cnt a bh g (s + t) = cnt a bh g s + cnt a bh g t := by unfold cnt; split <;> omega
theorem cnt_zero (a : Nat) (bh : Bool) (g : Nat) : cnt a bh g 0 = 0 := by unfold cnt; split <;> rfl
theorem emp_size : ByteArray.empty.size = 0 := rfl
theorem gap_out (a : Nat) (bh : Bool) (m : Mk) (P T : Nat) (h : m.out.foldl (mvP a bh) (0, 0) = (P, T)) : (gapM m).out.foldl (mvP a bh) (0, 0) = (P + m.drop.size, T + cnt a bh P m.put.size) := by
  unfold gapM
  simp only [List.foldl_append, h]
  by_cases h1 : 0 < m.put.size <;> by_cases h2 : 0 < m.drop.size
  · simp [h1, h2, mvP, emp_size, cnt_zero]
  · have : m.drop.size = 0 := by omega
    simp [h1, mvP, this, emp_size]
  · have : m.put.size = 0 := by omega
    simp [h2, mvP, this, emp_size, cnt_zero]
  · have h3 : m.put.size = 0 := by omega
    have h4 : m.drop.size = 0 := by omega
    simp [h3, h4, cnt_zero]
theorem row_out (a : Nat) (bh : Bool) (m : Mk) (P T : Nat) (h : m.out.foldl (mvP a bh) (0, 0) = (P, T)) : (rowM m).out.foldl (mvP a bh) (0, 0) = (P + m.kept, T + min m.kept (a - P)) := by
  unfold rowM
  simp only [List.foldl_append, h]
  by_cases h1 : 0 < m.kept
  · simp [h1, mvP, emp_size, cnt_zero]
  · have : m.kept = 0 := by omega
    simp [this]
theorem inv_keep {a : Nat} {bh : Bool} {m : Mk} {v : Mv} (h : InvM a bh m v) (n : Nat) : InvM a bh (keepM n m) ⟨v.pl + n, if 0 < n then v.pl + n else v.gp, v.n + min n (a - v.pl)⟩ := by
  obtain ⟨P, T, h1, h2, h3, h4, h5⟩ := h
  unfold keepM
  by_cases hn : 0 < n ∧ 0 < m.put.size + m.drop.size
  · have hk : m.kept = 0 := by
      by_cases hk : 0 < m.kept
      · have := h5 hk; omega
      · omega
    simp only [if_pos hn]
    refine ⟨_, _, gap_out a bh m P T h1, ?_, ?_, ?_, ?_⟩
    · simp [gapM, emp_size]; omega
    · simp [gapM, hn.1]; omega
    · simp [gapM, emp_size, cnt_zero, hk, h4, h2]
    · simp [gapM, emp_size]
  · simp only [if_neg hn]
    refine ⟨P, T, h1, ?_, ?_, ?_, ?_⟩
    · simp; omega
    · show (if 0 < n then v.pl + n else v.gp) = P + (m.kept + n)
      by_cases h0 : 0 < n
      · rw [if_pos h0]; omega
      · rw [if_neg h0]; omega
    · show v.n + min n (a - v.pl) = T + min (m.kept + n) (a - P) + cnt a bh P m.put.size
      by_cases h0 : 0 < n
      · have : m.drop.size = 0 := by omega
        omega
      · omega
    · intro h6
      by_cases h0 : 0 < n
      · exact ⟨by show m.put.size = 0; omega, by show m.drop.size = 0; omega⟩
      · exact h5 (by have : 0 < m.kept + n := h6; omega)
theorem inv_puts {a : Nat} {bh : Bool} {m : Mk} {v : Mv} (h : InvM a bh m v) (s : ByteArray) : InvM a bh (putsM s m) ⟨v.pl, v.gp, v.n + cnt a bh v.gp s.size⟩ := by
  obtain ⟨P, T, h1, h2, h3, h4, h5⟩ := h
  unfold putsM
  by_cases hs : 0 < s.size
  · simp only [if_pos hs]
    refine ⟨_, _, row_out a bh m P T h1, ?_, ?_, ?_, ?_⟩
    · simp [rowM]; omega
    · simp [rowM]; omega
    · simp only [rowM, ByteArray.size_append, cnt_add, h3, h4]
      by_cases hk : 0 < m.kept
      · have := h5 hk
        rw [this.1, cnt_zero, cnt_zero]; omega
      · have : m.kept = 0 := by omega
        rw [this]; simp; omega
    · simp [rowM]
  · have hs0 : s.size = 0 := by omega
    simp only [if_neg hs]
    refine ⟨P, T, h1, h2, h3, ?_, ?_⟩
    · simp only [ByteArray.size_append, hs0, cnt_zero, Nat.add_zero]; exact h4
    · simp only [ByteArray.size_append, hs0, Nat.add_zero]; exact h5
theorem inv_drops {a : Nat} {bh : Bool} {m : Mk} {v : Mv} (h : InvM a bh m v) (s : ByteArray) : InvM a bh (dropsM s m) ⟨v.pl + s.size, v.gp, v.n⟩ := by
  obtain ⟨P, T, h1, h2, h3, h4, h5⟩ := h
  unfold dropsM
  by_cases hs : 0 < s.size
  · simp only [if_pos hs]
    refine ⟨_, _, row_out a bh m P T h1, ?_, ?_, ?_, ?_⟩
    · simp [rowM, ByteArray.size_append]; omega
    · simp [rowM]; omega
    · simp only [rowM]
      by_cases hk : 0 < m.kept
      · have := h5 hk
        rw [this.1, cnt_zero] at h4 ⊢; omega
      · have : m.kept = 0 := by omega
        rw [this] at h4 ⊢; simpa using h4
    · simp [rowM]
  · have hs0 : s.size = 0 := by omega
    simp only [if_neg hs]
    refine ⟨P, T, h1, ?_, h3, h4, ?_⟩
    · simp only [ByteArray.size_append, hs0, Nat.add_zero]; exact h2
    · simp only [ByteArray.size_append, hs0, Nat.add_zero]; exact h5
theorem inv_step {a : Nat} {bh : Bool} {m : Mk} {v : Mv} (h : InvM a bh m v) (x : Sp) (hx : kindN x ≠ 0) : InvM a bh (stepM m x) (mvG a bh v x) := by
  have h1 : InvM a bh (stepM m x) ⟨v.pl + x.k.toNat + x.d.size, if 0 < x.k.toNat then v.pl + x.k.toNat else v.gp, v.n + min x.k.toNat (a - v.pl) + cnt a bh (if 0 < x.k.toNat then v.pl + x.k.toNat else v.gp) x.p.size⟩ := inv_drops (inv_puts (inv_keep h x.k.toNat) x.p) x.d
  have hk := kind_pos hx
  have e2 : v.n + min x.k.toNat (a - v.pl) + cnt a bh (if 0 < x.k.toNat then v.pl + x.k.toNat else v.gp) x.p.size = v.n + cnt a bh v.gp x.p.size + min x.k.toNat (a - v.pl) := by
    by_cases h0 : 0 < x.k
    · have hp : x.p.size = 0 := by
        unfold kindN at hx
        split at hx
        · omega
        · split at hx
          · omega
          · split at hx
            · omega
            · exact absurd rfl hx
      rw [hp, cnt_zero, cnt_zero]; omega
    · rw [if_neg (by omega)]; omega
  have e1 : (if 0 < x.k.toNat then v.pl + x.k.toNat else v.gp) = (if 0 < x.k then v.pl + x.k.toNat else v.gp) := by
    by_cases h0 : 0 < x.k
    · rw [if_pos (by omega), if_pos h0]
    · rw [if_neg (by omega), if_neg h0]
  rw [e2, e1] at h1
  exact h1
theorem end_out {a : Nat} {bh : Bool} {m : Mk} {v : Mv} (h : InvM a bh m v) : ((endM m).foldl (mvP a bh) (0, 0)).2 = v.n := by
  obtain ⟨P, T, h1, h2, h3, h4, h5⟩ := h
  unfold endM
  rw [row_out a bh (gapM m) _ _ (gap_out a bh m P T h1)]
  simp only [gapM]
  by_cases hk : 0 < m.kept
  · have := h5 hk
    rw [this.2, Nat.add_zero]; omega
  · have : m.kept = 0 := by omega
    rw [this] at h4 ⊢; simp at h4 ⊢; omega
theorem fold_inv {a : Nat} {bh : Bool} : ∀ (l : List Sp) (m : Mk) (v : Mv), InvM a bh m v → (∀ x ∈ l, kindN x ≠ 0) → InvM a bh (l.foldl stepM m) (l.foldl (mvG a bh) v)
  | [], m, v, h, _ => h
  | x :: l, m, v, h, hx => by
    rw [List.foldl_cons, List.foldl_cons]
    exact fold_inv l _ _ (inv_step h x (hx x (by simp))) (fun y hy => hx y (by simp [hy]))
/-- The one form moves places as the steps themselves. -/
theorem plain_moves (a : Nat) (bh : Bool) (l : List Sp) (hx : ∀ x ∈ l, kindN x ≠ 0) : ((plainM l).foldl (mvP a bh) (0, 0)).2 = (l.foldl (mvG a bh) ⟨0, 0, 0⟩).n :=
  end_out (fold_inv l _ _ ⟨0, 0, rfl, rfl, rfl, by simp [cnt_zero, emp_size], by simp⟩ hx)
end Go.Proofs.YtjccoiephdopkaaDoor
