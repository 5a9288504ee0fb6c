/- Places: the boundaries of a text, counted in bytes, runes, units, lines and columns. -/
import Derived.Test.YtjlfdoonhfkabaaPc
namespace Go.Proofs.Ytjlfdoonhfkabaa
set_option linter.unusedVariables false
set_option linter.unusedSimpArgs false
open Go

structure Pl where
  b : Nat
  k : Nat
  u : Nat
  l : Nat
  c : Nat

/-- A byte 10 stands at i. -/
def lfAt (s : ByteArray) (i : Nat) : Bool := decide (i < s.size) && bt s i == 10
/-- Behind the byte at i a line ends. -/
def nlAt (s : ByteArray) (i : Nat) : Bool := bt s i == 10 || (bt s i == 13 && !lfAt s (i + 1))
def un (s : ByteArray) (i : Nat) : Nat := if 65535 < rn s i then 2 else 1
def nxt (s : ByteArray) (p : Pl) : Pl := ⟨p.b + wd s p.b, p.k + 1, p.u + un s p.b, if nlAt s p.b then p.l + 1 else p.l, if nlAt s p.b then 0 else p.c + 1⟩
def pK (s : ByteArray) : Nat → Pl
  | 0 => ⟨0, 0, 0, 0, 0⟩
  | k + 1 => nxt s (pK s k)
/-- How many pieces there are. -/
def nP (s : ByteArray) : Nat := (posns s).length

theorem nP_le (s : ByteArray) : nP s ≤ s.size := posns_len s
theorem pK_k (s : ByteArray) : ∀ k, (pK s k).k = k
  | 0 => rfl
  | k + 1 => by simp [pK, nxt, pK_k s k]
theorem un_pos (s : ByteArray) (i : Nat) : 1 ≤ un s i := by unfold un; split <;> omega
theorem un_le (s : ByteArray) (i : Nat) : un s i ≤ 2 := by unfold un; split <;> omega

theorem pK_split (s : ByteArray) : ∀ k, k ≤ nP s → ∃ pre, posns s = pre ++ posG s (pK s k).b ∧ pre.length = k ∧ (pK s k).b ≤ s.size
  | 0, _ => ⟨[], by simp [pK, posns_G], rfl, Nat.zero_le _⟩
  | k + 1, h => by
    obtain ⟨pre, h1, h2, h3⟩ := pK_split s k (by omega)
    have hlt : (pK s k).b < s.size := by
      rcases Nat.lt_or_ge (pK s k).b s.size with h' | h'
      · exact h'
      · rw [posG_end s _ h', List.append_nil] at h1
        unfold nP at h
        rw [h1, h2] at h; omega
    refine ⟨pre ++ [(pK s k).b], ?_, by simp [h2], wd_fits s _ hlt⟩
    rw [h1, posG_cons s _ hlt]
    simp [pK, nxt]
theorem pK_lt (s : ByteArray) (k : Nat) (h : k < nP s) : (pK s k).b < s.size := by
  obtain ⟨pre, h1, h2, h3⟩ := pK_split s k (by omega)
  rcases Nat.lt_or_ge (pK s k).b s.size with h' | h'
  · exact h'
  · rw [posG_end s _ h', List.append_nil] at h1
    unfold nP at h
    rw [h1, h2] at h; omega
theorem pK_end (s : ByteArray) : (pK s (nP s)).b = s.size := by
  obtain ⟨pre, h1, h2, h3⟩ := pK_split s (nP s) (Nat.le_refl _)
  rcases Nat.lt_or_ge (pK s (nP s)).b s.size with h' | h'
  · have h4 : (posns s).length = nP s := rfl
    rw [h1, posG_cons s _ h'] at h4
    simp at h4; omega
  · omega
/-- A place ahead of the end is one of the pieces. -/
theorem nP_of_lt (s : ByteArray) (k : Nat) (h : k ≤ nP s) (hb : (pK s k).b < s.size) : k < nP s := by
  rcases Nat.lt_or_ge k (nP s) with h' | h'
  · exact h'
  · obtain rfl : k = nP s := by omega
    rw [pK_end] at hb; omega
theorem pK_le (s : ByteArray) (k : Nat) (h : k ≤ nP s) : (pK s k).b ≤ s.size := (pK_split s k h).choose_spec.2.2
theorem pK_b_succ (s : ByteArray) (k : Nat) : (pK s k).b < (pK s (k + 1)).b := by have := wd_pos s (pK s k).b; simp only [pK, nxt]; omega
theorem pK_u_succ (s : ByteArray) (k : Nat) : (pK s k).u < (pK s (k + 1)).u := by have := un_pos s (pK s k).b; simp only [pK, nxt]; omega
theorem pK_l_succ (s : ByteArray) (k : Nat) : (pK s k).l ≤ (pK s (k + 1)).l := by simp only [pK, nxt]; split <;> omega
theorem mono_of {f : Nat → Nat} (h : ∀ k, f k < f (k + 1)) : ∀ {a b}, a < b → f a < f b := by
  intro a b hab
  induction hab with
  | refl => exact h a
  | step _ ih => exact Nat.lt_trans ih (h _)
theorem monoLe_of {f : Nat → Nat} (h : ∀ k, f k ≤ f (k + 1)) : ∀ {a b}, a ≤ b → f a ≤ f b := by
  intro a b hab
  induction hab with
  | refl => exact Nat.le_refl _
  | step _ ih => exact Nat.le_trans ih (h _)
theorem pK_b_lt (s : ByteArray) {a b : Nat} (h : a < b) : (pK s a).b < (pK s b).b := mono_of (f := fun k => (pK s k).b) (pK_b_succ s) h
theorem pK_u_lt (s : ByteArray) {a b : Nat} (h : a < b) : (pK s a).u < (pK s b).u := mono_of (f := fun k => (pK s k).u) (pK_u_succ s) h
theorem pK_b_le (s : ByteArray) {a b : Nat} (h : a ≤ b) : (pK s a).b ≤ (pK s b).b := monoLe_of (f := fun k => (pK s k).b) (fun k => Nat.le_of_lt (pK_b_succ s k)) h
theorem pK_u_le (s : ByteArray) {a b : Nat} (h : a ≤ b) : (pK s a).u ≤ (pK s b).u := monoLe_of (f := fun k => (pK s k).u) (fun k => Nat.le_of_lt (pK_u_succ s k)) h
theorem pK_l_le (s : ByteArray) {a b : Nat} (h : a ≤ b) : (pK s a).l ≤ (pK s b).l := monoLe_of (f := fun k => (pK s k).l) (pK_l_succ s) h
theorem pK_u_bound (s : ByteArray) : ∀ k, (pK s k).u ≤ 2 * k
  | 0 => by simp [pK]
  | k + 1 => by have := pK_u_bound s k; have := un_le s (pK s k).b; simp only [pK, nxt]; omega
theorem pK_l_bound (s : ByteArray) : ∀ k, (pK s k).l ≤ k
  | 0 => by simp [pK]
  | k + 1 => by have := pK_l_bound s k; simp only [pK, nxt]; split <;> omega
theorem pK_c_bound (s : ByteArray) : ∀ k, (pK s k).c ≤ k
  | 0 => by simp [pK]
  | k + 1 => by have := pK_c_bound s k; simp only [pK, nxt]; split <;> omega

/-- The cells of a place; a list of places. -/
def plC (p : Pl) : List Value := [.int .i64 p.b, .int .i64 p.k, .int .i64 p.u, .int .i64 p.l, .int .i64 p.c]
def plV (p : Pl) : Value := .agg #[.int .i64 p.b, .int .i64 p.k, .int .i64 p.u, .int .i64 p.l, .int .i64 p.c]
def plS (s : ByteArray) (m : Nat) : List Value := (List.range m).flatMap fun k => plC (pK s k)
theorem plS_succ (s : ByteArray) (m : Nat) : plS s (m + 1) = plS s m ++ plC (pK s m) := by simp [plS, List.range_succ]
theorem plS_len (s : ByteArray) : ∀ m, (plS s m).length = m * 5
  | 0 => rfl
  | m + 1 => by rw [plS_succ, List.length_append, plS_len s m]; simp [plC]; omega
theorem plS_get (s : ByteArray) : ∀ m k j, k < m → j < 5 → (plS s m)[k * 5 + j]? = (plC (pK s k))[j]?
  | 0, _, _, h, _ => by omega
  | m + 1, k, j, h, hj => by
    rw [plS_succ]
    have hl := plS_len s m
    rcases Nat.lt_or_ge k m with h' | h'
    · rw [List.getElem?_append_left (by omega), plS_get s m k j h' hj]
    · obtain rfl : k = m := by omega
      rw [List.getElem?_append_right (by omega), hl, Nat.add_sub_cancel_left]

/-- The last place of which a thing holds that holds of the first one and, once it does not, no more: how many there are. -/
def cntP (s : ByteArray) (q : Pl → Bool) : Nat := (List.range (nP s + 1)).countP fun k => q (pK s k)
theorem countP_pre {q : Nat → Bool} : ∀ (n : Nat), (∀ a b, a ≤ b → b < n → q b = true → q a = true) → (∀ k, k < (List.range n).countP q → q k = true) ∧ (∀ k, (List.range n).countP q ≤ k → k < n → q k = false) ∧ (List.range n).countP q ≤ n := by
  intro n
  induction n with
  | zero => intro _; simp
  | succ n ih =>
    intro hm
    obtain ⟨h1, h2, h3⟩ := ih fun a b hab hb => hm a b hab (by omega)
    rw [List.range_succ, List.countP_append]
    cases hq : q n with
    | true =>
      have he : (List.range n).countP q = n := by
        rcases Nat.lt_or_ge ((List.range n).countP q) n with h | h
        · have := h2 _ (Nat.le_refl _) h
          rw [hm _ n (by omega) (by omega) hq] at this; cases this
        · omega
      simp only [List.countP_singleton, hq, if_true, he]
      refine ⟨fun k hk => ?_, fun k hk hk2 => by omega, Nat.le_refl _⟩
      exact hm k n (by omega) (by omega) hq
    | false =>
      simp only [List.countP_singleton, hq, Bool.false_eq_true, if_false, Nat.add_zero]
      refine ⟨h1, fun k hk hk2 => ?_, by omega⟩
      rcases Nat.lt_or_ge k n with h | h
      · exact h2 k hk h
      · obtain rfl : k = n := by omega
        exact hq
/-- The last place of which q holds is number j. -/
theorem cntP_is {s : ByteArray} {q : Pl → Bool} {j : Nat} (hj : j ≤ nP s) (hm : ∀ a b, a ≤ b → b ≤ nP s → q (pK s b) = true → q (pK s a) = true) (h1 : q (pK s j) = true) (h2 : j < nP s → q (pK s (j + 1)) = false) : cntP s q = j + 1 := by
  obtain ⟨g1, g2, g3⟩ := countP_pre (q := fun k => q (pK s k)) (nP s + 1) fun a b hab hb => hm a b hab (by omega)
  change (List.range (nP s + 1)).countP _ = j + 1
  generalize (List.range (nP s + 1)).countP (fun k => q (pK s k)) = c at g1 g2 g3
  rcases Nat.lt_trichotomy c (j + 1) with h | h | h
  · have := g2 j (by omega) (by omega)
    rw [h1] at this; cases this
  · exact h
  · have := g1 (j + 1) h
    rw [h2 (by omega)] at this; cases this
theorem cntP_spec {s : ByteArray} {q : Pl → Bool} (hm : ∀ a b, a ≤ b → b ≤ nP s → q (pK s b) = true → q (pK s a) = true) (h0 : q (pK s 0) = true) : ∃ j, j ≤ nP s ∧ cntP s q = j + 1 ∧ q (pK s j) = true ∧ (j < nP s → q (pK s (j + 1)) = false) := by
  obtain ⟨g1, g2, g3⟩ := countP_pre (q := fun k => q (pK s k)) (nP s + 1) fun a b hab hb => hm a b hab (by omega)
  show ∃ j, j ≤ nP s ∧ (List.range (nP s + 1)).countP _ = j + 1 ∧ _
  generalize (List.range (nP s + 1)).countP (fun k => q (pK s k)) = c at g1 g2 g3
  have hc : c ≠ 0 := fun h => by
    have := g2 0 (by omega) (by omega)
    rw [h0] at this; cases this
  exact ⟨c - 1, by omega, by omega, g1 _ (by omega), fun h => g2 (c - 1 + 1) (by omega) (by omega)⟩
end Go.Proofs.Ytjlfdoonhfkabaa
