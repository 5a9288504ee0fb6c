/- Where a place stands: at a boundary, or within one form. Plain facts. -/
import Derived.Test.YtjccoiephdopkaaDoorBd
namespace Go.Proofs.YtjccoiephdopkaaDoor
set_option linter.unusedVariables false
set_option linter.unusedSimpArgs false
open Go

/-- The boundaries of a text. -/
def ends (s : ByteArray) : List Nat := posns s ++ [s.size]

theorem mem_ends (s : ByteArray) (i : Nat) : i ∈ ends s ↔ i ∈ posns s ∨ i = s.size := by simp [ends]

theorem posG_sorted (s : ByteArray) : ∀ i, (posG s i).Pairwise (· < ·) := by
  apply posG_ind s
  · intro i hi; rw [posG_end s i hi]; exact .nil
  · intro i hi ih
    rw [posG_cons s i hi]
    refine .cons (fun q hq => ?_) ih
    have := (posG_ge s _ q hq).1; have := wd_pos s i; omega

theorem ends_sorted (s : ByteArray) : (ends s).Pairwise (· < ·) := by
  unfold ends
  rw [List.pairwise_append]
  refine ⟨posG_sorted s 0, by simp, fun a ha b hb => ?_⟩
  simp at hb; rw [hb]; exact (posG_ge s 0 a ha).2

/-- F to T is the form within which i lies; i to i, if it lies within none. -/
def InB (s : ByteArray) (i F T : Nat) : Prop := (i ∈ ends s ∧ F = i ∧ T = i) ∨ (i ∉ ends s ∧ ∃ p ∈ posns s, p < i ∧ i < p + wd s p ∧ F = p ∧ T = p + wd s p)

theorem inB_in (s : ByteArray) (i n : Nat) (h1 : 1 ≤ n) (hn : n ≤ i) (hi : i ≤ s.size) (h : n < lenN s (i - n)) : InB s i (i - n) (i - n + lenN s (i - n)) := by
  have hp := form_pos s (i - n) (by omega) (by omega)
  have hw : wd s (i - n) = lenN s (i - n) := by rw [wd, if_neg (by omega)]
  refine .inr ⟨?_, i - n, hp, by omega, by omega, rfl, by rw [hw]⟩
  intro hm
  have hf := (lenN_fits s (i - n) (by omega)).1
  rcases (mem_ends s i).1 hm with hm | hm
  · have := posG_apart s 0 _ hp i hm (by omega); omega
  · omega

theorem inB_out (s : ByteArray) (i : Nat) (hi : i ≤ s.size) (h : ∀ m, 1 ≤ m → m ≤ 3 → m ≤ i → ¬ m < lenN s (i - m)) : InB s i i i := by
  refine .inl ⟨?_, rfl, rfl⟩
  rw [mem_ends]
  by_cases he : i = s.size
  · exact .inr he
  · obtain ⟨p, hp, h1, h2⟩ := posG_cover s 0 i (by omega) (by omega)
    by_cases e : p = i
    · exact .inl (by rw [← e]; exact hp)
    · exfalso
      have hw := wd_le s p
      have hl : wd s p = lenN s p := by
        unfold wd at h2 ⊢
        by_cases hz : lenN s p = 0
        · rw [if_pos hz] at h2; omega
        · rw [if_neg hz]
      have := h (i - p) (by omega) (by omega) (by omega)
      rw [show i - (i - p) = p by omega] at this
      omega

theorem inB_le (s : ByteArray) (i F T : Nat) (hi : i ≤ s.size) (h : InB s i F T) : F ≤ i ∧ i ≤ T ∧ T ≤ s.size := by
  rcases h with ⟨_, rfl, rfl⟩ | ⟨_, p, hp, h1, h2, rfl, rfl⟩
  · omega
  · have := wd_fits s F (posG_ge s 0 F hp).2; omega

theorem inB_eq (s : ByteArray) (i F T : Nat) (h : InB s i F T) : F = i ↔ i ∈ ends s := by
  rcases h with ⟨hm, rfl, rfl⟩ | ⟨hm, p, hp, h1, h2, rfl, rfl⟩
  · simp [hm]
  · simp only [hm, iff_false]; omega

/-- The last one that is not above i. -/
def frL (i : Nat) (l : List Nat) : Nat := l.foldl (fun o x => if x ≤ i then x else o) 0
/-- The first one that is not below i. -/
def toR (i : Nat) (l : List Nat) : Nat := l.foldr (fun x o => if i ≤ x then x else o) 0

theorem frL_snoc (i : Nat) (l : List Nat) (x : Nat) : frL i (l ++ [x]) = if x ≤ i then x else frL i l := by simp [frL]
theorem toR_cons (i : Nat) (l : List Nat) (x : Nat) : toR i (x :: l) = if i ≤ x then x else toR i l := rfl

theorem foldl_above (i : Nat) : ∀ (b : List Nat) (o : Nat), (∀ x ∈ b, i < x) → b.foldl (fun o x => if x ≤ i then x else o) o = o := by
  intro b
  induction b with
  | nil => intro o _; rfl
  | cons x b ih =>
    intro o h
    have := h x (by simp)
    simp only [List.foldl_cons]
    rw [if_neg (by omega)]
    exact ih o (fun y hy => h y (by simp [hy]))

theorem foldr_below (i : Nat) (o : Nat) : ∀ (a : List Nat), (∀ x ∈ a, x < i) → a.foldr (fun x o => if i ≤ x then x else o) o = o := by
  intro a
  induction a with
  | nil => intro _; rfl
  | cons x a ih =>
    intro h
    have := h x (by simp)
    simp only [List.foldr_cons]
    rw [if_neg (by omega)]
    exact ih (fun y hy => h y (by simp [hy]))

theorem frL_at {i F : Nat} {l : List Nat} (hs : l.Pairwise (· < ·)) (hF : F ∈ l) (h1 : F ≤ i) (h : ∀ x ∈ l, F < x → i < x) : frL i l = F := by
  obtain ⟨a, b, rfl⟩ := List.append_of_mem hF
  unfold frL
  rw [List.foldl_append, List.foldl_cons, if_pos h1]
  refine foldl_above i b F (fun x hx => h x (by simp [hx]) ?_)
  rw [List.pairwise_append] at hs
  exact (List.pairwise_cons.1 hs.2.1).1 x hx

theorem toR_at {i T : Nat} {l : List Nat} (hs : l.Pairwise (· < ·)) (hT : T ∈ l) (h1 : i ≤ T) (h : ∀ x ∈ l, x < T → x < i) : toR i l = T := by
  obtain ⟨a, b, rfl⟩ := List.append_of_mem hT
  unfold toR
  rw [List.foldr_append, List.foldr_cons, if_pos h1]
  refine foldr_below i T a (fun x hx => h x (by simp [hx]) ?_)
  rw [List.pairwise_append] at hs
  exact hs.2.2 x hx T (by simp)

theorem ends_apart (s : ByteArray) (p : Nat) (hp : p ∈ posns s) (x : Nat) (hx : x ∈ ends s) : x ≤ p ∨ p + wd s p ≤ x := by
  rcases (mem_ends s x).1 hx with hx | rfl
  · by_cases h : p < x
    · exact .inr (posG_apart s 0 p hp x hx h)
    · exact .inl (by omega)
  · exact .inr (wd_fits s p (posG_ge s 0 p hp).2)

theorem next_end (s : ByteArray) (p : Nat) (hp : p ∈ posns s) : p + wd s p ∈ ends s := by
  rw [mem_ends]
  have hlt := (posG_ge s 0 p hp).2
  have hf := wd_fits s p hlt
  by_cases he : p + wd s p = s.size
  · exact .inr he
  · left
    obtain ⟨q, hq, h1, h2⟩ := posG_cover s 0 (p + wd s p) (by omega) (by omega)
    have := wd_pos s p
    by_cases e : q = p + wd s p
    · rw [← e]; exact hq
    · rcases ends_apart s q hq p ((mem_ends s p).2 (.inl hp)) with h | h
      · rcases Nat.lt_or_ge p q with h3 | h3
        · have := posG_apart s 0 p hp q hq h3; omega
        · have : p = q := by omega
          subst this; omega
      · omega

theorem inB_fr (s : ByteArray) (i F T : Nat) (h : InB s i F T) : frL i (ends s) = F := by
  rcases h with ⟨hm, rfl, rfl⟩ | ⟨hm, p, hp, h1, h2, rfl, rfl⟩
  · exact frL_at (ends_sorted s) hm (Nat.le_refl _) (fun x _ hx => hx)
  · refine frL_at (ends_sorted s) ((mem_ends s _).2 (.inl hp)) (by omega) (fun x hx hlt => ?_)
    rcases ends_apart s F hp x hx with h | h <;> omega

theorem inB_to (s : ByteArray) (i F T : Nat) (h : InB s i F T) : toR i (ends s) = T := by
  rcases h with ⟨hm, rfl, rfl⟩ | ⟨hm, p, hp, h1, h2, rfl, rfl⟩
  · exact toR_at (ends_sorted s) hm (Nat.le_refl _) (fun x _ hx => hx)
  · refine toR_at (ends_sorted s) (next_end s F hp) (by omega) (fun x hx hlt => ?_)
    rcases ends_apart s F hp x hx with h | h <;> omega

end Go.Proofs.YtjccoiephdopkaaDoor
