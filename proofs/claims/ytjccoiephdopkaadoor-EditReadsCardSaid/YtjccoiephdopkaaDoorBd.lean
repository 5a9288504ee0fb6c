/- Boundaries: each place stands in one piece; within a form no form begins; a text's last piece. Plain facts. -/
import Derived.Test.YtjccoiephdopkaaDoorPc
namespace Go.Proofs.YtjccoiephdopkaaDoor
set_option linter.unusedVariables false
set_option linter.unusedSimpArgs false
open Go

theorem posG_ind (s : ByteArray) (P : Nat → Prop) (h0 : ∀ i, s.size ≤ i → P i) (h1 : ∀ i, i < s.size → P (i + wd s i) → P i) : ∀ i, P i := by
  intro i
  obtain ⟨f, hf⟩ : ∃ f, s.size - i = f := ⟨_, rfl⟩
  induction f using Nat.strongRecOn generalizing i with
  | ind f ih =>
    by_cases hi : i < s.size
    · have := wd_pos s i
      exact h1 i hi (ih (s.size - (i + wd s i)) (by omega) _ rfl)
    · exact h0 i (by omega)

theorem posG_ge (s : ByteArray) : ∀ i, ∀ p ∈ posG s i, i ≤ p ∧ p < s.size := by
  apply posG_ind s
  · intro i hi p hp; rw [posG_end s i hi] at hp; cases hp
  · intro i hi ih p hp
    rw [posG_cons s i hi] at hp
    have := wd_pos s i
    rcases List.mem_cons.1 hp with rfl | hp
    · omega
    · have := ih p hp; omega

theorem posG_cover (s : ByteArray) : ∀ i, ∀ k, i ≤ k → k < s.size → ∃ p ∈ posG s i, p ≤ k ∧ k < p + wd s p := by
  apply posG_ind s
  · intro i hi k h1 h2; omega
  · intro i hi ih k h1 h2
    rw [posG_cons s i hi]
    by_cases h : k < i + wd s i
    · exact ⟨i, by simp, h1, h⟩
    · obtain ⟨p, hp, h3⟩ := ih k (by omega) h2
      exact ⟨p, by simp [hp], h3⟩

theorem posG_apart (s : ByteArray) : ∀ i, ∀ p ∈ posG s i, ∀ q ∈ posG s i, p < q → p + wd s p ≤ q := by
  apply posG_ind s
  · intro i hi p hp; rw [posG_end s i hi] at hp; cases hp
  · intro i hi ih p hp q hq hlt
    rw [posG_cons s i hi] at hp hq
    rcases List.mem_cons.1 hp with rfl | hp
    · rcases List.mem_cons.1 hq with rfl | hq
      · omega
      · exact (posG_ge s _ q hq).1
    · rcases List.mem_cons.1 hq with rfl | hq
      · have := (posG_ge s _ p hp).1; have := wd_pos s q; omega
      · exact ih p hp q hq hlt

/-- The bytes behind the first one of a form begin none. -/
theorem inside (s : ByteArray) (p k : Nat) (hp : p < s.size) (h1 : p < k) (h2 : k < p + wd s p) : 128 ≤ bt s k ∧ bt s k ≤ 191 := by
  rcases five s p hp with ⟨hF, hl, _⟩ | ⟨hF, hl, _⟩ | ⟨hF, hl, _⟩ | ⟨hF, hl, _⟩ | ⟨hl, _⟩
  · rw [wd, if_neg (by omega)] at h2; omega
  · rw [wd, if_neg (by omega)] at h2; rw [isF2] at hF
    obtain rfl : k = p + 1 := by omega
    omega
  · rw [wd, if_neg (by omega)] at h2; rw [isF3] at hF
    rcases (show k = p + 1 ∨ k = p + 2 by omega) with rfl | rfl <;> omega
  · rw [wd, if_neg (by omega)] at h2; rw [isF4] at hF
    rcases (show k = p + 1 ∨ k = p + 2 ∨ k = p + 3 by omega) with rfl | rfl | rfl <;> omega
  · rw [wd, if_pos hl] at h2; omega

theorem len_cont (s : ByteArray) (k : Nat) (h : 128 ≤ bt s k ∧ bt s k ≤ 191) : lenN s k = 0 := by
  unfold lenN; rw [whN_0 (by omega)]; split <;> rfl

/-- Where a form begins, a piece does. -/
theorem form_pos (s : ByteArray) (q : Nat) (hq : q < s.size) (h : lenN s q ≠ 0) : q ∈ posns s := by
  obtain ⟨p, hp, h1, h2⟩ := posG_cover s 0 q (by omega) hq
  by_cases e : p = q
  · rw [← e]; exact hp
  · exact absurd (len_cont s q (inside s p q (posG_ge s 0 p hp).2 (by omega) h2)) h

/-- A text's last piece ends where the text does. -/
theorem posG_last (s : ByteArray) : ∀ i, i < s.size → ∃ pre p, posG s i = pre ++ [p] ∧ p + wd s p = s.size := by
  apply posG_ind s (fun i => i < s.size → ∃ pre p, posG s i = pre ++ [p] ∧ p + wd s p = s.size)
  · intro i hi h; omega
  · intro i hi ih _
    rw [posG_cons s i hi]
    by_cases h : i + wd s i < s.size
    · obtain ⟨pre, p, h1, h2⟩ := ih h
      exact ⟨i :: pre, p, by rw [h1]; rfl, h2⟩
    · have := wd_fits s i hi
      exact ⟨[], i, by rw [posG_end s _ (by omega)]; rfl, by omega⟩

theorem posns_last (s : ByteArray) (h : 0 < s.size) : ∃ pre p, posns s = pre ++ [p] ∧ p + wd s p = s.size := posG_last s 0 h

/-- The piece that ends at the end, by its form. -/
theorem last_form (s : ByteArray) (n : Nat) (h1 : 1 ≤ n) (hn : n ≤ s.size) (h : lenN s (s.size - n) = n) : ∀ pre p, posns s = pre ++ [p] → p + wd s p = s.size → p = s.size - n := by
  intro pre p hp he
  have hm := form_pos s (s.size - n) (by omega) (by omega)
  have hpm : p ∈ posns s := by rw [hp]; simp
  have hw : wd s (s.size - n) = n := by rw [wd, if_neg (by omega)]; exact h
  have hps := (posG_ge s 0 p hpm).2
  rcases Nat.lt_trichotomy p (s.size - n) with hlt | heq | hgt
  · have := posG_apart s 0 p hpm _ hm hlt; omega
  · exact heq
  · have := posG_apart s 0 _ hm p hpm hgt; omega

theorem last_broken (s : ByteArray) (h0 : 0 < s.size) (h : ∀ n, 1 ≤ n → n ≤ 4 → n ≤ s.size → lenN s (s.size - n) ≠ n) : ∀ pre p, posns s = pre ++ [p] → p + wd s p = s.size → p = s.size - 1 ∧ lenN s p = 0 := by
  intro pre p hp he
  have hpm : p ∈ posns s := by rw [hp]; simp
  have hps := (posG_ge s 0 p hpm).2
  have hw4 := wd_le s p
  have hw1 := wd_pos s p
  have hl : lenN s p = 0 := by
    by_cases hl : lenN s p = 0
    · exact hl
    · have hw : wd s p = lenN s p := by rw [wd, if_neg hl]
      have := h (wd s p) hw1 hw4 (by omega)
      rw [show s.size - wd s p = p by omega] at this
      exact absurd hw.symm this
  refine ⟨?_, hl⟩
  rw [wd, if_pos hl] at he; omega

/-- A text's head has its bytes. -/
theorem bt_head (s : ByteArray) (n k : Nat) (hn : n ≤ s.size) (hk : k < n) : bt (s.extract 0 n) k = bt s k := by
  have h1 : k < (s.extract 0 n).size := by rw [ByteArray.size_extract]; omega
  rw [← bt_get _ k h1, ← bt_get s k (by omega), ByteArray.getElem_extract]
  simp

theorem size_head (s : ByteArray) (n : Nat) (hn : n ≤ s.size) : (s.extract 0 n).size = n := by rw [ByteArray.size_extract]; omega

theorem isF_head (s : ByteArray) (n i m : Nat) (hn : n ≤ s.size) (hi : i < n) (h : isF (s.extract 0 n) i m = true) : isF s i m = true := by
  have hz := size_head s n hn
  match m, h with
  | 1, h => rw [isF1] at h ⊢; rw [bt_head s n i hn hi] at h; exact h
  | 2, h => rw [isF2, hz] at h; rw [isF2]; obtain ⟨a, b, c, d, e⟩ := h; rw [bt_head s n i hn hi] at a b; rw [bt_head s n (i + 1) hn (by omega)] at d e; exact ⟨a, b, by omega, d, e⟩
  | 3, h =>
    rw [isF3, hz] at h; rw [isF3]
    obtain ⟨a, b, c, d, e, f, g, j, k, l⟩ := h
    rw [bt_head s n i hn hi] at a b k l; rw [bt_head s n (i + 1) hn (by omega)] at d e k l; rw [bt_head s n (i + 2) hn (by omega)] at g j
    exact ⟨a, b, by omega, d, e, by omega, g, j, k, l⟩
  | 4, h =>
    rw [isF4, hz] at h; rw [isF4]
    obtain ⟨a, b, c, d, e, f, g, j, f2, g2, j2, k, l⟩ := h
    rw [bt_head s n i hn hi] at a b k l; rw [bt_head s n (i + 1) hn (by omega)] at d e k l; rw [bt_head s n (i + 2) hn (by omega)] at g j; rw [bt_head s n (i + 3) hn (by omega)] at g2 j2
    exact ⟨a, b, by omega, d, e, by omega, g, j, by omega, g2, j2, k, l⟩

/-- A form within a text's head is the text's. -/
theorem head_form (s : ByteArray) (n i : Nat) (hn : n ≤ s.size) (hi : i < n) (h : lenN (s.extract 0 n) i ≠ 0) : lenN s i = lenN (s.extract 0 n) i ∧ rn s i = rn (s.extract 0 n) i := by
  have hz := size_head s n hn
  have hib : i < (s.extract 0 n).size := by omega
  have hs5 := five s i (by omega)
  rcases five (s.extract 0 n) i hib with ⟨hF, hl, e⟩ | ⟨hF, hl, e⟩ | ⟨hF, hl, e⟩ | ⟨hF, hl, e⟩ | ⟨hl, _⟩
  · have hG := lenN_of_1 s i (by omega) (isF_head s n i 1 hn hi hF)
    rw [hG] at hs5; refine ⟨by rw [hG, hl], ?_⟩
    rw [bt_head s n i hn hi] at e
    rcases hs5 with ⟨_, _, e'⟩ | ⟨_, h', _⟩ | ⟨_, h', _⟩ | ⟨_, h', _⟩ | ⟨h', _⟩ <;> omega
  · have hG := lenN_of_2 s i (isF_head s n i 2 hn hi hF)
    rw [isF2, hz] at hF
    rw [hG] at hs5; refine ⟨by rw [hG, hl], ?_⟩
    rw [bt_head s n i hn hi, bt_head s n (i + 1) hn (by omega)] at e
    rcases hs5 with ⟨_, h', _⟩ | ⟨_, _, e'⟩ | ⟨_, h', _⟩ | ⟨_, h', _⟩ | ⟨h', _⟩ <;> omega
  · have hG := lenN_of_3 s i (isF_head s n i 3 hn hi hF)
    rw [isF3, hz] at hF
    rw [hG] at hs5; refine ⟨by rw [hG, hl], ?_⟩
    rw [bt_head s n i hn hi, bt_head s n (i + 1) hn (by omega), bt_head s n (i + 2) hn (by omega)] at e
    rcases hs5 with ⟨_, h', _⟩ | ⟨_, h', _⟩ | ⟨_, _, e'⟩ | ⟨_, h', _⟩ | ⟨h', _⟩ <;> omega
  · have hG := lenN_of_4 s i (isF_head s n i 4 hn hi hF)
    rw [isF4, hz] at hF
    rw [hG] at hs5; refine ⟨by rw [hG, hl], ?_⟩
    rw [bt_head s n i hn hi, bt_head s n (i + 1) hn (by omega), bt_head s n (i + 2) hn (by omega), bt_head s n (i + 3) hn (by omega)] at e
    rcases hs5 with ⟨_, h', _⟩ | ⟨_, h', _⟩ | ⟨_, h', _⟩ | ⟨_, _, e'⟩ | ⟨h', _⟩ <;> omega
  · exact absurd hl h
end Go.Proofs.YtjccoiephdopkaaDoor
