/- The pieces of a text: their widths, their runes; plain facts. -/
import Derived.Test.YtjccoiephdopkaaDoorDec
namespace Go.Proofs.YtjccoiephdopkaaDoor
set_option linter.unusedVariables false
set_option linter.unusedSimpArgs false
open Go

/-- How many bytes the form of a rune has; 0: it is none. -/
def widZ (r : Int) : Nat := if r < 0 ∨ (55296 ≤ r ∧ r ≤ 57343) ∨ 1114111 < r then 0 else if r < 128 then 1 else if r < 2048 then 2 else if r < 65536 then 3 else 4

theorem widZ_le (r : Int) : widZ r ≤ 4 := by unfold widZ; (repeat' split) <;> omega

theorem widZ_0 (r : Int) : widZ r = 0 ↔ (r < 0 ∨ (55296 ≤ r ∧ r ≤ 57343) ∨ 1114111 < r) := by
  unfold widZ; split
  · simp_all
  · rename_i h; constructor
    · intro h2; exfalso; revert h2; (repeat' split) <;> omega
    · intro h2; exact absurd h2 h

theorem bk_iff (s : ByteArray) (i : Nat) : bk s i = true ↔ lenN s i = 0 := by simp [bk]
theorem bk_not (s : ByteArray) (i : Nat) : bk s i = false ↔ lenN s i ≠ 0 := by simp [bk]

theorem wd_pos (s : ByteArray) (i : Nat) : 1 ≤ wd s i := by unfold wd; split <;> omega
theorem wd_le (s : ByteArray) (i : Nat) : wd s i ≤ 4 := by unfold wd; have := lenN_le s i; split <;> omega
theorem wd_fits (s : ByteArray) (i : Nat) (hi : i < s.size) : i + wd s i ≤ s.size := by
  unfold wd; split
  · omega
  · rename_i h; exact (lenN_fits s i h).1

/-- Whatever begins at i: which of five. -/
theorem five (s : ByteArray) (i : Nat) (hi : i < s.size) :
    (isF s i 1 = true ∧ lenN s i = 1 ∧ rn s i = bt s i) ∨
    (isF s i 2 = true ∧ lenN s i = 2 ∧ rn s i = bt s i % 32 * 64 + bt s (i + 1) % 64) ∨
    (isF s i 3 = true ∧ lenN s i = 3 ∧ rn s i = bt s i % 16 * 4096 + bt s (i + 1) % 64 * 64 + bt s (i + 2) % 64) ∨
    (isF s i 4 = true ∧ lenN s i = 4 ∧ rn s i = bt s i % 8 * 262144 + bt s (i + 1) % 64 * 4096 + bt s (i + 2) % 64 * 64 + bt s (i + 3) % 64) ∨
    (lenN s i = 0 ∧ rn s i = 65533) := by
  cases e1 : isF s i 1 with
  | true => have h := lenN_of_1 s i hi e1; exact .inl ⟨rfl, h, by rw [rn, h]; rfl⟩
  | false =>
    cases e2 : isF s i 2 with
    | true => have h := lenN_of_2 s i e2; exact .inr (.inl ⟨rfl, h, by rw [rn, h]; rfl⟩)
    | false =>
      cases e3 : isF s i 3 with
      | true => have h := lenN_of_3 s i e3; exact .inr (.inr (.inl ⟨rfl, h, by rw [rn, h]; simp only [rdN, hdN]; simp; omega⟩))
      | false =>
        cases e4 : isF s i 4 with
        | true => have h := lenN_of_4 s i e4; exact .inr (.inr (.inr (.inl ⟨rfl, h, by rw [rn, h]; simp only [rdN, hdN]; simp; omega⟩)))
        | false => have h := lenN_of_no s i hi e1 e2 e3 e4; exact .inr (.inr (.inr (.inr ⟨h, by rw [rn, h]; rfl⟩)))

theorem rn_lt (s : ByteArray) (i : Nat) (hi : i < s.size) : rn s i ≤ 1114111 := by
  have hb := bt_lt s i
  rcases five s i hi with ⟨h, _, e⟩ | ⟨h, _, e⟩ | ⟨h, _, e⟩ | ⟨h, _, e⟩ | ⟨_, e⟩
  · omega
  · omega
  · omega
  · rw [isF4] at h; omega
  · omega

/-- A form's rune has as many bytes as the form. -/
theorem wid_rn (s : ByteArray) (i : Nat) (hi : i < s.size) (h0 : bk s i = false) : widZ (rn s i) = wd s i := by
  rw [bk_not] at h0
  have hb := bt_lt s i
  unfold wd
  rw [if_neg h0]
  rcases five s i hi with ⟨h, hl, e⟩ | ⟨h, hl, e⟩ | ⟨h, hl, e⟩ | ⟨h, hl, e⟩ | ⟨hl, e⟩
  · rw [isF1] at h; rw [hl]; unfold widZ; rw [if_neg (by omega), if_pos (by omega)]
  · rw [isF2] at h; rw [hl]; unfold widZ; rw [if_neg (by omega), if_neg (by omega), if_pos (by omega)]
  · rw [isF3] at h; rw [hl]; unfold widZ; rw [if_neg (by omega), if_neg (by omega), if_neg (by omega), if_pos (by omega)]
  · rw [isF4] at h; rw [hl]; unfold widZ; rw [if_neg (by omega), if_neg (by omega), if_neg (by omega), if_neg (by omega)]
  · exact absurd hl h0

theorem valid_rn (s : ByteArray) (i : Nat) (hi : i < s.size) : Utf8.valid (rn s i : Int) = true := by
  rw [valid_iff]
  have hb := bt_lt s i
  rcases five s i hi with ⟨h, hl, e⟩ | ⟨h, hl, e⟩ | ⟨h, hl, e⟩ | ⟨h, hl, e⟩ | ⟨hl, e⟩
  · omega
  · omega
  · rw [isF3] at h; omega
  · rw [isF4] at h; omega
  · omega

theorem bk_rn (s : ByteArray) (i : Nat) (h : bk s i = true) : rn s i = 65533 ∧ wd s i = 1 := by
  rw [bk_iff] at h; simp [rn, wd, h]

/-- A piece with another rune than U+FFFD is a form. -/
theorem bk_of_rn (s : ByteArray) (i : Nat) (h : rn s i ≠ 65533) : bk s i = false := by
  cases hb : bk s i with
  | false => rfl
  | true => exact absurd (bk_rn s i hb).1 h

theorem widZ_lost : widZ 65533 = 3 := by decide

/-- The places of the pieces from i on. -/
def posF (s : ByteArray) : Nat → Nat → List Nat
  | 0, _ => []
  | f + 1, i => if i < s.size then i :: posF s f (i + wd s i) else []

/-- The places of a text's pieces. -/
def posns (s : ByteArray) : List Nat := posF s s.size 0

theorem posF_end (s : ByteArray) (f i : Nat) (h : s.size ≤ i) : posF s f i = [] := by
  cases f with
  | zero => rfl
  | succ f => simp only [posF]; rw [if_neg (by omega)]

/-- Enough fuel is enough. -/
theorem posF_fuel (s : ByteArray) : ∀ f g i, s.size ≤ i + f → s.size ≤ i + g → posF s f i = posF s g i := by
  intro f
  induction f with
  | zero => intro g i h _; rw [posF_end _ _ _ (by omega), posF_end _ _ _ (by omega)]
  | succ f ih =>
    intro g i h1 h2
    cases g with
    | zero => rw [posF_end _ _ _ (by omega), posF_end _ _ _ (by omega)]
    | succ g =>
      simp only [posF]
      by_cases hi : i < s.size
      · have := wd_pos s i
        rw [if_pos hi, if_pos hi, ih g _ (by omega) (by omega)]
      · rw [if_neg hi, if_neg hi]

/-- The places from i on, with all fuel. -/
def posG (s : ByteArray) (i : Nat) : List Nat := posF s (s.size - i) i

theorem posG_cons (s : ByteArray) (i : Nat) (hi : i < s.size) : posG s i = i :: posG s (i + wd s i) := by
  have := wd_pos s i
  unfold posG
  obtain ⟨f, hf⟩ : ∃ f, s.size - i = f + 1 := ⟨s.size - i - 1, by omega⟩
  rw [hf]
  simp only [posF]
  rw [if_pos hi, posF_fuel s f (s.size - (i + wd s i)) _ (by omega) (by omega)]
theorem posG_end (s : ByteArray) (i : Nat) (hi : s.size ≤ i) : posG s i = [] := posF_end _ _ _ hi
theorem posns_G (s : ByteArray) : posns s = posG s 0 := rfl

theorem posF_len (s : ByteArray) : ∀ f i, (posF s f i).length ≤ s.size - i := by
  intro f
  induction f with
  | zero => intro i; simp [posF]
  | succ f ih =>
    intro i
    simp only [posF]
    by_cases hi : i < s.size
    · rw [if_pos hi]
      have := ih (i + wd s i)
      have := wd_pos s i
      simp only [List.length_cons]; omega
    · rw [if_neg hi]; simp
theorem posG_len (s : ByteArray) (i : Nat) : (posG s i).length ≤ s.size - i := posF_len _ _ _
theorem posns_len (s : ByteArray) : (posns s).length ≤ s.size := posG_len s 0

end Go.Proofs.YtjccoiephdopkaaDoor
