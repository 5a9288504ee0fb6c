/- Plain facts on UTF-8: what a form is, byte by byte; no program is spoken of. -/
import Derived.WalkKit
namespace Go.Proofs.YtjccoiephdopkaaDoor
set_option linter.unusedVariables false
set_option linter.unusedSimpArgs false

/-- The byte of s at i. -/
def bt (s : ByteArray) (i : Nat) : Nat := (s.get! i).toNat

theorem bt_lt (s : ByteArray) (i : Nat) : bt s i < 256 := by
  unfold bt; exact (s.get! i).toNat_lt

theorem bt_get (s : ByteArray) (i : Nat) (h : i < s.size) : s[i].toNat = bt s i := by
  unfold bt
  simp [ByteArray.get!, getElem!_pos, h]
  rfl

/-- How long the form is that a byte begins; 0: none. -/
def whN (b : Nat) : Nat := if b < 128 then 1 else if 194 ≤ b ∧ b ≤ 223 then 2 else if 224 ≤ b ∧ b ≤ 239 then 3 else if 240 ≤ b ∧ b ≤ 244 then 4 else 0

theorem whN_le (b : Nat) : whN b ≤ 4 := by unfold whN; split <;> (try split) <;> (try split) <;> (try split) <;> omega

/-- May c stand k bytes behind the first byte b of a form? -/
def okB (b c k : Nat) : Bool :=
  if c < 128 ∨ 191 < c then false else if 1 < k then true
  else if b = 224 then decide (160 ≤ c) else if b = 237 then decide (c ≤ 159) else if b = 240 then decide (144 ≤ c) else if b = 244 then decide (c ≤ 143) else true

theorem okB_iff (b c k : Nat) : okB b c k = true ↔ (128 ≤ c ∧ c ≤ 191 ∧ (k ≤ 1 → (b = 224 → 160 ≤ c) ∧ (b = 237 → c ≤ 159) ∧ (b = 240 → 144 ≤ c) ∧ (b = 244 → c ≤ 143))) := by
  unfold okB
  split
  · simp; omega
  · split
    · simp; omega
    · split
      · simp; omega
      · split
        · simp; omega
        · split
          · simp; omega
          · split
            · simp; omega
            · simp; omega

theorem okB_not (b c k : Nat) (h : ¬ (128 ≤ c ∧ c ≤ 191 ∧ (k ≤ 1 → (b = 224 → 160 ≤ c) ∧ (b = 237 → c ≤ 159) ∧ (b = 240 → 144 ≤ c) ∧ (b = 244 → c ≤ 143)))) : okB b c k = false := by
  rw [Bool.eq_false_iff]; intro hk; exact h ((okB_iff b c k).1 hk)

/-- The loop of fitting: from k on. -/
def fitFrom (s : ByteArray) (i n : Nat) : Nat → Nat → Nat
  | 0, _ => n
  | f + 1, k => if k < n then if okB (bt s i) (bt s (i + k)) k then fitFrom s i n f (k + 1) else k else n

def fitN (s : ByteArray) (i : Nat) : Nat := fitFrom s i (min (whN (bt s i)) (s.size - i)) 4 1

def lenN (s : ByteArray) (i : Nat) : Nat := if fitN s i < whN (bt s i) then 0 else whN (bt s i)

theorem lenN_le (s : ByteArray) (i : Nat) : lenN s i ≤ 4 := by
  unfold lenN; split
  · omega
  · exact whN_le _

theorem fitFrom_le (s : ByteArray) (i n : Nat) : ∀ f k, k ≤ n → fitFrom s i n f k ≤ n := by
  intro f; induction f with
  | zero => intro k _; simp [fitFrom]
  | succ f ih =>
    intro k hk; simp only [fitFrom]; split
    · split
      · exact ih _ (by omega)
      · exact hk
    · omega

theorem fitFrom_ge (s : ByteArray) (i n f : Nat) (k : Nat) (h : n ≤ k) : fitFrom s i n (f + 1) k = n := by
  simp only [fitFrom]; rw [if_neg (by omega)]

theorem fitFrom_step (s : ByteArray) (i n f k : Nat) (h : k < n) (ho : okB (bt s i) (bt s (i + k)) k = true) : fitFrom s i n (f + 1) k = fitFrom s i n f (k + 1) := by
  simp only [fitFrom]; rw [if_pos h, if_pos ho]

theorem fitFrom_stop (s : ByteArray) (i n f k : Nat) (h : k < n) (ho : okB (bt s i) (bt s (i + k)) k = false) : fitFrom s i n (f + 1) k = k := by
  simp only [fitFrom]; rw [if_pos h, ho]; simp

theorem lenN_fits (s : ByteArray) (i : Nat) (h : lenN s i ≠ 0) : i + lenN s i ≤ s.size ∧ lenN s i = whN (bt s i) := by
  unfold lenN at h ⊢
  split at h
  · exact absurd rfl h
  · rename_i hf
    rw [if_neg hf]
    refine ⟨?_, rfl⟩
    have h1 : fitN s i ≤ s.size - i := by
      unfold fitN
      by_cases hk : 1 ≤ min (whN (bt s i)) (s.size - i)
      · have := fitFrom_le s i (min (whN (bt s i)) (s.size - i)) 4 1 hk; omega
      · rw [fitFrom_ge _ _ _ _ _ (by omega)]; omega
    omega

/-- What the first byte of a form of n bytes says of its rune. -/
def hdN (b n : Nat) : Nat := if n = 1 then b else if n = 2 then b % 32 else if n = 3 then b % 16 else b % 8

/-- What the first k bytes of the form at i say of its rune. -/
def rdN (s : ByteArray) (i n : Nat) : Nat → Nat
  | 0 => 0
  | 1 => hdN (bt s i) n
  | k + 2 => rdN s i n (k + 1) * 64 + bt s (i + (k + 1)) % 64

theorem rdN_succ (s : ByteArray) (i n k : Nat) (h : 1 ≤ k) : rdN s i n (k + 1) = rdN s i n k * 64 + bt s (i + k) % 64 := by
  match k, h with
  | k + 1, _ => rfl

theorem rdN_lt (s : ByteArray) (i n : Nat) : ∀ k, 1 ≤ k → k ≤ 4 → rdN s i n k < 256 * 64 ^ (k - 1) := by
  have hb := bt_lt s i
  intro k h1 h4
  have e1 : rdN s i n 1 < 256 := by show hdN _ _ < 256; unfold hdN; split <;> (try split) <;> (try split) <;> omega
  have e2 : rdN s i n 2 < 256 * 64 := by rw [rdN_succ _ _ _ 1 (by omega)]; omega
  have e3 : rdN s i n 3 < 256 * 4096 := by rw [rdN_succ _ _ _ 2 (by omega)]; omega
  have e4 : rdN s i n 4 < 256 * 262144 := by rw [rdN_succ _ _ _ 3 (by omega)]; omega
  rcases (show k = 1 ∨ k = 2 ∨ k = 3 ∨ k = 4 by omega) with rfl | rfl | rfl | rfl
  · simpa using e1
  · simpa using e2
  · simpa using e3
  · simpa using e4

end Go.Proofs.YtjccoiephdopkaaDoor
