/- Several texts in one. -/
import Derived.Test.YtjccoiephdopkaaZ13
import Derived.RangeFuncNested
import Derived.RangeFuncBound
import Derived.RangeFuncCalls
import Derived.RangeFuncLeaves
import Derived.RangeFuncBox
import Derived.Shelf.Abstract
import Derived.Shelf.RegionOpen
import Derived.OwnWalkIn
import Derived.TacticsInMore
import Derived.LoopNIn
import Derived.LoopIn
import Derived.Lib.OthersKept
import Derived.BigQuiet
import Derived.Deep.QuietTactic
/- What a form's length and its bytes say is what Go's own decoding says. -/
namespace Go.Proofs.Ytjccoiephdopkaa
set_option linter.unusedVariables false
set_option linter.unusedSimpArgs false
open Go

theorem fit1 (s : ByteArray) (i : Nat) : fitFrom s i 1 4 1 = 1 := by simp [fitFrom]
theorem fit0 (s : ByteArray) (i : Nat) : fitFrom s i 0 4 1 = 0 := by simp [fitFrom]
theorem fit2 (s : ByteArray) (i : Nat) : fitFrom s i 2 4 1 = if okB (bt s i) (bt s (i + 1)) 1 then 2 else 1 := by simp [fitFrom]
theorem fit3 (s : ByteArray) (i : Nat) : fitFrom s i 3 4 1 = if okB (bt s i) (bt s (i + 1)) 1 then (if okB (bt s i) (bt s (i + 2)) 2 then 3 else 2) else 1 := by simp [fitFrom]
theorem fit4 (s : ByteArray) (i : Nat) : fitFrom s i 4 4 1 = if okB (bt s i) (bt s (i + 1)) 1 then (if okB (bt s i) (bt s (i + 2)) 2 then (if okB (bt s i) (bt s (i + 3)) 3 then 4 else 3) else 2) else 1 := by simp [fitFrom]

/-- Is the byte at i one behind the first of a form? -/
def ctB (s : ByteArray) (i : Nat) : Bool := decide (i < s.size) && (bt s i / 64 == 2)

theorem ctB_iff (s : ByteArray) (i : Nat) : ctB s i = true ↔ (i < s.size ∧ 128 ≤ bt s i ∧ bt s i ≤ 191) := by
  have := bt_lt s i
  unfold ctB
  rw [Bool.and_eq_true, decide_eq_true_iff, beq_iff_eq]
  constructor
  · rintro ⟨a, b⟩; exact ⟨a, by omega, by omega⟩
  · rintro ⟨a, b, c⟩; exact ⟨a, by omega⟩

/-- Whether a form of n bytes begins at i. -/
def isF (s : ByteArray) (i : Nat) : Nat → Bool
  | 1 => decide (bt s i < 128)
  | 2 => decide (194 ≤ bt s i ∧ bt s i ≤ 223) && ctB s (i + 1)
  | 3 => decide (224 ≤ bt s i ∧ bt s i ≤ 239) && ctB s (i + 1) && ctB s (i + 2) && decide ((bt s i = 224 → 160 ≤ bt s (i + 1)) ∧ (bt s i = 237 → bt s (i + 1) ≤ 159))
  | 4 => decide (240 ≤ bt s i ∧ bt s i ≤ 244) && ctB s (i + 1) && ctB s (i + 2) && ctB s (i + 3) && decide ((bt s i = 240 → 144 ≤ bt s (i + 1)) ∧ (bt s i = 244 → bt s (i + 1) ≤ 143))
  | _ => false

theorem isF1 (s : ByteArray) (i : Nat) : isF s i 1 = true ↔ bt s i < 128 := by simp [isF]
theorem isF2 (s : ByteArray) (i : Nat) : isF s i 2 = true ↔ (194 ≤ bt s i ∧ bt s i ≤ 223 ∧ i + 1 < s.size ∧ 128 ≤ bt s (i + 1) ∧ bt s (i + 1) ≤ 191) := by
  simp only [isF, Bool.and_eq_true, decide_eq_true_iff, ctB_iff]; omega
theorem isF3 (s : ByteArray) (i : Nat) : isF s i 3 = true ↔ (224 ≤ bt s i ∧ bt s i ≤ 239 ∧ i + 1 < s.size ∧ 128 ≤ bt s (i + 1) ∧ bt s (i + 1) ≤ 191 ∧ i + 2 < s.size ∧ 128 ≤ bt s (i + 2) ∧ bt s (i + 2) ≤ 191 ∧ (bt s i = 224 → 160 ≤ bt s (i + 1)) ∧ (bt s i = 237 → bt s (i + 1) ≤ 159)) := by
  simp only [isF, Bool.and_eq_true, decide_eq_true_iff, ctB_iff, and_assoc]
theorem isF4 (s : ByteArray) (i : Nat) : isF s i 4 = true ↔ (240 ≤ bt s i ∧ bt s i ≤ 244 ∧ i + 1 < s.size ∧ 128 ≤ bt s (i + 1) ∧ bt s (i + 1) ≤ 191 ∧ i + 2 < s.size ∧ 128 ≤ bt s (i + 2) ∧ bt s (i + 2) ≤ 191 ∧ i + 3 < s.size ∧ 128 ≤ bt s (i + 3) ∧ bt s (i + 3) ≤ 191 ∧ (bt s i = 240 → 144 ≤ bt s (i + 1)) ∧ (bt s i = 244 → bt s (i + 1) ≤ 143)) := by
  simp only [isF, Bool.and_eq_true, decide_eq_true_iff, ctB_iff, and_assoc]

theorem whN_1 {b : Nat} (h : b < 128) : whN b = 1 := by unfold whN; rw [if_pos h]
theorem whN_2 {b : Nat} (h : 194 ≤ b) (h' : b ≤ 223) : whN b = 2 := by unfold whN; rw [if_neg (by omega), if_pos (by omega)]
theorem whN_3 {b : Nat} (h : 224 ≤ b) (h' : b ≤ 239) : whN b = 3 := by unfold whN; rw [if_neg (by omega), if_neg (by omega), if_pos (by omega)]
theorem whN_4 {b : Nat} (h : 240 ≤ b) (h' : b ≤ 244) : whN b = 4 := by unfold whN; rw [if_neg (by omega), if_neg (by omega), if_neg (by omega), if_pos (by omega)]
theorem whN_0 {b : Nat} (h : (128 ≤ b ∧ b ≤ 193) ∨ 245 ≤ b) : whN b = 0 := by unfold whN; rw [if_neg (by omega), if_neg (by omega), if_neg (by omega), if_neg (by omega)]

theorem lenN_of_1 (s : ByteArray) (i : Nat) (hi : i < s.size) (h : isF s i 1 = true) : lenN s i = 1 := by
  rw [isF1] at h
  unfold lenN fitN
  rw [whN_1 h, show min 1 (s.size - i) = 1 by omega, fit1]; rfl
theorem lenN_of_2 (s : ByteArray) (i : Nat) (h : isF s i 2 = true) : lenN s i = 2 := by
  rw [isF2] at h
  unfold lenN fitN
  rw [whN_2 h.1 h.2.1, show min 2 (s.size - i) = 2 by omega, fit2, if_pos ((okB_iff _ _ _).2 (by omega))]; rfl
theorem lenN_of_3 (s : ByteArray) (i : Nat) (h : isF s i 3 = true) : lenN s i = 3 := by
  rw [isF3] at h
  unfold lenN fitN
  rw [whN_3 h.1 h.2.1, show min 3 (s.size - i) = 3 by omega, fit3, if_pos ((okB_iff _ _ _).2 (by omega)), if_pos ((okB_iff _ _ _).2 (by omega))]; rfl
theorem lenN_of_4 (s : ByteArray) (i : Nat) (h : isF s i 4 = true) : lenN s i = 4 := by
  rw [isF4] at h
  unfold lenN fitN
  rw [whN_4 h.1 h.2.1, show min 4 (s.size - i) = 4 by omega, fit4, if_pos ((okB_iff _ _ _).2 (by omega)), if_pos ((okB_iff _ _ _).2 (by omega)), if_pos ((okB_iff _ _ _).2 (by omega))]; rfl

theorem lenN_of_no (s : ByteArray) (i : Nat) (hi : i < s.size) (h1 : isF s i 1 = false) (h2 : isF s i 2 = false) (h3 : isF s i 3 = false) (h4 : isF s i 4 = false) : lenN s i = 0 := by
  have hb := bt_lt s i
  rw [Bool.eq_false_iff, ne_eq, isF1] at h1
  rw [Bool.eq_false_iff, ne_eq, isF2] at h2
  rw [Bool.eq_false_iff, ne_eq, isF3] at h3
  rw [Bool.eq_false_iff, ne_eq, isF4] at h4
  unfold lenN
  by_cases c2 : 194 ≤ bt s i ∧ bt s i ≤ 223
  · have hf : fitN s i < 2 := by
      clear h1 h3 h4
      unfold fitN; rw [whN_2 c2.1 c2.2]
      by_cases hs : i + 1 < s.size
      · rw [show min 2 (s.size - i) = 2 by omega, fit2, okB_not _ _ _ (by omega)]; simp
      · rw [show min 2 (s.size - i) = 1 by omega, fit1]; omega
    rw [whN_2 c2.1 c2.2, if_pos hf]
  · by_cases c3 : 224 ≤ bt s i ∧ bt s i ≤ 239
    · have hf : fitN s i < 3 := by
        clear h1 h2 h4 c2
        unfold fitN; rw [whN_3 c3.1 c3.2]
        by_cases hs2 : i + 2 < s.size
        · rw [show min 3 (s.size - i) = 3 by omega, fit3]
          by_cases o1 : okB (bt s i) (bt s (i + 1)) 1 = true
          · by_cases o2 : okB (bt s i) (bt s (i + 2)) 2 = true
            · rw [okB_iff] at o1 o2
              refine absurd ?_ h3
              clear h3
              refine ⟨c3.1, c3.2, ?_, ?_, ?_, ?_, ?_, ?_, ?_, ?_⟩ <;> omega
            · rw [if_pos o1, if_neg o2]; omega
          · rw [if_neg o1]; omega
        · have : fitFrom s i (min 3 (s.size - i)) 4 1 ≤ min 3 (s.size - i) := fitFrom_le _ _ _ _ _ (by omega)
          omega
      rw [whN_3 c3.1 c3.2, if_pos hf]
    · by_cases c4 : 240 ≤ bt s i ∧ bt s i ≤ 244
      · have hf : fitN s i < 4 := by
          clear h1 h2 h3 c2 c3
          unfold fitN; rw [whN_4 c4.1 c4.2]
          by_cases hs2 : i + 3 < s.size
          · rw [show min 4 (s.size - i) = 4 by omega, fit4]
            by_cases o1 : okB (bt s i) (bt s (i + 1)) 1 = true
            · by_cases o2 : okB (bt s i) (bt s (i + 2)) 2 = true
              · by_cases o3 : okB (bt s i) (bt s (i + 3)) 3 = true
                · rw [okB_iff] at o1 o2 o3
                  refine absurd ?_ h4
                  clear h4
                  refine ⟨c4.1, c4.2, ?_, ?_, ?_, ?_, ?_, ?_, ?_, ?_, ?_, ?_, ?_⟩ <;> omega
                · rw [if_pos o1, if_pos o2, if_neg o3]; omega
              · rw [if_pos o1, if_neg o2]; omega
            · rw [if_neg o1]; omega
          · have : fitFrom s i (min 4 (s.size - i)) 4 1 ≤ min 4 (s.size - i) := fitFrom_le _ _ _ _ _ (by omega)
            omega
        rw [whN_4 c4.1 c4.2, if_pos hf]
      · clear h2 h3 h4
        rw [whN_0 (by omega)]; split <;> rfl

/-- A piece: how many bytes, which rune, whether it is a broken byte. -/
def wd (s : ByteArray) (i : Nat) : Nat := if lenN s i = 0 then 1 else lenN s i
def rn (s : ByteArray) (i : Nat) : Nat := if lenN s i = 0 then 65533 else rdN s i (lenN s i) (lenN s i)
def bk (s : ByteArray) (i : Nat) : Bool := lenN s i == 0

theorem dec_def (s : ByteArray) (i : Nat) : Utf8.decode s i =
    if bt s i < 128 then (bt s i, 1)
    else if (bt s i / 32 == 6 && ctB s (i + 1)) = true then
      if bt s i % 32 * 64 + bt s (i + 1) % 64 ≥ 128 then (bt s i % 32 * 64 + bt s (i + 1) % 64, 2) else (65533, 1)
    else if (bt s i / 16 == 14 && ctB s (i + 1) && ctB s (i + 2)) = true then
      if (decide (bt s i % 16 * 4096 + bt s (i + 1) % 64 * 64 + bt s (i + 2) % 64 ≥ 2048) && Utf8.valid ((bt s i % 16 * 4096 + bt s (i + 1) % 64 * 64 + bt s (i + 2) % 64 : Nat) : Int)) = true then (bt s i % 16 * 4096 + bt s (i + 1) % 64 * 64 + bt s (i + 2) % 64, 3) else (65533, 1)
    else if (bt s i / 8 == 30 && ctB s (i + 1) && ctB s (i + 2) && ctB s (i + 3)) = true then
      if (decide (bt s i % 8 * 262144 + bt s (i + 1) % 64 * 4096 + bt s (i + 2) % 64 * 64 + bt s (i + 3) % 64 ≥ 65536) && Utf8.valid ((bt s i % 8 * 262144 + bt s (i + 1) % 64 * 4096 + bt s (i + 2) % 64 * 64 + bt s (i + 3) % 64 : Nat) : Int)) = true then (bt s i % 8 * 262144 + bt s (i + 1) % 64 * 4096 + bt s (i + 2) % 64 * 64 + bt s (i + 3) % 64, 4) else (65533, 1)
    else (65533, 1) := rfl

theorem valid_iff (c : Nat) : Utf8.valid (c : Int) = true ↔ (c < 55296 ∨ (57344 ≤ c ∧ c ≤ 1114111)) := by
  unfold Utf8.valid
  simp only [Bool.or_eq_true, Bool.and_eq_true, decide_eq_true_iff]
  omega

/-- Go's own decoding tells the pieces. -/
theorem dec_eq (s : ByteArray) (i : Nat) (hi : i < s.size) : Utf8.decode s i = (rn s i, wd s i) := by
  have hb := bt_lt s i
  have hb1 := bt_lt s (i + 1)
  rw [dec_def]
  unfold rn wd
  cases e1 : isF s i 1 with
  | true =>
    rw [lenN_of_1 s i hi e1]
    rw [isF1] at e1
    rw [if_pos e1]; rfl
  | false =>
    cases e2 : isF s i 2 with
    | true =>
      rw [lenN_of_2 s i e2]
      rw [isF2] at e2
      rw [if_neg (by omega), if_pos (by rw [Bool.and_eq_true, ctB_iff, beq_iff_eq]; omega), if_pos (by omega)]; rfl
    | false =>
      cases e3 : isF s i 3 with
      | true =>
        rw [lenN_of_3 s i e3]
        rw [isF3] at e3
        clear e1 e2
        rw [if_neg (by omega), if_neg (by rw [Bool.and_eq_true, ctB_iff, beq_iff_eq]; omega), if_pos (by rw [Bool.and_eq_true, Bool.and_eq_true, ctB_iff, ctB_iff, beq_iff_eq]; omega),
          if_pos (by rw [Bool.and_eq_true, valid_iff, decide_eq_true_iff]; omega)]
        simp only [rdN, hdN]
        simp only [Prod.mk.injEq]
        refine ⟨?_, rfl⟩
        simp; omega
      | false =>
        cases e4 : isF s i 4 with
        | true =>
          rw [lenN_of_4 s i e4]
          rw [isF4] at e4
          clear e1 e2 e3
          rw [if_neg (by omega), if_neg (by rw [Bool.and_eq_true, ctB_iff, beq_iff_eq]; omega), if_neg (by rw [Bool.and_eq_true, Bool.and_eq_true, ctB_iff, ctB_iff, beq_iff_eq]; omega),
            if_pos (by rw [Bool.and_eq_true, Bool.and_eq_true, Bool.and_eq_true, ctB_iff, ctB_iff, ctB_iff, beq_iff_eq]; omega), if_pos (by rw [Bool.and_eq_true, valid_iff, decide_eq_true_iff]; omega)]
          simp only [rdN, hdN]
          simp only [Prod.mk.injEq]
          refine ⟨?_, rfl⟩
          simp; omega
        | false =>
          rw [lenN_of_no s i hi e1 e2 e3 e4]
          rw [Bool.eq_false_iff, ne_eq, isF1] at e1
          rw [Bool.eq_false_iff, ne_eq, isF2] at e2
          rw [Bool.eq_false_iff, ne_eq, isF3] at e3
          rw [Bool.eq_false_iff, ne_eq, isF4] at e4
          rw [if_neg e1]
          split
          · rename_i h; rw [Bool.and_eq_true, ctB_iff, beq_iff_eq] at h
            clear e3 e4
            rw [if_neg (by intro hc; refine e2 ?_; clear e2; refine ⟨?_, ?_, ?_, ?_, ?_⟩ <;> omega)]; rfl
          · split
            · rename_i h; rw [Bool.and_eq_true, Bool.and_eq_true, ctB_iff, ctB_iff, beq_iff_eq] at h
              clear e1 e2 e4
              rw [if_neg (by rw [Bool.and_eq_true, valid_iff, decide_eq_true_iff]; intro hc; refine e3 ?_; clear e3; refine ⟨?_, ?_, ?_, ?_, ?_, ?_, ?_, ?_, ?_, ?_⟩ <;> omega)]; rfl
            · split
              · rename_i h; rw [Bool.and_eq_true, Bool.and_eq_true, Bool.and_eq_true, ctB_iff, ctB_iff, ctB_iff, beq_iff_eq] at h
                clear e1 e2 e3
                rw [if_neg (by rw [Bool.and_eq_true, valid_iff, decide_eq_true_iff]; intro hc; refine e4 ?_; clear e4; refine ⟨?_, ?_, ?_, ?_, ?_, ?_, ?_, ?_, ?_, ?_, ?_, ?_, ?_⟩ <;> omega)]; rfl
              · rfl

end Go.Proofs.Ytjccoiephdopkaa

/- The pieces of a text: their widths, their runes; plain facts. -/
namespace Go.Proofs.Ytjccoiephdopkaa
set_option linter.unusedVariables false
set_option linter.unusedSimpArgs false
open Go

/-- How many bytes the form of a rune has; 0: it is none. -/
def widZ (r : Int) : Nat := if r < 0 ∨ (55296 ≤ r ∧ r ≤ 57343) ∨ 1114111 < r then 0 else if r < 128 then 1 else if r < 2048 then 2 else if r < 65536 then 3 else 4

theorem widZ_le (r : Int) : widZ r ≤ 4 := by unfold widZ; (repeat' split) <;> omega

theorem widZ_0 (r : Int) : widZ r = 0 ↔ (r < 0 ∨ (55296 ≤ r ∧ r ≤ 57343) ∨ 1114111 < r) := by
  unfold widZ; split
  · simp_all
  · rename_i h; constructor
    · intro h2; exfalso; revert h2; (repeat' split) <;> omega
    · intro h2; exact absurd h2 h

theorem bk_iff (s : ByteArray) (i : Nat) : bk s i = true ↔ lenN s i = 0 := by simp [bk]
theorem bk_not (s : ByteArray) (i : Nat) : bk s i = false ↔ lenN s i ≠ 0 := by simp [bk]

theorem wd_pos (s : ByteArray) (i : Nat) : 1 ≤ wd s i := by unfold wd; split <;> omega
theorem wd_le (s : ByteArray) (i : Nat) : wd s i ≤ 4 := by unfold wd; have := lenN_le s i; split <;> omega
theorem wd_fits (s : ByteArray) (i : Nat) (hi : i < s.size) : i + wd s i ≤ s.size := by
  unfold wd; split
  · omega
  · rename_i h; exact (lenN_fits s i h).1

/-- Whatever begins at i: which of five. -/
theorem five (s : ByteArray) (i : Nat) (hi : i < s.size) :
    (isF s i 1 = true ∧ lenN s i = 1 ∧ rn s i = bt s i) ∨
    (isF s i 2 = true ∧ lenN s i = 2 ∧ rn s i = bt s i % 32 * 64 + bt s (i + 1) % 64) ∨
    (isF s i 3 = true ∧ lenN s i = 3 ∧ rn s i = bt s i % 16 * 4096 + bt s (i + 1) % 64 * 64 + bt s (i + 2) % 64) ∨
    (isF s i 4 = true ∧ lenN s i = 4 ∧ rn s i = bt s i % 8 * 262144 + bt s (i + 1) % 64 * 4096 + bt s (i + 2) % 64 * 64 + bt s (i + 3) % 64) ∨
    (lenN s i = 0 ∧ rn s i = 65533) := by
  cases e1 : isF s i 1 with
  | true => have h := lenN_of_1 s i hi e1; exact .inl ⟨rfl, h, by rw [rn, h]; rfl⟩
  | false =>
    cases e2 : isF s i 2 with
    | true => have h := lenN_of_2 s i e2; exact .inr (.inl ⟨rfl, h, by rw [rn, h]; rfl⟩)
    | false =>
      cases e3 : isF s i 3 with
      | true => have h := lenN_of_3 s i e3; exact .inr (.inr (.inl ⟨rfl, h, by rw [rn, h]; simp only [rdN, hdN]; simp; omega⟩))
      | false =>
        cases e4 : isF s i 4 with
        | true => have h := lenN_of_4 s i e4; exact .inr (.inr (.inr (.inl ⟨rfl, h, by rw [rn, h]; simp only [rdN, hdN]; simp; omega⟩)))
        | false => have h := lenN_of_no s i hi e1 e2 e3 e4; exact .inr (.inr (.inr (.inr ⟨h, by rw [rn, h]; rfl⟩)))

theorem rn_lt (s : ByteArray) (i : Nat) (hi : i < s.size) : rn s i ≤ 1114111 := by
  have hb := bt_lt s i
  rcases five s i hi with ⟨h, _, e⟩ | ⟨h, _, e⟩ | ⟨h, _, e⟩ | ⟨h, _, e⟩ | ⟨_, e⟩
  · omega
  · omega
  · omega
  · rw [isF4] at h; omega
  · omega

/-- A form's rune has as many bytes as the form. -/
theorem wid_rn (s : ByteArray) (i : Nat) (hi : i < s.size) (h0 : bk s i = false) : widZ (rn s i) = wd s i := by
  rw [bk_not] at h0
  have hb := bt_lt s i
  unfold wd
  rw [if_neg h0]
  rcases five s i hi with ⟨h, hl, e⟩ | ⟨h, hl, e⟩ | ⟨h, hl, e⟩ | ⟨h, hl, e⟩ | ⟨hl, e⟩
  · rw [isF1] at h; rw [hl]; unfold widZ; rw [if_neg (by omega), if_pos (by omega)]
  · rw [isF2] at h; rw [hl]; unfold widZ; rw [if_neg (by omega), if_neg (by omega), if_pos (by omega)]
  · rw [isF3] at h; rw [hl]; unfold widZ; rw [if_neg (by omega), if_neg (by omega), if_neg (by omega), if_pos (by omega)]
  · rw [isF4] at h; rw [hl]; unfold widZ; rw [if_neg (by omega), if_neg (by omega), if_neg (by omega), if_neg (by omega)]
  · exact absurd hl h0

theorem valid_rn (s : ByteArray) (i : Nat) (hi : i < s.size) : Utf8.valid (rn s i : Int) = true := by
  rw [valid_iff]
  have hb := bt_lt s i
  rcases five s i hi with ⟨h, hl, e⟩ | ⟨h, hl, e⟩ | ⟨h, hl, e⟩ | ⟨h, hl, e⟩ | ⟨hl, e⟩
  · omega
  · omega
  · rw [isF3] at h; omega
  · rw [isF4] at h; omega
  · omega

theorem bk_rn (s : ByteArray) (i : Nat) (h : bk s i = true) : rn s i = 65533 ∧ wd s i = 1 := by
  rw [bk_iff] at h; simp [rn, wd, h]

/-- A piece with another rune than U+FFFD is a form. -/
theorem bk_of_rn (s : ByteArray) (i : Nat) (h : rn s i ≠ 65533) : bk s i = false := by
  cases hb : bk s i with
  | false => rfl
  | true => exact absurd (bk_rn s i hb).1 h

theorem widZ_lost : widZ 65533 = 3 := by decide

/-- The places of the pieces from i on. -/
def posF (s : ByteArray) : Nat → Nat → List Nat
  | 0, _ => []
  | f + 1, i => if i < s.size then i :: posF s f (i + wd s i) else []

/-- The places of a text's pieces. -/
def posns (s : ByteArray) : List Nat := posF s s.size 0

theorem posF_end (s : ByteArray) (f i : Nat) (h : s.size ≤ i) : posF s f i = [] := by
  cases f with
  | zero => rfl
  | succ f => simp only [posF]; rw [if_neg (by omega)]

/-- Enough fuel is enough. -/
theorem posF_fuel (s : ByteArray) : ∀ f g i, s.size ≤ i + f → s.size ≤ i + g → posF s f i = posF s g i := by
  intro f
  induction f with
  | zero => intro g i h _; rw [posF_end _ _ _ (by omega), posF_end _ _ _ (by omega)]
  | succ f ih =>
    intro g i h1 h2
    cases g with
    | zero => rw [posF_end _ _ _ (by omega), posF_end _ _ _ (by omega)]
    | succ g =>
      simp only [posF]
      by_cases hi : i < s.size
      · have := wd_pos s i
        rw [if_pos hi, if_pos hi, ih g _ (by omega) (by omega)]
      · rw [if_neg hi, if_neg hi]

/-- The places from i on, with all fuel. -/
def posG (s : ByteArray) (i : Nat) : List Nat := posF s (s.size - i) i

theorem posG_cons (s : ByteArray) (i : Nat) (hi : i < s.size) : posG s i = i :: posG s (i + wd s i) := by
  have := wd_pos s i
  unfold posG
  obtain ⟨f, hf⟩ : ∃ f, s.size - i = f + 1 := ⟨s.size - i - 1, by omega⟩
  rw [hf]
  simp only [posF]
  rw [if_pos hi, posF_fuel s f (s.size - (i + wd s i)) _ (by omega) (by omega)]
theorem posG_end (s : ByteArray) (i : Nat) (hi : s.size ≤ i) : posG s i = [] := posF_end _ _ _ hi
theorem posns_G (s : ByteArray) : posns s = posG s 0 := rfl

theorem posF_len (s : ByteArray) : ∀ f i, (posF s f i).length ≤ s.size - i := by
  intro f
  induction f with
  | zero => intro i; simp [posF]
  | succ f ih =>
    intro i
    simp only [posF]
    by_cases hi : i < s.size
    · rw [if_pos hi]
      have := ih (i + wd s i)
      have := wd_pos s i
      simp only [List.length_cons]; omega
    · rw [if_neg hi]; simp
theorem posG_len (s : ByteArray) (i : Nat) : (posG s i).length ≤ s.size - i := posF_len _ _ _
theorem posns_len (s : ByteArray) : (posns s).length ≤ s.size := posG_len s 0

end Go.Proofs.Ytjccoiephdopkaa

/- What runes.Width answers, and what the iterator of runes.Pieces tells its caller. -/
namespace Go.Proofs.Ytjccoiephdopkaa.SQ
set_option linter.unusedVariables false
set_option linter.unusedSimpArgs false
open Go Go.RowKit Go.Shelf
set_option maxRecDepth 100000
attribute [local go_sem] Oper.semAt_some

/-- What the body of a round keeps for the iterator over a text's pieces: the walk's own object, and the variable that holds the text. -/
def KpB (B : Nat) (W W' : World) : Prop := KeepsWalks W W' ∧ W'.heap[B]? = W.heap[B]?

theorem kpB_t {B : Nat} {X Y Z : World} (h : KpB B X Y) (k : KpB B Y Z) : KpB B X Z := ⟨h.1.trans k.1, k.2.trans h.2⟩
theorem kpB_b {B : Nat} {w : World} (hB : B < w.heap.size) (W : World) (l : Nat) (o o' : Obj) (hl : w.heap.size ≤ l) (h : W.heap[l]? = some o) (_ : o.isCells = false) (hw : o.isWalk = false) : KpB B W (W.putObj l o') :=
  ⟨KeepsWalks.putObj _ h hw, World.putObj_heap_other (by omega)⟩

/-- A piece of s: the place at which it begins. -/
abbrev Pos (s : ByteArray) := { i : Nat // i < s.size }

/-- A piece as the program says it. -/
def pcA (s : ByteArray) (i : Nat) : Array Value := #[.agg #[.int .i64 i, .int .i64 (wd s i : Nat), .int .i32 (rn s i : Nat), .bool (bk s i)]]

theorem grown_none {w w' : World} (h : Below w.heap.size w w') : w.grownBy w' none :=
  ⟨h.os, h.tape, h.output, h.size, fun k hk _ => h.block k hk⟩

theorem grown_iterAt (w : World) (k : Nat) (s : ByteArray) (pos : Nat) : w.grownBy (w.iterAt k s pos) (some k) :=
  ⟨rfl, rfl, rfl, by rw [Lib.iterAt_size]; exact Nat.le_refl _, fun i _ h => Lib.iterAt_other w k i s pos (fun e => h (by rw [e]))⟩

/-- Between two rounds of the iterator: pre has come, pos is next. -/
def RelP (s : ByteArray) (B it : Nat) (J : List (Pos s) → World → Prop) (wr : World) : Prop :=
  ∃ (pre : List (Pos s)) (pos : Nat), posns s = pre.map (·.1) ++ posG s pos ∧ wr.heap[it]? = some (.stringIter s pos) ∧ Boxed wr B 9 (.string s) ∧ J pre wr

theorem relP_next {s : ByteArray} {B it : Nat} {J : List (Pos s) → World → Prop} {pre : List (Pos s)} {x : Pos s} {pos : Nat} {W1 W' wr : World}
    (HP : Hid (posns s = (pre ++ [x]).map (·.1) ++ posG s pos)) (HM : Hid (s.size - pos < s.size - wr.iterPos it)) (hit : W1.heap[it]? = some (.stringIter s pos))
    (hbx : Boxed W1 B 9 (.string s)) (hk : KpB B W1 W') (hJ : J (pre ++ [x]) W') : RelP s B it J W' ∧ s.size - W'.iterPos it < s.size - wr.iterPos it := by
  have h1 := hk.1.same _ _ hit rfl
  refine ⟨⟨pre ++ [x], pos, HP.out, h1, hk.2.trans hbx, hJ⟩, ?_⟩
  have := HM.out
  simp only [World.iterPos, h1] at this ⊢
  exact this

theorem prefix_next {s : ByteArray} {pre : List (Pos s)} {x : Pos s} {pos : Nat} (HP : Hid (posns s = (pre ++ [x]).map (·.1) ++ posG s pos)) : (pre ++ [x]).map (·.1) <+: posns s := ⟨posG s pos, HP.out.symm⟩

end Go.Proofs.Ytjccoiephdopkaa.SQ

/- The law for a loop over runes.Pieces, and the calls that are such a loop: Count. -/
namespace Go.Proofs.Ytjccoiephdopkaa.SQ
set_option linter.unusedVariables false
set_option linter.unusedSimpArgs false
open Go Go.RowKit Go.Shelf
set_option maxRecDepth 100000
attribute [local go_sem] Oper.semAt_some

/-- The cells of a piece. -/
def pcC (s : ByteArray) (i : Nat) : Array Value := #[.int .i64 i, .int .i64 (wd s i : Nat), .int .i32 (rn s i : Nat), .bool (bk s i)]

theorem pcell {s : ByteArray} {i : Nat} {W : World} {Bx : Nat} (h : W.heap[Bx]? = some (.cells (pcC s i) 69)) :
    W.cell? ⟨Bx, 0, none⟩ = some (.int .i64 i) ∧ W.cell? ⟨Bx, 1, none⟩ = some (.int .i64 (wd s i : Nat)) ∧ W.cell? ⟨Bx, 2, none⟩ = some (.int .i32 (rn s i : Nat)) ∧ W.cell? ⟨Bx, 3, none⟩ = some (.bool (bk s i)) := by
  simp [World.cell?, h, pcC]

/-- How many broken bytes there are among pieces. -/
def badN (s : ByteArray) (l : List (Pos s)) : Nat := (l.filter (fun x => bk s x.1)).length
theorem badN_snoc (s : ByteArray) (l : List (Pos s)) (x : Pos s) : badN s (l ++ [x]) = badN s l + if bk s x.1 then 1 else 0 := by
  unfold badN; rw [List.filter_append, List.length_append]
  cases h : bk s x.1 <;> simp [h]

theorem badN_le (s : ByteArray) (l : List (Pos s)) : badN s l ≤ l.length := List.length_filter_le _ _

end Go.Proofs.Ytjccoiephdopkaa.SQ

/- What runes.At answers, Count in all, and that the layer wakes. -/
namespace Go.Proofs.Ytjccoiephdopkaa.SQ
set_option linter.unusedVariables false
set_option linter.unusedSimpArgs false
open Go Go.RowKit Go.Shelf
set_option maxRecDepth 100000

/-- How many broken bytes a text has. -/
def badC (s : ByteArray) : Nat := ((posns s).filter (bk s)).length

theorem badN_all (s : ByteArray) (xs : List (Pos s)) (h : xs.map (·.1) = posns s) : badN s xs = badC s := by
  unfold badN badC; rw [← h, List.filter_map, List.length_map]; rfl

theorem read_pc (s : ByteArray) (i : Nat) (hi : i < s.size) (hs : s.size ≤ 9223372036854775807) (w : World) :
    Calls Try.prog 40 #[.string s, .int .i64 (i : Int)] w fun e w' => e = .returned (.agg (pcC s i)) ∧ Below w.heap.size w w' := by
  by_cases h : lenN s i = 0
  · refine (read_none s i hi hs w h).mono ?_
    rintro e w' ⟨rfl, hb⟩
    refine ⟨?_, hb⟩
    have hk := (bk_iff s i).2 h
    have h2 := bk_rn s i hk
    simp only [pcC, hk, h2.1, h2.2]; rfl
  · refine (read_any s i hi hs w (lenN s i) rfl (by omega)).mono ?_
    rintro e w' ⟨rfl, hb⟩
    refine ⟨?_, hb⟩
    have hk := (bk_not s i).2 h
    simp only [pcC, hk, wd, rn, if_neg h]

theorem read_pcL (s : ByteArray) (i : Nat) (hi : i < s.size) (hs : s.size ≤ 9223372036854775807) (w : World) :
    Calls Try.prog 40 #[.string s, .int .i64 (i : Int)] w fun e w' => e = .returned (.agg #[.int .i64 i, .int .i64 (wd s i : Nat), .int .i32 (rn s i : Nat), .bool (bk s i)]) ∧ Below w.heap.size w w' := read_pc s i hi hs w

set_option maxHeartbeats 400000 in
theorem at_ok (s : ByteArray) (i : Nat) (hi : i < s.size) (hs : s.size ≤ 9223372036854775807) (w : World) :
    Calls Try.prog 32 #[.string s, .int .i64 (i : Int)] w fun e w' => e = .returned (.tuple #[.agg #[.int .i64 i, .int .i64 (wd s i : Nat), .int .i32 (rn s i : Nat), .bool (bk s i)], .int .i64 0]) ∧ Below w.heap.size w w' := by
  go_enter Try.func32, Try.ntmps32
  go_wp2_with (go_at_call 40; refine (read_pcL s i hi hs _).mono ?_; rintro e w' ⟨rfl, hb⟩; obtain ⟨hc2, hf2⟩ := bcell hb; have hz2 := hb.size)
  refine bodyPost_ret (v := .tuple #[.agg #[.int .i64 i, .int .i64 (wd s i : Nat), .int .i32 (rn s i : Nat), .bool (bk s i)], .int .i64 0]) (by simp [results, Try.f32, go_sem, hc2, hz2]) rfl ⟨rfl, ?_⟩
  exact (((((((Below.refl _ _).alloc (Nat.le_refl _) _).trans (hb.mono (by simp))).setCell (p := ⟨_, 0, none⟩) (Nat.le_refl _) _).setCell (p := ⟨_, 1, none⟩) (Nat.le_refl _) _).setCell (p := ⟨_, 2, none⟩) (Nat.le_refl _) _).setCell (p := ⟨_, 3, none⟩) (Nat.le_refl _) _)

set_option maxHeartbeats 400000 in
theorem at_no (s : ByteArray) (i : Int) (hi : i < 0 ∨ (s.size : Int) ≤ i) (w : World) :
    Calls Try.prog 32 #[.string s, .int .i64 i] w fun e w' => e = .returned (.tuple #[.agg #[.int .i64 0, .int .i64 0, .int .i32 0, .bool false], .int .i64 5]) ∧ Below w.heap.size w w' := by
  rcases hi with hi | hi
  · go_enter Try.func32, Try.ntmps32
    go_wp2
    refine bodyPost_ret (v := .tuple #[.agg #[.int .i64 0, .int .i64 0, .int .i32 0, .bool false], .int .i64 5]) (by simp [results, Try.f32, go_sem]) rfl ⟨rfl, ?_⟩
    exact (Below.refl _ _).alloc (Nat.le_refl _) _
  · have h0 : ¬ i < 0 := by omega
    go_enter Try.func32, Try.ntmps32
    go_wp2
    refine bodyPost_ret (v := .tuple #[.agg #[.int .i64 0, .int .i64 0, .int .i32 0, .bool false], .int .i64 5]) (by simp [results, Try.f32, go_sem]) rfl ⟨rfl, ?_⟩
    exact (Below.refl _ _).alloc (Nat.le_refl _) _

end Go.Proofs.Ytjccoiephdopkaa.SQ

/- Boundaries: each place stands in one piece; within a form no form begins; a text's last piece. Plain facts. -/
namespace Go.Proofs.Ytjccoiephdopkaa
set_option linter.unusedVariables false
set_option linter.unusedSimpArgs false
open Go

theorem posG_ind (s : ByteArray) (P : Nat → Prop) (h0 : ∀ i, s.size ≤ i → P i) (h1 : ∀ i, i < s.size → P (i + wd s i) → P i) : ∀ i, P i := by
  intro i
  obtain ⟨f, hf⟩ : ∃ f, s.size - i = f := ⟨_, rfl⟩
  induction f using Nat.strongRecOn generalizing i with
  | ind f ih =>
    by_cases hi : i < s.size
    · have := wd_pos s i
      exact h1 i hi (ih (s.size - (i + wd s i)) (by omega) _ rfl)
    · exact h0 i (by omega)

theorem posG_ge (s : ByteArray) : ∀ i, ∀ p ∈ posG s i, i ≤ p ∧ p < s.size := by
  apply posG_ind s
  · intro i hi p hp; rw [posG_end s i hi] at hp; cases hp
  · intro i hi ih p hp
    rw [posG_cons s i hi] at hp
    have := wd_pos s i
    rcases List.mem_cons.1 hp with rfl | hp
    · omega
    · have := ih p hp; omega

theorem posG_cover (s : ByteArray) : ∀ i, ∀ k, i ≤ k → k < s.size → ∃ p ∈ posG s i, p ≤ k ∧ k < p + wd s p := by
  apply posG_ind s
  · intro i hi k h1 h2; omega
  · intro i hi ih k h1 h2
    rw [posG_cons s i hi]
    by_cases h : k < i + wd s i
    · exact ⟨i, by simp, h1, h⟩
    · obtain ⟨p, hp, h3⟩ := ih k (by omega) h2
      exact ⟨p, by simp [hp], h3⟩

theorem posG_apart (s : ByteArray) : ∀ i, ∀ p ∈ posG s i, ∀ q ∈ posG s i, p < q → p + wd s p ≤ q := by
  apply posG_ind s
  · intro i hi p hp; rw [posG_end s i hi] at hp; cases hp
  · intro i hi ih p hp q hq hlt
    rw [posG_cons s i hi] at hp hq
    rcases List.mem_cons.1 hp with rfl | hp
    · rcases List.mem_cons.1 hq with rfl | hq
      · omega
      · exact (posG_ge s _ q hq).1
    · rcases List.mem_cons.1 hq with rfl | hq
      · have := (posG_ge s _ p hp).1; have := wd_pos s q; omega
      · exact ih p hp q hq hlt

/-- The bytes behind the first one of a form begin none. -/
theorem inside (s : ByteArray) (p k : Nat) (hp : p < s.size) (h1 : p < k) (h2 : k < p + wd s p) : 128 ≤ bt s k ∧ bt s k ≤ 191 := by
  rcases five s p hp with ⟨hF, hl, _⟩ | ⟨hF, hl, _⟩ | ⟨hF, hl, _⟩ | ⟨hF, hl, _⟩ | ⟨hl, _⟩
  · rw [wd, if_neg (by omega)] at h2; omega
  · rw [wd, if_neg (by omega)] at h2; rw [isF2] at hF
    obtain rfl : k = p + 1 := by omega
    omega
  · rw [wd, if_neg (by omega)] at h2; rw [isF3] at hF
    rcases (show k = p + 1 ∨ k = p + 2 by omega) with rfl | rfl <;> omega
  · rw [wd, if_neg (by omega)] at h2; rw [isF4] at hF
    rcases (show k = p + 1 ∨ k = p + 2 ∨ k = p + 3 by omega) with rfl | rfl | rfl <;> omega
  · rw [wd, if_pos hl] at h2; omega

theorem len_cont (s : ByteArray) (k : Nat) (h : 128 ≤ bt s k ∧ bt s k ≤ 191) : lenN s k = 0 := by
  unfold lenN; rw [whN_0 (by omega)]; split <;> rfl

/-- Where a form begins, a piece does. -/
theorem form_pos (s : ByteArray) (q : Nat) (hq : q < s.size) (h : lenN s q ≠ 0) : q ∈ posns s := by
  obtain ⟨p, hp, h1, h2⟩ := posG_cover s 0 q (by omega) hq
  by_cases e : p = q
  · rw [← e]; exact hp
  · exact absurd (len_cont s q (inside s p q (posG_ge s 0 p hp).2 (by omega) h2)) h

/-- A text's last piece ends where the text does. -/
theorem posG_last (s : ByteArray) : ∀ i, i < s.size → ∃ pre p, posG s i = pre ++ [p] ∧ p + wd s p = s.size := by
  apply posG_ind s (fun i => i < s.size → ∃ pre p, posG s i = pre ++ [p] ∧ p + wd s p = s.size)
  · intro i hi h; omega
  · intro i hi ih _
    rw [posG_cons s i hi]
    by_cases h : i + wd s i < s.size
    · obtain ⟨pre, p, h1, h2⟩ := ih h
      exact ⟨i :: pre, p, by rw [h1]; rfl, h2⟩
    · have := wd_fits s i hi
      exact ⟨[], i, by rw [posG_end s _ (by omega)]; rfl, by omega⟩

theorem posns_last (s : ByteArray) (h : 0 < s.size) : ∃ pre p, posns s = pre ++ [p] ∧ p + wd s p = s.size := posG_last s 0 h

/-- The piece that ends at the end, by its form. -/
theorem last_form (s : ByteArray) (n : Nat) (h1 : 1 ≤ n) (hn : n ≤ s.size) (h : lenN s (s.size - n) = n) : ∀ pre p, posns s = pre ++ [p] → p + wd s p = s.size → p = s.size - n := by
  intro pre p hp he
  have hm := form_pos s (s.size - n) (by omega) (by omega)
  have hpm : p ∈ posns s := by rw [hp]; simp
  have hw : wd s (s.size - n) = n := by rw [wd, if_neg (by omega)]; exact h
  have hps := (posG_ge s 0 p hpm).2
  rcases Nat.lt_trichotomy p (s.size - n) with hlt | heq | hgt
  · have := posG_apart s 0 p hpm _ hm hlt; omega
  · exact heq
  · have := posG_apart s 0 _ hm p hpm hgt; omega

theorem last_broken (s : ByteArray) (h0 : 0 < s.size) (h : ∀ n, 1 ≤ n → n ≤ 4 → n ≤ s.size → lenN s (s.size - n) ≠ n) : ∀ pre p, posns s = pre ++ [p] → p + wd s p = s.size → p = s.size - 1 ∧ lenN s p = 0 := by
  intro pre p hp he
  have hpm : p ∈ posns s := by rw [hp]; simp
  have hps := (posG_ge s 0 p hpm).2
  have hw4 := wd_le s p
  have hw1 := wd_pos s p
  have hl : lenN s p = 0 := by
    by_cases hl : lenN s p = 0
    · exact hl
    · have hw : wd s p = lenN s p := by rw [wd, if_neg hl]
      have := h (wd s p) hw1 hw4 (by omega)
      rw [show s.size - wd s p = p by omega] at this
      exact absurd hw.symm this
  refine ⟨?_, hl⟩
  rw [wd, if_pos hl] at he; omega

/-- A text's head has its bytes. -/
theorem bt_head (s : ByteArray) (n k : Nat) (hn : n ≤ s.size) (hk : k < n) : bt (s.extract 0 n) k = bt s k := by
  have h1 : k < (s.extract 0 n).size := by rw [ByteArray.size_extract]; omega
  rw [← bt_get _ k h1, ← bt_get s k (by omega), ByteArray.getElem_extract]
  simp

theorem size_head (s : ByteArray) (n : Nat) (hn : n ≤ s.size) : (s.extract 0 n).size = n := by rw [ByteArray.size_extract]; omega

theorem isF_head (s : ByteArray) (n i m : Nat) (hn : n ≤ s.size) (hi : i < n) (h : isF (s.extract 0 n) i m = true) : isF s i m = true := by
  have hz := size_head s n hn
  match m, h with
  | 1, h => rw [isF1] at h ⊢; rw [bt_head s n i hn hi] at h; exact h
  | 2, h => rw [isF2, hz] at h; rw [isF2]; obtain ⟨a, b, c, d, e⟩ := h; rw [bt_head s n i hn hi] at a b; rw [bt_head s n (i + 1) hn (by omega)] at d e; exact ⟨a, b, by omega, d, e⟩
  | 3, h =>
    rw [isF3, hz] at h; rw [isF3]
    obtain ⟨a, b, c, d, e, f, g, j, k, l⟩ := h
    rw [bt_head s n i hn hi] at a b k l; rw [bt_head s n (i + 1) hn (by omega)] at d e k l; rw [bt_head s n (i + 2) hn (by omega)] at g j
    exact ⟨a, b, by omega, d, e, by omega, g, j, k, l⟩
  | 4, h =>
    rw [isF4, hz] at h; rw [isF4]
    obtain ⟨a, b, c, d, e, f, g, j, f2, g2, j2, k, l⟩ := h
    rw [bt_head s n i hn hi] at a b k l; rw [bt_head s n (i + 1) hn (by omega)] at d e k l; rw [bt_head s n (i + 2) hn (by omega)] at g j; rw [bt_head s n (i + 3) hn (by omega)] at g2 j2
    exact ⟨a, b, by omega, d, e, by omega, g, j, by omega, g2, j2, k, l⟩

/-- A form within a text's head is the text's. -/
theorem head_form (s : ByteArray) (n i : Nat) (hn : n ≤ s.size) (hi : i < n) (h : lenN (s.extract 0 n) i ≠ 0) : lenN s i = lenN (s.extract 0 n) i ∧ rn s i = rn (s.extract 0 n) i := by
  have hz := size_head s n hn
  have hib : i < (s.extract 0 n).size := by omega
  have hs5 := five s i (by omega)
  rcases five (s.extract 0 n) i hib with ⟨hF, hl, e⟩ | ⟨hF, hl, e⟩ | ⟨hF, hl, e⟩ | ⟨hF, hl, e⟩ | ⟨hl, _⟩
  · have hG := lenN_of_1 s i (by omega) (isF_head s n i 1 hn hi hF)
    rw [hG] at hs5; refine ⟨by rw [hG, hl], ?_⟩
    rw [bt_head s n i hn hi] at e
    rcases hs5 with ⟨_, _, e'⟩ | ⟨_, h', _⟩ | ⟨_, h', _⟩ | ⟨_, h', _⟩ | ⟨h', _⟩ <;> omega
  · have hG := lenN_of_2 s i (isF_head s n i 2 hn hi hF)
    rw [isF2, hz] at hF
    rw [hG] at hs5; refine ⟨by rw [hG, hl], ?_⟩
    rw [bt_head s n i hn hi, bt_head s n (i + 1) hn (by omega)] at e
    rcases hs5 with ⟨_, h', _⟩ | ⟨_, _, e'⟩ | ⟨_, h', _⟩ | ⟨_, h', _⟩ | ⟨h', _⟩ <;> omega
  · have hG := lenN_of_3 s i (isF_head s n i 3 hn hi hF)
    rw [isF3, hz] at hF
    rw [hG] at hs5; refine ⟨by rw [hG, hl], ?_⟩
    rw [bt_head s n i hn hi, bt_head s n (i + 1) hn (by omega), bt_head s n (i + 2) hn (by omega)] at e
    rcases hs5 with ⟨_, h', _⟩ | ⟨_, h', _⟩ | ⟨_, _, e'⟩ | ⟨_, h', _⟩ | ⟨h', _⟩ <;> omega
  · have hG := lenN_of_4 s i (isF_head s n i 4 hn hi hF)
    rw [isF4, hz] at hF
    rw [hG] at hs5; refine ⟨by rw [hG, hl], ?_⟩
    rw [bt_head s n i hn hi, bt_head s n (i + 1) hn (by omega), bt_head s n (i + 2) hn (by omega), bt_head s n (i + 3) hn (by omega)] at e
    rcases hs5 with ⟨_, h', _⟩ | ⟨_, h', _⟩ | ⟨_, h', _⟩ | ⟨_, _, e'⟩ | ⟨h', _⟩ <;> omega
  · exact absurd hl h
end Go.Proofs.Ytjccoiephdopkaa

/- What runes.before and runes.Before answer: the last piece of what stands ahead of a place. -/
namespace Go.Proofs.Ytjccoiephdopkaa.SQ
set_option linter.unusedVariables false
set_option linter.unusedSimpArgs false
open Go Go.RowKit
set_option maxRecDepth 100000

/-- Where a text's last piece begins. -/
def lp (t : ByteArray) : Nat := (posns t).getLast?.getD 0
theorem lp_eq (t : ByteArray) (pre : List Nat) (p : Nat) (h : posns t = pre ++ [p]) : lp t = p := by simp [lp, h]

/-- A piece, as a value. -/
def pcV (s : ByteArray) (i : Nat) : Value := .agg (pcC s i)

theorem pc_form (s : ByteArray) (n q k : Nat) (hn : n ≤ s.size) (hq : q + k = n) (hk : 1 ≤ k) (h : lenN (s.extract 0 n) q = k) : pcV s q = pcV (s.extract 0 n) (lp (s.extract 0 n)) := by
  have hz := size_head s n hn
  obtain ⟨pre, p, hp, he⟩ := posns_last (s.extract 0 n) (by omega)
  have := last_form (s.extract 0 n) k hk (by omega) (by rw [hz, show n - k = q by omega]; exact h) pre p hp he
  rw [hz, show n - k = q by omega] at this
  rw [lp_eq _ pre p hp, this]
  have hf := head_form s n q hn (by omega) (by omega)
  simp only [pcV, pcC, wd, rn, bk, hf.1]
  rw [h]
  have hr := hf.2
  unfold rn at hr
  rw [hf.1, h, if_neg (by omega), if_neg (by omega)] at hr
  rw [if_neg (by omega), if_neg (by omega), if_neg (by omega), hr]

theorem pc_broken (s : ByteArray) (n : Nat) (hn : n ≤ s.size) (h1 : 1 ≤ n) (h : ∀ m, 1 ≤ m → m ≤ 4 → m ≤ n → lenN (s.extract 0 n) (n - m) ≠ m) :
    Value.agg #[.int .i64 ((n : Int) - 1), .int .i64 1, .int .i32 65533, .bool true] = pcV (s.extract 0 n) (lp (s.extract 0 n)) := by
  have hz := size_head s n hn
  obtain ⟨pre, p, hp, he⟩ := posns_last (s.extract 0 n) (by omega)
  have := last_broken (s.extract 0 n) (by omega) (by rw [hz]; exact h) pre p hp he
  rw [hz] at this
  have hk := (bk_iff _ _).2 this.2
  have h2 := bk_rn _ _ hk
  rw [lp_eq _ pre p hp]
  simp only [pcV, pcC, hk, h2.1, h2.2]
  rw [show ((n : Int) - 1) = (p : Int) by omega]
  rfl

/-- No form of fewer than n bytes ends at i. -/
def noEnd (s : ByteArray) (i n : Nat) : Prop := ∀ m, 1 ≤ m → m < n → m ≤ i → lenN (s.extract 0 i) (i - m) ≠ m

end Go.Proofs.Ytjccoiephdopkaa.SQ
