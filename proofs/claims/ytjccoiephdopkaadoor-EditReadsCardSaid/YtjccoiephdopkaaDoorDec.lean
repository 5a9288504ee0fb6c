/- What a form's length and its bytes say is what Go's own decoding says. -/
import Derived.Test.YtjccoiephdopkaaDoorUtf
namespace Go.Proofs.YtjccoiephdopkaaDoor
set_option linter.unusedVariables false
set_option linter.unusedSimpArgs false
open Go

theorem fit1 (s : ByteArray) (i : Nat) : fitFrom s i 1 4 1 = 1 := by simp [fitFrom]
theorem fit0 (s : ByteArray) (i : Nat) : fitFrom s i 0 4 1 = 0 := by simp [fitFrom]
theorem fit2 (s : ByteArray) (i : Nat) : fitFrom s i 2 4 1 = if okB (bt s i) (bt s (i + 1)) 1 then 2 else 1 := by simp [fitFrom]
theorem fit3 (s : ByteArray) (i : Nat) : fitFrom s i 3 4 1 = if okB (bt s i) (bt s (i + 1)) 1 then (if okB (bt s i) (bt s (i + 2)) 2 then 3 else 2) else 1 := by simp [fitFrom]
theorem fit4 (s : ByteArray) (i : Nat) : fitFrom s i 4 4 1 = if okB (bt s i) (bt s (i + 1)) 1 then (if okB (bt s i) (bt s (i + 2)) 2 then (if okB (bt s i) (bt s (i + 3)) 3 then 4 else 3) else 2) else 1 := by simp [fitFrom]

/-- Is the byte at i one behind the first of a form? -/
def ctB (s : ByteArray) (i : Nat) : Bool := decide (i < s.size) && (bt s i / 64 == 2)

theorem ctB_iff (s : ByteArray) (i : Nat) : ctB s i = true ↔ (i < s.size ∧ 128 ≤ bt s i ∧ bt s i ≤ 191) := by
  have := bt_lt s i
  unfold ctB
  rw [Bool.and_eq_true, decide_eq_true_iff, beq_iff_eq]
  constructor
  · rintro ⟨a, b⟩; exact ⟨a, by omega, by omega⟩
  · rintro ⟨a, b, c⟩; exact ⟨a, by omega⟩

/-- Whether a form of n bytes begins at i. -/
def isF (s : ByteArray) (i : Nat) : Nat → Bool
  | 1 => decide (bt s i < 128)
  | 2 => decide (194 ≤ bt s i ∧ bt s i ≤ 223) && ctB s (i + 1)
  | 3 => decide (224 ≤ bt s i ∧ bt s i ≤ 239) && ctB s (i + 1) && ctB s (i + 2) && decide ((bt s i = 224 → 160 ≤ bt s (i + 1)) ∧ (bt s i = 237 → bt s (i + 1) ≤ 159))
  | 4 => decide (240 ≤ bt s i ∧ bt s i ≤ 244) && ctB s (i + 1) && ctB s (i + 2) && ctB s (i + 3) && decide ((bt s i = 240 → 144 ≤ bt s (i + 1)) ∧ (bt s i = 244 → bt s (i + 1) ≤ 143))
  | _ => false

theorem isF1 (s : ByteArray) (i : Nat) : isF s i 1 = true ↔ bt s i < 128 := by simp [isF]
theorem isF2 (s : ByteArray) (i : Nat) : isF s i 2 = true ↔ (194 ≤ bt s i ∧ bt s i ≤ 223 ∧ i + 1 < s.size ∧ 128 ≤ bt s (i + 1) ∧ bt s (i + 1) ≤ 191) := by
  simp only [isF, Bool.and_eq_true, decide_eq_true_iff, ctB_iff]; omega
theorem isF3 (s : ByteArray) (i : Nat) : isF s i 3 = true ↔ (224 ≤ bt s i ∧ bt s i ≤ 239 ∧ i + 1 < s.size ∧ 128 ≤ bt s (i + 1) ∧ bt s (i + 1) ≤ 191 ∧ i + 2 < s.size ∧ 128 ≤ bt s (i + 2) ∧ bt s (i + 2) ≤ 191 ∧ (bt s i = 224 → 160 ≤ bt s (i + 1)) ∧ (bt s i = 237 → bt s (i + 1) ≤ 159)) := by
  simp only [isF, Bool.and_eq_true, decide_eq_true_iff, ctB_iff, and_assoc]
theorem isF4 (s : ByteArray) (i : Nat) : isF s i 4 = true ↔ (240 ≤ bt s i ∧ bt s i ≤ 244 ∧ i + 1 < s.size ∧ 128 ≤ bt s (i + 1) ∧ bt s (i + 1) ≤ 191 ∧ i + 2 < s.size ∧ 128 ≤ bt s (i + 2) ∧ bt s (i + 2) ≤ 191 ∧ i + 3 < s.size ∧ 128 ≤ bt s (i + 3) ∧ bt s (i + 3) ≤ 191 ∧ (bt s i = 240 → 144 ≤ bt s (i + 1)) ∧ (bt s i = 244 → bt s (i + 1) ≤ 143)) := by
  simp only [isF, Bool.and_eq_true, decide_eq_true_iff, ctB_iff, and_assoc]

theorem whN_1 {b : Nat} (h : b < 128) : whN b = 1 := by unfold whN; rw [if_pos h]
theorem whN_2 {b : Nat} (h : 194 ≤ b) (h' : b ≤ 223) : whN b = 2 := by unfold whN; rw [if_neg (by omega), if_pos (by omega)]
theorem whN_3 {b : Nat} (h : 224 ≤ b) (h' : b ≤ 239) : whN b = 3 := by unfold whN; rw [if_neg (by omega), if_neg (by omega), if_pos (by omega)]
theorem whN_4 {b : Nat} (h : 240 ≤ b) (h' : b ≤ 244) : whN b = 4 := by unfold whN; rw [if_neg (by omega), if_neg (by omega), if_neg (by omega), if_pos (by omega)]
theorem whN_0 {b : Nat} (h : (128 ≤ b ∧ b ≤ 193) ∨ 245 ≤ b) : whN b = 0 := by unfold whN; rw [if_neg (by omega), if_neg (by omega), if_neg (by omega), if_neg (by omega)]

theorem lenN_of_1 (s : ByteArray) (i : Nat) (hi : i < s.size) (h : isF s i 1 = true) : lenN s i = 1 := by
  rw [isF1] at h
  unfold lenN fitN
  rw [whN_1 h, show min 1 (s.size - i) = 1 by omega, fit1]; rfl
theorem lenN_of_2 (s : ByteArray) (i : Nat) (h : isF s i 2 = true) : lenN s i = 2 := by
  rw [isF2] at h
  unfold lenN fitN
  rw [whN_2 h.1 h.2.1, show min 2 (s.size - i) = 2 by omega, fit2, if_pos ((okB_iff _ _ _).2 (by omega))]; rfl
theorem lenN_of_3 (s : ByteArray) (i : Nat) (h : isF s i 3 = true) : lenN s i = 3 := by
  rw [isF3] at h
  unfold lenN fitN
  rw [whN_3 h.1 h.2.1, show min 3 (s.size - i) = 3 by omega, fit3, if_pos ((okB_iff _ _ _).2 (by omega)), if_pos ((okB_iff _ _ _).2 (by omega))]; rfl
theorem lenN_of_4 (s : ByteArray) (i : Nat) (h : isF s i 4 = true) : lenN s i = 4 := by
  rw [isF4] at h
  unfold lenN fitN
  rw [whN_4 h.1 h.2.1, show min 4 (s.size - i) = 4 by omega, fit4, if_pos ((okB_iff _ _ _).2 (by omega)), if_pos ((okB_iff _ _ _).2 (by omega)), if_pos ((okB_iff _ _ _).2 (by omega))]; rfl

theorem lenN_of_no (s : ByteArray) (i : Nat) (hi : i < s.size) (h1 : isF s i 1 = false) (h2 : isF s i 2 = false) (h3 : isF s i 3 = false) (h4 : isF s i 4 = false) : lenN s i = 0 := by
  have hb := bt_lt s i
  rw [Bool.eq_false_iff, ne_eq, isF1] at h1
  rw [Bool.eq_false_iff, ne_eq, isF2] at h2
  rw [Bool.eq_false_iff, ne_eq, isF3] at h3
  rw [Bool.eq_false_iff, ne_eq, isF4] at h4
  unfold lenN
  by_cases c2 : 194 ≤ bt s i ∧ bt s i ≤ 223
  · have hf : fitN s i < 2 := by
      clear h1 h3 h4
      unfold fitN; rw [whN_2 c2.1 c2.2]
      by_cases hs : i + 1 < s.size
      · rw [show min 2 (s.size - i) = 2 by omega, fit2, okB_not _ _ _ (by omega)]; simp
      · rw [show min 2 (s.size - i) = 1 by omega, fit1]; omega
    rw [whN_2 c2.1 c2.2, if_pos hf]
  · by_cases c3 : 224 ≤ bt s i ∧ bt s i ≤ 239
    · have hf : fitN s i < 3 := by
        clear h1 h2 h4 c2
        unfold fitN; rw [whN_3 c3.1 c3.2]
        by_cases hs2 : i + 2 < s.size
        · rw [show min 3 (s.size - i) = 3 by omega, fit3]
          by_cases o1 : okB (bt s i) (bt s (i + 1)) 1 = true
          · by_cases o2 : okB (bt s i) (bt s (i + 2)) 2 = true
            · rw [okB_iff] at o1 o2
              refine absurd ?_ h3
              clear h3
              refine ⟨c3.1, c3.2, ?_, ?_, ?_, ?_, ?_, ?_, ?_, ?_⟩ <;> omega
            · rw [if_pos o1, if_neg o2]; omega
          · rw [if_neg o1]; omega
        · have : fitFrom s i (min 3 (s.size - i)) 4 1 ≤ min 3 (s.size - i) := fitFrom_le _ _ _ _ _ (by omega)
          omega
      rw [whN_3 c3.1 c3.2, if_pos hf]
    · by_cases c4 : 240 ≤ bt s i ∧ bt s i ≤ 244
      · have hf : fitN s i < 4 := by
          clear h1 h2 h3 c2 c3
          unfold fitN; rw [whN_4 c4.1 c4.2]
          by_cases hs2 : i + 3 < s.size
          · rw [show min 4 (s.size - i) = 4 by omega, fit4]
            by_cases o1 : okB (bt s i) (bt s (i + 1)) 1 = true
            · by_cases o2 : okB (bt s i) (bt s (i + 2)) 2 = true
              · by_cases o3 : okB (bt s i) (bt s (i + 3)) 3 = true
                · rw [okB_iff] at o1 o2 o3
                  refine absurd ?_ h4
                  clear h4
                  refine ⟨c4.1, c4.2, ?_, ?_, ?_, ?_, ?_, ?_, ?_, ?_, ?_, ?_, ?_⟩ <;> omega
                · rw [if_pos o1, if_pos o2, if_neg o3]; omega
              · rw [if_pos o1, if_neg o2]; omega
            · rw [if_neg o1]; omega
          · have : fitFrom s i (min 4 (s.size - i)) 4 1 ≤ min 4 (s.size - i) := fitFrom_le _ _ _ _ _ (by omega)
            omega
        rw [whN_4 c4.1 c4.2, if_pos hf]
      · clear h2 h3 h4
        rw [whN_0 (by omega)]; split <;> rfl

/-- A piece: how many bytes, which rune, whether it is a broken byte. -/
def wd (s : ByteArray) (i : Nat) : Nat := if lenN s i = 0 then 1 else lenN s i
def rn (s : ByteArray) (i : Nat) : Nat := if lenN s i = 0 then 65533 else rdN s i (lenN s i) (lenN s i)
def bk (s : ByteArray) (i : Nat) : Bool := lenN s i == 0

theorem dec_def (s : ByteArray) (i : Nat) : Utf8.decode s i =
    if bt s i < 128 then (bt s i, 1)
    else if (bt s i / 32 == 6 && ctB s (i + 1)) = true then
      if bt s i % 32 * 64 + bt s (i + 1) % 64 ≥ 128 then (bt s i % 32 * 64 + bt s (i + 1) % 64, 2) else (65533, 1)
    else if (bt s i / 16 == 14 && ctB s (i + 1) && ctB s (i + 2)) = true then
      if (decide (bt s i % 16 * 4096 + bt s (i + 1) % 64 * 64 + bt s (i + 2) % 64 ≥ 2048) && Utf8.valid ((bt s i % 16 * 4096 + bt s (i + 1) % 64 * 64 + bt s (i + 2) % 64 : Nat) : Int)) = true then (bt s i % 16 * 4096 + bt s (i + 1) % 64 * 64 + bt s (i + 2) % 64, 3) else (65533, 1)
    else if (bt s i / 8 == 30 && ctB s (i + 1) && ctB s (i + 2) && ctB s (i + 3)) = true then
      if (decide (bt s i % 8 * 262144 + bt s (i + 1) % 64 * 4096 + bt s (i + 2) % 64 * 64 + bt s (i + 3) % 64 ≥ 65536) && Utf8.valid ((bt s i % 8 * 262144 + bt s (i + 1) % 64 * 4096 + bt s (i + 2) % 64 * 64 + bt s (i + 3) % 64 : Nat) : Int)) = true then (bt s i % 8 * 262144 + bt s (i + 1) % 64 * 4096 + bt s (i + 2) % 64 * 64 + bt s (i + 3) % 64, 4) else (65533, 1)
    else (65533, 1) := rfl

theorem valid_iff (c : Nat) : Utf8.valid (c : Int) = true ↔ (c < 55296 ∨ (57344 ≤ c ∧ c ≤ 1114111)) := by
  unfold Utf8.valid
  simp only [Bool.or_eq_true, Bool.and_eq_true, decide_eq_true_iff]
  omega

/-- Go's own decoding tells the pieces. -/
theorem dec_eq (s : ByteArray) (i : Nat) (hi : i < s.size) : Utf8.decode s i = (rn s i, wd s i) := by
  have hb := bt_lt s i
  have hb1 := bt_lt s (i + 1)
  rw [dec_def]
  unfold rn wd
  cases e1 : isF s i 1 with
  | true =>
    rw [lenN_of_1 s i hi e1]
    rw [isF1] at e1
    rw [if_pos e1]; rfl
  | false =>
    cases e2 : isF s i 2 with
    | true =>
      rw [lenN_of_2 s i e2]
      rw [isF2] at e2
      rw [if_neg (by omega), if_pos (by rw [Bool.and_eq_true, ctB_iff, beq_iff_eq]; omega), if_pos (by omega)]; rfl
    | false =>
      cases e3 : isF s i 3 with
      | true =>
        rw [lenN_of_3 s i e3]
        rw [isF3] at e3
        clear e1 e2
        rw [if_neg (by omega), if_neg (by rw [Bool.and_eq_true, ctB_iff, beq_iff_eq]; omega), if_pos (by rw [Bool.and_eq_true, Bool.and_eq_true, ctB_iff, ctB_iff, beq_iff_eq]; omega),
          if_pos (by rw [Bool.and_eq_true, valid_iff, decide_eq_true_iff]; omega)]
        simp only [rdN, hdN]
        simp only [Prod.mk.injEq]
        refine ⟨?_, rfl⟩
        simp; omega
      | false =>
        cases e4 : isF s i 4 with
        | true =>
          rw [lenN_of_4 s i e4]
          rw [isF4] at e4
          clear e1 e2 e3
          rw [if_neg (by omega), if_neg (by rw [Bool.and_eq_true, ctB_iff, beq_iff_eq]; omega), if_neg (by rw [Bool.and_eq_true, Bool.and_eq_true, ctB_iff, ctB_iff, beq_iff_eq]; omega),
            if_pos (by rw [Bool.and_eq_true, Bool.and_eq_true, Bool.and_eq_true, ctB_iff, ctB_iff, ctB_iff, beq_iff_eq]; omega), if_pos (by rw [Bool.and_eq_true, valid_iff, decide_eq_true_iff]; omega)]
          simp only [rdN, hdN]
          simp only [Prod.mk.injEq]
          refine ⟨?_, rfl⟩
          simp; omega
        | false =>
          rw [lenN_of_no s i hi e1 e2 e3 e4]
          rw [Bool.eq_false_iff, ne_eq, isF1] at e1
          rw [Bool.eq_false_iff, ne_eq, isF2] at e2
          rw [Bool.eq_false_iff, ne_eq, isF3] at e3
          rw [Bool.eq_false_iff, ne_eq, isF4] at e4
          rw [if_neg e1]
          split
          · rename_i h; rw [Bool.and_eq_true, ctB_iff, beq_iff_eq] at h
            clear e3 e4
            rw [if_neg (by intro hc; refine e2 ?_; clear e2; refine ⟨?_, ?_, ?_, ?_, ?_⟩ <;> omega)]; rfl
          · split
            · rename_i h; rw [Bool.and_eq_true, Bool.and_eq_true, ctB_iff, ctB_iff, beq_iff_eq] at h
              clear e1 e2 e4
              rw [if_neg (by rw [Bool.and_eq_true, valid_iff, decide_eq_true_iff]; intro hc; refine e3 ?_; clear e3; refine ⟨?_, ?_, ?_, ?_, ?_, ?_, ?_, ?_, ?_, ?_⟩ <;> omega)]; rfl
            · split
              · rename_i h; rw [Bool.and_eq_true, Bool.and_eq_true, Bool.and_eq_true, ctB_iff, ctB_iff, ctB_iff, beq_iff_eq] at h
                clear e1 e2 e3
                rw [if_neg (by rw [Bool.and_eq_true, valid_iff, decide_eq_true_iff]; intro hc; refine e4 ?_; clear e4; refine ⟨?_, ?_, ?_, ?_, ?_, ?_, ?_, ?_, ?_, ?_, ?_, ?_, ?_⟩ <;> omega)]; rfl
              · rfl

end Go.Proofs.YtjccoiephdopkaaDoor
