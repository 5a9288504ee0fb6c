/- The document's way to find a form finds just the forms; plain facts. -/
import Derived.Test.YtjccoiephdopkaaDoorPc
import Derived.Laws.BytesArg
namespace Go.Proofs.YtjccoiephdopkaaDoor
set_option linter.unusedVariables false
set_option linter.unusedSimpArgs false
open Go

/-- Is r no rune? -/
def noR (r : Int) : Bool := decide (r < 0 ∨ (55296 ≤ r ∧ r ≤ 57343) ∨ 1114111 < r)
theorem noR_iff (r : Int) : noR r = true ↔ (r < 0 ∨ (55296 ≤ r ∧ r ≤ 57343) ∨ 1114111 < r) := by simp [noR]
theorem noR_not (r : Int) : noR r = false ↔ ¬ (r < 0 ∨ (55296 ≤ r ∧ r ≤ 57343) ∨ 1114111 < r) := by
  unfold noR; rw [decide_eq_false_iff_not]

/-- The bytes of a rune's form, as numbers. -/
def encL (r : Int) : List Int := if noR r = true then [239, 191, 189] else if r < 128 then [r] else if r < 2048 then [192 + r / 64, 128 + r % 64] else if r < 65536 then [224 + r / 64 / 64, 128 + r / 64 % 64, 128 + r % 64] else [240 + r / 64 / 64 / 64, 128 + r / 64 / 64 % 64, 128 + r / 64 % 64, 128 + r % 64]

theorem enc_nums (r : Int) : Utf8.encode r = strOfNums (encL r) := by
  unfold encL
  cases h : noR r with
  | true =>
    have hv : Utf8.valid r = false := by
      rw [noR_iff] at h; unfold Utf8.valid
      rw [Bool.eq_false_iff, ne_eq]; simp only [Bool.or_eq_true, Bool.and_eq_true, decide_eq_true_iff]; omega
    unfold Utf8.encode
    simp only [hv, Bool.false_eq_true, if_false, if_true]
    show (⟨#[UInt8.ofNat (224 + 65533 / 4096), UInt8.ofNat (128 + 65533 / 64 % 64), UInt8.ofNat (128 + 65533 % 64)]⟩ : ByteArray) = strOfNums [239, 191, 189]
    rfl
  | false =>
    rw [noR_not] at h
    have hv : Utf8.valid r = true := by
      unfold Utf8.valid; simp only [Bool.or_eq_true, Bool.and_eq_true, decide_eq_true_iff]; omega
    rw [if_neg (by simp)]
    obtain ⟨n, rfl⟩ := Int.eq_ofNat_of_zero_le (show 0 ≤ r by omega)
    unfold Utf8.encode strOfNums
    simp only [hv, if_true, Int.toNat_natCast]
    by_cases h1 : n < 128
    · rw [if_pos h1, if_pos (show (n : Int) < 128 by omega)]; simp
    · rw [if_neg h1, if_neg (show ¬ (n : Int) < 128 by omega)]
      by_cases h2 : n < 2048
      · rw [if_pos h2, if_pos (show (n : Int) < 2048 by omega)]
        simp only [List.map_cons, List.map_nil]
        rw [show (192 + (n : Int) / 64).toNat = 192 + n / 64 by omega, show (128 + (n : Int) % 64).toNat = 128 + n % 64 by omega]
      · rw [if_neg h2, if_neg (show ¬ (n : Int) < 2048 by omega)]
        by_cases h3 : n < 65536
        · rw [if_pos h3, if_pos (show (n : Int) < 65536 by omega)]
          simp only [List.map_cons, List.map_nil]
          rw [show (224 + (n : Int) / 64 / 64).toNat = 224 + n / 4096 by omega, show (128 + (n : Int) / 64 % 64).toNat = 128 + n / 64 % 64 by omega, show (128 + (n : Int) % 64).toNat = 128 + n % 64 by omega]
        · rw [if_neg h3, if_neg (show ¬ (n : Int) < 65536 by omega)]
          simp only [List.map_cons, List.map_nil]
          rw [show (240 + (n : Int) / 64 / 64 / 64).toNat = 240 + n / 262144 by omega, show (128 + (n : Int) / 64 / 64 % 64).toNat = 128 + n / 4096 % 64 by omega, show (128 + (n : Int) / 64 % 64).toNat = 128 + n / 64 % 64 by omega, show (128 + (n : Int) % 64).toNat = 128 + n % 64 by omega]

/-- The bytes of s from i on, as numbers. -/
def btL (s : ByteArray) (i : Nat) : Nat → List Int
  | 0 => []
  | n + 1 => (bt s i : Int) :: btL s (i + 1) n

theorem btL1 (s : ByteArray) (i : Nat) : btL s i 1 = [(bt s i : Int)] := rfl
theorem btL2 (s : ByteArray) (i : Nat) : btL s i 2 = [(bt s i : Int), (bt s (i + 1) : Int)] := rfl
theorem btL3 (s : ByteArray) (i : Nat) : btL s i 3 = [(bt s i : Int), (bt s (i + 1) : Int), (bt s (i + 2) : Int)] := rfl
theorem btL4 (s : ByteArray) (i : Nat) : btL s i 4 = [(bt s i : Int), (bt s (i + 1) : Int), (bt s (i + 2) : Int), (bt s (i + 3) : Int)] := rfl

theorem ext_data (s : ByteArray) : ∀ n i, i + n ≤ s.size → (s.extract i (i + n)).data.toList = (btL s i n).map fun n => UInt8.ofNat n.toNat := by
  intro n
  induction n with
  | zero => intro i h; simp [btL, ByteArray.data_extract]
  | succ n ih =>
    intro i h
    have := ih (i + 1) (by omega)
    simp only [btL, List.map_cons, Int.toNat_natCast]
    rw [← this, ByteArray.data_extract, ByteArray.data_extract, Array.toList_extract, Array.toList_extract]
    have hi : i < s.data.toList.length := by rw [Array.length_toList]; exact (show i < s.size by omega)
    rw [List.extract_eq_take_drop, List.extract_eq_take_drop, List.drop_eq_getElem_cons hi, show i + (n + 1) - i = n + 1 by omega, List.take_succ_cons, show i + 1 + n - (i + 1) = n by omega]
    rw [show s.data.toList[i] = UInt8.ofNat (bt s i) from by rw [← bt_get s i (by omega), UInt8.ofNat_toNat]; rfl]

theorem ext_nums (s : ByteArray) (n i : Nat) (h : i + n ≤ s.size) : s.extract i (i + n) = strOfNums (btL s i n) := by
  have := ext_data s n i h
  apply ByteArray.ext
  apply Array.ext'
  rw [this]; rfl

theorem str_inj : ∀ (l m : List Int), (∀ x ∈ l, 0 ≤ x ∧ x < 256) → (∀ x ∈ m, 0 ≤ x ∧ x < 256) → strOfNums l = strOfNums m → l = m := by
  intro l m hl hm h
  have h' : (l.map fun n => UInt8.ofNat n.toNat) = (m.map fun n => UInt8.ofNat n.toNat) := by
    have := congrArg (fun b : ByteArray => b.data.toList) h
    simpa [strOfNums] using this
  clear h
  induction l generalizing m with
  | nil => cases m with
    | nil => rfl
    | cons y m => simp at h'
  | cons x l ih => cases m with
    | nil => simp at h'
    | cons y m =>
      simp only [List.map_cons, List.cons.injEq] at h'
      have hx := hl x (by simp)
      have hy := hm y (by simp)
      have e := congrArg UInt8.toNat h'.1
      rw [UInt8.toNat_ofNat', UInt8.toNat_ofNat'] at e
      have : x = y := by omega
      rw [this, ih m (fun z hz => hl z (by simp [hz])) (fun z hz => hm z (by simp [hz])) h'.2]

theorem btL_bd (s : ByteArray) : ∀ n i, ∀ x ∈ btL s i n, 0 ≤ x ∧ x < 256 := by
  intro n
  induction n with
  | zero => intro i x hx; simp [btL] at hx
  | succ n ih =>
    intro i x hx
    simp only [btL, List.mem_cons] at hx
    rcases hx with rfl | hx
    · have := bt_lt s i; omega
    · exact ih _ x hx

theorem encL_bd (r : Int) : ∀ x ∈ encL r, 0 ≤ x ∧ x < 256 := by
  intro x hx
  unfold encL at hx
  cases h : noR r with
  | true => rw [h, if_pos rfl] at hx; simp at hx; omega
  | false =>
    rw [h, if_neg (by simp)] at hx
    rw [noR_not] at h
    split at hx
    · simp at hx; omega
    · split at hx
      · simp at hx; omega
      · split at hx
        · simp at hx; omega
        · simp at hx; omega

/-- A rune's form, where it stands, is a form of that rune. -/
theorem form_of_enc (s : ByteArray) (i n : Nat) (R : Int) (h1 : 1 ≤ n) (hn : n ≤ 4) (hf : i + n ≤ s.size) (hno : noR R = false) (hw : widZ R = n) (he : Utf8.encode R = s.extract i (i + n)) :
    isF s i n = true ∧ (rn s i : Int) = R ∧ lenN s i = n := by
  rw [enc_nums, ext_nums s n i hf] at he
  have hl := str_inj _ _ (encL_bd R) (btL_bd s n i) he
  unfold encL at hl
  rw [hno, if_neg (by simp)] at hl
  rw [noR_not] at hno
  have hfive := five s i (by omega)
  rcases (show n = 1 ∨ n = 2 ∨ n = 3 ∨ n = 4 by omega) with rfl | rfl | rfl | rfl
  · have hR : R < 128 := by
      unfold widZ at hw; rw [if_neg hno] at hw
      by_cases h : R < 128
      · exact h
      · rw [if_neg h] at hw; exfalso; revert hw; split <;> (try split) <;> omega
    rw [if_pos hR] at hl
    simp only [btL1, btL2, btL3, btL4, List.cons.injEq] at hl
    have hF : isF s i 1 = true := by rw [isF1]; omega
    rw [lenN_of_1 s i (by omega) hF] at hfive
    refine ⟨hF, ?_, lenN_of_1 s i (by omega) hF⟩
    rcases hfive with ⟨_, _, e⟩ | ⟨_, e, _⟩ | ⟨_, e, _⟩ | ⟨_, e, _⟩ | ⟨e, _⟩ <;> omega
  · have hR : 128 ≤ R ∧ R < 2048 := by
      unfold widZ at hw; rw [if_neg hno] at hw
      by_cases h : R < 128
      · rw [if_pos h] at hw; omega
      · rw [if_neg h] at hw
        by_cases h' : R < 2048
        · omega
        · rw [if_neg h'] at hw; exfalso; revert hw; split <;> omega
    rw [if_neg (by omega), if_pos hR.2] at hl
    simp only [btL1, btL2, btL3, btL4, List.cons.injEq] at hl
    obtain ⟨e0, e1, _⟩ := hl
    have hF : isF s i 2 = true := by rw [isF2]; refine ⟨?_, ?_, ?_, ?_, ?_⟩ <;> omega
    rw [lenN_of_2 s i hF] at hfive
    refine ⟨hF, ?_, lenN_of_2 s i hF⟩
    rcases hfive with ⟨_, e, _⟩ | ⟨_, _, e⟩ | ⟨_, e, _⟩ | ⟨_, e, _⟩ | ⟨e, _⟩ <;> omega
  · have hR : 2048 ≤ R ∧ R < 65536 := by
      unfold widZ at hw; rw [if_neg hno] at hw
      by_cases h : R < 128
      · rw [if_pos h] at hw; omega
      · rw [if_neg h] at hw
        by_cases h' : R < 2048
        · rw [if_pos h'] at hw; omega
        · rw [if_neg h'] at hw
          by_cases h3 : R < 65536
          · omega
          · rw [if_neg h3] at hw; omega
    rw [if_neg (by omega), if_neg (by omega), if_pos hR.2] at hl
    simp only [btL1, btL2, btL3, btL4, List.cons.injEq] at hl
    obtain ⟨e0, e1, e2, _⟩ := hl
    have hF : isF s i 3 = true := by
      rw [isF3]
      refine ⟨?_, ?_, ?_, ?_, ?_, ?_, ?_, ?_, ?_, ?_⟩
      all_goals omega
    rw [lenN_of_3 s i hF] at hfive
    refine ⟨hF, ?_, lenN_of_3 s i hF⟩
    rcases hfive with ⟨_, e, _⟩ | ⟨_, e, _⟩ | ⟨_, _, e⟩ | ⟨_, e, _⟩ | ⟨e, _⟩ <;> omega
  · have hR : 65536 ≤ R := by
      unfold widZ at hw; rw [if_neg hno] at hw
      by_cases h : R < 128
      · rw [if_pos h] at hw; omega
      · rw [if_neg h] at hw
        by_cases h' : R < 2048
        · rw [if_pos h'] at hw; omega
        · rw [if_neg h'] at hw
          by_cases h3 : R < 65536
          · rw [if_pos h3] at hw; omega
          · omega
    rw [if_neg (by omega), if_neg (by omega), if_neg (by omega)] at hl
    simp only [btL1, btL2, btL3, btL4, List.cons.injEq] at hl
    obtain ⟨e0, e1, e2, e3, _⟩ := hl
    have hF : isF s i 4 = true := by
      rw [isF4]
      refine ⟨?_, ?_, ?_, ?_, ?_, ?_, ?_, ?_, ?_, ?_, ?_, ?_, ?_⟩
      all_goals omega
    rw [lenN_of_4 s i hF] at hfive
    refine ⟨hF, ?_, lenN_of_4 s i hF⟩
    rcases hfive with ⟨_, e, _⟩ | ⟨_, e, _⟩ | ⟨_, e, _⟩ | ⟨_, _, e⟩ | ⟨e, _⟩ <;> omega

/-- A form is its rune's own form. -/
theorem enc_of_form (s : ByteArray) (i : Nat) (hi : i < s.size) (h : lenN s i ≠ 0) :
    noR (rn s i) = false ∧ widZ (rn s i) = lenN s i ∧ Utf8.encode (rn s i) = s.extract i (i + lenN s i) := by
  have hno : noR (rn s i) = false := by
    have := valid_rn s i hi; rw [valid_iff] at this; rw [noR_not]; omega
  refine ⟨hno, ?_, ?_⟩
  · have := wid_rn s i hi ((bk_not s i).2 h); rw [this, wd, if_neg h]
  · have hb := bt_lt s i
    have hfit := (lenN_fits s i h).1
    rw [enc_nums, ext_nums s _ i hfit]
    congr 1
    unfold encL
    rw [hno, if_neg (by simp)]
    rcases five s i hi with ⟨hF, hl, e⟩ | ⟨hF, hl, e⟩ | ⟨hF, hl, e⟩ | ⟨hF, hl, e⟩ | ⟨hl, e⟩
    · rw [isF1] at hF; rw [hl, if_pos (by omega), e]; rfl
    · rw [isF2] at hF; rw [hl, if_neg (by omega), if_pos (by omega), e]
      simp only [btL2, List.cons.injEq, and_true]
      refine ⟨?_, ?_⟩ <;> omega
    · rw [isF3] at hF; rw [hl, if_neg (by omega), if_neg (by omega), if_pos (by omega), e]
      simp only [btL3, btL4, List.cons.injEq, and_true]
      refine ⟨?_, ?_, ?_⟩ <;> omega
    · rw [isF4] at hF; rw [hl, if_neg (by omega), if_neg (by omega), if_neg (by omega), e]
      simp only [btL3, btL4, List.cons.injEq, and_true]
      refine ⟨?_, ?_, ?_, ?_⟩ <;> omega
    · exact absurd hl h

theorem isF_fits (s : ByteArray) (i n : Nat) (hi : i < s.size) (h : isF s i n = true) : i + n ≤ s.size := by
  match n, h with
  | 1, _ => omega
  | 2, h => rw [isF2] at h; omega
  | 3, h => rw [isF3] at h; omega
  | 4, h => rw [isF4] at h; omega

/-- The number that the document's Form reckons out of n bytes. -/
def frZ (s : ByteArray) (i : Nat) : Nat → Int
  | 1 => (bt s i : Int)
  | 2 => ((bt s i : Int) - 192) * 64 + bt s (i + 1) - 128
  | 3 => (((bt s i : Int) - 224) * 64 + bt s (i + 1) - 128) * 64 + bt s (i + 2) - 128
  | _ => ((((bt s i : Int) - 240) * 64 + bt s (i + 1) - 128) * 64 + bt s (i + 2) - 128) * 64 + bt s (i + 3) - 128

theorem frZ_rn (s : ByteArray) (i n : Nat) (hi : i < s.size) (h1 : 1 ≤ n) (hn : n ≤ 4) (h : isF s i n = true) : frZ s i n = rn s i ∧ lenN s i = n := by
  have hfive := five s i hi
  rcases (show n = 1 ∨ n = 2 ∨ n = 3 ∨ n = 4 by omega) with rfl | rfl | rfl | rfl
  · have hl := lenN_of_1 s i hi h
    refine ⟨?_, hl⟩
    rw [isF1] at h
    rcases hfive with ⟨_, _, e⟩ | ⟨_, e, _⟩ | ⟨_, e, _⟩ | ⟨_, e, _⟩ | ⟨e, _⟩ <;> simp only [frZ] <;> omega
  · have hl := lenN_of_2 s i h
    refine ⟨?_, hl⟩
    rw [isF2] at h
    rcases hfive with ⟨_, e, _⟩ | ⟨_, _, e⟩ | ⟨_, e, _⟩ | ⟨_, e, _⟩ | ⟨e, _⟩ <;> simp only [frZ] <;> omega
  · have hl := lenN_of_3 s i h
    refine ⟨?_, hl⟩
    rw [isF3] at h
    rcases hfive with ⟨_, e, _⟩ | ⟨_, e, _⟩ | ⟨_, _, e⟩ | ⟨_, e, _⟩ | ⟨e, _⟩ <;> simp only [frZ] <;> omega
  · have hl := lenN_of_4 s i h
    refine ⟨?_, hl⟩
    rw [isF4] at h
    rcases hfive with ⟨_, e, _⟩ | ⟨_, e, _⟩ | ⟨_, e, _⟩ | ⟨_, _, e⟩ | ⟨e, _⟩ <;> simp only [frZ] <;> omega

/-- Where the number is none, has another width, or another form than the bytes: no form of n bytes begins. -/
theorem noF (s : ByteArray) (i n : Nat) (hi : i < s.size) (h1 : 1 ≤ n) (hn : n ≤ 4) (h : ¬ (noR (frZ s i n) = false ∧ widZ (frZ s i n) = n ∧ Utf8.encode (frZ s i n) = s.extract i (i + n))) : isF s i n = false := by
  cases hF : isF s i n with
  | false => rfl
  | true =>
    obtain ⟨e, hl⟩ := frZ_rn s i n hi h1 hn hF
    have := enc_of_form s i hi (by omega)
    rw [← e, hl] at this
    exact absurd this h

theorem lenN_of_none (s : ByteArray) (i n : Nat) (hi : i < s.size) (h : ∀ m, 1 ≤ m → m < n → isF s i m = false) (hn : n = 5 ∨ s.size < i + n) : lenN s i = 0 := by
  have hm : ∀ m, 1 ≤ m → m ≤ 4 → isF s i m = false := by
    intro m hm1 hm4
    by_cases hmn : m < n
    · exact h m hm1 hmn
    · cases hF : isF s i m with
      | false => rfl
      | true => have := isF_fits s i m hi hF; omega
  exact lenN_of_no s i hi (hm 1 (by omega) (by omega)) (hm 2 (by omega) (by omega)) (hm 3 (by omega) (by omega)) (hm 4 (by omega) (by omega))

/-- What the document's Form answers. -/
def fmR (s : ByteArray) (i : Nat) : Int := if lenN s i = 0 then 0 else rn s i
end Go.Proofs.YtjccoiephdopkaaDoor
