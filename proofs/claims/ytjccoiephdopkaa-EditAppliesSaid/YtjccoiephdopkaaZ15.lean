/- Several texts in one. -/
import Derived.Test.YtjccoiephdopkaaZ14
import Derived.Laws.BytesArg
import Derived.Handy
import Derived.Deep.Light
import Derived.Deep.RegionHeld3
import Derived.BigQuiet
import Derived.Deep.QuietTactic
import Derived.Deep.AppendLies
/- The document's way to find a form finds just the forms; plain facts. -/
namespace Go.Proofs.Ytjccoiephdopkaa
set_option linter.unusedVariables false
set_option linter.unusedSimpArgs false
open Go

/-- Is r no rune? -/
def noR (r : Int) : Bool := decide (r < 0 ∨ (55296 ≤ r ∧ r ≤ 57343) ∨ 1114111 < r)
theorem noR_iff (r : Int) : noR r = true ↔ (r < 0 ∨ (55296 ≤ r ∧ r ≤ 57343) ∨ 1114111 < r) := by simp [noR]
theorem noR_not (r : Int) : noR r = false ↔ ¬ (r < 0 ∨ (55296 ≤ r ∧ r ≤ 57343) ∨ 1114111 < r) := by
  unfold noR; rw [decide_eq_false_iff_not]

/-- The bytes of a rune's form, as numbers. -/
def encL (r : Int) : List Int := if noR r = true then [239, 191, 189] else if r < 128 then [r] else if r < 2048 then [192 + r / 64, 128 + r % 64] else if r < 65536 then [224 + r / 64 / 64, 128 + r / 64 % 64, 128 + r % 64] else [240 + r / 64 / 64 / 64, 128 + r / 64 / 64 % 64, 128 + r / 64 % 64, 128 + r % 64]

theorem enc_nums (r : Int) : Utf8.encode r = strOfNums (encL r) := by
  unfold encL
  cases h : noR r with
  | true =>
    have hv : Utf8.valid r = false := by
      rw [noR_iff] at h; unfold Utf8.valid
      rw [Bool.eq_false_iff, ne_eq]; simp only [Bool.or_eq_true, Bool.and_eq_true, decide_eq_true_iff]; omega
    unfold Utf8.encode
    simp only [hv, Bool.false_eq_true, if_false, if_true]
    show (⟨#[UInt8.ofNat (224 + 65533 / 4096), UInt8.ofNat (128 + 65533 / 64 % 64), UInt8.ofNat (128 + 65533 % 64)]⟩ : ByteArray) = strOfNums [239, 191, 189]
    rfl
  | false =>
    rw [noR_not] at h
    have hv : Utf8.valid r = true := by
      unfold Utf8.valid; simp only [Bool.or_eq_true, Bool.and_eq_true, decide_eq_true_iff]; omega
    rw [if_neg (by simp)]
    obtain ⟨n, rfl⟩ := Int.eq_ofNat_of_zero_le (show 0 ≤ r by omega)
    unfold Utf8.encode strOfNums
    simp only [hv, if_true, Int.toNat_natCast]
    by_cases h1 : n < 128
    · rw [if_pos h1, if_pos (show (n : Int) < 128 by omega)]; simp
    · rw [if_neg h1, if_neg (show ¬ (n : Int) < 128 by omega)]
      by_cases h2 : n < 2048
      · rw [if_pos h2, if_pos (show (n : Int) < 2048 by omega)]
        simp only [List.map_cons, List.map_nil]
        rw [show (192 + (n : Int) / 64).toNat = 192 + n / 64 by omega, show (128 + (n : Int) % 64).toNat = 128 + n % 64 by omega]
      · rw [if_neg h2, if_neg (show ¬ (n : Int) < 2048 by omega)]
        by_cases h3 : n < 65536
        · rw [if_pos h3, if_pos (show (n : Int) < 65536 by omega)]
          simp only [List.map_cons, List.map_nil]
          rw [show (224 + (n : Int) / 64 / 64).toNat = 224 + n / 4096 by omega, show (128 + (n : Int) / 64 % 64).toNat = 128 + n / 64 % 64 by omega, show (128 + (n : Int) % 64).toNat = 128 + n % 64 by omega]
        · rw [if_neg h3, if_neg (show ¬ (n : Int) < 65536 by omega)]
          simp only [List.map_cons, List.map_nil]
          rw [show (240 + (n : Int) / 64 / 64 / 64).toNat = 240 + n / 262144 by omega, show (128 + (n : Int) / 64 / 64 % 64).toNat = 128 + n / 4096 % 64 by omega, show (128 + (n : Int) / 64 % 64).toNat = 128 + n / 64 % 64 by omega, show (128 + (n : Int) % 64).toNat = 128 + n % 64 by omega]

/-- The bytes of s from i on, as numbers. -/
def btL (s : ByteArray) (i : Nat) : Nat → List Int
  | 0 => []
  | n + 1 => (bt s i : Int) :: btL s (i + 1) n

theorem btL1 (s : ByteArray) (i : Nat) : btL s i 1 = [(bt s i : Int)] := rfl
theorem btL2 (s : ByteArray) (i : Nat) : btL s i 2 = [(bt s i : Int), (bt s (i + 1) : Int)] := rfl
theorem btL3 (s : ByteArray) (i : Nat) : btL s i 3 = [(bt s i : Int), (bt s (i + 1) : Int), (bt s (i + 2) : Int)] := rfl
theorem btL4 (s : ByteArray) (i : Nat) : btL s i 4 = [(bt s i : Int), (bt s (i + 1) : Int), (bt s (i + 2) : Int), (bt s (i + 3) : Int)] := rfl

theorem ext_data (s : ByteArray) : ∀ n i, i + n ≤ s.size → (s.extract i (i + n)).data.toList = (btL s i n).map fun n => UInt8.ofNat n.toNat := by
  intro n
  induction n with
  | zero => intro i h; simp [btL, ByteArray.data_extract]
  | succ n ih =>
    intro i h
    have := ih (i + 1) (by omega)
    simp only [btL, List.map_cons, Int.toNat_natCast]
    rw [← this, ByteArray.data_extract, ByteArray.data_extract, Array.toList_extract, Array.toList_extract]
    have hi : i < s.data.toList.length := by rw [Array.length_toList]; exact (show i < s.size by omega)
    rw [List.extract_eq_take_drop, List.extract_eq_take_drop, List.drop_eq_getElem_cons hi, show i + (n + 1) - i = n + 1 by omega, List.take_succ_cons, show i + 1 + n - (i + 1) = n by omega]
    rw [show s.data.toList[i] = UInt8.ofNat (bt s i) from by rw [← bt_get s i (by omega), UInt8.ofNat_toNat]; rfl]

theorem ext_nums (s : ByteArray) (n i : Nat) (h : i + n ≤ s.size) : s.extract i (i + n) = strOfNums (btL s i n) := by
  have := ext_data s n i h
  apply ByteArray.ext
  apply Array.ext'
  rw [this]; rfl

theorem str_inj : ∀ (l m : List Int), (∀ x ∈ l, 0 ≤ x ∧ x < 256) → (∀ x ∈ m, 0 ≤ x ∧ x < 256) → strOfNums l = strOfNums m → l = m := by
  intro l m hl hm h
  have h' : (l.map fun n => UInt8.ofNat n.toNat) = (m.map fun n => UInt8.ofNat n.toNat) := by
    have := congrArg (fun b : ByteArray => b.data.toList) h
    simpa [strOfNums] using this
  clear h
  induction l generalizing m with
  | nil => cases m with
    | nil => rfl
    | cons y m => simp at h'
  | cons x l ih => cases m with
    | nil => simp at h'
    | cons y m =>
      simp only [List.map_cons, List.cons.injEq] at h'
      have hx := hl x (by simp)
      have hy := hm y (by simp)
      have e := congrArg UInt8.toNat h'.1
      rw [UInt8.toNat_ofNat', UInt8.toNat_ofNat'] at e
      have : x = y := by omega
      rw [this, ih m (fun z hz => hl z (by simp [hz])) (fun z hz => hm z (by simp [hz])) h'.2]

theorem btL_bd (s : ByteArray) : ∀ n i, ∀ x ∈ btL s i n, 0 ≤ x ∧ x < 256 := by
  intro n
  induction n with
  | zero => intro i x hx; simp [btL] at hx
  | succ n ih =>
    intro i x hx
    simp only [btL, List.mem_cons] at hx
    rcases hx with rfl | hx
    · have := bt_lt s i; omega
    · exact ih _ x hx

theorem encL_bd (r : Int) : ∀ x ∈ encL r, 0 ≤ x ∧ x < 256 := by
  intro x hx
  unfold encL at hx
  cases h : noR r with
  | true => rw [h, if_pos rfl] at hx; simp at hx; omega
  | false =>
    rw [h, if_neg (by simp)] at hx
    rw [noR_not] at h
    split at hx
    · simp at hx; omega
    · split at hx
      · simp at hx; omega
      · split at hx
        · simp at hx; omega
        · simp at hx; omega

/-- A rune's form, where it stands, is a form of that rune. -/
theorem form_of_enc (s : ByteArray) (i n : Nat) (R : Int) (h1 : 1 ≤ n) (hn : n ≤ 4) (hf : i + n ≤ s.size) (hno : noR R = false) (hw : widZ R = n) (he : Utf8.encode R = s.extract i (i + n)) :
    isF s i n = true ∧ (rn s i : Int) = R ∧ lenN s i = n := by
  rw [enc_nums, ext_nums s n i hf] at he
  have hl := str_inj _ _ (encL_bd R) (btL_bd s n i) he
  unfold encL at hl
  rw [hno, if_neg (by simp)] at hl
  rw [noR_not] at hno
  have hfive := five s i (by omega)
  rcases (show n = 1 ∨ n = 2 ∨ n = 3 ∨ n = 4 by omega) with rfl | rfl | rfl | rfl
  · have hR : R < 128 := by
      unfold widZ at hw; rw [if_neg hno] at hw
      by_cases h : R < 128
      · exact h
      · rw [if_neg h] at hw; exfalso; revert hw; split <;> (try split) <;> omega
    rw [if_pos hR] at hl
    simp only [btL1, btL2, btL3, btL4, List.cons.injEq] at hl
    have hF : isF s i 1 = true := by rw [isF1]; omega
    rw [lenN_of_1 s i (by omega) hF] at hfive
    refine ⟨hF, ?_, lenN_of_1 s i (by omega) hF⟩
    rcases hfive with ⟨_, _, e⟩ | ⟨_, e, _⟩ | ⟨_, e, _⟩ | ⟨_, e, _⟩ | ⟨e, _⟩ <;> omega
  · have hR : 128 ≤ R ∧ R < 2048 := by
      unfold widZ at hw; rw [if_neg hno] at hw
      by_cases h : R < 128
      · rw [if_pos h] at hw; omega
      · rw [if_neg h] at hw
        by_cases h' : R < 2048
        · omega
        · rw [if_neg h'] at hw; exfalso; revert hw; split <;> omega
    rw [if_neg (by omega), if_pos hR.2] at hl
    simp only [btL1, btL2, btL3, btL4, List.cons.injEq] at hl
    obtain ⟨e0, e1, _⟩ := hl
    have hF : isF s i 2 = true := by rw [isF2]; refine ⟨?_, ?_, ?_, ?_, ?_⟩ <;> omega
    rw [lenN_of_2 s i hF] at hfive
    refine ⟨hF, ?_, lenN_of_2 s i hF⟩
    rcases hfive with ⟨_, e, _⟩ | ⟨_, _, e⟩ | ⟨_, e, _⟩ | ⟨_, e, _⟩ | ⟨e, _⟩ <;> omega
  · have hR : 2048 ≤ R ∧ R < 65536 := by
      unfold widZ at hw; rw [if_neg hno] at hw
      by_cases h : R < 128
      · rw [if_pos h] at hw; omega
      · rw [if_neg h] at hw
        by_cases h' : R < 2048
        · rw [if_pos h'] at hw; omega
        · rw [if_neg h'] at hw
          by_cases h3 : R < 65536
          · omega
          · rw [if_neg h3] at hw; omega
    rw [if_neg (by omega), if_neg (by omega), if_pos hR.2] at hl
    simp only [btL1, btL2, btL3, btL4, List.cons.injEq] at hl
    obtain ⟨e0, e1, e2, _⟩ := hl
    have hF : isF s i 3 = true := by
      rw [isF3]
      refine ⟨?_, ?_, ?_, ?_, ?_, ?_, ?_, ?_, ?_, ?_⟩
      all_goals omega
    rw [lenN_of_3 s i hF] at hfive
    refine ⟨hF, ?_, lenN_of_3 s i hF⟩
    rcases hfive with ⟨_, e, _⟩ | ⟨_, e, _⟩ | ⟨_, _, e⟩ | ⟨_, e, _⟩ | ⟨e, _⟩ <;> omega
  · have hR : 65536 ≤ R := by
      unfold widZ at hw; rw [if_neg hno] at hw
      by_cases h : R < 128
      · rw [if_pos h] at hw; omega
      · rw [if_neg h] at hw
        by_cases h' : R < 2048
        · rw [if_pos h'] at hw; omega
        · rw [if_neg h'] at hw
          by_cases h3 : R < 65536
          · rw [if_pos h3] at hw; omega
          · omega
    rw [if_neg (by omega), if_neg (by omega), if_neg (by omega)] at hl
    simp only [btL1, btL2, btL3, btL4, List.cons.injEq] at hl
    obtain ⟨e0, e1, e2, e3, _⟩ := hl
    have hF : isF s i 4 = true := by
      rw [isF4]
      refine ⟨?_, ?_, ?_, ?_, ?_, ?_, ?_, ?_, ?_, ?_, ?_, ?_, ?_⟩
      all_goals omega
    rw [lenN_of_4 s i hF] at hfive
    refine ⟨hF, ?_, lenN_of_4 s i hF⟩
    rcases hfive with ⟨_, e, _⟩ | ⟨_, e, _⟩ | ⟨_, e, _⟩ | ⟨_, _, e⟩ | ⟨e, _⟩ <;> omega

/-- A form is its rune's own form. -/
theorem enc_of_form (s : ByteArray) (i : Nat) (hi : i < s.size) (h : lenN s i ≠ 0) :
    noR (rn s i) = false ∧ widZ (rn s i) = lenN s i ∧ Utf8.encode (rn s i) = s.extract i (i + lenN s i) := by
  have hno : noR (rn s i) = false := by
    have := valid_rn s i hi; rw [valid_iff] at this; rw [noR_not]; omega
  refine ⟨hno, ?_, ?_⟩
  · have := wid_rn s i hi ((bk_not s i).2 h); rw [this, wd, if_neg h]
  · have hb := bt_lt s i
    have hfit := (lenN_fits s i h).1
    rw [enc_nums, ext_nums s _ i hfit]
    congr 1
    unfold encL
    rw [hno, if_neg (by simp)]
    rcases five s i hi with ⟨hF, hl, e⟩ | ⟨hF, hl, e⟩ | ⟨hF, hl, e⟩ | ⟨hF, hl, e⟩ | ⟨hl, e⟩
    · rw [isF1] at hF; rw [hl, if_pos (by omega), e]; rfl
    · rw [isF2] at hF; rw [hl, if_neg (by omega), if_pos (by omega), e]
      simp only [btL2, List.cons.injEq, and_true]
      refine ⟨?_, ?_⟩ <;> omega
    · rw [isF3] at hF; rw [hl, if_neg (by omega), if_neg (by omega), if_pos (by omega), e]
      simp only [btL3, btL4, List.cons.injEq, and_true]
      refine ⟨?_, ?_, ?_⟩ <;> omega
    · rw [isF4] at hF; rw [hl, if_neg (by omega), if_neg (by omega), if_neg (by omega), e]
      simp only [btL3, btL4, List.cons.injEq, and_true]
      refine ⟨?_, ?_, ?_, ?_⟩ <;> omega
    · exact absurd hl h

theorem isF_fits (s : ByteArray) (i n : Nat) (hi : i < s.size) (h : isF s i n = true) : i + n ≤ s.size := by
  match n, h with
  | 1, _ => omega
  | 2, h => rw [isF2] at h; omega
  | 3, h => rw [isF3] at h; omega
  | 4, h => rw [isF4] at h; omega

/-- The number that the document's Form reckons out of n bytes. -/
def frZ (s : ByteArray) (i : Nat) : Nat → Int
  | 1 => (bt s i : Int)
  | 2 => ((bt s i : Int) - 192) * 64 + bt s (i + 1) - 128
  | 3 => (((bt s i : Int) - 224) * 64 + bt s (i + 1) - 128) * 64 + bt s (i + 2) - 128
  | _ => ((((bt s i : Int) - 240) * 64 + bt s (i + 1) - 128) * 64 + bt s (i + 2) - 128) * 64 + bt s (i + 3) - 128

theorem frZ_rn (s : ByteArray) (i n : Nat) (hi : i < s.size) (h1 : 1 ≤ n) (hn : n ≤ 4) (h : isF s i n = true) : frZ s i n = rn s i ∧ lenN s i = n := by
  have hfive := five s i hi
  rcases (show n = 1 ∨ n = 2 ∨ n = 3 ∨ n = 4 by omega) with rfl | rfl | rfl | rfl
  · have hl := lenN_of_1 s i hi h
    refine ⟨?_, hl⟩
    rw [isF1] at h
    rcases hfive with ⟨_, _, e⟩ | ⟨_, e, _⟩ | ⟨_, e, _⟩ | ⟨_, e, _⟩ | ⟨e, _⟩ <;> simp only [frZ] <;> omega
  · have hl := lenN_of_2 s i h
    refine ⟨?_, hl⟩
    rw [isF2] at h
    rcases hfive with ⟨_, e, _⟩ | ⟨_, _, e⟩ | ⟨_, e, _⟩ | ⟨_, e, _⟩ | ⟨e, _⟩ <;> simp only [frZ] <;> omega
  · have hl := lenN_of_3 s i h
    refine ⟨?_, hl⟩
    rw [isF3] at h
    rcases hfive with ⟨_, e, _⟩ | ⟨_, e, _⟩ | ⟨_, _, e⟩ | ⟨_, e, _⟩ | ⟨e, _⟩ <;> simp only [frZ] <;> omega
  · have hl := lenN_of_4 s i h
    refine ⟨?_, hl⟩
    rw [isF4] at h
    rcases hfive with ⟨_, e, _⟩ | ⟨_, e, _⟩ | ⟨_, e, _⟩ | ⟨_, _, e⟩ | ⟨e, _⟩ <;> simp only [frZ] <;> omega

/-- Where the number is none, has another width, or another form than the bytes: no form of n bytes begins. -/
theorem noF (s : ByteArray) (i n : Nat) (hi : i < s.size) (h1 : 1 ≤ n) (hn : n ≤ 4) (h : ¬ (noR (frZ s i n) = false ∧ widZ (frZ s i n) = n ∧ Utf8.encode (frZ s i n) = s.extract i (i + n))) : isF s i n = false := by
  cases hF : isF s i n with
  | false => rfl
  | true =>
    obtain ⟨e, hl⟩ := frZ_rn s i n hi h1 hn hF
    have := enc_of_form s i hi (by omega)
    rw [← e, hl] at this
    exact absurd this h

theorem lenN_of_none (s : ByteArray) (i n : Nat) (hi : i < s.size) (h : ∀ m, 1 ≤ m → m < n → isF s i m = false) (hn : n = 5 ∨ s.size < i + n) : lenN s i = 0 := by
  have hm : ∀ m, 1 ≤ m → m ≤ 4 → isF s i m = false := by
    intro m hm1 hm4
    by_cases hmn : m < n
    · exact h m hm1 hmn
    · cases hF : isF s i m with
      | false => rfl
      | true => have := isF_fits s i m hi hF; omega
  exact lenN_of_no s i hi (hm 1 (by omega) (by omega)) (hm 2 (by omega) (by omega)) (hm 3 (by omega) (by omega)) (hm 4 (by omega) (by omega))

/-- What the document's Form answers. -/
def fmR (s : ByteArray) (i : Nat) : Int := if lenN s i = 0 then 0 else rn s i
end Go.Proofs.Ytjccoiephdopkaa

/- What the forms of runes are: runes.Encode, and the document's own. -/
namespace Go.Proofs.Ytjccoiephdopkaa.SQ
set_option linter.unusedVariables false
set_option linter.unusedSimpArgs false
open Go Go.RowKit
set_option maxRecDepth 100000

/-- string(b) of a new row of bytes. -/
theorem conv_new (w : World) (xs : List Int) (n : Nat) (hn : xs.length = n) :
    (convert 41 9 (.slice (some ⟨w.heap.size, 0, none⟩) n n)).run Try.prog (w.alloc (.cells (xs.map (Value.int .u8)).toArray 5)) = .ok (.string (strOfNums xs)) (w.alloc (.cells (xs.map (Value.int .u8)).toArray 5)) := by
  refine run_convert_bytes_arg _ 41 5 Try.underlying41 Try.underlying5 w.heap.size 0 n n xs hn (fun i hi => ?_) 9 Try.underlying9
  have := World.alloc_heap_new w (.cells (xs.map (Value.int .u8)).toArray 5)
  simp only [World.cell?, this]
  simp [List.getD, List.getElem?_eq_getElem (show i < xs.length by omega)]

theorem conv1 (w : World) (a : Int) : (convert 41 9 (.slice (some ⟨w.heap.size, 0, none⟩) 1 1)).run Try.prog (w.alloc (.cells #[.int .u8 a] 5)) = .ok (.string (strOfNums [a])) (w.alloc (.cells #[.int .u8 a] 5)) := conv_new w [a] 1 rfl
theorem conv2 (w : World) (a b : Int) : (convert 41 9 (.slice (some ⟨w.heap.size, 0, none⟩) 2 2)).run Try.prog (w.alloc (.cells #[.int .u8 a, .int .u8 b] 5)) = .ok (.string (strOfNums [a, b])) (w.alloc (.cells #[.int .u8 a, .int .u8 b] 5)) := conv_new w [a, b] 2 rfl
theorem conv3 (w : World) (a b c : Int) : (convert 41 9 (.slice (some ⟨w.heap.size, 0, none⟩) 3 3)).run Try.prog (w.alloc (.cells #[.int .u8 a, .int .u8 b, .int .u8 c] 5)) = .ok (.string (strOfNums [a, b, c])) (w.alloc (.cells #[.int .u8 a, .int .u8 b, .int .u8 c] 5)) := conv_new w [a, b, c] 3 rfl
theorem conv4 (w : World) (a b c d : Int) : (convert 41 9 (.slice (some ⟨w.heap.size, 0, none⟩) 4 4)).run Try.prog (w.alloc (.cells #[.int .u8 a, .int .u8 b, .int .u8 c, .int .u8 d] 5)) = .ok (.string (strOfNums [a, b, c, d])) (w.alloc (.cells #[.int .u8 a, .int .u8 b, .int .u8 c, .int .u8 d] 5)) := conv_new w [a, b, c, d] 4 rfl

theorem info5 : (Try.prog.info? 5).map (fun i => (i.zero, i.size, i.bytes)) = some (some (.int .u8 0), 1, 1) := by kernel_rfl

/-- make([]byte, n). -/
theorem make_new (w : World) (n : Nat) (h : n ≤ 4) (k : Int) (hk : (n : Int) = k) (C : Array Value) (hC : madeCells (Value.int .u8 0).cells n = C) :
    (Instr.makeSlice 41 (.int .i64 k) (.int .i64 k)).run Try.prog w = .ok (.slice (some ⟨w.heap.size, 0, none⟩) n n) (w.alloc (.cells C 5)) := by
  subst hk; subst hC
  obtain ⟨i0, hi, hz0, hz1, hz2⟩ := info_parts info5
  have := run_make (P := Try.prog) w 41 5 i0 (.int .u8 0) Try.underlying41 hi hz0 .i64 .i64 n n (by omega) (by omega) (by rw [hz2]; omega) (by omega)
  rw [hz1] at this
  simpa using this
theorem make2 (w : World) : (Instr.makeSlice 41 (.int .i64 2) (.int .i64 2)).run Try.prog w = .ok (.slice (some ⟨w.heap.size, 0, none⟩) 2 2) (w.alloc (.cells #[.int .u8 0, .int .u8 0] 5)) := make_new w 2 (by omega) 2 rfl _ (by kernel_rfl)
theorem make3 (w : World) : (Instr.makeSlice 41 (.int .i64 3) (.int .i64 3)).run Try.prog w = .ok (.slice (some ⟨w.heap.size, 0, none⟩) 3 3) (w.alloc (.cells #[.int .u8 0, .int .u8 0, .int .u8 0] 5)) := make_new w 3 (by omega) 3 rfl _ (by kernel_rfl)
theorem make4 (w : World) : (Instr.makeSlice 41 (.int .i64 4) (.int .i64 4)).run Try.prog w = .ok (.slice (some ⟨w.heap.size, 0, none⟩) 4 4) (w.alloc (.cells #[.int .u8 0, .int .u8 0, .int .u8 0, .int .u8 0] 5)) := make_new w 4 (by omega) 4 rfl _ (by kernel_rfl)

end Go.Proofs.Ytjccoiephdopkaa.SQ

/- The form that begins at a place, as the document's own answer finds it. -/
namespace Go.Proofs.Ytjccoiephdopkaa.SQ
set_option linter.unusedVariables false
set_option linter.unusedSimpArgs false
open Go Go.RowKit
set_option maxRecDepth 100000

theorem below_drewN {B : Nat} {a w : World} (h : Below B a w) (n : Nat) : Below B a (w.drewN n) := h.trans ⟨rfl, rfl, rfl, Nat.le_refl _, fun _ _ => rfl⟩

/-- The forms of fewer than n bytes are ruled out. -/
def outF (s : ByteArray) (i n : Nat) : Prop := ∀ m, 1 ≤ m → m < n → isF s i m = false
theorem outF_next {s : ByteArray} {i n k : Nat} (h : outF s i n) (hk : k = n + 1) (h' : isF s i n = false) : outF s i k := by
  intro m h1 h2
  by_cases e : m = n
  · rw [e]; exact h'
  · exact h m h1 (by omega)

/-- Between two rounds of the document's Form. -/
def FmRel (s : ByteArray) (i : Nat) (w : World) (v : Value) (wr : World) : Prop := ∃ n : Nat, v = .int .i64 n ∧ 1 ≤ n ∧ n ≤ 5 ∧ Below w.heap.size w wr ∧ outF s i n

theorem fmRel_next {s : ByteArray} {i n k : Nat} {w w1 : World} {z : Int} (h1 : 1 ≤ n) (h4 : n ≤ 4) (ho : Hid (outF s i n)) (hk : k = n + 1) (hz : z = k) (h' : isF s i n = false) (hB : Below w.heap.size w w1) : FmRel s i w (.int .i64 z) w1 :=
  ⟨k, by rw [hz], by omega, by omega, hB, outF_next ho.out hk h'⟩

theorem fm_none {s : ByteArray} {i n : Nat} (hi : i < s.size) (ho : Hid (outF s i n)) (hn : n = 5 ∨ s.size < i + n) : fmR s i = 0 ∧ lenN s i = 0 := by
  have := lenN_of_none s i n hi ho.out hn
  exact ⟨by rw [fmR, if_pos this], this⟩

theorem fm_some {s : ByteArray} {i n : Nat} {R : Int} (h1 : 1 ≤ n) (hn : n ≤ 4) (hf : i + n ≤ s.size) (hno : Hid (noR R = false)) (hw : Hid (widZ R = n)) (he : Hid (Utf8.encode R = s.extract i (i + n))) : fmR s i = R ∧ lenN s i = n := by
  obtain ⟨_, h2, h3⟩ := form_of_enc s i n R h1 hn hf hno.out hw.out he.out
  exact ⟨by rw [fmR, if_neg (by omega)]; exact h2, h3⟩

end Go.Proofs.Ytjccoiephdopkaa.SQ

/- What the document's At answers: the piece that begins at a place. -/
namespace Go.Proofs.Ytjccoiephdopkaa.SQ
set_option linter.unusedVariables false
set_option linter.unusedSimpArgs false
open Go Go.RowKit
set_option maxRecDepth 100000

theorem infoP : (Try.prog.info? 69).map (fun i => (i.zero, i.size, i.bytes)) = some (some (.agg #[.int .i64 0, .int .i64 0, .int .i32 0, .bool false]), 4, 24) := by kernel_rfl

end Go.Proofs.Ytjccoiephdopkaa.SQ

/- What the document's Pieces answers: the list of a text's pieces. -/
namespace Go.Proofs.Ytjccoiephdopkaa.SQ
set_option linter.unusedVariables false
set_option linter.unusedSimpArgs false
open Go Go.RowKit
set_option maxRecDepth 100000

/-- The cells of a list of pieces. -/
def pcs (s : ByteArray) (l : List Nat) : List Value := l.flatMap fun (i : Nat) => [.int .i64 i, .int .i64 (wd s i : Nat), .int .i32 (rn s i : Nat), .bool (bk s i)]
theorem pcs_snoc (s : ByteArray) (l : List Nat) (i : Nat) : pcs s (l ++ [i]) = pcs s l ++ [.int .i64 i, .int .i64 (wd s i : Nat), .int .i32 (rn s i : Nat), .bool (bk s i)] := by simp [pcs]
theorem pcs_len (s : ByteArray) (l : List Nat) : (pcs s l).length = l.length * 4 := by
  induction l with
  | nil => rfl
  | cons x l ih => simp only [pcs, List.flatMap_cons, List.length_append, List.length_cons, List.length_nil] at ih ⊢; omega

theorem own_below {w w1 : World} {base : Nat} {e : TypeId} {size n : Nat} {v : Value} {xs : List Value} (h : w.ownsRow base e size v n xs) (hb : Below w.heap.size w w1) : w1.ownsRow base e size v n xs :=
  h.kept (grown_none hb) (by cases v.ownBlock <;> simp)

theorem own_other {w w1 : World} {base : Nat} {e : TypeId} {size n : Nat} {v : Value} {xs : List Value} (h : w.ownsRow base e size v n xs) {k : Nat} (hk : w.heap.size ≤ k) (hw : w.heap.size ≤ w1.heap.size) : some k ≠ v.ownBlock := by
  intro e1
  have := h.lt k e1.symm
  omega

/-- Between two rounds of the document's Pieces. -/
def PsRel (s : ByteArray) (w : World) (l v : Value) (wr : World) : Prop :=
  ∃ (pre : List Nat) (pos : Nat), v = .int .i64 pos ∧ posns s = pre ++ posG s pos ∧ wr.ownsRow w.heap.size 69 4 l pre.length (pcs s pre) ∧ Below w.heap.size w wr

def PsPost (s : ByteArray) (w : World) (e : Ending) (w' : World) : Prop :=
  ∃ v, e = .returned v ∧ w'.ownsRow w.heap.size 69 4 v (posns s).length (pcs s (posns s)) ∧ Below w.heap.size w w'

end Go.Proofs.Ytjccoiephdopkaa.SQ

/- Two texts, piece by piece. -/
namespace Go.Proofs.Ytjccoiephdopkaa.SQ
set_option linter.unusedVariables false
set_option linter.unusedSimpArgs false
open Go Go.RowKit
set_option maxRecDepth 100000

/-- A piece's place in the order of pieces. -/
def wt (s : ByteArray) (i : Nat) : Nat := if bk s i = true then 16777216 + bt s i else rn s i
theorem wt_bk {s : ByteArray} {i : Nat} (h : bk s i = true) : wt s i = 16777216 + bt s i := by unfold wt; rw [if_pos h]
theorem wt_wh {s : ByteArray} {i : Nat} (h : bk s i = false) : wt s i = rn s i := by unfold wt; rw [if_neg (by rw [h]; simp)]
theorem wt_lt (s : ByteArray) (i : Nat) (hi : i < s.size) : wt s i < 33554432 := by
  cases h : bk s i with
  | true => rw [wt_bk h]; have := bt_lt s i; omega
  | false => rw [wt_wh h]; have := rn_lt s i hi; omega

theorem one_byte (s : ByteArray) (i : Nat) (hi : i < s.size) : s.extract i (i + 1) = strOfNums [(bt s i : Int)] := ext_nums s 1 i (by omega)

theorem form_same (a b : ByteArray) (p : Nat) (ha : p < a.size) (hb : p < b.size) (hw : wd a p = wd b p) (he : a.extract p (p + wd a p) = b.extract p (p + wd a p)) (hk : bk a p = false) : bk b p = false ∧ rn a p = rn b p := by
  have h0 := (bk_not a p).1 hk
  obtain ⟨e1, e2, e3⟩ := enc_of_form a p ha h0
  have hwd : wd a p = lenN a p := by unfold wd; rw [if_neg h0]
  have h4 := lenN_le a p
  obtain ⟨_, f2, f3⟩ := form_of_enc b p (lenN a p) (rn a p) (by omega) h4 (by have := wd_fits b p hb; omega) e1 e2 (by rw [e3, ← hwd, he])
  exact ⟨(bk_not b p).2 (by omega), by omega⟩

/-- Two pieces at one place are the same just if their places in the order are. -/
theorem same_iff (a b : ByteArray) (p : Nat) (ha : p < a.size) (hb : p < b.size) : (wd a p = wd b p ∧ a.extract p (p + wd a p) = b.extract p (p + wd a p)) ↔ wt a p = wt b p := by
  constructor
  · rintro ⟨hw, he⟩
    cases hka : bk a p with
    | false =>
      obtain ⟨h1, h2⟩ := form_same a b p ha hb hw he hka
      rw [wt_wh hka, wt_wh h1, h2]
    | true =>
      cases hkb : bk b p with
      | false =>
        obtain ⟨h1, h2⟩ := form_same b a p hb ha hw.symm (by rw [← hw]; exact he.symm) hkb
        rw [hka] at h1; cases h1
      | true =>
        have h1 := (bk_rn a p hka).2
        rw [h1, one_byte a p ha, one_byte b p hb] at he
        have := str_inj _ _ (by intro x hx; simp at hx; have := bt_lt a p; omega) (by intro x hx; simp at hx; have := bt_lt b p; omega) he
        simp at this
        rw [wt_bk hka, wt_bk hkb]; omega
  · intro h
    cases hka : bk a p with
    | false =>
      cases hkb : bk b p with
      | false =>
        rw [wt_wh hka, wt_wh hkb] at h
        have w1 := wid_rn a p ha hka
        have w2 := wid_rn b p hb hkb
        rw [h] at w1
        have hw : wd a p = wd b p := by omega
        have n1 := (bk_not a p).1 hka
        have n2 := (bk_not b p).1 hkb
        have d1 : wd a p = lenN a p := by unfold wd; rw [if_neg n1]
        have d2 : wd b p = lenN b p := by unfold wd; rw [if_neg n2]
        have e1 := (enc_of_form a p ha n1).2.2
        have e2 := (enc_of_form b p hb n2).2.2
        refine ⟨hw, ?_⟩
        rw [← d1, h] at e1
        rw [← d2, ← hw] at e2
        exact e1.symm.trans e2
      | true =>
        rw [wt_wh hka, wt_bk hkb] at h
        have := rn_lt a p ha; omega
    | true =>
      cases hkb : bk b p with
      | false =>
        rw [wt_bk hka, wt_wh hkb] at h
        have := rn_lt b p hb; omega
      | true =>
        rw [wt_bk hka, wt_bk hkb] at h
        have h1 := (bk_rn a p hka).2
        have h2 := (bk_rn b p hkb).2
        refine ⟨by omega, ?_⟩
        rw [h1, one_byte a p ha, one_byte b p hb, show bt a p = bt b p by omega]

/-- The first n pieces of both are the same; p is where they end. -/
def Lk (a b : ByteArray) (p n : Nat) : Prop := p ≤ a.size ∧ p ≤ b.size ∧ ∃ pre : List Nat, pre.length = n ∧ posns a = pre ++ posG a p ∧ posns b = pre ++ posG b p ∧ ∀ i ∈ pre, i < a.size ∧ i < b.size ∧ wt a i = wt b i
/-- And no more. -/
def St (a b : ByteArray) (p : Nat) : Prop := ¬ (p < a.size ∧ p < b.size ∧ wt a p = wt b p)

theorem lk_0 (a b : ByteArray) : Lk a b 0 0 := ⟨Nat.zero_le _, Nat.zero_le _, [], rfl, rfl, rfl, fun i hi => by cases hi⟩
theorem lk_next {a b : ByteArray} {p n : Nat} (h : Lk a b p n) (ha : p < a.size) (hb : p < b.size) (hw : wt a p = wt b p) : Lk a b (p + wd a p) (n + 1) := by
  obtain ⟨_, _, pre, h1, h2, h3, h4⟩ := h
  have hs := ((same_iff a b p ha hb).2 hw).1
  refine ⟨wd_fits a p ha, by rw [hs]; exact wd_fits b p hb, pre ++ [p], by simp [h1], ?_, ?_, fun i hi => ?_⟩
  · rw [h2, posG_cons a p ha]; simp
  · rw [h3, posG_cons b p hb, hs]; simp
  · rcases List.mem_append.1 hi with h | h
    · exact h4 i h
    · rw [List.mem_singleton.1 h]; exact ⟨ha, hb, hw⟩

theorem posG_nil_iff (s : ByteArray) (p : Nat) : posG s p = [] ↔ s.size ≤ p := by
  constructor
  · intro h
    rcases Nat.lt_or_ge p s.size with h' | h'
    · rw [posG_cons s p h'] at h; cases h
    · exact h'
  · exact posG_end s p

theorem lk_lenA {a b : ByteArray} {p n : Nat} (h : Lk a b p n) : n ≤ (posns a).length ∧ (n = (posns a).length ↔ p = a.size) ∧ (p < a.size → (posns a)[n]? = some p) := by
  obtain ⟨hp, _, pre, h1, h2, _, _⟩ := h
  rw [h2, List.length_append, h1]
  refine ⟨by omega, ⟨fun h => ?_, fun h => ?_⟩, fun h => ?_⟩
  · have := (posG_nil_iff a p).1 (List.eq_nil_of_length_eq_zero (by omega)); omega
  · rw [(posG_nil_iff a p).2 (by omega)]; rfl
  · rw [List.getElem?_append_right (by omega), h1, Nat.sub_self, posG_cons a p h]; rfl
theorem lk_lenB {a b : ByteArray} {p n : Nat} (h : Lk a b p n) : n ≤ (posns b).length ∧ (n = (posns b).length ↔ p = b.size) ∧ (p < b.size → (posns b)[n]? = some p) := by
  obtain ⟨_, hp, pre, h1, _, h2, _⟩ := h
  rw [h2, List.length_append, h1]
  refine ⟨by omega, ⟨fun h => ?_, fun h => ?_⟩, fun h => ?_⟩
  · have := (posG_nil_iff b p).1 (List.eq_nil_of_length_eq_zero (by omega)); omega
  · rw [(posG_nil_iff b p).2 (by omega)]; rfl
  · rw [List.getElem?_append_right (by omega), h1, Nat.sub_self, posG_cons b p h]; rfl

theorem lk_le {a b : ByteArray} {p n q m : Nat} (h : Lk a b p n) (hs : St a b p) (k : Lk a b q m) : m ≤ n := by
  rcases Nat.lt_or_ge n m with hlt | hge
  · exfalso
    obtain ⟨hpa, hpb, pre, h1, h2, h3, h4⟩ := h
    obtain ⟨_, _, qre, k1, k2, k3, k4⟩ := k
    have e1 : (posns a)[n]? = qre[n]? := by rw [k2, List.getElem?_append_left (by omega)]
    have e2 : (posns b)[n]? = qre[n]? := by rw [k3, List.getElem?_append_left (by omega)]
    obtain ⟨x, hx⟩ : ∃ x, qre[n]? = some x := ⟨_, List.getElem?_eq_getElem (by omega)⟩
    rw [h2, List.getElem?_append_right (by omega), h1, Nat.sub_self, hx] at e1
    have hp : p < a.size := by
      rcases Nat.lt_or_ge p a.size with h | h
      · exact h
      · rw [posG_end a p h] at e1; cases e1
    rw [posG_cons a p hp] at e1
    have hpx : p = x := Option.some.inj e1
    have := k4 x (List.mem_of_getElem? hx)
    rw [← hpx] at this
    exact hs this
  · exact hge

theorem lk_one {a b : ByteArray} {p n q m : Nat} (h : Lk a b p n) (hs : St a b p) (k : Lk a b q m) (ks : St a b q) : p = q ∧ n = m := by
  have hn : n = m := Nat.le_antisymm (lk_le k ks h) (lk_le h hs k)
  subst hn
  refine ⟨?_, rfl⟩
  have h1 := lk_lenA h
  have k1 := lk_lenA k
  by_cases hp : p < a.size
  · have := h1.2.2 hp
    by_cases hq : q < a.size
    · rw [k1.2.2 hq] at this; exact (Option.some.inj this).symm
    · have := h1.2.1.1 (k1.2.1.2 (by have := k.1; omega)); omega
  · have hpe : p = a.size := by have := h.1; omega
    have := k1.2.1.1 (h1.2.1.2 hpe); omega

/-- The order of two texts that are the same up to p. -/
def cmpZ (a b : ByteArray) (p : Nat) : Int := if p = a.size ∧ p = b.size then 0 else if p = a.size ∨ (p < b.size ∧ wt a p < wt b p) then -1 else 1
end Go.Proofs.Ytjccoiephdopkaa.SQ

/- A text from a place on: what stands there is what stood in the whole. Plain facts. -/
namespace Go.Proofs.Ytjccoiephdopkaa
set_option linter.unusedVariables false
set_option linter.unusedSimpArgs false
open Go

theorem tl_size (s : ByteArray) (n : Nat) : (s.extract n s.size).size = s.size - n := by rw [ByteArray.size_extract]; omega
theorem tl_bt (s : ByteArray) (n j : Nat) : bt (s.extract n s.size) j = bt s (n + j) := by
  unfold bt
  congr 1
  show (s.extract n s.size).data[j]! = s.data[n + j]!
  simp only [getElem!_def, ByteArray.data_extract, Array.getElem?_extract]
  by_cases h : n + j < s.size
  · rw [if_pos (by simp; omega)]
  · rw [if_neg (by simp; omega), Array.getElem?_eq_none (by simpa using h)]
theorem tl_fit (s : ByteArray) (n j m : Nat) : ∀ f k, fitFrom (s.extract n s.size) j m f k = fitFrom s (n + j) m f k := by
  intro f
  induction f with
  | zero => intro k; rfl
  | succ f ih =>
    intro k
    unfold fitFrom
    rw [tl_bt, tl_bt, ih, show n + (j + k) = n + j + k by omega]
theorem tl_len (s : ByteArray) (n j : Nat) : lenN (s.extract n s.size) j = lenN s (n + j) := by
  unfold lenN fitN
  rw [tl_fit, tl_bt, tl_size, show s.size - n - j = s.size - (n + j) by omega]
theorem tl_rd (s : ByteArray) (n j m : Nat) : ∀ k, rdN (s.extract n s.size) j m k = rdN s (n + j) m k := by
  intro k
  induction k with
  | zero => rfl
  | succ k ih =>
    match k, ih with
    | 0, _ => show hdN (bt (s.extract n s.size) j) m = hdN (bt s (n + j)) m; rw [tl_bt]
    | k + 1, ih => rw [rdN_succ (s.extract n s.size) j m (k + 1) (by omega), rdN_succ s (n + j) m (k + 1) (by omega), ih, tl_bt, show n + (j + (k + 1)) = n + j + (k + 1) by omega]
theorem tl_wd (s : ByteArray) (n j : Nat) : wd (s.extract n s.size) j = wd s (n + j) := by unfold wd; rw [tl_len]
theorem tl_rn (s : ByteArray) (n j : Nat) : rn (s.extract n s.size) j = rn s (n + j) := by unfold rn; rw [tl_len, tl_rd]
theorem tl_bk (s : ByteArray) (n j : Nat) : bk (s.extract n s.size) j = bk s (n + j) := by unfold bk; rw [tl_len]
end Go.Proofs.Ytjccoiephdopkaa
