/- What kind of thing a rune is: numbers alone; no program is spoken of. -/
import Derived.WalkKit
namespace Go.Proofs.YtjccoiephdopkaaDoor
set_option linter.unusedVariables false
set_option linter.unusedSimpArgs false

/-- Is r a great letter? -/
def Gr (r : Int) : Prop := (65 ≤ r ∧ r ≤ 90) ∨ (192 ≤ r ∧ r ≤ 222 ∧ r ≠ 215) ∨ (256 ≤ r ∧ r ≤ 311 ∧ r % 2 = 0) ∨ (330 ≤ r ∧ r ≤ 375 ∧ r % 2 = 0) ∨ (313 ≤ r ∧ r ≤ 328 ∧ r % 2 = 1) ∨ (376 ≤ r ∧ r ≤ 377) ∨ r = 379 ∨ r = 381 ∨ (902 ≤ r ∧ r ≤ 911 ∧ r ≠ 903 ∧ r ≠ 907 ∧ r ≠ 909) ∨ (913 ≤ r ∧ r ≤ 939 ∧ r ≠ 930) ∨ (1024 ≤ r ∧ r ≤ 1071)
/-- Is r a small letter? -/
def Sm (r : Int) : Prop := (97 ≤ r ∧ r ≤ 122) ∨ (223 ≤ r ∧ r ≤ 255 ∧ r ≠ 247) ∨ (256 ≤ r ∧ r ≤ 311 ∧ r % 2 = 1) ∨ (330 ≤ r ∧ r ≤ 375 ∧ r % 2 = 1) ∨ (313 ≤ r ∧ r ≤ 328 ∧ r % 2 = 0) ∨ r = 312 ∨ r = 329 ∨ r = 378 ∨ r = 380 ∨ r = 382 ∨ r = 383 ∨ r = 912 ∨ (940 ≤ r ∧ r ≤ 974) ∨ (1072 ≤ r ∧ r ≤ 1119)
instance (r : Int) : Decidable (Gr r) := by unfold Gr; exact inferInstance
instance (r : Int) : Decidable (Sm r) := by unfold Sm; exact inferInstance
def grB (r : Int) : Bool := decide (Gr r)
def smB (r : Int) : Bool := decide (Sm r)
theorem grB_t {r : Int} (h : Gr r) : grB r = true := decide_eq_true h
theorem grB_f {r : Int} (h : ¬ Gr r) : grB r = false := decide_eq_false h
theorem smB_t {r : Int} (h : Sm r) : smB r = true := decide_eq_true h
theorem smB_f {r : Int} (h : ¬ Sm r) : smB r = false := decide_eq_false h
theorem grB_iff {r : Int} : grB r = true ↔ Gr r := decide_eq_true_iff
theorem smB_iff {r : Int} : smB r = true ↔ Sm r := decide_eq_true_iff
theorem grB_not {r : Int} : grB r = false ↔ ¬ Gr r := decide_eq_false_iff_not
theorem smB_not {r : Int} : smB r = false ↔ ¬ Sm r := decide_eq_false_iff_not
theorem gr_sm {r : Int} (h : Gr r) : ¬ Sm r := by unfold Gr at h; unfold Sm; omega
theorem gr_in {r : Int} (h : Gr r) : 65 ≤ r ∧ r ≤ 1119 := by unfold Gr at h; omega
theorem sm_in {r : Int} (h : Sm r) : 65 ≤ r ∧ r ≤ 1119 := by unfold Sm at h; omega

/-- Its small one. -/
def lowZ (r : Int) : Int := if ¬ Gr r then r else if r = 304 then 105 else if r = 376 then 255 else if r = 902 then 940 else if 904 ≤ r ∧ r ≤ 906 then r + 37 else if r = 908 then 972 else if r = 910 ∨ r = 911 then r + 63 else
  if (65 ≤ r ∧ r ≤ 90) ∨ (192 ≤ r ∧ r ≤ 222) ∨ (913 ≤ r ∧ r ≤ 939) ∨ (1040 ≤ r ∧ r ≤ 1071) then r + 32 else if 1024 ≤ r ∧ r ≤ 1039 then r + 80 else r + 1
/-- Its great one. -/
def upZ (r : Int) : Int := if ¬ Sm r then r else if r = 223 ∨ r = 312 ∨ r = 329 ∨ r = 912 ∨ r = 944 then r else if r = 305 then 73 else if r = 383 then 83 else if r = 255 then 376 else if r = 940 then 902 else if r = 962 then 931 else if r = 972 then 908 else if r = 973 ∨ r = 974 then r - 63 else
  if r ≤ 122 ∨ (224 ≤ r ∧ r ≤ 254) ∨ (945 ≤ r ∧ r ≤ 971) ∨ (1072 ≤ r ∧ r ≤ 1103) then r - 32 else if 1104 ≤ r then r - 80 else if 941 ≤ r ∧ r ≤ 943 then r - 37 else r - 1
/-- Its script. -/
def scrZ (r : Int) : Int := if ¬ Gr r ∧ ¬ Sm r then 0 else if r ≤ 383 then 1 else if r ≤ 974 then 2 else 3

/-- The small vowels. -/
def vowL : List Int := [97, 101, 105, 111, 117, 121, 224, 225, 226, 227, 228, 229, 230, 232, 233, 234, 235, 236, 237, 238, 239, 242, 243, 244, 245, 246, 248, 249, 250, 251, 252, 253, 255, 257, 259, 261, 275, 277, 279, 281, 283, 297, 299, 301, 303, 305, 333, 335, 337, 339, 361, 363, 365, 367, 369, 371, 375]
def vowG : List Int := [912, 940, 941, 942, 943, 944, 945, 949, 951, 953, 959, 965, 969, 970, 971, 972, 973, 974]
def vowK : List Int := [1072, 1077, 1080, 1086, 1091, 1099, 1101, 1102, 1103, 1104, 1105, 1108, 1110, 1111, 1117]
def vowR : List Int := [257, 259, 261, 275, 277, 279, 281, 283, 297, 299, 301, 303, 305, 333, 335, 337, 339, 361, 363, 365, 367, 369, 371, 375, 912, 940, 941, 942, 943, 944, 945, 949, 951, 953, 959, 965, 969, 970, 971, 972, 973, 974, 1072, 1077, 1080, 1086, 1091, 1099, 1101, 1102, 1103, 1104, 1105, 1108, 1110, 1111, 1117]
def vowB (r : Int) : Bool := (vowL ++ vowG ++ vowK).contains (lowZ r)
/-- A rune's kind. -/
def kindZ (r : Int) : Int :=
  if r < 0 ∨ (55296 ≤ r ∧ r ≤ 57343) ∨ 1114111 < r then 0 else if Gr r ∨ Sm r then 1 else if 768 ≤ r ∧ r ≤ 879 then 2 else if 48 ≤ r ∧ r ≤ 57 then 3
  else if r = 10 ∨ r = 13 then 4 else if r = 9 ∨ r = 32 ∨ r = 160 ∨ (8192 ≤ r ∧ r ≤ 8202) ∨ r = 8239 ∨ r = 8287 ∨ r = 12288 then 5 else if r = 45 ∨ (8208 ≤ r ∧ r ≤ 8213) then 6
  else if r = 34 ∨ r = 39 ∨ r = 171 ∨ r = 187 ∨ (8216 ≤ r ∧ r ≤ 8223) ∨ r = 8249 ∨ r = 8250 then 7 else if r = 33 ∨ r = 44 ∨ r = 46 ∨ r = 58 ∨ r = 59 ∨ r = 63 ∨ r = 161 ∨ r = 183 ∨ r = 191 ∨ r = 8230 then 8
  else if (0 ≤ r ∧ r ≤ 31) ∨ (127 ≤ r ∧ r ≤ 159) ∨ (8203 ≤ r ∧ r ≤ 8207) ∨ r = 65279 then 9 else 10

/-- How many bytes the form of r has. -/
def encN (r : Int) : Nat := if r < 128 then 1 else if r < 2048 then 2 else 3

theorem fin {P : Nat → Bool} (h : (List.range 1120).all P = true) (r : Int) (h0 : 0 ≤ r) (h1 : r ≤ 1119) : P r.toNat = true := by
  rw [List.all_eq_true] at h
  exact h r.toNat (List.mem_range.2 (by omega))

/-- All that greatSmall asks of a letter. -/
def askB (r : Int) : Bool :=
  !(grB r || smB r) ||
  (lowZ (lowZ r) == lowZ r && upZ (upZ r) == upZ r && (!grB r || (lowZ r != r && upZ r == r)) && (!smB r || lowZ r == r)
   && (r == 305 || r == 383 || r == 962 || lowZ (upZ r) == lowZ r) && (r == 304 || upZ (lowZ r) == upZ r)
   && scrZ (lowZ r) == scrZ r && scrZ (upZ r) == scrZ r && vowB (lowZ r) == vowB r
   && ((r == 304 || r == 305 || r == 383) != (encN (lowZ r) == encN r && encN (upZ r) == encN r))
   && decide (0 ≤ lowZ r) && decide (lowZ r ≤ 1119) && decide (0 ≤ upZ r) && decide (upZ r ≤ 1119))
theorem ask_all : (List.range 1120).all (fun n => askB (n : Int)) = true := by kernel_rfl
theorem ask (r : Int) : askB r = true := by
  by_cases h : Gr r ∨ Sm r
  · have hr : 0 ≤ r ∧ r ≤ 1119 := by
      rcases h with h | h
      · have := gr_in h; omega
      · have := sm_in h; omega
    have := fin ask_all r hr.1 hr.2
    rwa [Int.toNat_of_nonneg hr.1] at this
  · unfold askB
    rw [grB_f (fun h' => h (.inl h')), smB_f (fun h' => h (.inr h'))]
    rfl

theorem low_none {r : Int} (h : ¬ Gr r) : lowZ r = r := by unfold lowZ; rw [if_pos h]
theorem up_none {r : Int} (h : ¬ Sm r) : upZ r = r := by unfold upZ; rw [if_pos h]

structure Asked (r : Int) : Prop where
  low2 : lowZ (lowZ r) = lowZ r
  up2 : upZ (upZ r) = upZ r
  great : Gr r → lowZ r ≠ r ∧ upZ r = r
  small : Sm r → lowZ r = r
  lowup : ¬ (r = 305 ∨ r = 383 ∨ r = 962) → lowZ (upZ r) = lowZ r
  uplow : r ≠ 304 → upZ (lowZ r) = upZ r
  scr1 : scrZ (lowZ r) = scrZ r
  scr2 : scrZ (upZ r) = scrZ r
  vow : vowB (lowZ r) = vowB r
  wide : (r = 304 ∨ r = 305 ∨ r = 383) ↔ ¬ (encN (lowZ r) = encN r ∧ encN (upZ r) = encN r)
  lowin : 0 ≤ lowZ r ∧ lowZ r ≤ 1119
  upin : 0 ≤ upZ r ∧ upZ r ≤ 1119

theorem asked {r : Int} (h : Gr r ∨ Sm r) : Asked r := by
  have ha := ask r
  unfold askB at ha
  have hl : (grB r || smB r) = true := by
    rcases h with h | h
    · rw [grB_t h]; rfl
    · rw [smB_t h]; simp
  rw [hl] at ha
  simp only [Bool.not_true, Bool.false_or, Bool.and_eq_true, beq_iff_eq, Bool.or_eq_true, Bool.not_eq_true', bne_iff_ne, decide_eq_true_eq] at ha
  obtain ⟨⟨⟨⟨⟨⟨⟨⟨⟨⟨⟨⟨⟨a1, a2⟩, a3⟩, a4⟩, a5⟩, a6⟩, a7⟩, a8⟩, a9⟩, a10⟩, a11⟩, a12⟩, a13⟩, a14⟩ := ha
  refine ⟨a1, a2, fun hg => ?_, fun hs => ?_, fun hn => ?_, fun hn => ?_, a7, a8, a9, ?_, ⟨a11, a12⟩, ⟨a13, a14⟩⟩
  · rw [grB_t hg] at a3; simpa using a3
  · rw [smB_t hs] at a4; simpa using a4
  · rcases a5 with h | h
    · exfalso; apply hn; rcases h with (h | h) | h <;> simp [h]
    · exact h
  · rcases a6 with h | h
    · exact absurd h hn
    · exact h
  · constructor
    · intro h1 ⟨h2, h3⟩
      apply a10
      rw [h2, h3]
      rcases h1 with rfl | rfl | rfl <;> rfl
    · intro h1
      by_cases hd : r = 304 ∨ r = 305 ∨ r = 383
      · exact hd
      · exfalso
        apply a10
        have e1 : (r == 304 || r == 305 || r == 383) = false := by
          simp only [Bool.or_eq_false_iff, beq_eq_false_iff_ne]
          omega
        rw [e1]
        symm
        rw [Bool.and_eq_false_iff]
        by_cases h2 : encN (lowZ r) = encN r
        · right; rw [beq_eq_false_iff_ne]; exact fun h3 => h1 ⟨h2, h3⟩
        · left; rw [beq_eq_false_iff_ne]; exact h2

/-- A vowel by its script. -/
def vowP (r : Int) : Bool := if scrZ r = 1 then vowL.contains (lowZ r) else if scrZ r = 2 then vowG.contains (lowZ r) else if scrZ r = 3 then vowK.contains (lowZ r) else false
/-- A vowel, as the document finds it. -/
def vowD (x : Int) : Bool := (x == 97 || x == 101 || x == 105 || x == 111 || x == 117 || x == 121) || (decide (224 ≤ x) && decide (x ≤ 230) || decide (232 ≤ x) && decide (x ≤ 239) || decide (242 ≤ x) && decide (x ≤ 246) || decide (248 ≤ x) && decide (x ≤ 253) || x == 255) || vowR.contains x
theorem vow_all : (List.range 1120).all (fun n => vowP (n : Int) == vowB (n : Int) && vowD (lowZ (n : Int)) == vowB (n : Int)) = true := by kernel_rfl
theorem vow_in (r : Int) (h : r < 0 ∨ 1119 < r) : vowP r = false ∧ vowB r = false ∧ vowD (lowZ r) = false := by
  have hg : ¬ Gr r := fun h' => by have := gr_in h'; omega
  have hs : ¬ Sm r := fun h' => by have := sm_in h'; omega
  have e0 : scrZ r = 0 := by unfold scrZ; rw [if_pos ⟨hg, hs⟩]
  rw [low_none hg]
  refine ⟨by unfold vowP; rw [e0]; rfl, ?_, ?_⟩
  · unfold vowB; rw [low_none hg, Bool.eq_false_iff]
    intro hc
    have := List.contains_iff_mem.1 hc
    simp [vowL, vowG, vowK] at this
    omega
  · rw [Bool.eq_false_iff]
    intro hc
    unfold vowD at hc
    simp only [Bool.or_eq_true, Bool.and_eq_true, beq_iff_eq, decide_eq_true_eq, List.contains_iff_mem] at hc
    simp [vowR] at hc
    omega
theorem vow_eq (r : Int) : vowP r = vowB r ∧ vowD (lowZ r) = vowB r := by
  by_cases h : 0 ≤ r ∧ r ≤ 1119
  · have := fin vow_all r h.1 h.2
    rw [Int.toNat_of_nonneg h.1] at this
    simpa using this
  · obtain ⟨a, b, c⟩ := vow_in r (by omega)
    rw [a, b, c]; simp
end Go.Proofs.YtjccoiephdopkaaDoor
