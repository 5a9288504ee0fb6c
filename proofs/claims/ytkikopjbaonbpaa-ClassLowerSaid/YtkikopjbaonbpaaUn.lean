/- A text as a row of pieces: forms and broken bytes; what comes of it when other forms stand in the place of forms. Plain facts. -/
import Derived.Test.YtkikopjbaonbpaaTw
namespace Go.Proofs.Ytkikopjbaonbpaa
set_option linter.unusedVariables false
set_option linter.unusedSimpArgs false
open Go
set_option maxRecDepth 100000

/-- A piece as such: its rune, is it broken, its bytes. -/
abbrev Un := Nat × Bool × List UInt8
def unA (T : ByteArray) (i : Nat) : Un := (rn T i, bk T i, (T.extract i (i + wd T i)).data.toList)
def units (T : ByteArray) : List Un := (posns T).map (unA T)

theorem tl_tl (T : ByteArray) (n a b : Nat) (h : n + b ≤ T.size) : (T.extract n T.size).extract a b = T.extract (n + a) (n + b) := by
  apply ByteArray.ext
  simp only [ByteArray.data_extract, Array.extract_extract]
  congr 1
  show min (n + b) T.data.size = n + b
  have : T.data.size = T.size := rfl
  omega
theorem unA_tl (T : ByteArray) (n j : Nat) (h : n + j < T.size) : unA (T.extract n T.size) j = unA T (n + j) := by
  unfold unA
  have := wd_fits T (n + j) h
  rw [tl_rn, tl_bk, tl_wd, tl_tl T n j (j + wd T (n + j)) (by omega), Nat.add_assoc]
theorem posG_tl (T : ByteArray) (n : Nat) : ∀ j, posG T (n + j) = (posG (T.extract n T.size) j).map (n + ·) := by
  apply posG_ind (T.extract n T.size)
  · intro j hj
    rw [posG_end _ j hj]
    rw [tl_size] at hj
    rw [posG_end T (n + j) (by omega)]
    rfl
  · intro j hj ih
    rw [posG_cons _ j hj, List.map_cons, ← ih, tl_wd]
    rw [tl_size] at hj
    rw [posG_cons T (n + j) (by omega), Nat.add_assoc]
theorem units_tl (T : ByteArray) (n : Nat) : (posG T n).map (unA T) = units (T.extract n T.size) := by
  unfold units
  have h := posG_tl T n 0
  rw [Nat.add_zero] at h
  rw [h, List.map_map, posns_G]
  apply List.map_congr_left
  intro j hj
  have := (posG_ge _ 0 j hj).2
  rw [tl_size] at this
  show unA T (n + j) = _
  rw [unA_tl T n j (by omega)]
theorem units_cons (T : ByteArray) (h : 0 < T.size) : units T = unA T 0 :: units (T.extract (wd T 0) T.size) := by
  rw [← units_tl]
  unfold units
  rw [posns_G, posG_cons T 0 h, List.map_cons, Nat.zero_add]
theorem units_nil : units ⟨#[]⟩ = [] := rfl

/-- A rune's form as a piece. -/
def unZ (z : Int) : Un := (z.toNat, false, (Utf8.encode z).data.toList)
theorem app_head (x y : ByteArray) : (x ++ y).extract 0 x.size = x := by
  apply ByteArray.ext
  simp only [ByteArray.data_append, ByteArray.data_extract]
  show (x.data ++ y.data).extract 0 x.data.size = x.data
  simp [Array.extract_append]
theorem app_tail (x y : ByteArray) : (x ++ y).extract x.size (x ++ y).size = y := by
  have e1 : x.data.extract x.size (x.size + y.size) = #[] := Array.extract_empty_of_size_le_start (Nat.le_refl _)
  have e2 : y.data.extract 0 y.size = y.data := Array.extract_size
  apply ByteArray.ext
  simp only [ByteArray.data_append, ByteArray.data_extract, ByteArray.size_append]
  rw [Array.extract_append, e1]
  show #[] ++ y.data.extract (x.size - x.data.size) (x.size + y.size - x.data.size) = y.data
  rw [show x.size - x.data.size = 0 from Nat.sub_self _, show x.size + y.size - x.data.size = y.size from Nat.add_sub_cancel_left ..]
  rw [e2, Array.empty_append]
theorem enc_pos (z : Int) (h : noR z = false) : 1 ≤ (Utf8.encode z).size := by
  rw [enc_size z h]
  have h2 : widZ z ≠ 0 := by
    intro h0
    rw [widZ_0, ← noR_iff, h] at h0
    cases h0
  omega
theorem units_form0 (z : Int) (h : noR z = false) (x : ByteArray) (hx0 : Utf8.encode z = x) (h1 : 1 ≤ x.size) (h4 : x.size ≤ 4) (hz : widZ z = x.size) (y : ByteArray) : units (x ++ y) = (z.toNat, false, x.data.toList) :: units y := by
  have hs : (x ++ y).size = x.size + y.size := ByteArray.size_append
  have hx := app_head x y
  obtain ⟨f1, f2, f3⟩ := form_of_enc (x ++ y) 0 x.size z h1 h4 (by omega) h hz (by rw [hx0, Nat.zero_add, hx])
  have hb : bk (x ++ y) 0 = false := by rw [bk_not]; omega
  have hw : wd (x ++ y) 0 = x.size := by unfold wd; rw [if_neg (by omega), f3]
  rw [units_cons _ (by omega), hw, app_tail]
  congr 1
  unfold unA
  rw [hw, hb, Nat.zero_add, hx]
  congr 1
  omega
theorem units_form (z : Int) (h : noR z = false) (y : ByteArray) : units (Utf8.encode z ++ y) = unZ z :: units y :=
  units_form0 z h _ rfl (enc_pos z h) (enc_le z) (enc_size z h).symm y
theorem units_byte (x y : ByteArray) (h1 : x.size = 1) (h0 : lenN (x ++ y) 0 = 0) : units (x ++ y) = (65533, true, x.data.toList) :: units y := by
  have hs : (x ++ y).size = x.size + y.size := ByteArray.size_append
  have hb : bk (x ++ y) 0 = true := by rw [bk_iff]; exact h0
  obtain ⟨e1, e2⟩ := bk_rn _ _ hb
  rw [units_cons _ (by omega), e2, ← h1, app_tail]
  congr 1
  unfold unA
  rw [e1, hb, e2, Nat.zero_add, ← h1, app_head]

/-- It begins no rest of a form. -/
def nc (y : ByteArray) : Prop := y.size = 0 ∨ ¬ (128 ≤ bt y 0 ∧ bt y 0 ≤ 191)
theorem bt_l (x y : ByteArray) (j : Nat) (h : j < x.size) : bt (x ++ y) j = bt x j := by
  rw [← bt_get (x ++ y) j (by rw [ByteArray.size_append]; omega), ← bt_get x j h, ByteArray.getElem_append_left h]
theorem bt_r (x y : ByteArray) (h : 0 < y.size) : bt (x ++ y) x.size = bt y 0 := by
  rw [← bt_get (x ++ y) x.size (by rw [ByteArray.size_append]; omega), ← bt_get y 0 h, ByteArray.getElem_append_right (Nat.le_refl _)]
  congr 2
  omega
theorem isF_nc (x y : ByteArray) (hx : 1 ≤ x.size) (hy : nc y) (m : Nat) (h1 : 1 ≤ m) (h4 : m ≤ 4) : isF (x ++ y) 0 m = isF x 0 m := by
  have hs : (x ++ y).size = x.size + y.size := ByteArray.size_append
  have hb := fun j (h : j < x.size) => bt_l x y j h
  have hr : ∀ (j : Nat), x.size = j → j < (x ++ y).size → 128 ≤ bt (x ++ y) j → bt (x ++ y) j ≤ 191 → False := by
    intro j hj hl ha hc
    subst hj
    have hp : 0 < y.size := by omega
    rw [bt_r x y hp] at ha hc
    rcases hy with h | h
    · omega
    · exact h ⟨ha, hc⟩
  rw [Bool.eq_iff_iff]
  have b0 := hb 0 (by omega)
  match m, h1, h4 with
  | 1, _, _ => rw [isF1, isF1, b0]
  | 2, _, _ =>
    rw [isF2, isF2, b0]
    by_cases h : 1 < x.size
    · rw [hb 1 h]; constructor <;> (intro ⟨a, b, c, d, e⟩; exact ⟨a, b, by omega, d, e⟩)
    · constructor
      · rintro ⟨a, b, c, d, e⟩; exact (hr 1 (by omega) c d e).elim
      · rintro ⟨a, b, c, d, e⟩; omega
  | 3, _, _ =>
    rw [isF3, isF3, b0]
    by_cases h : 1 < x.size
    · rw [hb 1 h]
      by_cases h2 : 2 < x.size
      · rw [hb 2 h2]; constructor <;> (rintro ⟨a, b, c, d, e, f, g⟩; exact ⟨a, b, by omega, d, e, by omega, g⟩)
      · constructor
        · rintro ⟨a, b, c, d, e, f, g, i, j⟩; exact (hr 2 (by omega) f g i).elim
        · rintro ⟨a, b, c, d, e, f, g, i, j⟩; omega
    · constructor
      · rintro ⟨a, b, c, d, e, f⟩; exact (hr 1 (by omega) c d e).elim
      · rintro ⟨a, b, c, d, e, f⟩; omega
  | 4, _, _ =>
    rw [isF4, isF4, b0]
    by_cases h : 1 < x.size
    · rw [hb 1 h]
      by_cases h2 : 2 < x.size
      · rw [hb 2 h2]
        by_cases h3 : 3 < x.size
        · rw [hb 3 h3]; constructor <;> (rintro ⟨a, b, c, d, e, f, g, i, j, k⟩; exact ⟨a, b, by omega, d, e, by omega, g, i, by omega, k⟩)
        · constructor
          · rintro ⟨a, b, c, d, e, f, g, i, j, k, l, m⟩; exact (hr 3 (by omega) j k l).elim
          · rintro ⟨a, b, c, d, e, f, g, i, j, k, l, m⟩; omega
      · constructor
        · rintro ⟨a, b, c, d, e, f, g, i, j⟩; exact (hr 2 (by omega) f g i).elim
        · rintro ⟨a, b, c, d, e, f, g, i, j⟩; omega
    · constructor
      · rintro ⟨a, b, c, d, e, f⟩; exact (hr 1 (by omega) c d e).elim
      · rintro ⟨a, b, c, d, e, f⟩; omega
theorem len_isF (s : ByteArray) (i : Nat) (hi : i < s.size) : lenN s i = if isF s i 1 = true then 1 else if isF s i 2 = true then 2 else if isF s i 3 = true then 3 else if isF s i 4 = true then 4 else 0 := by
  cases e1 : isF s i 1 with
  | true => rw [if_pos rfl, lenN_of_1 s i hi e1]
  | false =>
    rw [if_neg (by simp)]
    cases e2 : isF s i 2 with
    | true => rw [if_pos rfl, lenN_of_2 s i e2]
    | false =>
      rw [if_neg (by simp)]
      cases e3 : isF s i 3 with
      | true => rw [if_pos rfl, lenN_of_3 s i e3]
      | false =>
        rw [if_neg (by simp)]
        cases e4 : isF s i 4 with
        | true => rw [if_pos rfl, lenN_of_4 s i e4]
        | false => rw [if_neg (by simp), lenN_of_no s i hi e1 e2 e3 e4]
theorem len_nc (x y : ByteArray) (hx : 1 ≤ x.size) (hy : nc y) : lenN (x ++ y) 0 = lenN x 0 := by
  rw [len_isF _ 0 (by rw [ByteArray.size_append]; omega), len_isF x 0 (by omega)]
  rw [isF_nc x y hx hy 1 (by omega) (by omega), isF_nc x y hx hy 2 (by omega) (by omega), isF_nc x y hx hy 3 (by omega) (by omega), isF_nc x y hx hy 4 (by omega) (by omega)]
theorem nc_form (z : Int) (h : noR z = false) (y : ByteArray) : nc (Utf8.encode z ++ y) := by
  right
  have h1 := enc_pos z h
  rw [bt_l _ _ 0 (by omega)]
  have he := ext_nums (Utf8.encode z) 1 0 (by omega)
  have hn := (noR_not z).1 h
  have hz : ∀ a l, encL z = a :: l → (bt (Utf8.encode z) 0 : Int) = a := by
    intro a l hl
    have e2 : Utf8.encode z = strOfNums (a :: l) := by rw [enc_nums, hl]
    have ha := encL_bd z a (by rw [hl]; simp)
    rw [← bt_get _ 0 (by omega)]
    have : (Utf8.encode z)[0]'(by omega) = UInt8.ofNat a.toNat := by
      have hh : (Utf8.encode z).data.toList = (strOfNums (a :: l)).data.toList := by rw [e2]
      have h3 : (Utf8.encode z).data.toList[0]? = some (UInt8.ofNat a.toNat) := by rw [hh]; simp [strOfNums]
      have h4 : (Utf8.encode z).data.toList[0]? = some ((Utf8.encode z)[0]'(by omega)) := by
        rw [List.getElem?_eq_getElem (by rw [Array.length_toList]; exact h1)]; rfl
      rw [h4] at h3
      exact Option.some.inj h3
    rw [this]
    simp only [UInt8.toNat_ofNat']
    omega
  unfold encL at hz
  rw [if_neg (by rw [h]; simp)] at hz
  by_cases a : z < 128
  · rw [if_pos a] at hz; have := hz _ _ rfl; omega
  · rw [if_neg a] at hz
    by_cases b : z < 2048
    · rw [if_pos b] at hz; have := hz _ _ rfl; omega
    · rw [if_neg b] at hz
      by_cases c : z < 65536
      · rw [if_pos c] at hz; have := hz _ _ rfl; omega
      · rw [if_neg c] at hz; have := hz _ _ rfl; omega
end Go.Proofs.Ytkikopjbaonbpaa
