/- ClusterGo: a text of right runes that are no marks, no joiners and no 13: each of its pieces is a cluster; plain mathematics. -/
import Derived.Test.YtnbhdgbhmcbeoaaFm
import Derived.Test.YtnbhdgbhmcbeoaaCpm
import Derived.Lib.RuneBytes
namespace Go.Proofs.Ytnbhdgbhmcbeoaa
set_option linter.unusedVariables false
set_option linter.unusedSimpArgs false
open Go
set_option maxRecDepth 100000

/-- The runes that are taken. -/
def okR (r : Int) : Bool := !(noR r) && decide (r ≠ 65533) && decide (r ≠ 13) && decide (r ≠ 8205) && decide (r < 768 ∨ 879 < r)
theorem okR_iff (r : Int) : okR r = true ↔ noR r = false ∧ r ≠ 65533 ∧ r ≠ 13 ∧ r ≠ 8205 ∧ (r < 768 ∨ 879 < r) := by
  unfold okR
  simp only [Bool.and_eq_true, Bool.not_eq_true', decide_eq_true_eq, and_assoc]
/-- The text of runes. -/
def encA (zs : List Int) : ByteArray := strOfNums (zs.flatMap encL)
theorem encA_nil : encA [] = ⟨#[]⟩ := rfl
theorem encA_snoc (zs : List Int) (r : Int) : (encA (zs ++ [r])).size = (encA zs).size + (Utf8.encode r).size := by
  rw [enc_nums, encA, encA, strOfNums_size, strOfNums_size, strOfNums_size]; simp
theorem enc_size (r : Int) (h : noR r = false) : (Utf8.encode r).size = widZ r := by
  rw [enc_nums, strOfNums_size]
  unfold encL widZ
  have h2 := h
  rw [noR_not] at h2
  rw [if_neg (by rw [h]; simp), if_neg h2]
  (repeat' split) <;> rfl
theorem str_mid (a b c : List Int) : (strOfNums (a ++ b ++ c)).extract a.length (a.length + b.length) = strOfNums b := by
  apply ByteArray.ext
  apply Array.ext'
  rw [ByteArray.data_extract, Array.toList_extract, List.extract_eq_take_drop]
  simp [strOfNums]
theorem at_form (pre post : List Int) (r : Int) (hr : noR r = false) (T : ByteArray) (hT : T = encA (pre ++ r :: post)) :
    (rn T (encA pre).size : Int) = r ∧ lenN T (encA pre).size = (Utf8.encode r).size ∧ (encA pre).size + (Utf8.encode r).size ≤ T.size ∧ 1 ≤ (Utf8.encode r).size ∧ T.extract (encA pre).size ((encA pre).size + (Utf8.encode r).size) = Utf8.encode r := by
  have hs : T.size = (encA pre).size + (Utf8.encode r).size + (encA post).size := by
    rw [hT, enc_nums, encA, encA, encA, strOfNums_size, strOfNums_size, strOfNums_size, strOfNums_size]; simp; omega
  have hw := enc_size r hr
  have h1 : 1 ≤ (Utf8.encode r).size := by
    rw [hw]
    have : widZ r ≠ 0 := by
      intro h0
      rw [widZ_0, ← noR_iff, hr] at h0
      cases h0
    omega
  have h4 : (Utf8.encode r).size ≤ 4 := by
    rw [hw]; unfold widZ; (repeat' split) <;> omega
  have hx : T.extract (encA pre).size ((encA pre).size + (Utf8.encode r).size) = Utf8.encode r := by
    rw [hT]
    have := str_mid (pre.flatMap encL) (encL r) (post.flatMap encL)
    rw [encA, encA, enc_nums, strOfNums_size, strOfNums_size]
    rw [show (pre ++ r :: post).flatMap encL = pre.flatMap encL ++ encL r ++ post.flatMap encL by simp]
    exact this
  have hf := form_of_enc T (encA pre).size (Utf8.encode r).size r h1 h4 (by omega) hr hw.symm hx.symm
  exact ⟨hf.2.1, hf.2.2, by omega, h1, hx⟩
theorem kind_ok (r : Int) (h : okR r = true) : (kindZ r).toNat ≠ 2 := by
  rw [okR_iff] at h
  obtain ⟨_, _, _, _, h⟩ := h
  unfold kindZ
  split
  · decide
  · split
    · decide
    · rw [if_neg (by omega)]
      (repeat' split) <;> decide
theorem enc_end (pre : List Int) (T : ByteArray) (hT : T = encA pre) : (encA pre).size = T.size := by rw [hT]
/-- A cluster is a rune's form. -/
theorem fst_form (pre post : List Int) (r : Int) (hall : ∀ x ∈ pre ++ r :: post, okR x = true) (T : ByteArray) (hT : T = encA (pre ++ r :: post)) : (fstC T (encA pre).size).1 = (encA (pre ++ [r])).size := by
  have hr := hall r (by simp)
  have hno := ((okR_iff r).1 hr)
  obtain ⟨f1, f2, f3, f4, f5⟩ := at_form pre post r hno.1 T hT
  have hwd : wd T (encA pre).size = (Utf8.encode r).size := by unfold wd; rw [if_neg (by omega)]; exact f2
  have hlt : (encA pre).size < T.size := by omega
  have hcr : crlf T (encA pre).size = false := by
    refine decide_eq_false fun h => ?_
    have := (kdc_cr T _ hlt h.1).2
    omega
  rw [encA_snoc]
  unfold fstC
  rw [hcr, if_neg (by decide), hwd]
  split
  · rfl
  · cases post with
    | nil =>
      have he : (encA pre).size + (Utf8.encode r).size = T.size := by rw [← encA_snoc, hT]
      rw [rowG_end _ _ _ _ _ (by omega)]
    | cons r2 post =>
      have hr2 := hall r2 (by simp)
      have hno2 := ((okR_iff r2).1 hr2)
      obtain ⟨g1, g2, g3, g4, g5⟩ := at_form (pre ++ [r]) post r2 hno2.1 T (by rw [hT]; simp)
      rw [encA_snoc] at g1 g2 g3
      rw [rowG_step _ _ _ _ _ (by omega), if_neg, if_neg (by simp)]
      rintro (h | h)
      · unfold kdc at h
        rw [show bk T ((encA pre).size + (Utf8.encode r).size) = false from (bk_not T _).2 (by omega)] at h
        rw [if_neg (by decide), g1] at h
        exact kind_ok r2 hr2 h
      · omega
theorem cells_forms (zs : List Int) (hall : ∀ x ∈ zs, okR x = true) (T : ByteArray) (hT : T = encA zs) : ∀ (post pre : List Int), zs = pre ++ post →
    (cellsG T (encA pre).size).map (fun c => T.extract c.1 c.2.1) = post.map Utf8.encode
  | [], pre, h => by
    rw [cellsG_end T _ (by rw [hT, h, List.append_nil]; exact Nat.le_refl _)]
    rfl
  | r :: post, pre, h => by
    obtain ⟨f1, f2, f3, f4, f5⟩ := at_form pre post r ((okR_iff r).1 (hall r (by rw [h]; simp))).1 T (by rw [hT, h])
    have hf := fst_form pre post r (by rw [← h]; exact hall) T (by rw [hT, h])
    rw [cellsG_cons T _ (by omega), List.map_cons, List.map_cons, hf, cells_forms zs hall T hT post (pre ++ [r]) (by rw [h]; simp), encA_snoc]
    simp only
    rw [f5]
theorem cells_text (zs : List Int) (hall : ∀ x ∈ zs, okR x = true) : (cellsL (encA zs)).map (fun c => (encA zs).extract c.1 c.2.1) = zs.map Utf8.encode := cells_forms zs hall _ rfl zs [] rfl
def rns (s : ByteArray) (l : List Nat) : List Value := l.map fun (i : Nat) => Value.int .i32 (rn s i : Nat)
theorem runes_forms (zs : List Int) (hall : ∀ x ∈ zs, okR x = true) (T : ByteArray) (hT : T = encA zs) : ∀ (post pre : List Int), zs = pre ++ post →
    rns T (posG T (encA pre).size) = post.map (Value.int .i32)
  | [], pre, h => by
    rw [posG_end T _ (by rw [hT, h, List.append_nil]; exact Nat.le_refl _)]
    rfl
  | r :: post, pre, h => by
    obtain ⟨f1, f2, f3, f4, f5⟩ := at_form pre post r ((okR_iff r).1 (hall r (by rw [h]; simp))).1 T (by rw [hT, h])
    have hwd : wd T (encA pre).size = (Utf8.encode r).size := by unfold wd; rw [if_neg (by omega)]; exact f2
    have ih := runes_forms zs hall T hT post (pre ++ [r]) (by rw [h]; simp)
    rw [encA_snoc] at ih
    rw [posG_cons T _ (by omega), hwd]
    show Value.int .i32 (rn T (encA pre).size : Nat) :: rns T _ = _
    rw [ih, f1]
    rfl
theorem runes_text (zs : List Int) (hall : ∀ x ∈ zs, okR x = true) : rns (encA zs) (posns (encA zs)) = zs.map (Value.int .i32) := runes_forms zs hall _ rfl zs [] rfl
/-- What Builder.WriteRune lays is the rune's form. -/
theorem encZ (r : Int) (h : noR r = false) : Lib.encodeRuneZ r = encL r := by
  have h2 := h
  rw [noR_not] at h2
  unfold encL
  rw [h, if_neg (by decide : ¬ false = true)]
  by_cases a : r ≤ 127
  · rw [Lib.encodeRuneZ_one (by omega) a, if_pos (by omega)]
  · by_cases b : r ≤ 2047
    · rw [Lib.encodeRuneZ_two (by omega) b, if_neg (by omega), if_pos (by omega)]
    · by_cases c : r ≤ 65535
      · rw [Lib.encodeRuneZ_three (by omega), if_neg (by omega), if_neg (by omega), if_pos (by omega), show r / 4096 = r / 64 / 64 by omega]
      · rw [Lib.encodeRuneZ_four (by omega) (by omega), if_neg (by omega), if_neg (by omega), if_neg (by omega), show r / 262144 = r / 64 / 64 / 64 by omega, show r / 4096 = r / 64 / 64 by omega]
theorem enc_bytes (zs : List Int) (hall : ∀ x ∈ zs, okR x = true) : (⟨(zs.flatMap Lib.encodeRune).toArray⟩ : ByteArray) = encA zs := by
  unfold encA strOfNums
  congr 2
  induction zs with
  | nil => rfl
  | cons r zs ih =>
    rw [List.flatMap_cons, List.flatMap_cons, List.map_append, ih (fun x hx => hall x (by simp [hx]))]
    congr 1
    unfold Lib.encodeRune
    rw [encZ r ((okR_iff r).1 (hall r (by simp))).1]
end Go.Proofs.Ytnbhdgbhmcbeoaa
