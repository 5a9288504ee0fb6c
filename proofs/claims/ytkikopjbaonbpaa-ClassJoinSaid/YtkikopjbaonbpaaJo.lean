/- Two texts, one behind the other, where no form lies across: their pieces; their letters turned. Plain facts. -/
import Derived.Test.YtkikopjbaonbpaaUp
namespace Go.Proofs.Ytkikopjbaonbpaa
set_option linter.unusedVariables false
set_option linter.unusedSimpArgs false
open Go
set_option maxRecDepth 100000

theorem isF_pre (a b : ByteArray) (p m : Nat) (h1 : 1 ≤ m) (h4 : m ≤ 4) (h : p + m ≤ a.size) : isF (a ++ b) p m = isF a p m := by
  have hs : (a ++ b).size = a.size + b.size := ByteArray.size_append
  have hb := fun j (h : j < a.size) => bt_l a b j h
  rw [Bool.eq_iff_iff]
  match m, h1, h4, h with
  | 1, _, _, h => rw [isF1, isF1, hb p (by omega)]
  | 2, _, _, h => rw [isF2, isF2, hb p (by omega), hb (p + 1) (by omega)]; constructor <;> (rintro ⟨a, b, c, d, e⟩; exact ⟨a, b, by omega, d, e⟩)
  | 3, _, _, h => rw [isF3, isF3, hb p (by omega), hb (p + 1) (by omega), hb (p + 2) (by omega)]; constructor <;> (rintro ⟨a, b, c, d, e, f, g⟩; exact ⟨a, b, by omega, d, e, by omega, g⟩)
  | 4, _, _, h => rw [isF4, isF4, hb p (by omega), hb (p + 1) (by omega), hb (p + 2) (by omega), hb (p + 3) (by omega)]; constructor <;> (rintro ⟨a, b, c, d, e, f, g, i, j, k⟩; exact ⟨a, b, by omega, d, e, by omega, g, i, by omega, k⟩)
theorem isF_len (s : ByteArray) (i m : Nat) (hi : i < s.size) (h1 : 1 ≤ m) (h4 : m ≤ 4) (h : isF s i m = true) : lenN s i = m := by
  match m, h1, h4, h with
  | 1, _, _, h => exact lenN_of_1 s i hi h
  | 2, _, _, h => exact lenN_of_2 s i h
  | 3, _, _, h => exact lenN_of_3 s i h
  | 4, _, _, h => exact lenN_of_4 s i h
theorem len_isF2 (s : ByteArray) (i : Nat) (hi : i < s.size) (h : lenN s i ≠ 0) : isF s i (lenN s i) = true ∧ 1 ≤ lenN s i ∧ lenN s i ≤ 4 := by
  rcases five s i hi with ⟨a, b, _⟩ | ⟨a, b, _⟩ | ⟨a, b, _⟩ | ⟨a, b, _⟩ | ⟨b, _⟩
  · rw [b]; exact ⟨a, by omega, by omega⟩
  · rw [b]; exact ⟨a, by omega, by omega⟩
  · rw [b]; exact ⟨a, by omega, by omega⟩
  · rw [b]; exact ⟨a, by omega, by omega⟩
  · exact absurd b h
theorem len_pre (a b : ByteArray) (p : Nat) (hp : p < a.size) (h : p + wd (a ++ b) p ≤ a.size) : lenN (a ++ b) p = lenN a p := by
  have hs : (a ++ b).size = a.size + b.size := ByteArray.size_append
  by_cases h0 : lenN (a ++ b) p = 0
  · rw [h0]
    by_cases h2 : lenN a p = 0
    · exact h2.symm
    · obtain ⟨f1, f2, f3⟩ := len_isF2 a p hp h2
      have f4 := (lenN_fits a p h2).1
      rw [← isF_pre a b p _ f2 f3 f4] at f1
      have := isF_len (a ++ b) p _ (by omega) f2 f3 f1
      omega
  · obtain ⟨f1, f2, f3⟩ := len_isF2 (a ++ b) p (by omega) h0
    have hw : wd (a ++ b) p = lenN (a ++ b) p := by unfold wd; rw [if_neg h0]
    rw [hw] at h
    rw [isF_pre a b p _ f2 f3 h] at f1
    exact (isF_len a p _ hp f2 f3 f1).symm
theorem rn_pre (a b : ByteArray) (p : Nat) (hp : p < a.size) (h : p + wd (a ++ b) p ≤ a.size) : rn (a ++ b) p = rn a p := by
  have hs : (a ++ b).size = a.size + b.size := ByteArray.size_append
  have hl := len_pre a b p hp h
  have hb := fun j (h : j < a.size) => bt_l a b j h
  rcases five (a ++ b) p (by omega) with ⟨a1, b1, c1⟩ | ⟨a1, b1, c1⟩ | ⟨a1, b1, c1⟩ | ⟨a1, b1, c1⟩ | ⟨b1, c1⟩ <;> rcases five a p hp with ⟨a2, b2, c2⟩ | ⟨a2, b2, c2⟩ | ⟨a2, b2, c2⟩ | ⟨a2, b2, c2⟩ | ⟨b2, c2⟩ <;> first | (exfalso; omega) | skip
  · rw [c1, c2, hb p hp]
  · have := (lenN_fits a p (by omega)).1
    rw [c1, c2, hb p hp, hb (p + 1) (by omega)]
  · have := (lenN_fits a p (by omega)).1
    rw [c1, c2, hb p hp, hb (p + 1) (by omega), hb (p + 2) (by omega)]
  · have := (lenN_fits a p (by omega)).1
    rw [c1, c2, hb p hp, hb (p + 1) (by omega), hb (p + 2) (by omega), hb (p + 3) (by omega)]
  · rw [c1, c2]
theorem ext_pre (a b : ByteArray) (i j : Nat) (h : j ≤ a.size) : (a ++ b).extract i j = a.extract i j := by
  have e1 : b.data.extract (i - a.data.size) (j - a.data.size) = #[] := by
    rw [show j - a.data.size = 0 from Nat.sub_eq_zero_of_le h]
    exact Array.extract_empty_of_stop_le_start (Nat.zero_le _)
  apply ByteArray.ext
  simp only [ByteArray.data_append, ByteArray.data_extract]
  rw [Array.extract_append, e1, Array.append_empty]
theorem unA_pre (a b : ByteArray) (p : Nat) (hp : p < a.size) (h : p + wd (a ++ b) p ≤ a.size) : unA (a ++ b) p = unA a p ∧ wd (a ++ b) p = wd a p := by
  have hl := len_pre a b p hp h
  have hw : wd (a ++ b) p = wd a p := by unfold wd; rw [hl]
  refine ⟨?_, hw⟩
  unfold unA
  rw [rn_pre a b p hp h, show bk (a ++ b) p = bk a p by unfold bk; rw [hl], hw, ext_pre a b _ _ (by rw [← hw]; exact h)]

/-- No form lies across. -/
def noSeam (a b : ByteArray) (l : List Nat) : Prop := ∀ p ∈ l, ¬ (p < a.size ∧ a.size < p + wd (a ++ b) p)
theorem units_pre (a b : ByteArray) : ∀ p, p ≤ a.size → noSeam a b (posG (a ++ b) p) → (posG (a ++ b) p).map (unA (a ++ b)) = (posG a p).map (unA a) ++ units b := by
  have hs : (a ++ b).size = a.size + b.size := ByteArray.size_append
  apply posG_ind a
  · intro p hp hle hno
    obtain rfl : p = a.size := by omega
    rw [posG_end a _ (Nat.le_refl _), units_tl, app_tail]; rfl
  · intro p hp ih hle hno
    rw [posG_cons (a ++ b) p (by omega)] at hno ⊢
    have h1 := hno p (by simp)
    have h2 : p + wd (a ++ b) p ≤ a.size := by omega
    obtain ⟨e1, e2⟩ := unA_pre a b p hp h2
    rw [e2] at hno h2 ⊢
    rw [posG_cons a p hp, List.map_cons, List.map_cons, e1, ih h2 (fun q hq => hno q (List.mem_cons_of_mem _ hq))]
    rfl
theorem units_join (a b : ByteArray) (h : noSeam a b (posns (a ++ b))) : units (a ++ b) = units a ++ units b := units_pre a b 0 (Nat.zero_le _) h

/-- Neither letter nor mark. -/
def dull (u : Un) : Prop := leB u.1 = false ∧ (kindZ u.1 == 2) = false
theorem folV_dull {u : Un} (h : dull u) (l : List Un) : folV (u :: l) = false := by simp only [folV]; rw [if_neg (by rw [h.2]; simp)]; exact h.1
theorem fol_app1 {u : Un} (h : dull u) (y : List Un) : ∀ l, folV (l ++ u :: y) = folV l := by
  intro l
  induction l with
  | nil => exact folV_dull h y
  | cons v l ih => rw [List.cons_append]; simp only [folV]; rw [ih]
theorem out_dull (g : Int → Bool → Bool → ByteArray) {u : Un} (h : dull u) (y : List Un) (led led' : Bool) : outU g led (u :: y) = outU g led' (u :: y) := by
  rw [outU_f h.1, outU_f h.1, h.2, Bool.and_false, Bool.and_false]
theorem out_app1 (g : Int → Bool → Bool → ByteArray) {u : Un} (h : dull u) (y : List Un) : ∀ (x : List Un) (led : Bool), outU g led (x ++ u :: y) = outU g led x ++ outU g false (u :: y) := by
  intro x
  induction x with
  | nil => intro led; rw [List.nil_append, out_dull g h y led false]; exact (nil_ba _).symm
  | cons v x ih =>
    intro led
    cases hl : leB v.1 with
    | true => rw [List.cons_append, outU_t hl, outU_t hl, ih, fol_app1 h, ByteArray.append_assoc]
    | false => rw [List.cons_append, outU_f hl, outU_f hl, ih, ByteArray.append_assoc]
theorem fol_app2 {u : Un} (h : dull u) (y : List Un) : ∀ l, folV (l ++ u :: y) = folV (l ++ [u]) := by
  intro l
  rw [fol_app1 h y l, fol_app1 h [] l]
theorem out_app2 (g : Int → Bool → Bool → ByteArray) {u : Un} (h : dull u) (y : List Un) : ∀ (x : List Un) (led : Bool), outU g led ((x ++ [u]) ++ y) = outU g led (x ++ [u]) ++ outU g false y := by
  intro x
  induction x with
  | nil =>
    intro led
    show outU g led (u :: y) = outU g led [u] ++ outU g false y
    rw [outU_f h.1, outU_f h.1, h.2, Bool.and_false]
    show _ = ((⟨u.2.2.toArray⟩ : ByteArray) ++ (⟨#[]⟩ : ByteArray)) ++ _
    rw [ba_nil]
  | cons v x ih =>
    intro led
    have e : (x ++ [u]) ++ y = x ++ u :: y := by simp
    cases hl : leB v.1 with
    | true =>
      rw [List.cons_append, List.cons_append, outU_t hl, outU_t hl, ih, e, fol_app2 h, ByteArray.append_assoc]
    | false => rw [List.cons_append, List.cons_append, outU_f hl, outU_f hl, ih, ByteArray.append_assoc]

theorem join_low (a b : ByteArray) (h : noSeam a b (posns (a ++ b)))
    (hp : units a = [] ∨ units b = [] ∨ (∃ x u, units a = x ++ [u] ∧ dull u) ∨ (∃ u y, units b = u :: y ∧ dull u)) : txL (a ++ b) = txL a ++ txL b := by
  show outU lwG false (units (a ++ b)) = outU lwG false (units a) ++ outU lwG false (units b)
  rw [units_join a b h]
  rcases hp with e | e | ⟨x, u, e, hu⟩ | ⟨u, y, e, hu⟩
  · rw [e]; exact (nil_ba _).symm
  · rw [e, List.append_nil]; exact (ba_nil _).symm
  · rw [e]; exact out_app2 lwG hu (units b) x false
  · rw [e]; exact out_app1 lwG hu y (units a) false
end Go.Proofs.Ytkikopjbaonbpaa
