/- Layer 5: blanks ahead of a text and behind it, and their columns: plain mathematics. -/
import Derived.Test.YtnbhdgbhmcbeoaaDm
import Derived.Test.YtnbhdgbhmcbeoaaClm
import Derived.Test.YtnbhdgbhmcbeoaaCl9
namespace Go.Proofs.Ytnbhdgbhmcbeoaa
set_option linter.unusedVariables false
open Go
set_option maxRecDepth 100000

theorem kdc_cr (s : ByteArray) (i : Nat) (hi : i < s.size) (h : bt s i = 13) : kdc s i = 4 ∧ rn s i = 13 := by
  have hb := bk_ascii s i hi (by omega)
  have hr := rn_ascii s i hi (by omega)
  refine ⟨?_, by rw [hr, h]⟩
  unfold kdc
  rw [hb, hr, h]
  rfl
theorem kdc_blank (s : ByteArray) (i : Nat) (hi : i < s.size) (h : bt s i = 32) : kdc s i = 5 ∧ rn s i = 32 ∧ wd s i = 1 ∧ colc s i = 1 := by
  have hb := bk_ascii s i hi (by omega)
  have hr := rn_ascii s i hi (by omega)
  have hk : kdc s i = 5 := by
    unfold kdc
    rw [hb, hr, h]
    rfl
  refine ⟨hk, by rw [hr, h], wd_ascii s i hi (by omega), ?_⟩
  unfold colc colZ
  rw [hk, hr, h]
  rfl
/-- Marks and joiners take no columns, however they are parted. -/
theorem col_lead (s : ByteArray) : ∀ d q, s.size - q = d → q < s.size → (kdc s q = 2 ∨ rn s q = 8205) → colsL (cellsG s q) = colsL (cellsG s (q + wd s q)) := by
  intro d
  induction d using Nat.strongRecOn with
  | _ d ih =>
    intro q hd hq hm
    have hp := wd_pos s q
    have hw := wd_fits s q hq
    have hc := col_mark s q hm
    have hcr : crlf s q = false := by
      refine decide_eq_false fun h => ?_
      have := kdc_cr s q hq h.1
      omega
    have row : ∀ r p, s.size - p = r → r < d → p ≤ s.size → ∀ kind j c, kind ≠ 10 → (rowG s kind p j c).2 = c ∧ colsL (cellsG s (rowG s kind p j c).1) = colsL (cellsG s p) := by
      intro r
      induction r using Nat.strongRecOn with
      | _ r ihr =>
        intro p hr hrd hps kind j c hk
        by_cases hlt : p < s.size
        · have hp2 := wd_pos s p
          have hw2 := wd_fits s p hlt
          rw [rowG_step s kind p j c hlt]
          split
          · rename_i h2
            have := ihr (s.size - (p + wd s p)) (by omega) (p + wd s p) rfl (by omega) hw2 kind (rn s p == 8205) c hk
            exact ⟨this.1, this.2.trans (ih (s.size - p) (by omega) p rfl hlt h2).symm⟩
          · rw [if_neg (by omega)]
            exact ⟨rfl, rfl⟩
        · rw [rowG_end s kind p j c (by omega)]
          exact ⟨rfl, rfl⟩
    rw [cellsG_cons s q hq, colsL_cons]
    unfold fstC
    rw [hcr, if_neg (by decide), hc]
    split
    · simp
    · rename_i hn
      have hk : kdc s q ≠ 10 := by
        rcases hm with h | h
        · omega
        · have : kdc s q = 9 := by unfold kdc; rw [bk_of_rn s q (by omega), h]; rfl
          omega
      have := row (s.size - (q + wd s q)) (q + wd s q) rfl (by omega) hw (kdc s q) false 0 hk
      simp only [this.1, this.2, Nat.zero_add]
/-- A row that ends where the columns go on: what stands behind a cluster's head. -/
theorem col_row (s : ByteArray) : ∀ r p, s.size - p = r → p ≤ s.size → ∀ kind j c, kind ≠ 10 → (rowG s kind p j c).2 = c ∧ colsL (cellsG s (rowG s kind p j c).1) = colsL (cellsG s p) := by
  intro r
  induction r using Nat.strongRecOn with
  | _ r ihr =>
    intro p hr hps kind j c hk
    by_cases hlt : p < s.size
    · have hp2 := wd_pos s p
      have hw2 := wd_fits s p hlt
      rw [rowG_step s kind p j c hlt]
      split
      · rename_i h2
        have := ihr (s.size - (p + wd s p)) (by omega) (p + wd s p) rfl hw2 kind (rn s p == 8205) c hk
        exact ⟨this.1, this.2.trans (col_lead s _ p rfl hlt h2).symm⟩
      · rw [if_neg (by omega)]
        exact ⟨rfl, rfl⟩
    · rw [rowG_end s kind p j c (by omega)]
      exact ⟨rfl, rfl⟩
/-- A blank and what stands behind it. -/
theorem col_blank (s : ByteArray) (i : Nat) (hi : i < s.size) (h : bt s i = 32) : colsL (cellsG s i) = 1 + colsL (cellsG s (i + 1)) := by
  obtain ⟨h1, h2, h3, h4⟩ := kdc_blank s i hi h
  have hcr : crlf s i = false := decide_eq_false fun h' => by omega
  rw [cellsG_cons s i hi, colsL_cons]
  unfold fstC
  rw [hcr, if_neg (by decide), h1, h3, h4, if_neg (by omega)]
  have := col_row s _ (i + 1) rfl (by omega) 5 false 1 (by omega)
  rw [this.1, this.2]
theorem col_blanks (s : ByteArray) (i : Nat) : ∀ n, i + n ≤ s.size → (∀ k, k < n → bt s (i + k) = 32) → colsL (cellsG s i) = n + colsL (cellsG s (i + n))
  | 0, _, _ => by simp
  | n + 1, h, hb => by
    have := col_blanks s i n (by omega) (fun k hk => hb k (by omega))
    rw [this, col_blank s (i + n) (by omega) (hb n (by omega))]
    rw [show i + n + 1 = i + (n + 1) by omega]
    omega

/- A text ahead of a blank. -/
theorem blank_step (s : ByteArray) (n : Nat) (hn : n < s.size) (h : bt s n = 32) (i : Nat) (hi : i < n) : i + wd s i ≤ n := by
  rcases five s i (by omega) with ⟨hF, hl, _⟩ | ⟨hF, hl, _⟩ | ⟨hF, hl, _⟩ | ⟨hF, hl, _⟩ | ⟨hl, _⟩
  · unfold wd; rw [hl]; simp; omega
  · unfold wd; rw [hl, if_neg (by decide)]
    rw [isF2] at hF
    by_cases e : i + 1 = n
    · rw [← e] at h; omega
    · omega
  · unfold wd; rw [hl, if_neg (by decide)]
    rw [isF3] at hF
    by_cases e : i + 1 = n
    · rw [← e] at h; omega
    · by_cases e : i + 2 = n
      · rw [← e] at h; omega
      · omega
  · unfold wd; rw [hl, if_neg (by decide)]
    rw [isF4] at hF
    by_cases e : i + 1 = n
    · rw [← e] at h; omega
    · by_cases e : i + 2 = n
      · rw [← e] at h; omega
      · by_cases e : i + 3 = n
        · rw [← e] at h; omega
        · omega
  · unfold wd; rw [hl, if_pos rfl]; omega
theorem blank_rch (s : ByteArray) (n : Nat) (hn : n < s.size) (h : bt s n = 32) : ∀ d i, n - i = d → i ≤ n → Rch s i n := by
  intro d
  induction d using Nat.strongRecOn with
  | _ d ih =>
    intro i hd hi
    by_cases e : i = n
    · rw [e]; exact Rch.refl s n
    · have hp := wd_pos s i
      have := blank_step s n hn h i (by omega)
      exact (ih (n - (i + wd s i)) (by omega) _ rfl this).step
theorem blank_row (s : ByteArray) (n : Nat) (hn : n < s.size) (h : bt s n = 32) (kind : Nat) : ∀ d q j c, n - q = d → q ≤ n → (rowG s kind q j c).1 ≤ n := by
  intro d
  induction d using Nat.strongRecOn with
  | _ d ih =>
    intro q j c hd hq
    rw [rowG_step s kind q j c (by omega)]
    by_cases e : q = n
    · obtain ⟨h1, h2, _, _⟩ := kdc_blank s n hn h
      rw [e, h1, h2, if_neg (by omega), if_neg (by omega)]
      exact Nat.le_refl _
    · have hp := wd_pos s q
      have := blank_step s n hn h q (by omega)
      split
      · exact ih (n - (q + wd s q)) (by omega) _ _ _ rfl this
      · split
        · exact ih (n - (q + wd s q)) (by omega) _ _ _ rfl this
        · exact hq
theorem blank_fst (s : ByteArray) (n : Nat) (hn : n < s.size) (h : bt s n = 32) (i : Nat) (hi : i < n) : (fstC s i).1 ≤ n := by
  have := blank_step s n hn h i hi
  unfold fstC
  split
  · rename_i hc
    have hc := of_decide_eq_true hc
    by_cases e : i + 1 = n
    · rw [e, h] at hc; omega
    · simp only; omega
  · split
    · exact this
    · exact blank_row s n hn h _ _ _ _ _ rfl this
/-- Ahead of a blank a text's clusters are those of the text that ends there. -/
theorem blank_cells (s : ByteArray) (n : Nat) (hn : n < s.size) (h : bt s n = 32) : ∀ d i, n - i = d → i ≤ n → cellsG s i = cellsG (s.extract 0 n) i ++ cellsG s n := by
  have hz := size_head s n (by omega)
  intro d
  induction d using Nat.strongRecOn with
  | _ d ih =>
    intro i hd hi
    by_cases e : i = n
    · rw [e, cellsG_end (s.extract 0 n) n (by omega), List.nil_append]
    · have hf := blank_fst s n hn h i (by omega)
      have hb := fstC_bd s i (by omega)
      have e1 := hd_fst s n i (by omega) (by omega) (blank_rch s n hn h _ i rfl hi) hf
      rw [cellsG_cons s i (by omega), cellsG_cons (s.extract 0 n) i (by omega), e1, List.cons_append, ← ih (n - (fstC s i).1) (by omega) _ rfl hf]
theorem colsL_up (n : Nat) (l : List Cel) : colsL (l.map (upC n)) = colsL l := by
  induction l with
  | nil => rfl
  | cons c l ih => rw [List.map_cons, colsL_cons, colsL_cons, ih]; rfl
theorem bt_app_l (a b : ByteArray) (k : Nat) (h : k < a.size) : bt (a ++ b) k = bt a k := by
  have h1 : (a ++ b).extract 0 a.size = a := by
    apply ByteArray.ext
    simp
  rw [← bt_head (a ++ b) a.size k (by rw [ByteArray.size_append]; omega) h, h1]
theorem bt_blanks (n k : Nat) (h : k < n) : bt (blanksB n) k = 32 := by
  unfold bt blanksB
  simp [ByteArray.get!, h]
theorem app_ext_r (a b : ByteArray) : (a ++ b).extract a.size (a ++ b).size = b := by
  apply ByteArray.ext
  simp only [ByteArray.data_extract, ByteArray.data_append, ByteArray.size_append, Array.extract_append]
  rw [Array.extract_empty_of_size_le_start (by show a.data.size ≤ a.data.size; omega), Array.empty_append]
  show b.data.extract (a.data.size - a.data.size) (a.data.size + b.data.size - a.data.size) = b.data
  rw [Nat.sub_self, Nat.add_sub_cancel_left, Array.extract_size]
theorem app_ext_l (a b : ByteArray) : (a ++ b).extract 0 a.size = a := by
  apply ByteArray.ext
  simp
theorem bt_app_r (a b : ByteArray) (k : Nat) : bt (a ++ b) (a.size + k) = bt b k := by
  have := tl_bt (a ++ b) a.size k
  rw [app_ext_r] at this
  exact this.symm
/-- The columns of a text with blanks ahead and behind. -/
theorem col_padded (a : Nat) (x : ByteArray) (b : Nat) : colsL (cellsL (blanksB a ++ x ++ blanksB b)) = a + colsL (cellsL x) + b := by
  have tail : ∀ (x : ByteArray) (b : Nat), colsL (cellsL (x ++ blanksB b)) = colsL (cellsL x) + b := by
    intro x b
    have sb := blanksB_size b
    have sx : (x ++ blanksB b).size = x.size + b := by rw [ByteArray.size_append, sb]
    by_cases hb : b = 0
    · subst hb
      rw [show x ++ blanksB 0 = x by apply ByteArray.ext; simp [blanksB]]
      rfl
    · have h0 : bt (x ++ blanksB b) x.size = 32 := by
        have := bt_app_r x (blanksB b) 0
        rw [Nat.add_zero] at this
        rw [this, bt_blanks b 0 (by omega)]
      have h1 := blank_cells (x ++ blanksB b) x.size (by omega) h0 _ 0 rfl (Nat.zero_le _)
      have h2 := col_blanks (x ++ blanksB b) x.size b (by omega) (fun k hk => by rw [bt_app_r, bt_blanks b k hk])
      rw [cellsG_end _ (x.size + b) (by omega), colsL_nil] at h2
      show colsL (cellsG (x ++ blanksB b) 0) = _
      rw [h1, colsL_app, h2, app_ext_l]
      rfl
  rw [tail]
  congr 1
  have sa := blanksB_size a
  have h2 := col_blanks (blanksB a ++ x) 0 a (by rw [ByteArray.size_append]; omega) (fun k hk => by rw [Nat.zero_add, bt_app_l _ _ _ (by omega), bt_blanks a k hk])
  have h3 := tl_cells (blanksB a ++ x) a (by rw [ByteArray.size_append]; omega) _ 0 rfl
  have e := app_ext_r (blanksB a) x
  rw [sa] at e
  rw [e] at h3
  show colsL (cellsG (blanksB a ++ x) 0) = _
  rw [h2, Nat.zero_add]
  congr 1
  have h4 : colsL (cellsG (blanksB a ++ x) (a + 0)) = colsL (cellsG x 0) := by rw [← h3, colsL_up]
  exact h4
end Go.Proofs.Ytnbhdgbhmcbeoaa
