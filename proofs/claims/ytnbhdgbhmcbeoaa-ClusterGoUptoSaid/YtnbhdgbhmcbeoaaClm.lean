/- Layer 5: clusters of a text's head and of its tail; columns against bytes: plain mathematics. -/
import Derived.Test.YtnbhdgbhmcbeoaaCl0
import Derived.Test.YtnbhdgbhmcbeoaaTl
import Derived.Test.YtnbhdgbhmcbeoaaBd
namespace Go.Proofs.Ytnbhdgbhmcbeoaa
set_option linter.unusedVariables false
open Go
set_option maxRecDepth 100000

/- Columns against bytes. -/
theorem colc_wd (s : ByteArray) (i : Nat) (hi : i < s.size) : colc s i ≤ wd s i := by
  have hp := wd_pos s i
  cases hb : bk s i with
  | true => unfold colc colZ kdc; rw [hb, if_pos (by simp)]; omega
  | false =>
    have hw := wid_rn s i hi hb
    unfold colc colZ
    split
    · omega
    · split
      · omega
      · split
        · rename_i h
          have h := of_decide_eq_true h
          have : 3 ≤ widZ (rn s i) := by unfold widZ; (repeat' split) <;> omega
          omega
        · omega
theorem rowF_cw (s : ByteArray) (kind : Nat) : ∀ f q j c, (rowF s kind f q j c).2 + q ≤ c + (rowF s kind f q j c).1
  | 0, q, j, c => Nat.le_refl _
  | f + 1, q, j, c => by
    unfold rowF
    by_cases hq : q < s.size
    · rw [if_pos hq]
      have hcc := colc_wd s q hq
      split
      · have := rowF_cw s kind f (q + wd s q) (rn s q == 8205) c
        omega
      · split
        · have := rowF_cw s kind f (q + wd s q) false (max c (colc s q))
          omega
        · exact Nat.le_refl _
    · rw [if_neg hq]; exact Nat.le_refl _
theorem fstC_cw (s : ByteArray) (i : Nat) (h : i < s.size) : (fstC s i).2 + i ≤ (fstC s i).1 := by
  have hc := colc_wd s i h
  unfold fstC
  split
  · simp only; omega
  · split
    · simp only; omega
    · have := rowF_cw s (kdc s i) (s.size - (i + wd s i)) (i + wd s i) false (colc s i)
      unfold rowG
      omega

/- Places that are reached piece by piece. -/
def stepN (s : ByteArray) : Nat → Nat → Nat
  | 0, i => i
  | k + 1, i => stepN s k (i + wd s i)
def Rch (s : ByteArray) (i n : Nat) : Prop := ∃ k, stepN s k i = n
theorem Rch.refl (s : ByteArray) (i : Nat) : Rch s i i := ⟨0, rfl⟩
theorem Rch.step {s : ByteArray} {i n : Nat} (h : Rch s (i + wd s i) n) : Rch s i n := by
  obtain ⟨k, h⟩ := h
  exact ⟨k + 1, h⟩
theorem stepN_le (s : ByteArray) : ∀ k i, i ≤ stepN s k i
  | 0, i => Nat.le_refl _
  | k + 1, i => by
    have := stepN_le s k (i + wd s i)
    show i ≤ stepN s k (i + wd s i)
    omega
theorem Rch.le {s : ByteArray} {i n : Nat} (h : Rch s i n) : i ≤ n := by
  obtain ⟨k, rfl⟩ := h
  exact stepN_le s k i
theorem Rch.next {s : ByteArray} {i n : Nat} (h : Rch s i n) (hi : i < n) : Rch s (i + wd s i) n := by
  obtain ⟨k, h⟩ := h
  cases k with
  | zero => have h : i = n := h; omega
  | succ k => exact ⟨k, h⟩
theorem stepN_add (s : ByteArray) : ∀ k m i, stepN s m (stepN s k i) = stepN s (k + m) i
  | 0, m, i => by rw [Nat.zero_add]; rfl
  | k + 1, m, i => by
    rw [show k + 1 + m = (k + m) + 1 by omega]
    exact stepN_add s k m (i + wd s i)
theorem Rch.trans {s : ByteArray} {i j n : Nat} (h : Rch s i j) (h2 : Rch s j n) : Rch s i n := by
  obtain ⟨k, rfl⟩ := h
  obtain ⟨m, rfl⟩ := h2
  exact ⟨k + m, (stepN_add s k m i).symm⟩
/-- Of two places that are reached, the further one is reached from the nearer. -/
theorem Rch.between {s : ByteArray} : ∀ d {i j n : Nat}, n - i = d → Rch s i j → Rch s i n → j ≤ n → Rch s j n := by
  intro d
  induction d using Nat.strongRecOn with
  | _ d ih =>
    intro i j n hd hj hn hle
    by_cases e : i = j
    · rw [← e]; exact hn
    · have l1 := hj.le
      have hp := wd_pos s i
      exact ih (n - (i + wd s i)) (by omega) rfl (hj.next (by omega)) (hn.next (by omega)) hle
theorem wd_ascii (s : ByteArray) (i : Nat) (hi : i < s.size) (h : bt s i < 128) : wd s i = 1 := by
  have hl := lenN_of_1 s i hi ((isF1 s i).2 h)
  unfold wd
  rw [hl]; rfl
theorem rowF_rch (s : ByteArray) (kind : Nat) : ∀ f q j c, Rch s q (rowF s kind f q j c).1
  | 0, q, j, c => Rch.refl s q
  | f + 1, q, j, c => by
    unfold rowF
    split
    · split
      · exact (rowF_rch s kind f (q + wd s q) _ c).step
      · split
        · exact (rowF_rch s kind f (q + wd s q) _ _).step
        · exact Rch.refl s q
    · exact Rch.refl s q
theorem fstC_rch (s : ByteArray) (i : Nat) (hi : i < s.size) : Rch s i (fstC s i).1 := by
  unfold fstC
  split
  · rename_i h
    obtain ⟨h1, h2, h3⟩ := of_decide_eq_true h
    have w1 := wd_ascii s i hi (by omega)
    have w2 := wd_ascii s (i + 1) h2 (by omega)
    refine Rch.step ?_
    rw [w1]
    refine Rch.step ?_
    rw [w2]
    exact Rch.refl _ _
  · split
    · exact Rch.step (Rch.refl _ _)
    · exact Rch.step (rowF_rch s _ _ _ _ _)

/- A text's head. -/
theorem hd_isF (s : ByteArray) (n i m : Nat) (hn : n ≤ s.size) (hm : i + m ≤ n) (h1 : 1 ≤ m) (h : isF s i m = true) : isF (s.extract 0 n) i m = true := by
  have hz := size_head s n hn
  match m, h, hm, h1 with
  | 1, h, hm, _ => rw [isF1] at h ⊢; rw [bt_head s n i hn (by omega)]; exact h
  | 2, h, hm, _ => rw [isF2] at h; rw [isF2, hz]; obtain ⟨a, b, c, d, e⟩ := h; rw [bt_head s n i hn (by omega), bt_head s n (i + 1) hn (by omega)]; exact ⟨a, b, by omega, d, e⟩
  | 3, h, hm, _ =>
    rw [isF3] at h; rw [isF3, hz]
    obtain ⟨a, b, c, d, e, f, g, j, k, l⟩ := h
    rw [bt_head s n i hn (by omega), bt_head s n (i + 1) hn (by omega), bt_head s n (i + 2) hn (by omega)]
    exact ⟨a, b, by omega, d, e, by omega, g, j, k, l⟩
  | 4, h, hm, _ =>
    rw [isF4] at h; rw [isF4, hz]
    obtain ⟨a, b, c, d, e, f, g, j, f2, g2, j2, k, l⟩ := h
    rw [bt_head s n i hn (by omega), bt_head s n (i + 1) hn (by omega), bt_head s n (i + 2) hn (by omega), bt_head s n (i + 3) hn (by omega)]
    exact ⟨a, b, by omega, d, e, by omega, g, j, by omega, g2, j2, k, l⟩
  | m + 5, h, _, _ => simp [isF] at h
theorem hd_len (s : ByteArray) (n i : Nat) (hn : n ≤ s.size) (hi : i < n) (hm : i + wd s i ≤ n) : lenN (s.extract 0 n) i = lenN s i := by
  have hz := size_head s n hn
  by_cases h0 : lenN s i = 0
  · by_cases h1 : lenN (s.extract 0 n) i = 0
    · rw [h0, h1]
    · exact ((head_form s n i hn hi h1).1).symm
  · have hw : wd s i = lenN s i := by unfold wd; rw [if_neg h0]
    rw [hw] at hm
    rcases five s i (by omega) with ⟨hF, hl, _⟩ | ⟨hF, hl, _⟩ | ⟨hF, hl, _⟩ | ⟨hF, hl, _⟩ | ⟨hl, _⟩
    · rw [hl] at hm ⊢; exact lenN_of_1 _ _ (by omega) (hd_isF s n i 1 hn hm (by omega) hF)
    · rw [hl] at hm ⊢; exact lenN_of_2 _ _ (hd_isF s n i 2 hn hm (by omega) hF)
    · rw [hl] at hm ⊢; exact lenN_of_3 _ _ (hd_isF s n i 3 hn hm (by omega) hF)
    · rw [hl] at hm ⊢; exact lenN_of_4 _ _ (hd_isF s n i 4 hn hm (by omega) hF)
    · exact absurd hl h0
theorem hd_wd (s : ByteArray) (n i : Nat) (hn : n ≤ s.size) (hi : i < n) (hm : i + wd s i ≤ n) : wd (s.extract 0 n) i = wd s i := by
  unfold wd; rw [hd_len s n i hn hi hm]
theorem hd_bk (s : ByteArray) (n i : Nat) (hn : n ≤ s.size) (hi : i < n) (hm : i + wd s i ≤ n) : bk (s.extract 0 n) i = bk s i := by
  unfold bk; rw [hd_len s n i hn hi hm]
theorem hd_rn (s : ByteArray) (n i : Nat) (hn : n ≤ s.size) (hi : i < n) (hm : i + wd s i ≤ n) : rn (s.extract 0 n) i = rn s i := by
  have hl := hd_len s n i hn hi hm
  by_cases h0 : lenN s i = 0
  · rw [show rn (s.extract 0 n) i = 65533 by unfold rn; rw [hl, if_pos h0], show rn s i = 65533 by unfold rn; rw [if_pos h0]]
  · exact ((head_form s n i hn hi (by rw [hl]; exact h0)).2).symm
theorem hd_kd (s : ByteArray) (n i : Nat) (hn : n ≤ s.size) (hi : i < n) (hm : i + wd s i ≤ n) : kdc (s.extract 0 n) i = kdc s i := by
  unfold kdc; rw [hd_bk s n i hn hi hm, hd_rn s n i hn hi hm]
theorem hd_col (s : ByteArray) (n i : Nat) (hn : n ≤ s.size) (hi : i < n) (hm : i + wd s i ≤ n) : colc (s.extract 0 n) i = colc s i := by
  unfold colc; rw [hd_kd s n i hn hi hm, hd_rn s n i hn hi hm]
theorem hd_row (s : ByteArray) (n : Nat) (hn : n ≤ s.size) (kind : Nat) : ∀ d q j c, n - q = d → Rch s q n → c ≤ 2 → (rowG s kind q j c).1 ≤ n → rowG (s.extract 0 n) kind q j c = rowG s kind q j c := by
  have hz := size_head s n hn
  intro d
  induction d using Nat.strongRecOn with
  | _ d ih =>
    intro q j c hd hr hc hle
    have hqn := hr.le
    by_cases hq : q < n
    · have hr2 := hr.next hq
      have hm := hr2.le
      have hp := wd_pos s q
      have hcc := colc_le s q
      rw [rowG_step s kind q j c (by omega)] at hle ⊢
      rw [rowG_step (s.extract 0 n) kind q j c (by omega), hd_kd s n q hn hq hm, hd_rn s n q hn hq hm, hd_wd s n q hn hq hm, hd_col s n q hn hq hm]
      split
      · rename_i h
        rw [if_pos h] at hle
        exact ih (n - (q + wd s q)) (by omega) _ _ _ rfl hr2 hc hle
      · rename_i h
        rw [if_neg h] at hle
        split
        · rename_i h
          rw [if_pos h] at hle
          exact ih (n - (q + wd s q)) (by omega) _ _ _ rfl hr2 (by omega) hle
        · rfl
    · have e : q = n := by omega
      subst e
      rw [rowG_end (s.extract 0 q) kind q j c (by omega)]
      by_cases hs : q < s.size
      · have hp := wd_pos s q
        have hf := wd_fits s q hs
        have hcc := colc_le s q
        rw [rowG_step s kind q j c hs] at hle ⊢
        split
        · rename_i h
          rw [if_pos h] at hle
          have := (rowG_bd s kind (q + wd s q) (rn s q == 8205) c hf hc).1
          omega
        · rename_i h
          rw [if_neg h] at hle
          split
          · rename_i h
            rw [if_pos h] at hle
            have := (rowG_bd s kind (q + wd s q) false (max c (colc s q)) hf (by omega)).1
            omega
          · rfl
      · rw [rowG_end s kind q j c (by omega)]
theorem hd_fst (s : ByteArray) (n i : Nat) (hn : n ≤ s.size) (hi : i < n) (hr : Rch s i n) (hle : (fstC s i).1 ≤ n) : fstC (s.extract 0 n) i = fstC s i := by
  have hz := size_head s n hn
  have hr2 := hr.next hi
  have hm := hr2.le
  have hp := wd_pos s i
  have hb := bt_head s n i hn hi
  have hcr : crlf (s.extract 0 n) i = crlf s i := by
    by_cases h : crlf s i = true
    · have h' := of_decide_eq_true h
      unfold fstC at hle
      rw [if_pos h] at hle
      simp only at hle
      rw [h]
      exact decide_eq_true ⟨by rw [hb]; exact h'.1, by omega, by rw [bt_head s n (i + 1) hn (by omega)]; exact h'.2.2⟩
    · rw [Bool.eq_false_iff.2 h]
      refine decide_eq_false fun h' => h (decide_eq_true ⟨by rw [← hb]; exact h'.1, by omega, ?_⟩)
      rw [← bt_head s n (i + 1) hn (by omega)]; exact h'.2.2
  unfold fstC at hle ⊢
  rw [hcr, hd_kd s n i hn hi hm, hd_wd s n i hn hi hm, hd_col s n i hn hi hm]
  split
  · rfl
  · rename_i h1
    rw [if_neg h1] at hle
    split
    · rfl
    · rename_i h2
      rw [if_neg h2] at hle
      exact hd_row s n hn _ _ _ _ _ rfl hr2 (colc_le s i) hle

/-- Where clusters from a place on end. -/
def enF : Nat → List Cel → Nat
  | i, [] => i
  | _, c :: l => enF c.2.1 l
theorem enF_snoc : ∀ (l : List Cel) (i : Nat) (x : Cel), enF i (l ++ [x]) = x.2.1
  | [], _, _ => rfl
  | c :: l, _, x => enF_snoc l c.2.1 x
theorem enF_endC (l : List Cel) : enF 0 l = endC l := by
  rcases List.eq_nil_or_concat l with rfl | ⟨q, x, e⟩
  · rfl
  · rw [List.concat_eq_append] at e
    subst e
    rw [endC_snoc, enF_snoc]
theorem cells_rch (s : ByteArray) : ∀ (pre r : List Cel) i, i ≤ s.size → cellsG s i = pre ++ r → Rch s i (enF i pre) ∧ enF i pre ≤ s.size ∧ r = cellsG s (enF i pre)
  | [], r, i, hi, h => ⟨Rch.refl s i, hi, h.symm⟩
  | c :: pre, r, i, hi, h => by
    by_cases hlt : i < s.size
    · have hb := fstC_bd s i hlt
      rw [cellsG_cons s i hlt] at h
      obtain ⟨rfl, g⟩ := List.cons.inj h
      have := cells_rch s pre r _ hb.2.1 g
      exact ⟨(fstC_rch s i hlt).trans this.1, this.2⟩
    · rw [cellsG_end s i (by omega)] at h; cases h
theorem cells_head (s : ByteArray) (n : Nat) : ∀ (pre r : List Cel) i, i ≤ s.size → cellsG s i = pre ++ r → enF i pre = n → cellsG (s.extract 0 n) i = pre
  | [], r, i, hi, h, e => by
    have e : i = n := e
    exact cellsG_end _ _ (by rw [size_head s n (by omega)]; omega)
  | c :: pre, r, i, hi, h, e => by
    have hr := cells_rch s (c :: pre) r i hi h
    by_cases hlt : i < s.size
    · have hb := fstC_bd s i hlt
      rw [cellsG_cons s i hlt] at h
      obtain ⟨rfl, g⟩ := List.cons.inj h
      have hr2 := cells_rch s pre r _ hb.2.1 g
      have he : enF (fstC s i).1 pre = n := e
      rw [he] at hr2
      rw [e] at hr
      have hle := hr2.1.le
      rw [cellsG_cons (s.extract 0 n) i (by rw [size_head s n hr.2.1]; omega), hd_fst s n i hr.2.1 (by omega) hr.1 hle, cells_head s n pre r _ hb.2.1 g he]
    · rw [cellsG_end s i (by omega)] at h; cases h
/-- The clusters of what is cut off ahead. -/
theorem cellsL_head (s : ByteArray) (pre : List Cel) (h : pre <+: cellsL s) : cellsL (s.extract 0 (endC pre)) = pre := by
  obtain ⟨r, hr⟩ := h
  exact cells_head s _ pre r 0 (Nat.zero_le _) hr.symm (enF_endC pre)

/- A text's tail. -/
theorem tl_kd (s : ByteArray) (n j : Nat) : kdc (s.extract n s.size) j = kdc s (n + j) := by unfold kdc; rw [tl_bk, tl_rn]
theorem tl_col (s : ByteArray) (n j : Nat) : colc (s.extract n s.size) j = colc s (n + j) := by unfold colc; rw [tl_kd, tl_rn]
theorem tl_row (s : ByteArray) (n kind : Nat) (hn : n ≤ s.size) : ∀ d q j c, s.size - (n + q) = d → n + q ≤ s.size → n + (rowG (s.extract n s.size) kind q j c).1 = (rowG s kind (n + q) j c).1 ∧ (rowG (s.extract n s.size) kind q j c).2 = (rowG s kind (n + q) j c).2 := by
  have hz := tl_size s n
  intro d
  induction d using Nat.strongRecOn with
  | _ d ih =>
    intro q j c hd hle
    by_cases hq : n + q < s.size
    · have hp := wd_pos s (n + q)
      have hf := wd_fits s (n + q) hq
      rw [rowG_step s kind (n + q) j c hq, rowG_step (s.extract n s.size) kind q j c (by omega), tl_kd, tl_rn, tl_wd, tl_col]
      split
      · have := ih (s.size - (n + (q + wd s (n + q)))) (by omega) (q + wd s (n + q)) (rn s (n + q) == 8205) c rfl (by omega)
        rw [show n + (q + wd s (n + q)) = n + q + wd s (n + q) by omega] at this
        exact this
      · split
        · have := ih (s.size - (n + (q + wd s (n + q)))) (by omega) (q + wd s (n + q)) false (max c (colc s (n + q))) rfl (by omega)
          rw [show n + (q + wd s (n + q)) = n + q + wd s (n + q) by omega] at this
          exact this
        · exact ⟨rfl, rfl⟩
    · rw [rowG_end s kind (n + q) j c (by omega), rowG_end (s.extract n s.size) kind q j c (by omega)]
      exact ⟨rfl, rfl⟩
theorem tl_crlf (s : ByteArray) (n i : Nat) (hn : n ≤ s.size) : crlf (s.extract n s.size) i = crlf s (n + i) := by
  unfold crlf
  rw [tl_bt, tl_bt, tl_size, show n + (i + 1) = n + i + 1 by omega]
  congr 1
  apply propext
  constructor
  · rintro ⟨a, b, c⟩; exact ⟨a, by omega, c⟩
  · rintro ⟨a, b, c⟩; exact ⟨a, by omega, c⟩
theorem tl_fst (s : ByteArray) (n i : Nat) (hn : n + i < s.size) : n + (fstC (s.extract n s.size) i).1 = (fstC s (n + i)).1 ∧ (fstC (s.extract n s.size) i).2 = (fstC s (n + i)).2 := by
  unfold fstC
  rw [tl_crlf s n i (by omega), tl_kd, tl_wd, tl_col]
  split
  · exact ⟨by simp only; omega, rfl⟩
  · split
    · exact ⟨by simp only; omega, rfl⟩
    · have := tl_row s n (kdc s (n + i)) (by omega) _ (i + wd s (n + i)) false (colc s (n + i)) rfl (by have := wd_fits s (n + i) hn; omega)
      rw [show n + (i + wd s (n + i)) = n + i + wd s (n + i) by omega] at this
      exact this
def upC (n : Nat) (c : Cel) : Cel := (n + c.1, n + c.2.1, c.2.2)
theorem tl_cells (s : ByteArray) (n : Nat) (hn : n ≤ s.size) : ∀ d i, s.size - (n + i) = d → (cellsG (s.extract n s.size) i).map (upC n) = cellsG s (n + i) := by
  have hz := tl_size s n
  intro d
  induction d using Nat.strongRecOn with
  | _ d ih =>
    intro i hd
    by_cases h : n + i < s.size
    · obtain ⟨t1, t2⟩ := tl_fst s n i h
      have hb := fstC_bd s (n + i) h
      rw [cellsG_cons (s.extract n s.size) i (by omega), cellsG_cons s (n + i) h, List.map_cons, ih (s.size - (n + (fstC (s.extract n s.size) i).1)) (by omega) _ rfl, t1]
      congr 1
      unfold upC
      simp only [t1, t2]
    · rw [cellsG_end s (n + i) (by omega), cellsG_end (s.extract n s.size) i (by omega)]
      rfl
/-- The clusters of what is left. -/
theorem cellsL_tail (s : ByteArray) (pre r : List Cel) (h : cellsL s = pre ++ r) : (cellsL (s.extract (endC pre) s.size)).map (upC (endC pre)) = r := by
  have := cells_rch s pre r 0 (Nat.zero_le _) h
  rw [enF_endC] at this
  rw [this.2.2]
  exact tl_cells s _ this.2.1 _ 0 rfl
end Go.Proofs.Ytnbhdgbhmcbeoaa
