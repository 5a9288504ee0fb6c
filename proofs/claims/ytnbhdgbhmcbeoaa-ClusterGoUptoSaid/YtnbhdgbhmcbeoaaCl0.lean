/- Layer 5: clusters of a text, as the document has them: plain mathematics. -/
import Derived.Test.YtnbhdgbhmcbeoaaPc
import Derived.Test.YtnbhdgbhmcbeoaaCz
namespace Go.Proofs.Ytnbhdgbhmcbeoaa
set_option linter.unusedVariables false
open Go
set_option maxRecDepth 100000

/-- The kind of the piece at a place. -/
def kdc (s : ByteArray) (i : Nat) : Nat := if bk s i then 11 else (kindZ (rn s i)).toNat
/-- Do letters of a rune take two columns? -/
def wideZ (r : Int) : Bool :=
  decide ((4352 ≤ r ∧ r ≤ 4447) ∨ (11904 ≤ r ∧ r ≤ 12350) ∨ (12353 ≤ r ∧ r ≤ 19903) ∨ (19968 ≤ r ∧ r ≤ 42191) ∨ (44032 ≤ r ∧ r ≤ 55203) ∨ (63744 ≤ r ∧ r ≤ 64255) ∨ (65072 ≤ r ∧ r ≤ 65135) ∨ (65280 ≤ r ∧ r ≤ 65376) ∨ (65504 ≤ r ∧ r ≤ 65510) ∨ (127744 ≤ r ∧ r ≤ 128591) ∨ (129280 ≤ r ∧ r ≤ 129535) ∨ (131072 ≤ r ∧ r ≤ 262141))
/-- The columns of a piece of a kind. -/
def colZ (k : Nat) (r : Int) : Nat := if k = 11 then 1 else if k = 2 ∨ k = 4 ∨ k = 9 then 0 else if wideZ r then 2 else 1
def colc (s : ByteArray) (i : Nat) : Nat := colZ (kdc s i) (rn s i)
/-- From a place on: where a cluster of a kind ends, and its columns. -/
def rowF (s : ByteArray) (kind : Nat) : Nat → Nat → Bool → Nat → Nat × Nat
  | 0, q, _, c => (q, c)
  | f + 1, q, j, c =>
    if q < s.size then
      if kdc s q = 2 ∨ rn s q = 8205 then rowF s kind f (q + wd s q) (rn s q == 8205) c
      else if j = true ∧ kind = 10 ∧ kdc s q = 10 then rowF s kind f (q + wd s q) false (max c (colc s q))
      else (q, c)
    else (q, c)
def rowG (s : ByteArray) (kind q : Nat) (j : Bool) (c : Nat) : Nat × Nat := rowF s kind (s.size - q) q j c
def crlf (s : ByteArray) (i : Nat) : Bool := decide (bt s i = 13 ∧ i + 1 < s.size ∧ bt s (i + 1) = 10)
/-- Where the cluster that begins at a place ends, and its columns. -/
def fstC (s : ByteArray) (i : Nat) : Nat × Nat :=
  if crlf s i then (i + 2, 0)
  else if kdc s i = 11 ∨ kdc s i = 4 ∨ kdc s i = 9 then (i + wd s i, colc s i)
  else rowG s (kdc s i) (i + wd s i) false (colc s i)
abbrev Cel := Nat × Nat × Nat
def cellsF (s : ByteArray) : Nat → Nat → List Cel
  | 0, _ => []
  | f + 1, i => if i < s.size then (i, (fstC s i).1, (fstC s i).2) :: cellsF s f (fstC s i).1 else []
def cellsG (s : ByteArray) (i : Nat) : List Cel := cellsF s (s.size - i) i
def cellsL (s : ByteArray) : List Cel := cellsG s 0

theorem colZ_le (k : Nat) (r : Int) : colZ k r ≤ 2 := by unfold colZ; (repeat' split) <;> omega
theorem colc_le (s : ByteArray) (i : Nat) : colc s i ≤ 2 := colZ_le _ _
theorem rowF_bd (s : ByteArray) (kind : Nat) : ∀ f q j c, q ≤ s.size → c ≤ 2 → q ≤ (rowF s kind f q j c).1 ∧ (rowF s kind f q j c).1 ≤ s.size ∧ (rowF s kind f q j c).2 ≤ 2
  | 0, q, j, c, h, hc => ⟨Nat.le_refl _, h, hc⟩
  | f + 1, q, j, c, h, hc => by
    unfold rowF
    by_cases hq : q < s.size
    · rw [if_pos hq]
      have hw := wd_fits s q hq
      have hp := wd_pos s q
      have hcc := colc_le s q
      split
      · have := rowF_bd s kind f (q + wd s q) (rn s q == 8205) c hw hc
        exact ⟨by omega, this.2⟩
      · split
        · have := rowF_bd s kind f (q + wd s q) false (max c (colc s q)) hw (by omega)
          exact ⟨by omega, this.2⟩
        · exact ⟨Nat.le_refl _, h, hc⟩
    · rw [if_neg hq]; exact ⟨Nat.le_refl _, h, hc⟩
theorem rowF_fuel (s : ByteArray) (kind : Nat) : ∀ f g q j c, s.size ≤ q + f → s.size ≤ q + g → rowF s kind f q j c = rowF s kind g q j c
  | 0, 0, q, j, c, _, _ => rfl
  | 0, g + 1, q, j, c, h, _ => by unfold rowF; rw [if_neg (by omega)]
  | f + 1, 0, q, j, c, _, h => by unfold rowF; rw [if_neg (by omega)]
  | f + 1, g + 1, q, j, c, h, h' => by
    unfold rowF
    have hp := wd_pos s q
    rw [rowF_fuel s kind f g (q + wd s q) (rn s q == 8205) c (by omega) (by omega), rowF_fuel s kind f g (q + wd s q) false (max c (colc s q)) (by omega) (by omega)]
theorem rowG_end (s : ByteArray) (kind q : Nat) (j : Bool) (c : Nat) (h : s.size ≤ q) : rowG s kind q j c = (q, c) := by
  unfold rowG; rw [show s.size - q = 0 by omega]; rfl
theorem rowG_step (s : ByteArray) (kind q : Nat) (j : Bool) (c : Nat) (h : q < s.size) :
    rowG s kind q j c = if kdc s q = 2 ∨ rn s q = 8205 then rowG s kind (q + wd s q) (rn s q == 8205) c
      else if j = true ∧ kind = 10 ∧ kdc s q = 10 then rowG s kind (q + wd s q) false (max c (colc s q)) else (q, c) := by
  have hp := wd_pos s q
  unfold rowG
  obtain ⟨f, hf⟩ : ∃ f, s.size - q = f + 1 := ⟨s.size - q - 1, by omega⟩
  rw [hf]
  conv => lhs; unfold rowF
  rw [if_pos h, rowF_fuel s kind f (s.size - (q + wd s q)) (q + wd s q) (rn s q == 8205) c (by omega) (by omega), rowF_fuel s kind f (s.size - (q + wd s q)) (q + wd s q) false (max c (colc s q)) (by omega) (by omega)]
theorem rowG_bd (s : ByteArray) (kind q : Nat) (j : Bool) (c : Nat) (h : q ≤ s.size) (hc : c ≤ 2) : q ≤ (rowG s kind q j c).1 ∧ (rowG s kind q j c).1 ≤ s.size ∧ (rowG s kind q j c).2 ≤ 2 := rowF_bd s kind _ q j c h hc
theorem fstC_bd (s : ByteArray) (i : Nat) (h : i < s.size) : i < (fstC s i).1 ∧ (fstC s i).1 ≤ s.size ∧ (fstC s i).2 ≤ 2 := by
  have hw := wd_fits s i h
  have hp := wd_pos s i
  have hc := colc_le s i
  unfold fstC
  split
  · rename_i hcr
    have := of_decide_eq_true hcr
    exact ⟨by simp, by simp; omega, by simp⟩
  · split
    · exact ⟨by simp only; omega, hw, hc⟩
    · have := rowG_bd s (kdc s i) (i + wd s i) false (colc s i) hw hc
      exact ⟨by omega, this.2⟩
theorem cellsF_fuel (s : ByteArray) : ∀ f g i, s.size ≤ i + f → s.size ≤ i + g → cellsF s f i = cellsF s g i
  | 0, 0, i, _, _ => rfl
  | 0, g + 1, i, h, _ => by unfold cellsF; rw [if_neg (by omega)]
  | f + 1, 0, i, _, h => by unfold cellsF; rw [if_neg (by omega)]
  | f + 1, g + 1, i, h, h' => by
    unfold cellsF
    by_cases hi : i < s.size
    · rw [if_pos hi, if_pos hi]
      have := (fstC_bd s i hi).1
      rw [cellsF_fuel s f g (fstC s i).1 (by omega) (by omega)]
    · rw [if_neg hi, if_neg hi]
theorem cellsG_end (s : ByteArray) (i : Nat) (h : s.size ≤ i) : cellsG s i = [] := by
  unfold cellsG; rw [show s.size - i = 0 by omega]; rfl
theorem cellsG_cons (s : ByteArray) (i : Nat) (h : i < s.size) : cellsG s i = (i, (fstC s i).1, (fstC s i).2) :: cellsG s (fstC s i).1 := by
  have hb := (fstC_bd s i h).1
  unfold cellsG
  obtain ⟨f, hf⟩ : ∃ f, s.size - i = f + 1 := ⟨s.size - i - 1, by omega⟩
  rw [hf]
  conv => lhs; unfold cellsF
  rw [if_pos h, cellsF_fuel s f (s.size - (fstC s i).1) (fstC s i).1 (by omega) (by omega)]
theorem cellsG_len (s : ByteArray) : ∀ d i, s.size - i = d → (cellsG s i).length ≤ s.size - i := by
  intro d
  induction d using Nat.strongRecOn with
  | _ d ih =>
    intro i hd
    by_cases h : i < s.size
    · have hb := (fstC_bd s i h).1
      rw [cellsG_cons s i h, List.length_cons]
      have := ih (s.size - (fstC s i).1) (by omega) (fstC s i).1 rfl
      omega
    · rw [cellsG_end s i (by omega)]; simp
theorem cellsL_len (s : ByteArray) : (cellsL s).length ≤ s.size := cellsG_len s _ 0 rfl
theorem cellsG_mem (s : ByteArray) : ∀ d i, s.size - i = d → ∀ c ∈ cellsG s i, i ≤ c.1 ∧ c.1 < c.2.1 ∧ c.2.1 ≤ s.size ∧ c.2.2 ≤ 2 ∧ (c.2.1, c.2.2) = fstC s c.1 := by
  intro d
  induction d using Nat.strongRecOn with
  | _ d ih =>
    intro i hd c hc
    by_cases h : i < s.size
    · have hb := fstC_bd s i h
      rw [cellsG_cons s i h] at hc
      rcases List.mem_cons.1 hc with rfl | hc
      · exact ⟨Nat.le_refl _, hb.1, hb.2.1, hb.2.2, rfl⟩
      · have := ih (s.size - (fstC s i).1) (by omega) (fstC s i).1 rfl c hc
        exact ⟨by omega, this.2⟩
    · rw [cellsG_end s i (by omega)] at hc; cases hc
/-- What stands behind a cluster in the list. -/
theorem cellsG_tail (s : ByteArray) : ∀ d i, s.size - i = d → ∀ a c b, cellsG s i = a ++ c :: b → b = cellsG s c.2.1 := by
  intro d
  induction d using Nat.strongRecOn with
  | _ d ih =>
    intro i hd a c b hc
    by_cases h : i < s.size
    · have hb := fstC_bd s i h
      rw [cellsG_cons s i h] at hc
      cases a with
      | nil => obtain ⟨rfl, rfl⟩ := List.cons.inj hc; rfl
      | cons x a => exact ih (s.size - (fstC s i).1) (by omega) (fstC s i).1 rfl a c b (List.cons.inj hc).2
    · rw [cellsG_end s i (by omega)] at hc; cases a <;> cases hc
/-- Where the clusters so far end. -/
def endC (pre : List Cel) : Nat := match pre.getLast? with | some x => x.2.1 | none => 0
theorem endC_snoc (pre : List Cel) (x : Cel) : endC (pre ++ [x]) = x.2.1 := by simp [endC]
theorem endC_nil : endC [] = 0 := rfl
theorem endC_rest (s : ByteArray) (pre r : List Cel) (h : cellsL s = pre ++ r) : r = cellsG s (endC pre) := by
  rcases List.eq_nil_or_concat pre with rfl | ⟨q, x, e⟩
  · rw [endC_nil]; exact (by simpa using h.symm : r = cellsL s)
  · rw [List.concat_eq_append] at e
    subst e
    rw [endC_snoc]
    exact cellsG_tail s _ 0 rfl q x r (by rw [← show cellsL s = cellsG s 0 from rfl, h]; simp)
theorem endC_le (s : ByteArray) (pre r : List Cel) (h : cellsL s = pre ++ r) : endC pre ≤ s.size := by
  rcases List.eq_nil_or_concat pre with rfl | ⟨q, x, e⟩
  · rw [endC_nil]; omega
  · rw [List.concat_eq_append] at e
    subst e
    rw [endC_snoc]
    exact (cellsG_mem s _ 0 rfl x (by rw [← show cellsL s = cellsG s 0 from rfl, h]; simp)).2.2.1
end Go.Proofs.Ytnbhdgbhmcbeoaa
