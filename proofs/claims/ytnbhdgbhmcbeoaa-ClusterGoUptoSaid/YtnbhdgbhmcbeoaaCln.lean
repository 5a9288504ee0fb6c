/- Layer 5: a cluster's own text; places within clusters: plain mathematics. -/
import Derived.Test.YtnbhdgbhmcbeoaaCle
namespace Go.Proofs.Ytnbhdgbhmcbeoaa
set_option linter.unusedVariables false
open Go
set_option maxRecDepth 100000

theorem ends_le (s : ByteArray) : ∀ (n : Nat) (pre : List Cel), pre.length = n → pre <+: cellsL s → ∀ c ∈ pre, c.2.1 ≤ endC pre
  | 0, pre, hl, _, c, hc => by rw [List.length_eq_zero_iff.1 hl] at hc; cases hc
  | n + 1, pre, hl, h, c, hc => by
    rcases List.eq_nil_or_concat pre with rfl | ⟨q, x, e⟩
    · cases hc
    · rw [List.concat_eq_append] at e
      subst e
      obtain ⟨d1, d2, d3, d4, d5, d6, d7⟩ := due_cell h
      rw [endC_snoc]
      rcases List.mem_append.1 hc with hc | hc
      · have := ends_le s n q (by simpa using hl) d6 c hc
        omega
      · rw [List.mem_singleton.1 hc]; exact Nat.le_refl _
theorem at_own {s : ByteArray} {pre : List Cel} {x : Cel} (h : pre ++ [x] <+: cellsL s) {i : Nat} (h1 : x.1 ≤ i) (h2 : i < x.2.1) : atF s (i : Int) = some x := by
  obtain ⟨d1, d2, d3, d4, d5, d6, d7⟩ := due_cell h
  unfold atF
  rw [if_neg (by omega)]
  refine find_first h (fun c hc => decide_eq_false ?_) (decide_eq_true (by omega))
  have := ends_le s _ _ rfl d6 c hc
  omega
theorem ed_own {s : ByteArray} {pre : List Cel} {x : Cel} (h : pre ++ [x] <+: cellsL s) {i : Nat} (h1 : x.1 ≤ i) (h2 : i < x.2.1) : edF s (i : Int) = ((i : Int) == (x.1 : Int)) := by
  have hd := due_cell h
  unfold edF
  rw [at_own h h1 h2, decide_eq_false (show ¬ (i : Int) = (s.size : Int) by omega), Bool.false_or]
  by_cases e : (x.1 : Int) = (i : Int)
  · simp [e]
  · simp [e, Ne.symm e]
theorem ed_end (s : ByteArray) : edF s (s.size : Int) = true := by unfold edF; simp
/-- A cluster alone. -/
theorem own_cells {s : ByteArray} {pre : List Cel} {x : Cel} (h : pre ++ [x] <+: cellsL s) : cellsL (s.extract x.1 x.2.1) = [(0, x.2.1 - x.1, x.2.2)] := by
  have hd := due_cell h
  have hh := cellsL_head s (pre ++ [x]) h
  have ht := cellsL_tail (s.extract 0 (endC (pre ++ [x]))) pre [x] hh
  rw [endC_snoc] at hh ht
  have hz := size_head s x.2.1 hd.2.2.1
  have he : (s.extract 0 x.2.1).extract (endC pre) (s.extract 0 x.2.1).size = s.extract x.1 x.2.1 := by
    rw [hz, ByteArray.extract_extract, hd.1]
    congr 1
    · omega
    · omega
  rw [he] at ht
  obtain ⟨y, hy⟩ : ∃ y, cellsL (s.extract x.1 x.2.1) = [y] := by
    have hl := congrArg List.length ht
    rw [List.length_map] at hl
    exact List.length_eq_one_iff.1 hl
  rw [hy] at ht ⊢
  have ht : upC (endC pre) y = x := by simpa using ht
  have h1 := congrArg (·.1) ht
  have h2 := congrArg (·.2.1) ht
  have h3 := congrArg (·.2.2) ht
  simp only [upC] at h1 h2 h3
  rw [hd.1]
  obtain ⟨a, b, c⟩ := y
  simp only at h1 h2 h3
  have e1 : a = 0 := by omega
  have e2 : b = x.2.1 - endC pre := by omega
  rw [e1, e2, h3]
theorem cut_rch {s : ByteArray} {pre : List Cel} {x : Cel} (h : pre ++ [x] <+: cellsL s) : Rch s 0 x.1 := by
  have hd := due_cell h
  obtain ⟨r, hr⟩ := hd.2.2.2.2.2.1
  have := (cells_rch s pre r 0 (Nat.zero_le _) hr.symm).1
  rw [enF_endC, ← hd.1] at this
  exact this
theorem rch_pos (s : ByteArray) : ∀ (k i : Nat), stepN s k i < s.size → stepN s k i ∈ posG s i
  | 0, i, h => by
    have h : i < s.size := h
    rw [posG_cons s i h]; exact List.mem_cons_self ..
  | k + 1, i, h => by
    have hle := stepN_le s k (i + wd s i)
    have h : stepN s k (i + wd s i) < s.size := h
    have hp := wd_pos s i
    rw [posG_cons s i (by omega)]
    exact List.mem_cons_of_mem _ (rch_pos s k (i + wd s i) h)
theorem cut_pos {s : ByteArray} {pre : List Cel} {x : Cel} (h : pre ++ [x] <+: cellsL s) : x.1 ∈ posG s 0 := by
  have hd := due_cell h
  obtain ⟨k, hk⟩ := cut_rch h
  have := rch_pos s k 0 (by rw [hk]; omega)
  rw [hk] at this; exact this
end Go.Proofs.Ytnbhdgbhmcbeoaa
