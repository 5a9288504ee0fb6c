/- Stage 16: Count. -/
import Derived.Test.YtdcmkiggnmajgaaV5
namespace Go.Proofs.Ytdcmkiggnmajgaa
set_option linter.unusedVariables false
set_option linter.unusedSimpArgs false
open Go Go.RowKit Go.Shelf
set_option maxRecDepth 100000

theorem idx_counts (cur : Array Value) (n : Nat) (hn : n < 26) (W : World) : (Instr.index 97 (.agg cur) (.int .i64 n)).run Try.prog W = .ok (.agg (cur.extract (n * 26) (n * 26 + 26))) W := by
  have h1 : (0 : Int) ≤ n ∧ (n : Int) < 26 := by omega
  simp [Instr.index, asIntOf, run_underlying Try.underlying97, h1, part, Try.isAgg95, Try.sizeOf95]
  intro h; omega
theorem idx_row (cur : Array Value) (v : Value) (h : cur[0]? = some v) (W : World) : (Instr.index 95 (.agg cur) (.int .i64 0)).run Try.prog W = .ok v W := by
  simp [Instr.index, asIntOf, run_underlying Try.underlying95, part, Try.isAgg3, Try.sizeOf3, h]

theorem count_any (n T : Nat) (hn : n ≤ 25) (hT : Hid (tT n 0 = T)) (w : World) : Calls Try.prog 44 #[.int .i64 n] w fun e w' => e = .returned (.tuple #[.int .i64 (T : Nat), .int .i64 0]) ∧ Below w.heap.size w w' := by
  have d1 : decide ((n : Int) < 0) = false := decide_eq_false (by omega)
  have d2 : decide ((25 : Int) < (n : Int)) = false := decide_eq_false (by omega)
  have d3 : decide (25 < n) = false := decide_eq_false (by omega)
  go_enter Try.func44, Try.ntmps44
  go_wp2_with (fail)
  refine (reckon_any _).mono ?_
  rintro e w' ⟨cur, rfl, hz, hc, hB⟩
  have i0 := idx_counts cur n (by omega)
  have i1 := idx_row (cur.extract (n * 26) (n * 26 + 26)) (.int .i64 (T : Nat)) (by
    have := hc n 0 (by omega)
    rw [hT.out] at this
    rw [Array.getElem?_extract_of_lt (by omega), ← Array.getElem?_eq_getElem]; exact this)
  obtain ⟨ex, hex⟩ : ∃ ex, cur.extract (n * 26) (n * 26 + 26) = ex := ⟨_, rfl⟩
  rw [hex] at i0 i1
  clear hex hc hz
  go_wp2
  go_ret2
  exact ⟨rfl, hB⟩
theorem count_15 : tT 4 0 = 15 := by decide
end Go.Proofs.Ytdcmkiggnmajgaa
