/- Stage 16: Read, the document's. -/
import Derived.Test.YtdcmkiggnmajgaaV2
namespace Go.Proofs.Ytdcmkiggnmajgaa
set_option linter.unusedVariables false
set_option linter.unusedSimpArgs false
open Go Go.RowKit Go.Shelf
set_option maxRecDepth 100000

/-- The letters, in the order of their classes. -/
abbrev LETS : ByteArray := ⟨#[97, 98, 99, 100, 101, 102, 103, 104, 105, 106, 107, 108, 109, 110, 111, 112, 113, 114, 115, 116, 117, 118, 119, 121, 122]⟩
def look (st0 : Int) (sm : Nat) : Nat → Int
  | 0 => st0
  | k + 1 => if bt LETS k = sm then (k : Int) else look st0 sm k
def c0 (c : Nat) : Int := if c = 120 then -1 else -2
theorem look_all : ((List.range 256).all fun c => decide (look (c0 c) (low c) 25 = if isLet c then clsL (low c) else -2)) = true := by kernel_rfl
theorem look_eq {c : Nat} (h : c < 256) : look (c0 c) (low c) 25 = if isLet c then clsL (low c) else -2 := by
  have := List.all_eq_true.1 look_all c (List.mem_range.2 h)
  simpa using this
theorem clsL_range {c : Nat} (h : isLet c = true) : -1 ≤ clsL (low c) ∧ clsL (low c) < 25 := by
  unfold isLet at h
  unfold low clsL
  simp at h
  split <;> split <;> (try split) <;> omega

theorem wrong_any (e p : Int) (w : World) : Calls Try.prog 66 #[.int .i64 e, .int .i64 p] w fun r w' => r = .returned (.tuple #[.agg #[.slice none 0 0, .slice none 0 0], .agg #[.int .i64 e, .int .i64 p]]) ∧ Below w.heap.size w w' := by
  go_enter Try.func66, Try.ntmps66
  go_wp2
  exact bodyPost_ret (v := .tuple #[.agg #[.slice none 0 0, .slice none 0 0], .agg #[.int .i64 e, .int .i64 p]]) (by simp [results, Try.f66, go_sem]) rfl ⟨rfl, ((Below.refl _ w).alloc (Nat.le_refl _) _).alloc (by simp) _⟩
end Go.Proofs.Ytdcmkiggnmajgaa
