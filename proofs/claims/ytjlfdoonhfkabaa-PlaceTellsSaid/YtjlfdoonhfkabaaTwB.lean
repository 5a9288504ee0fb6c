/- PlaceTells: the law's call, of any text. -/
import Derived.Test.YtjlfdoonhfkabaaTw
namespace Go.Proofs.Ytjlfdoonhfkabaa
set_option linter.unusedVariables false
set_option linter.unusedSimpArgs false
open Go Go.RowKit Go.Shelf
set_option maxRecDepth 100000

set_option maxHeartbeats 4000000 in
theorem tells_long (s : ByteArray) (hs : 65536 < s.size) (x0 x1 x2 x3 x4 : Int) (w : World) : Calls Try.prog 4 #[.string s, .agg #[.int .i64 x0, .int .i64 x1, .int .i64 x2, .int .i64 x3, .int .i64 x4]] w fun e w' => e = .returned (.bool true) ∧ Below w.heap.size w w' := by
  have hsi : (65536 : Int) < (s.size : Int) := by omega
  have hsd : decide ((65536 : Int) < (s.size : Int)) = true := decide_eq_true hsi
  have b1 := Blk.new (w.alloc (.cells #[.int .i64 x0, .int .i64 x1, .int .i64 x2, .int .i64 x3, .int .i64 x4] 50)) #[.bool false] 4
  have bB : Below w.heap.size w ((w.alloc (.cells #[.int .i64 x0, .int .i64 x1, .int .i64 x2, .int .i64 x3, .int .i64 x4] 50)).alloc (.cells #[.bool false] 4)) := ((Below.refl _ w).alloc (Nat.le_refl _) _).alloc (by simp) _
  simp only [World.size_alloc] at b1
  go_enter Try.func4, Try.ntmps4
  go_wp2_with fail
  refine (works_any _).mono ?_
  rintro e w1 ⟨rfl, hb1⟩
  have c1 := b1.below' hb1
  have hB1 := bB.trans (hb1.mono bB.size)
  go_wp2_with fail
  refine (new_long s hs _).mono ?_
  rintro e w2 ⟨rfl, rfl⟩
  go_wp2_with fail
  refine (works_any _).mono ?_
  rintro e w3 ⟨rfl, hb3⟩
  have b3 := c1.below' hb3
  have hB3 := hB1.trans (hb3.mono hB1.size)
  have e1 := b3.cell
  have e2 := b3.frozen
  have e3 := b3.lt
  go_wp2
  refine bodyPost_ret (v := .bool true) (by simp [results, Try.f4, go_sem, e1, e3]) rfl ⟨rfl, hB3.setCell (p := ⟨_, 0, none⟩) (by dsimp only; omega) _⟩

theorem tells_law (s : ByteArray) (x0 x1 x2 x3 x4 : Int) (hx4 : x4 < 9223372036854775808) (w : World) : Calls Try.prog 4 #[.string s, .agg #[.int .i64 x0, .int .i64 x1, .int .i64 x2, .int .i64 x3, .int .i64 x4]] w fun e w' => e = .returned (.bool true) ∧ Below w.heap.size w w' := by
  rcases Nat.lt_or_ge 65536 s.size with h | h
  · exact tells_long s h x0 x1 x2 x3 x4 w
  · exact callsIn_wide.1 (tells_short s h x0 x1 x2 x3 x4 hx4 w)
end Go.Proofs.Ytjlfdoonhfkabaa
