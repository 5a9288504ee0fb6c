/- PlaceCut: of a text that is too long. -/
import Derived.Test.YtjlfdoonhfkabaaQk
namespace Go.Proofs.Ytjlfdoonhfkabaa
set_option linter.unusedVariables false
set_option linter.unusedSimpArgs false
open Go Go.RowKit Go.Shelf
set_option maxRecDepth 100000

set_option maxHeartbeats 1000000 in
theorem cut_long (s : ByteArray) (hs : 65536 < s.size) (k : Int) (w : World) : Calls Try.prog 11 #[.string s, .int .i64 k] w fun e w' => e = .returned (.bool true) ∧ Below w.heap.size w w' := by
  have hsi : (65536 : Int) < (s.size : Int) := by omega
  have hsd : decide ((65536 : Int) < (s.size : Int)) = true := decide_eq_true hsi
  have b0 := Blk.new w #[.bool false] 4
  have bB : Below w.heap.size w (w.alloc (.cells #[.bool false] 4)) := (Below.refl _ w).alloc (Nat.le_refl _) _
  go_enter Try.func11, Try.ntmps11
  go_wp2_with fail
  refine (works_any _).mono ?_
  rintro e w1 ⟨rfl, hb1⟩
  have b1 := b0.below' hb1
  have hB1 := bB.trans (hb1.mono bB.size)
  go_wp2_with fail
  refine (new_long s hs _).mono ?_
  rintro e w2 ⟨rfl, rfl⟩
  have b2 := b1.alloc (.cells #[.pointer none] 23)
  have hB2 := hB1.alloc hB1.size (.cells #[.pointer none] 23)
  go_wp2_with fail
  refine (works_any _).mono ?_
  rintro e w3 ⟨rfl, hb3⟩
  have b3 := b2.below' hb3
  have hB3 := hB2.trans (hb3.mono hB2.size)
  have c1 := b3.cell
  have c2 := b3.frozen
  have c3 := b3.lt
  go_wp2
  refine bodyPost_ret (v := .bool true) (by simp [results, Try.f11, go_sem, c1, c3]) rfl ⟨rfl, hB3.setCell (p := ⟨_, 0, none⟩) (by dsimp only; omega) _⟩
end Go.Proofs.Ytjlfdoonhfkabaa
