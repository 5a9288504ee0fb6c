/- PlaceGo: the law's call, of any text. -/
import Derived.Test.YtjlfdoonhfkabaaLawPgo
namespace Go.Proofs.Ytjlfdoonhfkabaa
set_option linter.unusedVariables false
set_option linter.unusedSimpArgs false
open Go Go.RowKit Go.Shelf
set_option maxRecDepth 100000

set_option maxHeartbeats 2000000 in
theorem pgo_long (s : ByteArray) (hs : 65536 < s.size) (w : World) : Calls Try.prog 8 #[.string s] w fun e w' => e = .returned (.bool true) ∧ Below w.heap.size w w' := by
  have hsi : (65536 : Int) < (s.size : Int) := by omega
  have hsd : decide ((65536 : Int) < (s.size : Int)) = true := decide_eq_true hsi
  have b0 := (Blk.new w #[.string s] 9).alloc (.cells #[.bool false] 4)
  have b1 := Blk.new (w.alloc (.cells #[.string s] 9)) #[.bool false] 4
  have bB : Below w.heap.size w ((w.alloc (.cells #[.string s] 9)).alloc (.cells #[.bool false] 4)) := ((Below.refl _ w).alloc (Nat.le_refl _) _).alloc (by simp) _
  simp only [World.size_alloc] at b1
  go_enter Try.func8, Try.ntmps8
  go_wp2_with fail
  refine (works_any _).mono ?_
  rintro e w1 ⟨rfl, hb1⟩
  have c0 := b0.below' hb1
  have c1 := b1.below' hb1
  have hB1 := bB.trans (hb1.mono bB.size)
  have c0c := c0.cell
  go_wp2_with fail
  refine (new_long s hs _).mono ?_
  rintro e w2 ⟨rfl, rfl⟩
  go_wp2_with fail
  refine (works_any _).mono ?_
  rintro e w3 ⟨rfl, hb3⟩
  have b3 := c1.below' hb3
  have hB3 := hB1.trans (hb3.mono hB1.size)
  have e1 := b3.cell
  have e2 := b3.frozen
  have e3 := b3.lt
  go_wp2
  refine bodyPost_ret (v := .bool true) (by simp [results, Try.f8, go_sem, e1, e3]) rfl ⟨rfl, hB3.setCell (p := ⟨_, 0, none⟩) (by dsimp only; omega) _⟩

theorem pgo_law (s : ByteArray) (w : World) : Calls Try.prog 8 #[.string s] w fun e w' => e = .returned (.bool true) ∧ Below w.heap.size w w' := by
  rcases Nat.lt_or_ge 65536 s.size with h | h
  · exact pgo_long s h w
  · exact callsIn_wide.1 (pgo_short s h w)
end Go.Proofs.Ytjlfdoonhfkabaa
