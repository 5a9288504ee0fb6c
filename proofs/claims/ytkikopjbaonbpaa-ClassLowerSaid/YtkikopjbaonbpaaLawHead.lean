/- ClassHead: the law's call, at every text. -/
import Derived.Test.YtkikopjbaonbpaaTvH
import Derived.Test.YtkikopjbaonbpaaTyH
namespace Go.Proofs.Ytkikopjbaonbpaa
set_option linter.unusedVariables false
set_option linter.unusedSimpArgs false
open Go Go.RowKit
set_option maxRecDepth 100000

theorem headText_any (s : ByteArray) (hs : s.size ≤ 17179869184) (w : World) :
    Calls Try.prog 20 #[.string s] w fun e w' => e = .returned (.string ⟨(tuS s hdG (posns s)).2.toArray⟩) ∧ Below w.heap.size w w' := by
  have cT := turnH_any s hs
  obtain ⟨t, ht⟩ : ∃ t, (⟨(tuS s hdG (posns s)).2.toArray⟩ : ByteArray) = t := ⟨_, rfl⟩
  rw [ht] at cT ⊢
  clear ht
  go_enter Try.func20, Try.ntmps20
  go_wp2_with (go_at_call 21; refine (cT _).mono ?_; rintro e w1 ⟨rfl, hb1⟩)
  go_ret
  exact ⟨rfl, hb1⟩

end Go.Proofs.Ytkikopjbaonbpaa
