/- ClassHead: the law's call, at every text. -/
import Derived.Test.YtfnngcecfjlfeaaTvH
import Derived.Test.YtfnngcecfjlfeaaTyH
namespace Go.Proofs.Ytfnngcecfjlfeaa
set_option linter.unusedVariables false
set_option linter.unusedSimpArgs false
open Go Go.RowKit
set_option maxRecDepth 100000

theorem headText_any (s : ByteArray) (hs : s.size ≤ 2147483647) (w : World) :
    Calls Try.prog 23 #[.string s] w fun e w' => e = .returned (.string ⟨(tuS s hdG (posns s)).2.toArray⟩) ∧ Below w.heap.size w w' := by
  have cT := turnH_any s hs
  obtain ⟨t, ht⟩ : ∃ t, (⟨(tuS s hdG (posns s)).2.toArray⟩ : ByteArray) = t := ⟨_, rfl⟩
  rw [ht] at cT ⊢
  clear ht
  go_enter Try.func23, Try.ntmps23
  go_wp2_with (go_at_call 51; refine (cT _).mono ?_; rintro e w1 ⟨rfl, hb1⟩)
  go_ret
  exact ⟨rfl, hb1⟩

theorem classHead_all (s : ByteArray) (w : World) :
    Calls Try.prog 7 #[.string s] w fun e w' => e = .returned (.bool true) ∧ Below w.heap.size w w' := by
  by_cases hs : s.size ≤ 2147483647
  · have cB := beyond_any s.size (by omega)
    have cC := headText_any s hs
    have cD := headD_any s hs
    obtain ⟨t, ht⟩ : ∃ t, (⟨(tuS s hdG (posns s)).2.toArray⟩ : ByteArray) = t := ⟨_, rfl⟩
    rw [ht] at cC cD
    clear ht
    go_enter Try.func7, Try.ntmps7
    go_wp2_with (first | (go_at_call 12; refine (live_any _).mono ?_; rintro e w' ⟨rfl, rfl⟩) | (go_at_call 19; refine (cB _).mono ?_; rintro e w' ⟨rfl, rfl⟩) | (go_at_call 23; refine (cC _).mono ?_; rintro e w1 ⟨rfl, hb1⟩) | (go_at_call 24; refine (cD _).mono ?_; rintro e w2 ⟨rfl, hb2⟩))
    go_ret
    exact ⟨rfl, hb1.trans (hb2.mono hb1.size)⟩
  · have cB := beyond_yes s.size (by omega)
    go_enter Try.func7, Try.ntmps7
    go_wp2_with (first | (go_at_call 12; refine (live_any _).mono ?_; rintro e w' ⟨rfl, rfl⟩) | (go_at_call 19; refine (cB _).mono ?_; rintro e w' ⟨rfl, rfl⟩))
    go_ret
    exact ⟨rfl, Below.refl _ _⟩
end Go.Proofs.Ytfnngcecfjlfeaa
