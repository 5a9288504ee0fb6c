/- Places: feeds, and the iterator over all places of a text. -/
import Derived.Test.YtjlfdoonhfkabaaRows
import Derived.Test.YtjlfdoonhfkabaaQr
import Derived.WalkSpells
import Derived.WalkLawsBesides
import Derived.Lib.Hide
import Derived.Deep.Light
namespace Go.Proofs.Ytjlfdoonhfkabaa
set_option linter.unusedVariables false
set_option linter.unusedSimpArgs false
open Go Go.RowKit Go.Shelf
set_option maxRecDepth 100000
attribute [local go_sem] Oper.semAt_some

set_option maxHeartbeats 400000 in
theorem feeds_any (s : ByteArray) (i : Nat) (w : World) :
    Calls Try.prog 47 #[.string s, .int .i64 (i : Int)] w fun e w' => e = .returned (.bool (lfAt s i)) ∧ w = w' := by
  by_cases hi : i < s.size
  · have hg := bt_get s i hi
    have hlt : (i : Int) < (s.size : Int) := by omega
    have hl : lfAt s i = (bt s i == 10) := by unfold lfAt; rw [decide_eq_true hi, Bool.true_and]
    rw [hl]
    obtain ⟨b, hb⟩ : ∃ b, bt s i = b := ⟨_, rfl⟩
    rw [hb] at hg ⊢
    have h0 : ((b : Int) == 10) = (b == 10) := by rw [Bool.eq_iff_iff, beq_iff_eq, beq_iff_eq]; omega
    clear hb hl
    go_enter Try.func47, Try.ntmps47
    go_wp2
    go_ret
    exact ⟨by simp [h0], rfl⟩
  · have hlt : ¬ (i : Int) < (s.size : Int) := by omega
    have hl : lfAt s i = false := by unfold lfAt; rw [decide_eq_false hi, Bool.false_and]
    rw [hl]
    clear hl
    go_enter Try.func47, Try.ntmps47
    go_wp2
    go_ret
    exact ⟨by simp, rfl⟩

set_option maxHeartbeats 400000 in
theorem places_any (s : ByteArray) (w : World) :
    Calls Try.prog 35 #[.string s] w fun e w' => e = .returned (.func (.func 48) #[] #[.pointer (some ⟨w.heap.size, 0, none⟩)]) ∧ w' = w.alloc (.cells #[.string s] 9) := by
  go_enter Try.func35, Try.ntmps35
  go_wp2
  go_ret
  exact ⟨rfl, rfl⟩
end Go.Proofs.Ytjlfdoonhfkabaa
