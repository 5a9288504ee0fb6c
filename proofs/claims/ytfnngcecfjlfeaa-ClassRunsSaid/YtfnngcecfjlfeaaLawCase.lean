/- ClassCase: the law's call, at every text. -/
import Derived.Test.YtfnngcecfjlfeaaCb
import Derived.Test.YtfnngcecfjlfeaaLawKnown
namespace Go.Proofs.Ytfnngcecfjlfeaa
set_option linter.unusedVariables false
set_option linter.unusedSimpArgs false
open Go Go.RowKit
set_option maxRecDepth 100000

theorem beyond_any (n : Int) (h : n ≤ 2147483647) (w : World) : Calls Try.prog 19 #[.int .i64 n] w fun e w' => e = .returned (.bool false) ∧ w = w' := by
  have hd : decide ((2147483647 : Int) < n) = false := decide_eq_false (by omega)
  go_enter Try.func19, Try.ntmps19
  go_wp2
  go_ret
  exact ⟨rfl, rfl⟩

theorem beyond_yes (n : Int) (h : 2147483647 < n) (w : World) : Calls Try.prog 19 #[.int .i64 n] w fun e w' => e = .returned (.bool true) ∧ w = w' := by
  have hd : decide ((2147483647 : Int) < n) = true := decide_eq_true h
  go_enter Try.func19, Try.ntmps19
  go_wp2
  go_ret
  exact ⟨rfl, rfl⟩

theorem classCase_any (s : ByteArray) (hs : s.size ≤ 2147483647) (w : World) :
    Calls Try.prog 9 #[.string s] w fun e w' => e = .returned (.bool true) ∧ Below w.heap.size w w' := by
  have cB := beyond_any s.size (by omega)
  have cC := case_any s hs
  have cD := caseD_any s hs
  obtain ⟨Z, hZ⟩ : ∃ Z, caseZ (csR s (posns s)) = Z := ⟨_, rfl⟩
  rw [hZ] at cC cD
  clear hZ
  go_enter Try.func9, Try.ntmps9
  go_wp2_with (first | (go_at_call 12; refine (live_any _).mono ?_; rintro e w' ⟨rfl, rfl⟩) | (go_at_call 19; refine (cB _).mono ?_; rintro e w' ⟨rfl, rfl⟩) | (go_at_call 28; refine (cC _).mono ?_; rintro e w1 ⟨rfl, hb1⟩) | (go_at_call 29; refine (cD _).mono ?_; rintro e w2 ⟨rfl, hb2⟩))
  go_ret
  exact ⟨rfl, hb1.trans (hb2.mono hb1.size)⟩

theorem classCase_all (s : ByteArray) (w : World) :
    Calls Try.prog 9 #[.string s] w fun e w' => e = .returned (.bool true) ∧ Below w.heap.size w w' := by
  by_cases hs : s.size ≤ 2147483647
  · exact classCase_any s hs w
  · have cB := beyond_yes s.size (by omega)
    go_enter Try.func9, Try.ntmps9
    go_wp2_with (first | (go_at_call 12; refine (live_any _).mono ?_; rintro e w' ⟨rfl, rfl⟩) | (go_at_call 19; refine (cB _).mono ?_; rintro e w' ⟨rfl, rfl⟩))
    go_ret
    exact ⟨rfl, Below.refl _ _⟩
end Go.Proofs.Ytfnngcecfjlfeaa
