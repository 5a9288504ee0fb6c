/- Layer 5: wide, columns. -/
import Derived.Test.YtnbhdgbhmcbeoaaCl0
import Derived.Test.YtnbhdgbhmcbeoaaKa
namespace Go.Proofs.Ytnbhdgbhmcbeoaa
set_option linter.unusedVariables false
set_option linter.unusedSimpArgs false
open Go Go.RowKit Go.Shelf
set_option maxRecDepth 100000

set_option maxHeartbeats 8000000 in
theorem wide_any (r : Int) (w : World) :
    Calls Try.prog 69 #[.int .i32 r] w fun e w' => e = .returned (.bool (wideZ r)) ∧ w = w' := by
  rcases (show r < 4352 ∨ 4352 ≤ r by omega) with h0 | h0
  · have hz : wideZ r = false := by unfold wideZ; apply decide_eq_false; omega
    rw [hz]
    have e0 : decide (r < 4352) = true := decide_eq_true (by omega)
    have e1 : decide (r ≤ 4447) = true := decide_eq_true (by omega)
    have e2 : decide (11904 ≤ r) = false := decide_eq_false (by omega)
    have e3 : decide (r ≤ 12350) = true := decide_eq_true (by omega)
    have e4 : decide (12353 ≤ r) = false := decide_eq_false (by omega)
    have e5 : decide (r ≤ 19903) = true := decide_eq_true (by omega)
    have e6 : decide (19968 ≤ r) = false := decide_eq_false (by omega)
    have e7 : decide (r ≤ 42191) = true := decide_eq_true (by omega)
    have e8 : decide (44032 ≤ r) = false := decide_eq_false (by omega)
    have e9 : decide (r ≤ 55203) = true := decide_eq_true (by omega)
    have e10 : decide (63744 ≤ r) = false := decide_eq_false (by omega)
    have e11 : decide (r ≤ 64255) = true := decide_eq_true (by omega)
    have e12 : decide (65072 ≤ r) = false := decide_eq_false (by omega)
    have e13 : decide (r ≤ 65135) = true := decide_eq_true (by omega)
    have e14 : decide (65280 ≤ r) = false := decide_eq_false (by omega)
    have e15 : decide (r ≤ 65376) = true := decide_eq_true (by omega)
    have e16 : decide (65504 ≤ r) = false := decide_eq_false (by omega)
    have e17 : decide (r ≤ 65510) = true := decide_eq_true (by omega)
    have e18 : decide (127744 ≤ r) = false := decide_eq_false (by omega)
    have e19 : decide (r ≤ 128591) = true := decide_eq_true (by omega)
    have e20 : decide (129280 ≤ r) = false := decide_eq_false (by omega)
    have e21 : decide (r ≤ 129535) = true := decide_eq_true (by omega)
    have e22 : decide (131072 ≤ r) = false := decide_eq_false (by omega)
    have e23 : decide (r ≤ 262141) = true := decide_eq_true (by omega)
    clear hz
    go_enter Try.func69, Try.ntmps69
    go_wp2
    go_ret
    exact ⟨rfl, rfl⟩
  rcases (show r < 4448 ∨ 4448 ≤ r by omega) with h1 | h1
  · have hz : wideZ r = true := by unfold wideZ; apply decide_eq_true; omega
    rw [hz]
    have e0 : decide (r < 4352) = false := decide_eq_false (by omega)
    have e1 : decide (r ≤ 4447) = true := decide_eq_true (by omega)
    have e2 : decide (11904 ≤ r) = false := decide_eq_false (by omega)
    have e3 : decide (r ≤ 12350) = true := decide_eq_true (by omega)
    have e4 : decide (12353 ≤ r) = false := decide_eq_false (by omega)
    have e5 : decide (r ≤ 19903) = true := decide_eq_true (by omega)
    have e6 : decide (19968 ≤ r) = false := decide_eq_false (by omega)
    have e7 : decide (r ≤ 42191) = true := decide_eq_true (by omega)
    have e8 : decide (44032 ≤ r) = false := decide_eq_false (by omega)
    have e9 : decide (r ≤ 55203) = true := decide_eq_true (by omega)
    have e10 : decide (63744 ≤ r) = false := decide_eq_false (by omega)
    have e11 : decide (r ≤ 64255) = true := decide_eq_true (by omega)
    have e12 : decide (65072 ≤ r) = false := decide_eq_false (by omega)
    have e13 : decide (r ≤ 65135) = true := decide_eq_true (by omega)
    have e14 : decide (65280 ≤ r) = false := decide_eq_false (by omega)
    have e15 : decide (r ≤ 65376) = true := decide_eq_true (by omega)
    have e16 : decide (65504 ≤ r) = false := decide_eq_false (by omega)
    have e17 : decide (r ≤ 65510) = true := decide_eq_true (by omega)
    have e18 : decide (127744 ≤ r) = false := decide_eq_false (by omega)
    have e19 : decide (r ≤ 128591) = true := decide_eq_true (by omega)
    have e20 : decide (129280 ≤ r) = false := decide_eq_false (by omega)
    have e21 : decide (r ≤ 129535) = true := decide_eq_true (by omega)
    have e22 : decide (131072 ≤ r) = false := decide_eq_false (by omega)
    have e23 : decide (r ≤ 262141) = true := decide_eq_true (by omega)
    clear hz
    go_enter Try.func69, Try.ntmps69
    go_wp2
    go_ret
    exact ⟨rfl, rfl⟩
  rcases (show r < 11904 ∨ 11904 ≤ r by omega) with h2 | h2
  · have hz : wideZ r = false := by unfold wideZ; apply decide_eq_false; omega
    rw [hz]
    have e0 : decide (r < 4352) = false := decide_eq_false (by omega)
    have e1 : decide (r ≤ 4447) = false := decide_eq_false (by omega)
    have e2 : decide (11904 ≤ r) = false := decide_eq_false (by omega)
    have e3 : decide (r ≤ 12350) = true := decide_eq_true (by omega)
    have e4 : decide (12353 ≤ r) = false := decide_eq_false (by omega)
    have e5 : decide (r ≤ 19903) = true := decide_eq_true (by omega)
    have e6 : decide (19968 ≤ r) = false := decide_eq_false (by omega)
    have e7 : decide (r ≤ 42191) = true := decide_eq_true (by omega)
    have e8 : decide (44032 ≤ r) = false := decide_eq_false (by omega)
    have e9 : decide (r ≤ 55203) = true := decide_eq_true (by omega)
    have e10 : decide (63744 ≤ r) = false := decide_eq_false (by omega)
    have e11 : decide (r ≤ 64255) = true := decide_eq_true (by omega)
    have e12 : decide (65072 ≤ r) = false := decide_eq_false (by omega)
    have e13 : decide (r ≤ 65135) = true := decide_eq_true (by omega)
    have e14 : decide (65280 ≤ r) = false := decide_eq_false (by omega)
    have e15 : decide (r ≤ 65376) = true := decide_eq_true (by omega)
    have e16 : decide (65504 ≤ r) = false := decide_eq_false (by omega)
    have e17 : decide (r ≤ 65510) = true := decide_eq_true (by omega)
    have e18 : decide (127744 ≤ r) = false := decide_eq_false (by omega)
    have e19 : decide (r ≤ 128591) = true := decide_eq_true (by omega)
    have e20 : decide (129280 ≤ r) = false := decide_eq_false (by omega)
    have e21 : decide (r ≤ 129535) = true := decide_eq_true (by omega)
    have e22 : decide (131072 ≤ r) = false := decide_eq_false (by omega)
    have e23 : decide (r ≤ 262141) = true := decide_eq_true (by omega)
    clear hz
    go_enter Try.func69, Try.ntmps69
    go_wp2
    go_ret
    exact ⟨rfl, rfl⟩
  rcases (show r < 12351 ∨ 12351 ≤ r by omega) with h3 | h3
  · have hz : wideZ r = true := by unfold wideZ; apply decide_eq_true; omega
    rw [hz]
    have e0 : decide (r < 4352) = false := decide_eq_false (by omega)
    have e1 : decide (r ≤ 4447) = false := decide_eq_false (by omega)
    have e2 : decide (11904 ≤ r) = true := decide_eq_true (by omega)
    have e3 : decide (r ≤ 12350) = true := decide_eq_true (by omega)
    have e4 : decide (12353 ≤ r) = false := decide_eq_false (by omega)
    have e5 : decide (r ≤ 19903) = true := decide_eq_true (by omega)
    have e6 : decide (19968 ≤ r) = false := decide_eq_false (by omega)
    have e7 : decide (r ≤ 42191) = true := decide_eq_true (by omega)
    have e8 : decide (44032 ≤ r) = false := decide_eq_false (by omega)
    have e9 : decide (r ≤ 55203) = true := decide_eq_true (by omega)
    have e10 : decide (63744 ≤ r) = false := decide_eq_false (by omega)
    have e11 : decide (r ≤ 64255) = true := decide_eq_true (by omega)
    have e12 : decide (65072 ≤ r) = false := decide_eq_false (by omega)
    have e13 : decide (r ≤ 65135) = true := decide_eq_true (by omega)
    have e14 : decide (65280 ≤ r) = false := decide_eq_false (by omega)
    have e15 : decide (r ≤ 65376) = true := decide_eq_true (by omega)
    have e16 : decide (65504 ≤ r) = false := decide_eq_false (by omega)
    have e17 : decide (r ≤ 65510) = true := decide_eq_true (by omega)
    have e18 : decide (127744 ≤ r) = false := decide_eq_false (by omega)
    have e19 : decide (r ≤ 128591) = true := decide_eq_true (by omega)
    have e20 : decide (129280 ≤ r) = false := decide_eq_false (by omega)
    have e21 : decide (r ≤ 129535) = true := decide_eq_true (by omega)
    have e22 : decide (131072 ≤ r) = false := decide_eq_false (by omega)
    have e23 : decide (r ≤ 262141) = true := decide_eq_true (by omega)
    clear hz
    go_enter Try.func69, Try.ntmps69
    go_wp2
    go_ret
    exact ⟨rfl, rfl⟩
  rcases (show r < 12353 ∨ 12353 ≤ r by omega) with h4 | h4
  · have hz : wideZ r = false := by unfold wideZ; apply decide_eq_false; omega
    rw [hz]
    have e0 : decide (r < 4352) = false := decide_eq_false (by omega)
    have e1 : decide (r ≤ 4447) = false := decide_eq_false (by omega)
    have e2 : decide (11904 ≤ r) = true := decide_eq_true (by omega)
    have e3 : decide (r ≤ 12350) = false := decide_eq_false (by omega)
    have e4 : decide (12353 ≤ r) = false := decide_eq_false (by omega)
    have e5 : decide (r ≤ 19903) = true := decide_eq_true (by omega)
    have e6 : decide (19968 ≤ r) = false := decide_eq_false (by omega)
    have e7 : decide (r ≤ 42191) = true := decide_eq_true (by omega)
    have e8 : decide (44032 ≤ r) = false := decide_eq_false (by omega)
    have e9 : decide (r ≤ 55203) = true := decide_eq_true (by omega)
    have e10 : decide (63744 ≤ r) = false := decide_eq_false (by omega)
    have e11 : decide (r ≤ 64255) = true := decide_eq_true (by omega)
    have e12 : decide (65072 ≤ r) = false := decide_eq_false (by omega)
    have e13 : decide (r ≤ 65135) = true := decide_eq_true (by omega)
    have e14 : decide (65280 ≤ r) = false := decide_eq_false (by omega)
    have e15 : decide (r ≤ 65376) = true := decide_eq_true (by omega)
    have e16 : decide (65504 ≤ r) = false := decide_eq_false (by omega)
    have e17 : decide (r ≤ 65510) = true := decide_eq_true (by omega)
    have e18 : decide (127744 ≤ r) = false := decide_eq_false (by omega)
    have e19 : decide (r ≤ 128591) = true := decide_eq_true (by omega)
    have e20 : decide (129280 ≤ r) = false := decide_eq_false (by omega)
    have e21 : decide (r ≤ 129535) = true := decide_eq_true (by omega)
    have e22 : decide (131072 ≤ r) = false := decide_eq_false (by omega)
    have e23 : decide (r ≤ 262141) = true := decide_eq_true (by omega)
    clear hz
    go_enter Try.func69, Try.ntmps69
    go_wp2
    go_ret
    exact ⟨rfl, rfl⟩
  rcases (show r < 19904 ∨ 19904 ≤ r by omega) with h5 | h5
  · have hz : wideZ r = true := by unfold wideZ; apply decide_eq_true; omega
    rw [hz]
    have e0 : decide (r < 4352) = false := decide_eq_false (by omega)
    have e1 : decide (r ≤ 4447) = false := decide_eq_false (by omega)
    have e2 : decide (11904 ≤ r) = true := decide_eq_true (by omega)
    have e3 : decide (r ≤ 12350) = false := decide_eq_false (by omega)
    have e4 : decide (12353 ≤ r) = true := decide_eq_true (by omega)
    have e5 : decide (r ≤ 19903) = true := decide_eq_true (by omega)
    have e6 : decide (19968 ≤ r) = false := decide_eq_false (by omega)
    have e7 : decide (r ≤ 42191) = true := decide_eq_true (by omega)
    have e8 : decide (44032 ≤ r) = false := decide_eq_false (by omega)
    have e9 : decide (r ≤ 55203) = true := decide_eq_true (by omega)
    have e10 : decide (63744 ≤ r) = false := decide_eq_false (by omega)
    have e11 : decide (r ≤ 64255) = true := decide_eq_true (by omega)
    have e12 : decide (65072 ≤ r) = false := decide_eq_false (by omega)
    have e13 : decide (r ≤ 65135) = true := decide_eq_true (by omega)
    have e14 : decide (65280 ≤ r) = false := decide_eq_false (by omega)
    have e15 : decide (r ≤ 65376) = true := decide_eq_true (by omega)
    have e16 : decide (65504 ≤ r) = false := decide_eq_false (by omega)
    have e17 : decide (r ≤ 65510) = true := decide_eq_true (by omega)
    have e18 : decide (127744 ≤ r) = false := decide_eq_false (by omega)
    have e19 : decide (r ≤ 128591) = true := decide_eq_true (by omega)
    have e20 : decide (129280 ≤ r) = false := decide_eq_false (by omega)
    have e21 : decide (r ≤ 129535) = true := decide_eq_true (by omega)
    have e22 : decide (131072 ≤ r) = false := decide_eq_false (by omega)
    have e23 : decide (r ≤ 262141) = true := decide_eq_true (by omega)
    clear hz
    go_enter Try.func69, Try.ntmps69
    go_wp2
    go_ret
    exact ⟨rfl, rfl⟩
  rcases (show r < 19968 ∨ 19968 ≤ r by omega) with h6 | h6
  · have hz : wideZ r = false := by unfold wideZ; apply decide_eq_false; omega
    rw [hz]
    have e0 : decide (r < 4352) = false := decide_eq_false (by omega)
    have e1 : decide (r ≤ 4447) = false := decide_eq_false (by omega)
    have e2 : decide (11904 ≤ r) = true := decide_eq_true (by omega)
    have e3 : decide (r ≤ 12350) = false := decide_eq_false (by omega)
    have e4 : decide (12353 ≤ r) = true := decide_eq_true (by omega)
    have e5 : decide (r ≤ 19903) = false := decide_eq_false (by omega)
    have e6 : decide (19968 ≤ r) = false := decide_eq_false (by omega)
    have e7 : decide (r ≤ 42191) = true := decide_eq_true (by omega)
    have e8 : decide (44032 ≤ r) = false := decide_eq_false (by omega)
    have e9 : decide (r ≤ 55203) = true := decide_eq_true (by omega)
    have e10 : decide (63744 ≤ r) = false := decide_eq_false (by omega)
    have e11 : decide (r ≤ 64255) = true := decide_eq_true (by omega)
    have e12 : decide (65072 ≤ r) = false := decide_eq_false (by omega)
    have e13 : decide (r ≤ 65135) = true := decide_eq_true (by omega)
    have e14 : decide (65280 ≤ r) = false := decide_eq_false (by omega)
    have e15 : decide (r ≤ 65376) = true := decide_eq_true (by omega)
    have e16 : decide (65504 ≤ r) = false := decide_eq_false (by omega)
    have e17 : decide (r ≤ 65510) = true := decide_eq_true (by omega)
    have e18 : decide (127744 ≤ r) = false := decide_eq_false (by omega)
    have e19 : decide (r ≤ 128591) = true := decide_eq_true (by omega)
    have e20 : decide (129280 ≤ r) = false := decide_eq_false (by omega)
    have e21 : decide (r ≤ 129535) = true := decide_eq_true (by omega)
    have e22 : decide (131072 ≤ r) = false := decide_eq_false (by omega)
    have e23 : decide (r ≤ 262141) = true := decide_eq_true (by omega)
    clear hz
    go_enter Try.func69, Try.ntmps69
    go_wp2
    go_ret
    exact ⟨rfl, rfl⟩
  rcases (show r < 42192 ∨ 42192 ≤ r by omega) with h7 | h7
  · have hz : wideZ r = true := by unfold wideZ; apply decide_eq_true; omega
    rw [hz]
    have e0 : decide (r < 4352) = false := decide_eq_false (by omega)
    have e1 : decide (r ≤ 4447) = false := decide_eq_false (by omega)
    have e2 : decide (11904 ≤ r) = true := decide_eq_true (by omega)
    have e3 : decide (r ≤ 12350) = false := decide_eq_false (by omega)
    have e4 : decide (12353 ≤ r) = true := decide_eq_true (by omega)
    have e5 : decide (r ≤ 19903) = false := decide_eq_false (by omega)
    have e6 : decide (19968 ≤ r) = true := decide_eq_true (by omega)
    have e7 : decide (r ≤ 42191) = true := decide_eq_true (by omega)
    have e8 : decide (44032 ≤ r) = false := decide_eq_false (by omega)
    have e9 : decide (r ≤ 55203) = true := decide_eq_true (by omega)
    have e10 : decide (63744 ≤ r) = false := decide_eq_false (by omega)
    have e11 : decide (r ≤ 64255) = true := decide_eq_true (by omega)
    have e12 : decide (65072 ≤ r) = false := decide_eq_false (by omega)
    have e13 : decide (r ≤ 65135) = true := decide_eq_true (by omega)
    have e14 : decide (65280 ≤ r) = false := decide_eq_false (by omega)
    have e15 : decide (r ≤ 65376) = true := decide_eq_true (by omega)
    have e16 : decide (65504 ≤ r) = false := decide_eq_false (by omega)
    have e17 : decide (r ≤ 65510) = true := decide_eq_true (by omega)
    have e18 : decide (127744 ≤ r) = false := decide_eq_false (by omega)
    have e19 : decide (r ≤ 128591) = true := decide_eq_true (by omega)
    have e20 : decide (129280 ≤ r) = false := decide_eq_false (by omega)
    have e21 : decide (r ≤ 129535) = true := decide_eq_true (by omega)
    have e22 : decide (131072 ≤ r) = false := decide_eq_false (by omega)
    have e23 : decide (r ≤ 262141) = true := decide_eq_true (by omega)
    clear hz
    go_enter Try.func69, Try.ntmps69
    go_wp2
    go_ret
    exact ⟨rfl, rfl⟩
  rcases (show r < 44032 ∨ 44032 ≤ r by omega) with h8 | h8
  · have hz : wideZ r = false := by unfold wideZ; apply decide_eq_false; omega
    rw [hz]
    have e0 : decide (r < 4352) = false := decide_eq_false (by omega)
    have e1 : decide (r ≤ 4447) = false := decide_eq_false (by omega)
    have e2 : decide (11904 ≤ r) = true := decide_eq_true (by omega)
    have e3 : decide (r ≤ 12350) = false := decide_eq_false (by omega)
    have e4 : decide (12353 ≤ r) = true := decide_eq_true (by omega)
    have e5 : decide (r ≤ 19903) = false := decide_eq_false (by omega)
    have e6 : decide (19968 ≤ r) = true := decide_eq_true (by omega)
    have e7 : decide (r ≤ 42191) = false := decide_eq_false (by omega)
    have e8 : decide (44032 ≤ r) = false := decide_eq_false (by omega)
    have e9 : decide (r ≤ 55203) = true := decide_eq_true (by omega)
    have e10 : decide (63744 ≤ r) = false := decide_eq_false (by omega)
    have e11 : decide (r ≤ 64255) = true := decide_eq_true (by omega)
    have e12 : decide (65072 ≤ r) = false := decide_eq_false (by omega)
    have e13 : decide (r ≤ 65135) = true := decide_eq_true (by omega)
    have e14 : decide (65280 ≤ r) = false := decide_eq_false (by omega)
    have e15 : decide (r ≤ 65376) = true := decide_eq_true (by omega)
    have e16 : decide (65504 ≤ r) = false := decide_eq_false (by omega)
    have e17 : decide (r ≤ 65510) = true := decide_eq_true (by omega)
    have e18 : decide (127744 ≤ r) = false := decide_eq_false (by omega)
    have e19 : decide (r ≤ 128591) = true := decide_eq_true (by omega)
    have e20 : decide (129280 ≤ r) = false := decide_eq_false (by omega)
    have e21 : decide (r ≤ 129535) = true := decide_eq_true (by omega)
    have e22 : decide (131072 ≤ r) = false := decide_eq_false (by omega)
    have e23 : decide (r ≤ 262141) = true := decide_eq_true (by omega)
    clear hz
    go_enter Try.func69, Try.ntmps69
    go_wp2
    go_ret
    exact ⟨rfl, rfl⟩
  rcases (show r < 55204 ∨ 55204 ≤ r by omega) with h9 | h9
  · have hz : wideZ r = true := by unfold wideZ; apply decide_eq_true; omega
    rw [hz]
    have e0 : decide (r < 4352) = false := decide_eq_false (by omega)
    have e1 : decide (r ≤ 4447) = false := decide_eq_false (by omega)
    have e2 : decide (11904 ≤ r) = true := decide_eq_true (by omega)
    have e3 : decide (r ≤ 12350) = false := decide_eq_false (by omega)
    have e4 : decide (12353 ≤ r) = true := decide_eq_true (by omega)
    have e5 : decide (r ≤ 19903) = false := decide_eq_false (by omega)
    have e6 : decide (19968 ≤ r) = true := decide_eq_true (by omega)
    have e7 : decide (r ≤ 42191) = false := decide_eq_false (by omega)
    have e8 : decide (44032 ≤ r) = true := decide_eq_true (by omega)
    have e9 : decide (r ≤ 55203) = true := decide_eq_true (by omega)
    have e10 : decide (63744 ≤ r) = false := decide_eq_false (by omega)
    have e11 : decide (r ≤ 64255) = true := decide_eq_true (by omega)
    have e12 : decide (65072 ≤ r) = false := decide_eq_false (by omega)
    have e13 : decide (r ≤ 65135) = true := decide_eq_true (by omega)
    have e14 : decide (65280 ≤ r) = false := decide_eq_false (by omega)
    have e15 : decide (r ≤ 65376) = true := decide_eq_true (by omega)
    have e16 : decide (65504 ≤ r) = false := decide_eq_false (by omega)
    have e17 : decide (r ≤ 65510) = true := decide_eq_true (by omega)
    have e18 : decide (127744 ≤ r) = false := decide_eq_false (by omega)
    have e19 : decide (r ≤ 128591) = true := decide_eq_true (by omega)
    have e20 : decide (129280 ≤ r) = false := decide_eq_false (by omega)
    have e21 : decide (r ≤ 129535) = true := decide_eq_true (by omega)
    have e22 : decide (131072 ≤ r) = false := decide_eq_false (by omega)
    have e23 : decide (r ≤ 262141) = true := decide_eq_true (by omega)
    clear hz
    go_enter Try.func69, Try.ntmps69
    go_wp2
    go_ret
    exact ⟨rfl, rfl⟩
  rcases (show r < 63744 ∨ 63744 ≤ r by omega) with h10 | h10
  · have hz : wideZ r = false := by unfold wideZ; apply decide_eq_false; omega
    rw [hz]
    have e0 : decide (r < 4352) = false := decide_eq_false (by omega)
    have e1 : decide (r ≤ 4447) = false := decide_eq_false (by omega)
    have e2 : decide (11904 ≤ r) = true := decide_eq_true (by omega)
    have e3 : decide (r ≤ 12350) = false := decide_eq_false (by omega)
    have e4 : decide (12353 ≤ r) = true := decide_eq_true (by omega)
    have e5 : decide (r ≤ 19903) = false := decide_eq_false (by omega)
    have e6 : decide (19968 ≤ r) = true := decide_eq_true (by omega)
    have e7 : decide (r ≤ 42191) = false := decide_eq_false (by omega)
    have e8 : decide (44032 ≤ r) = true := decide_eq_true (by omega)
    have e9 : decide (r ≤ 55203) = false := decide_eq_false (by omega)
    have e10 : decide (63744 ≤ r) = false := decide_eq_false (by omega)
    have e11 : decide (r ≤ 64255) = true := decide_eq_true (by omega)
    have e12 : decide (65072 ≤ r) = false := decide_eq_false (by omega)
    have e13 : decide (r ≤ 65135) = true := decide_eq_true (by omega)
    have e14 : decide (65280 ≤ r) = false := decide_eq_false (by omega)
    have e15 : decide (r ≤ 65376) = true := decide_eq_true (by omega)
    have e16 : decide (65504 ≤ r) = false := decide_eq_false (by omega)
    have e17 : decide (r ≤ 65510) = true := decide_eq_true (by omega)
    have e18 : decide (127744 ≤ r) = false := decide_eq_false (by omega)
    have e19 : decide (r ≤ 128591) = true := decide_eq_true (by omega)
    have e20 : decide (129280 ≤ r) = false := decide_eq_false (by omega)
    have e21 : decide (r ≤ 129535) = true := decide_eq_true (by omega)
    have e22 : decide (131072 ≤ r) = false := decide_eq_false (by omega)
    have e23 : decide (r ≤ 262141) = true := decide_eq_true (by omega)
    clear hz
    go_enter Try.func69, Try.ntmps69
    go_wp2
    go_ret
    exact ⟨rfl, rfl⟩
  rcases (show r < 64256 ∨ 64256 ≤ r by omega) with h11 | h11
  · have hz : wideZ r = true := by unfold wideZ; apply decide_eq_true; omega
    rw [hz]
    have e0 : decide (r < 4352) = false := decide_eq_false (by omega)
    have e1 : decide (r ≤ 4447) = false := decide_eq_false (by omega)
    have e2 : decide (11904 ≤ r) = true := decide_eq_true (by omega)
    have e3 : decide (r ≤ 12350) = false := decide_eq_false (by omega)
    have e4 : decide (12353 ≤ r) = true := decide_eq_true (by omega)
    have e5 : decide (r ≤ 19903) = false := decide_eq_false (by omega)
    have e6 : decide (19968 ≤ r) = true := decide_eq_true (by omega)
    have e7 : decide (r ≤ 42191) = false := decide_eq_false (by omega)
    have e8 : decide (44032 ≤ r) = true := decide_eq_true (by omega)
    have e9 : decide (r ≤ 55203) = false := decide_eq_false (by omega)
    have e10 : decide (63744 ≤ r) = true := decide_eq_true (by omega)
    have e11 : decide (r ≤ 64255) = true := decide_eq_true (by omega)
    have e12 : decide (65072 ≤ r) = false := decide_eq_false (by omega)
    have e13 : decide (r ≤ 65135) = true := decide_eq_true (by omega)
    have e14 : decide (65280 ≤ r) = false := decide_eq_false (by omega)
    have e15 : decide (r ≤ 65376) = true := decide_eq_true (by omega)
    have e16 : decide (65504 ≤ r) = false := decide_eq_false (by omega)
    have e17 : decide (r ≤ 65510) = true := decide_eq_true (by omega)
    have e18 : decide (127744 ≤ r) = false := decide_eq_false (by omega)
    have e19 : decide (r ≤ 128591) = true := decide_eq_true (by omega)
    have e20 : decide (129280 ≤ r) = false := decide_eq_false (by omega)
    have e21 : decide (r ≤ 129535) = true := decide_eq_true (by omega)
    have e22 : decide (131072 ≤ r) = false := decide_eq_false (by omega)
    have e23 : decide (r ≤ 262141) = true := decide_eq_true (by omega)
    clear hz
    go_enter Try.func69, Try.ntmps69
    go_wp2
    go_ret
    exact ⟨rfl, rfl⟩
  rcases (show r < 65072 ∨ 65072 ≤ r by omega) with h12 | h12
  · have hz : wideZ r = false := by unfold wideZ; apply decide_eq_false; omega
    rw [hz]
    have e0 : decide (r < 4352) = false := decide_eq_false (by omega)
    have e1 : decide (r ≤ 4447) = false := decide_eq_false (by omega)
    have e2 : decide (11904 ≤ r) = true := decide_eq_true (by omega)
    have e3 : decide (r ≤ 12350) = false := decide_eq_false (by omega)
    have e4 : decide (12353 ≤ r) = true := decide_eq_true (by omega)
    have e5 : decide (r ≤ 19903) = false := decide_eq_false (by omega)
    have e6 : decide (19968 ≤ r) = true := decide_eq_true (by omega)
    have e7 : decide (r ≤ 42191) = false := decide_eq_false (by omega)
    have e8 : decide (44032 ≤ r) = true := decide_eq_true (by omega)
    have e9 : decide (r ≤ 55203) = false := decide_eq_false (by omega)
    have e10 : decide (63744 ≤ r) = true := decide_eq_true (by omega)
    have e11 : decide (r ≤ 64255) = false := decide_eq_false (by omega)
    have e12 : decide (65072 ≤ r) = false := decide_eq_false (by omega)
    have e13 : decide (r ≤ 65135) = true := decide_eq_true (by omega)
    have e14 : decide (65280 ≤ r) = false := decide_eq_false (by omega)
    have e15 : decide (r ≤ 65376) = true := decide_eq_true (by omega)
    have e16 : decide (65504 ≤ r) = false := decide_eq_false (by omega)
    have e17 : decide (r ≤ 65510) = true := decide_eq_true (by omega)
    have e18 : decide (127744 ≤ r) = false := decide_eq_false (by omega)
    have e19 : decide (r ≤ 128591) = true := decide_eq_true (by omega)
    have e20 : decide (129280 ≤ r) = false := decide_eq_false (by omega)
    have e21 : decide (r ≤ 129535) = true := decide_eq_true (by omega)
    have e22 : decide (131072 ≤ r) = false := decide_eq_false (by omega)
    have e23 : decide (r ≤ 262141) = true := decide_eq_true (by omega)
    clear hz
    go_enter Try.func69, Try.ntmps69
    go_wp2
    go_ret
    exact ⟨rfl, rfl⟩
  rcases (show r < 65136 ∨ 65136 ≤ r by omega) with h13 | h13
  · have hz : wideZ r = true := by unfold wideZ; apply decide_eq_true; omega
    rw [hz]
    have e0 : decide (r < 4352) = false := decide_eq_false (by omega)
    have e1 : decide (r ≤ 4447) = false := decide_eq_false (by omega)
    have e2 : decide (11904 ≤ r) = true := decide_eq_true (by omega)
    have e3 : decide (r ≤ 12350) = false := decide_eq_false (by omega)
    have e4 : decide (12353 ≤ r) = true := decide_eq_true (by omega)
    have e5 : decide (r ≤ 19903) = false := decide_eq_false (by omega)
    have e6 : decide (19968 ≤ r) = true := decide_eq_true (by omega)
    have e7 : decide (r ≤ 42191) = false := decide_eq_false (by omega)
    have e8 : decide (44032 ≤ r) = true := decide_eq_true (by omega)
    have e9 : decide (r ≤ 55203) = false := decide_eq_false (by omega)
    have e10 : decide (63744 ≤ r) = true := decide_eq_true (by omega)
    have e11 : decide (r ≤ 64255) = false := decide_eq_false (by omega)
    have e12 : decide (65072 ≤ r) = true := decide_eq_true (by omega)
    have e13 : decide (r ≤ 65135) = true := decide_eq_true (by omega)
    have e14 : decide (65280 ≤ r) = false := decide_eq_false (by omega)
    have e15 : decide (r ≤ 65376) = true := decide_eq_true (by omega)
    have e16 : decide (65504 ≤ r) = false := decide_eq_false (by omega)
    have e17 : decide (r ≤ 65510) = true := decide_eq_true (by omega)
    have e18 : decide (127744 ≤ r) = false := decide_eq_false (by omega)
    have e19 : decide (r ≤ 128591) = true := decide_eq_true (by omega)
    have e20 : decide (129280 ≤ r) = false := decide_eq_false (by omega)
    have e21 : decide (r ≤ 129535) = true := decide_eq_true (by omega)
    have e22 : decide (131072 ≤ r) = false := decide_eq_false (by omega)
    have e23 : decide (r ≤ 262141) = true := decide_eq_true (by omega)
    clear hz
    go_enter Try.func69, Try.ntmps69
    go_wp2
    go_ret
    exact ⟨rfl, rfl⟩
  rcases (show r < 65280 ∨ 65280 ≤ r by omega) with h14 | h14
  · have hz : wideZ r = false := by unfold wideZ; apply decide_eq_false; omega
    rw [hz]
    have e0 : decide (r < 4352) = false := decide_eq_false (by omega)
    have e1 : decide (r ≤ 4447) = false := decide_eq_false (by omega)
    have e2 : decide (11904 ≤ r) = true := decide_eq_true (by omega)
    have e3 : decide (r ≤ 12350) = false := decide_eq_false (by omega)
    have e4 : decide (12353 ≤ r) = true := decide_eq_true (by omega)
    have e5 : decide (r ≤ 19903) = false := decide_eq_false (by omega)
    have e6 : decide (19968 ≤ r) = true := decide_eq_true (by omega)
    have e7 : decide (r ≤ 42191) = false := decide_eq_false (by omega)
    have e8 : decide (44032 ≤ r) = true := decide_eq_true (by omega)
    have e9 : decide (r ≤ 55203) = false := decide_eq_false (by omega)
    have e10 : decide (63744 ≤ r) = true := decide_eq_true (by omega)
    have e11 : decide (r ≤ 64255) = false := decide_eq_false (by omega)
    have e12 : decide (65072 ≤ r) = true := decide_eq_true (by omega)
    have e13 : decide (r ≤ 65135) = false := decide_eq_false (by omega)
    have e14 : decide (65280 ≤ r) = false := decide_eq_false (by omega)
    have e15 : decide (r ≤ 65376) = true := decide_eq_true (by omega)
    have e16 : decide (65504 ≤ r) = false := decide_eq_false (by omega)
    have e17 : decide (r ≤ 65510) = true := decide_eq_true (by omega)
    have e18 : decide (127744 ≤ r) = false := decide_eq_false (by omega)
    have e19 : decide (r ≤ 128591) = true := decide_eq_true (by omega)
    have e20 : decide (129280 ≤ r) = false := decide_eq_false (by omega)
    have e21 : decide (r ≤ 129535) = true := decide_eq_true (by omega)
    have e22 : decide (131072 ≤ r) = false := decide_eq_false (by omega)
    have e23 : decide (r ≤ 262141) = true := decide_eq_true (by omega)
    clear hz
    go_enter Try.func69, Try.ntmps69
    go_wp2
    go_ret
    exact ⟨rfl, rfl⟩
  rcases (show r < 65377 ∨ 65377 ≤ r by omega) with h15 | h15
  · have hz : wideZ r = true := by unfold wideZ; apply decide_eq_true; omega
    rw [hz]
    have e0 : decide (r < 4352) = false := decide_eq_false (by omega)
    have e1 : decide (r ≤ 4447) = false := decide_eq_false (by omega)
    have e2 : decide (11904 ≤ r) = true := decide_eq_true (by omega)
    have e3 : decide (r ≤ 12350) = false := decide_eq_false (by omega)
    have e4 : decide (12353 ≤ r) = true := decide_eq_true (by omega)
    have e5 : decide (r ≤ 19903) = false := decide_eq_false (by omega)
    have e6 : decide (19968 ≤ r) = true := decide_eq_true (by omega)
    have e7 : decide (r ≤ 42191) = false := decide_eq_false (by omega)
    have e8 : decide (44032 ≤ r) = true := decide_eq_true (by omega)
    have e9 : decide (r ≤ 55203) = false := decide_eq_false (by omega)
    have e10 : decide (63744 ≤ r) = true := decide_eq_true (by omega)
    have e11 : decide (r ≤ 64255) = false := decide_eq_false (by omega)
    have e12 : decide (65072 ≤ r) = true := decide_eq_true (by omega)
    have e13 : decide (r ≤ 65135) = false := decide_eq_false (by omega)
    have e14 : decide (65280 ≤ r) = true := decide_eq_true (by omega)
    have e15 : decide (r ≤ 65376) = true := decide_eq_true (by omega)
    have e16 : decide (65504 ≤ r) = false := decide_eq_false (by omega)
    have e17 : decide (r ≤ 65510) = true := decide_eq_true (by omega)
    have e18 : decide (127744 ≤ r) = false := decide_eq_false (by omega)
    have e19 : decide (r ≤ 128591) = true := decide_eq_true (by omega)
    have e20 : decide (129280 ≤ r) = false := decide_eq_false (by omega)
    have e21 : decide (r ≤ 129535) = true := decide_eq_true (by omega)
    have e22 : decide (131072 ≤ r) = false := decide_eq_false (by omega)
    have e23 : decide (r ≤ 262141) = true := decide_eq_true (by omega)
    clear hz
    go_enter Try.func69, Try.ntmps69
    go_wp2
    go_ret
    exact ⟨rfl, rfl⟩
  rcases (show r < 65504 ∨ 65504 ≤ r by omega) with h16 | h16
  · have hz : wideZ r = false := by unfold wideZ; apply decide_eq_false; omega
    rw [hz]
    have e0 : decide (r < 4352) = false := decide_eq_false (by omega)
    have e1 : decide (r ≤ 4447) = false := decide_eq_false (by omega)
    have e2 : decide (11904 ≤ r) = true := decide_eq_true (by omega)
    have e3 : decide (r ≤ 12350) = false := decide_eq_false (by omega)
    have e4 : decide (12353 ≤ r) = true := decide_eq_true (by omega)
    have e5 : decide (r ≤ 19903) = false := decide_eq_false (by omega)
    have e6 : decide (19968 ≤ r) = true := decide_eq_true (by omega)
    have e7 : decide (r ≤ 42191) = false := decide_eq_false (by omega)
    have e8 : decide (44032 ≤ r) = true := decide_eq_true (by omega)
    have e9 : decide (r ≤ 55203) = false := decide_eq_false (by omega)
    have e10 : decide (63744 ≤ r) = true := decide_eq_true (by omega)
    have e11 : decide (r ≤ 64255) = false := decide_eq_false (by omega)
    have e12 : decide (65072 ≤ r) = true := decide_eq_true (by omega)
    have e13 : decide (r ≤ 65135) = false := decide_eq_false (by omega)
    have e14 : decide (65280 ≤ r) = true := decide_eq_true (by omega)
    have e15 : decide (r ≤ 65376) = false := decide_eq_false (by omega)
    have e16 : decide (65504 ≤ r) = false := decide_eq_false (by omega)
    have e17 : decide (r ≤ 65510) = true := decide_eq_true (by omega)
    have e18 : decide (127744 ≤ r) = false := decide_eq_false (by omega)
    have e19 : decide (r ≤ 128591) = true := decide_eq_true (by omega)
    have e20 : decide (129280 ≤ r) = false := decide_eq_false (by omega)
    have e21 : decide (r ≤ 129535) = true := decide_eq_true (by omega)
    have e22 : decide (131072 ≤ r) = false := decide_eq_false (by omega)
    have e23 : decide (r ≤ 262141) = true := decide_eq_true (by omega)
    clear hz
    go_enter Try.func69, Try.ntmps69
    go_wp2
    go_ret
    exact ⟨rfl, rfl⟩
  rcases (show r < 65511 ∨ 65511 ≤ r by omega) with h17 | h17
  · have hz : wideZ r = true := by unfold wideZ; apply decide_eq_true; omega
    rw [hz]
    have e0 : decide (r < 4352) = false := decide_eq_false (by omega)
    have e1 : decide (r ≤ 4447) = false := decide_eq_false (by omega)
    have e2 : decide (11904 ≤ r) = true := decide_eq_true (by omega)
    have e3 : decide (r ≤ 12350) = false := decide_eq_false (by omega)
    have e4 : decide (12353 ≤ r) = true := decide_eq_true (by omega)
    have e5 : decide (r ≤ 19903) = false := decide_eq_false (by omega)
    have e6 : decide (19968 ≤ r) = true := decide_eq_true (by omega)
    have e7 : decide (r ≤ 42191) = false := decide_eq_false (by omega)
    have e8 : decide (44032 ≤ r) = true := decide_eq_true (by omega)
    have e9 : decide (r ≤ 55203) = false := decide_eq_false (by omega)
    have e10 : decide (63744 ≤ r) = true := decide_eq_true (by omega)
    have e11 : decide (r ≤ 64255) = false := decide_eq_false (by omega)
    have e12 : decide (65072 ≤ r) = true := decide_eq_true (by omega)
    have e13 : decide (r ≤ 65135) = false := decide_eq_false (by omega)
    have e14 : decide (65280 ≤ r) = true := decide_eq_true (by omega)
    have e15 : decide (r ≤ 65376) = false := decide_eq_false (by omega)
    have e16 : decide (65504 ≤ r) = true := decide_eq_true (by omega)
    have e17 : decide (r ≤ 65510) = true := decide_eq_true (by omega)
    have e18 : decide (127744 ≤ r) = false := decide_eq_false (by omega)
    have e19 : decide (r ≤ 128591) = true := decide_eq_true (by omega)
    have e20 : decide (129280 ≤ r) = false := decide_eq_false (by omega)
    have e21 : decide (r ≤ 129535) = true := decide_eq_true (by omega)
    have e22 : decide (131072 ≤ r) = false := decide_eq_false (by omega)
    have e23 : decide (r ≤ 262141) = true := decide_eq_true (by omega)
    clear hz
    go_enter Try.func69, Try.ntmps69
    go_wp2
    go_ret
    exact ⟨rfl, rfl⟩
  rcases (show r < 127744 ∨ 127744 ≤ r by omega) with h18 | h18
  · have hz : wideZ r = false := by unfold wideZ; apply decide_eq_false; omega
    rw [hz]
    have e0 : decide (r < 4352) = false := decide_eq_false (by omega)
    have e1 : decide (r ≤ 4447) = false := decide_eq_false (by omega)
    have e2 : decide (11904 ≤ r) = true := decide_eq_true (by omega)
    have e3 : decide (r ≤ 12350) = false := decide_eq_false (by omega)
    have e4 : decide (12353 ≤ r) = true := decide_eq_true (by omega)
    have e5 : decide (r ≤ 19903) = false := decide_eq_false (by omega)
    have e6 : decide (19968 ≤ r) = true := decide_eq_true (by omega)
    have e7 : decide (r ≤ 42191) = false := decide_eq_false (by omega)
    have e8 : decide (44032 ≤ r) = true := decide_eq_true (by omega)
    have e9 : decide (r ≤ 55203) = false := decide_eq_false (by omega)
    have e10 : decide (63744 ≤ r) = true := decide_eq_true (by omega)
    have e11 : decide (r ≤ 64255) = false := decide_eq_false (by omega)
    have e12 : decide (65072 ≤ r) = true := decide_eq_true (by omega)
    have e13 : decide (r ≤ 65135) = false := decide_eq_false (by omega)
    have e14 : decide (65280 ≤ r) = true := decide_eq_true (by omega)
    have e15 : decide (r ≤ 65376) = false := decide_eq_false (by omega)
    have e16 : decide (65504 ≤ r) = true := decide_eq_true (by omega)
    have e17 : decide (r ≤ 65510) = false := decide_eq_false (by omega)
    have e18 : decide (127744 ≤ r) = false := decide_eq_false (by omega)
    have e19 : decide (r ≤ 128591) = true := decide_eq_true (by omega)
    have e20 : decide (129280 ≤ r) = false := decide_eq_false (by omega)
    have e21 : decide (r ≤ 129535) = true := decide_eq_true (by omega)
    have e22 : decide (131072 ≤ r) = false := decide_eq_false (by omega)
    have e23 : decide (r ≤ 262141) = true := decide_eq_true (by omega)
    clear hz
    go_enter Try.func69, Try.ntmps69
    go_wp2
    go_ret
    exact ⟨rfl, rfl⟩
  rcases (show r < 128592 ∨ 128592 ≤ r by omega) with h19 | h19
  · have hz : wideZ r = true := by unfold wideZ; apply decide_eq_true; omega
    rw [hz]
    have e0 : decide (r < 4352) = false := decide_eq_false (by omega)
    have e1 : decide (r ≤ 4447) = false := decide_eq_false (by omega)
    have e2 : decide (11904 ≤ r) = true := decide_eq_true (by omega)
    have e3 : decide (r ≤ 12350) = false := decide_eq_false (by omega)
    have e4 : decide (12353 ≤ r) = true := decide_eq_true (by omega)
    have e5 : decide (r ≤ 19903) = false := decide_eq_false (by omega)
    have e6 : decide (19968 ≤ r) = true := decide_eq_true (by omega)
    have e7 : decide (r ≤ 42191) = false := decide_eq_false (by omega)
    have e8 : decide (44032 ≤ r) = true := decide_eq_true (by omega)
    have e9 : decide (r ≤ 55203) = false := decide_eq_false (by omega)
    have e10 : decide (63744 ≤ r) = true := decide_eq_true (by omega)
    have e11 : decide (r ≤ 64255) = false := decide_eq_false (by omega)
    have e12 : decide (65072 ≤ r) = true := decide_eq_true (by omega)
    have e13 : decide (r ≤ 65135) = false := decide_eq_false (by omega)
    have e14 : decide (65280 ≤ r) = true := decide_eq_true (by omega)
    have e15 : decide (r ≤ 65376) = false := decide_eq_false (by omega)
    have e16 : decide (65504 ≤ r) = true := decide_eq_true (by omega)
    have e17 : decide (r ≤ 65510) = false := decide_eq_false (by omega)
    have e18 : decide (127744 ≤ r) = true := decide_eq_true (by omega)
    have e19 : decide (r ≤ 128591) = true := decide_eq_true (by omega)
    have e20 : decide (129280 ≤ r) = false := decide_eq_false (by omega)
    have e21 : decide (r ≤ 129535) = true := decide_eq_true (by omega)
    have e22 : decide (131072 ≤ r) = false := decide_eq_false (by omega)
    have e23 : decide (r ≤ 262141) = true := decide_eq_true (by omega)
    clear hz
    go_enter Try.func69, Try.ntmps69
    go_wp2
    go_ret
    exact ⟨rfl, rfl⟩
  rcases (show r < 129280 ∨ 129280 ≤ r by omega) with h20 | h20
  · have hz : wideZ r = false := by unfold wideZ; apply decide_eq_false; omega
    rw [hz]
    have e0 : decide (r < 4352) = false := decide_eq_false (by omega)
    have e1 : decide (r ≤ 4447) = false := decide_eq_false (by omega)
    have e2 : decide (11904 ≤ r) = true := decide_eq_true (by omega)
    have e3 : decide (r ≤ 12350) = false := decide_eq_false (by omega)
    have e4 : decide (12353 ≤ r) = true := decide_eq_true (by omega)
    have e5 : decide (r ≤ 19903) = false := decide_eq_false (by omega)
    have e6 : decide (19968 ≤ r) = true := decide_eq_true (by omega)
    have e7 : decide (r ≤ 42191) = false := decide_eq_false (by omega)
    have e8 : decide (44032 ≤ r) = true := decide_eq_true (by omega)
    have e9 : decide (r ≤ 55203) = false := decide_eq_false (by omega)
    have e10 : decide (63744 ≤ r) = true := decide_eq_true (by omega)
    have e11 : decide (r ≤ 64255) = false := decide_eq_false (by omega)
    have e12 : decide (65072 ≤ r) = true := decide_eq_true (by omega)
    have e13 : decide (r ≤ 65135) = false := decide_eq_false (by omega)
    have e14 : decide (65280 ≤ r) = true := decide_eq_true (by omega)
    have e15 : decide (r ≤ 65376) = false := decide_eq_false (by omega)
    have e16 : decide (65504 ≤ r) = true := decide_eq_true (by omega)
    have e17 : decide (r ≤ 65510) = false := decide_eq_false (by omega)
    have e18 : decide (127744 ≤ r) = true := decide_eq_true (by omega)
    have e19 : decide (r ≤ 128591) = false := decide_eq_false (by omega)
    have e20 : decide (129280 ≤ r) = false := decide_eq_false (by omega)
    have e21 : decide (r ≤ 129535) = true := decide_eq_true (by omega)
    have e22 : decide (131072 ≤ r) = false := decide_eq_false (by omega)
    have e23 : decide (r ≤ 262141) = true := decide_eq_true (by omega)
    clear hz
    go_enter Try.func69, Try.ntmps69
    go_wp2
    go_ret
    exact ⟨rfl, rfl⟩
  rcases (show r < 129536 ∨ 129536 ≤ r by omega) with h21 | h21
  · have hz : wideZ r = true := by unfold wideZ; apply decide_eq_true; omega
    rw [hz]
    have e0 : decide (r < 4352) = false := decide_eq_false (by omega)
    have e1 : decide (r ≤ 4447) = false := decide_eq_false (by omega)
    have e2 : decide (11904 ≤ r) = true := decide_eq_true (by omega)
    have e3 : decide (r ≤ 12350) = false := decide_eq_false (by omega)
    have e4 : decide (12353 ≤ r) = true := decide_eq_true (by omega)
    have e5 : decide (r ≤ 19903) = false := decide_eq_false (by omega)
    have e6 : decide (19968 ≤ r) = true := decide_eq_true (by omega)
    have e7 : decide (r ≤ 42191) = false := decide_eq_false (by omega)
    have e8 : decide (44032 ≤ r) = true := decide_eq_true (by omega)
    have e9 : decide (r ≤ 55203) = false := decide_eq_false (by omega)
    have e10 : decide (63744 ≤ r) = true := decide_eq_true (by omega)
    have e11 : decide (r ≤ 64255) = false := decide_eq_false (by omega)
    have e12 : decide (65072 ≤ r) = true := decide_eq_true (by omega)
    have e13 : decide (r ≤ 65135) = false := decide_eq_false (by omega)
    have e14 : decide (65280 ≤ r) = true := decide_eq_true (by omega)
    have e15 : decide (r ≤ 65376) = false := decide_eq_false (by omega)
    have e16 : decide (65504 ≤ r) = true := decide_eq_true (by omega)
    have e17 : decide (r ≤ 65510) = false := decide_eq_false (by omega)
    have e18 : decide (127744 ≤ r) = true := decide_eq_true (by omega)
    have e19 : decide (r ≤ 128591) = false := decide_eq_false (by omega)
    have e20 : decide (129280 ≤ r) = true := decide_eq_true (by omega)
    have e21 : decide (r ≤ 129535) = true := decide_eq_true (by omega)
    have e22 : decide (131072 ≤ r) = false := decide_eq_false (by omega)
    have e23 : decide (r ≤ 262141) = true := decide_eq_true (by omega)
    clear hz
    go_enter Try.func69, Try.ntmps69
    go_wp2
    go_ret
    exact ⟨rfl, rfl⟩
  rcases (show r < 131072 ∨ 131072 ≤ r by omega) with h22 | h22
  · have hz : wideZ r = false := by unfold wideZ; apply decide_eq_false; omega
    rw [hz]
    have e0 : decide (r < 4352) = false := decide_eq_false (by omega)
    have e1 : decide (r ≤ 4447) = false := decide_eq_false (by omega)
    have e2 : decide (11904 ≤ r) = true := decide_eq_true (by omega)
    have e3 : decide (r ≤ 12350) = false := decide_eq_false (by omega)
    have e4 : decide (12353 ≤ r) = true := decide_eq_true (by omega)
    have e5 : decide (r ≤ 19903) = false := decide_eq_false (by omega)
    have e6 : decide (19968 ≤ r) = true := decide_eq_true (by omega)
    have e7 : decide (r ≤ 42191) = false := decide_eq_false (by omega)
    have e8 : decide (44032 ≤ r) = true := decide_eq_true (by omega)
    have e9 : decide (r ≤ 55203) = false := decide_eq_false (by omega)
    have e10 : decide (63744 ≤ r) = true := decide_eq_true (by omega)
    have e11 : decide (r ≤ 64255) = false := decide_eq_false (by omega)
    have e12 : decide (65072 ≤ r) = true := decide_eq_true (by omega)
    have e13 : decide (r ≤ 65135) = false := decide_eq_false (by omega)
    have e14 : decide (65280 ≤ r) = true := decide_eq_true (by omega)
    have e15 : decide (r ≤ 65376) = false := decide_eq_false (by omega)
    have e16 : decide (65504 ≤ r) = true := decide_eq_true (by omega)
    have e17 : decide (r ≤ 65510) = false := decide_eq_false (by omega)
    have e18 : decide (127744 ≤ r) = true := decide_eq_true (by omega)
    have e19 : decide (r ≤ 128591) = false := decide_eq_false (by omega)
    have e20 : decide (129280 ≤ r) = true := decide_eq_true (by omega)
    have e21 : decide (r ≤ 129535) = false := decide_eq_false (by omega)
    have e22 : decide (131072 ≤ r) = false := decide_eq_false (by omega)
    have e23 : decide (r ≤ 262141) = true := decide_eq_true (by omega)
    clear hz
    go_enter Try.func69, Try.ntmps69
    go_wp2
    go_ret
    exact ⟨rfl, rfl⟩
  rcases (show r < 262142 ∨ 262142 ≤ r by omega) with h23 | h23
  · have hz : wideZ r = true := by unfold wideZ; apply decide_eq_true; omega
    rw [hz]
    have e0 : decide (r < 4352) = false := decide_eq_false (by omega)
    have e1 : decide (r ≤ 4447) = false := decide_eq_false (by omega)
    have e2 : decide (11904 ≤ r) = true := decide_eq_true (by omega)
    have e3 : decide (r ≤ 12350) = false := decide_eq_false (by omega)
    have e4 : decide (12353 ≤ r) = true := decide_eq_true (by omega)
    have e5 : decide (r ≤ 19903) = false := decide_eq_false (by omega)
    have e6 : decide (19968 ≤ r) = true := decide_eq_true (by omega)
    have e7 : decide (r ≤ 42191) = false := decide_eq_false (by omega)
    have e8 : decide (44032 ≤ r) = true := decide_eq_true (by omega)
    have e9 : decide (r ≤ 55203) = false := decide_eq_false (by omega)
    have e10 : decide (63744 ≤ r) = true := decide_eq_true (by omega)
    have e11 : decide (r ≤ 64255) = false := decide_eq_false (by omega)
    have e12 : decide (65072 ≤ r) = true := decide_eq_true (by omega)
    have e13 : decide (r ≤ 65135) = false := decide_eq_false (by omega)
    have e14 : decide (65280 ≤ r) = true := decide_eq_true (by omega)
    have e15 : decide (r ≤ 65376) = false := decide_eq_false (by omega)
    have e16 : decide (65504 ≤ r) = true := decide_eq_true (by omega)
    have e17 : decide (r ≤ 65510) = false := decide_eq_false (by omega)
    have e18 : decide (127744 ≤ r) = true := decide_eq_true (by omega)
    have e19 : decide (r ≤ 128591) = false := decide_eq_false (by omega)
    have e20 : decide (129280 ≤ r) = true := decide_eq_true (by omega)
    have e21 : decide (r ≤ 129535) = false := decide_eq_false (by omega)
    have e22 : decide (131072 ≤ r) = true := decide_eq_true (by omega)
    have e23 : decide (r ≤ 262141) = true := decide_eq_true (by omega)
    clear hz
    go_enter Try.func69, Try.ntmps69
    go_wp2
    go_ret
    exact ⟨rfl, rfl⟩
  · have hz : wideZ r = false := by unfold wideZ; apply decide_eq_false; omega
    rw [hz]
    have e0 : decide (r < 4352) = false := decide_eq_false (by omega)
    have e1 : decide (r ≤ 4447) = false := decide_eq_false (by omega)
    have e2 : decide (11904 ≤ r) = true := decide_eq_true (by omega)
    have e3 : decide (r ≤ 12350) = false := decide_eq_false (by omega)
    have e4 : decide (12353 ≤ r) = true := decide_eq_true (by omega)
    have e5 : decide (r ≤ 19903) = false := decide_eq_false (by omega)
    have e6 : decide (19968 ≤ r) = true := decide_eq_true (by omega)
    have e7 : decide (r ≤ 42191) = false := decide_eq_false (by omega)
    have e8 : decide (44032 ≤ r) = true := decide_eq_true (by omega)
    have e9 : decide (r ≤ 55203) = false := decide_eq_false (by omega)
    have e10 : decide (63744 ≤ r) = true := decide_eq_true (by omega)
    have e11 : decide (r ≤ 64255) = false := decide_eq_false (by omega)
    have e12 : decide (65072 ≤ r) = true := decide_eq_true (by omega)
    have e13 : decide (r ≤ 65135) = false := decide_eq_false (by omega)
    have e14 : decide (65280 ≤ r) = true := decide_eq_true (by omega)
    have e15 : decide (r ≤ 65376) = false := decide_eq_false (by omega)
    have e16 : decide (65504 ≤ r) = true := decide_eq_true (by omega)
    have e17 : decide (r ≤ 65510) = false := decide_eq_false (by omega)
    have e18 : decide (127744 ≤ r) = true := decide_eq_true (by omega)
    have e19 : decide (r ≤ 128591) = false := decide_eq_false (by omega)
    have e20 : decide (129280 ≤ r) = true := decide_eq_true (by omega)
    have e21 : decide (r ≤ 129535) = false := decide_eq_false (by omega)
    have e22 : decide (131072 ≤ r) = true := decide_eq_true (by omega)
    have e23 : decide (r ≤ 262141) = false := decide_eq_false (by omega)
    clear hz
    go_enter Try.func69, Try.ntmps69
    go_wp2
    go_ret
    exact ⟨rfl, rfl⟩

theorem kdc_P (s : ByteArray) (i : Nat) : kdc s i = kdP (bk s i) (rn s i) := rfl
theorem columns_any (i wx r : Int) (b : Bool) (w : World) :
    Calls Try.prog 56 #[.agg #[.int .i64 i, .int .i64 wx, .int .i32 r, .bool b]] w fun e w' => e = .returned (.int .i64 (colZ (kdP b r) r : Nat)) ∧ Below w.heap.size w w' := by
  have cO := fun W => ofK i wx r b W
  have cW := wide_any r
  obtain ⟨k, hk⟩ : ∃ k, kdP b r = k := ⟨_, rfl⟩
  rw [hk] at cO ⊢
  clear hk
  have hc0 : ∀ x, colZ 11 x = 1 := fun x => by unfold colZ; rw [if_pos rfl]
  have hc1 : ∀ x, (k = 2 ∨ k = 4 ∨ k = 9) → colZ k x = 0 := fun x h => by unfold colZ; rw [if_neg (by omega), if_pos h]
  have hc2 : k ≠ 11 → ¬ (k = 2 ∨ k = 4 ∨ k = 9) → colZ k r = if wideZ r then 2 else 1 := fun h h' => by unfold colZ; rw [if_neg h, if_neg h']
  have bx := Blk.new w #[.int .i64 i, .int .i64 wx, .int .i32 r, .bool b] 84
  have b0 := bx.cell 0
  have b1 := bx.cell 1
  have b2 := bx.cell 2
  have b3 := bx.cell 3
  have hB := (Below.refl _ w).alloc (Nat.le_refl _) (.cells #[.int .i64 i, .int .i64 wx, .int .i32 r, .bool b] 84)
  by_cases h11 : k = 11
  · rw [h11, hc0]
    rw [h11] at cO
    clear hc0 hc1 hc2 h11
    go_enter Try.func56, Try.ntmps56
    go_wp2_with (first | (go_at_call 57; refine (cO _).mono ?_; rintro e w1 ⟨rfl, hb⟩))
    go_ret
    exact ⟨rfl, hB.trans (hb.mono hB.size)⟩
  · have e11 : ((k : Int) == 11) = false := by rw [beq_eq_false_iff_ne]; omega
    by_cases h3 : k = 2 ∨ k = 4 ∨ k = 9
    · rw [hc1 _ h3]
      have f2 : ((k : Int) == 2) = decide (k = 2) := by by_cases h : k = 2 <;> simp [h]; omega
      clear hc0 hc1 hc2
      rcases h3 with rfl | rfl | rfl
      all_goals
        go_enter Try.func56, Try.ntmps56
        go_wp2_with (first | (go_at_call 57; refine (cO _).mono ?_; rintro e w1 ⟨rfl, hb⟩))
        go_ret
        exact ⟨rfl, hB.trans (hb.mono hB.size)⟩
    · rw [hc2 h11 h3]
      have e2 : ((k : Int) == 2) = false := by rw [beq_eq_false_iff_ne]; omega
      have e4 : ((k : Int) == 4) = false := by rw [beq_eq_false_iff_ne]; omega
      have e9 : ((k : Int) == 9) = false := by rw [beq_eq_false_iff_ne]; omega
      clear hc0 hc1 hc2
      cases hw : wideZ r
      all_goals
        rw [hw] at cW
        clear hw
        go_enter Try.func56, Try.ntmps56
        go_wp2_with (first | (go_at_call 57; refine (cO _).mono ?_; rintro e w1 ⟨rfl, hb⟩; have m2 := at_below b2 hb) | (go_at_call 69; refine (cW _).mono ?_; rintro e w' ⟨rfl, rfl⟩))
        go_ret
        exact ⟨rfl, hB.trans (hb.mono hB.size)⟩
end Go.Proofs.Ytnbhdgbhmcbeoaa
