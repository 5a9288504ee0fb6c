/- Stage 31: Round: what it refuses; the document's. -/
import Derived.Test.YtdlbopaefkbmhaaCi0
namespace Go.Proofs.Ytdlbopaefkbmhaa
set_option linter.unusedVariables false
set_option linter.unusedSimpArgs false
open Go Go.RowKit Go.Shelf
set_option maxRecDepth 100000

/-- Are the arguments of Round refused? -/
def errR (v : Int) (delay : Nat) : Bool := decide (v < 1) || decide (16 < v) || !finB delay || flt delay 0

set_option maxHeartbeats 4000000 in
theorem round_arg (n : Nat) (o : Option Addr) (cap delay : Nat) (v : Int) (h : errR v delay = true) (w : World) :
    Calls Try.prog 8 #[.slice o n cap, .int .i64 v, .float .f64 delay] w fun e w' => e = .returned (.tuple #[.slice none 0 0, .int .i64 2]) ∧ Below w.heap.size w w' := by
  have d0 : ∀ k, Below w.heap.size w (w.drewN k) := fun k => ⟨rfl, rfl, rfl, Nat.le_refl _, fun _ _ => rfl⟩
  have cF := fun W => finite_any delay W
  obtain ⟨f1, hf1⟩ : ∃ b, finB delay = b := ⟨_, rfl⟩
  obtain ⟨f2, hf2⟩ : ∃ b, (FloatKind.f64.format.order delay 0 == some .lt) = b := ⟨_, rfl⟩
  have hh : (decide (v < 1) || decide (16 < v) || !f1 || f2) = true := by rw [← hf1, ← hf2]; exact h
  rw [hf1] at cF
  clear h hf1
  by_cases h1 : v < 1
  · have e1 : decide (v < 1) = true := decide_eq_true h1
    clear hh
    go_enter Try.func8, Try.ntmps8
    go_wp2
    go_ret2
    exact ⟨rfl, Below.refl _ _⟩
  · have e1 : decide (v < 1) = false := decide_eq_false h1
    by_cases h2 : 16 < v
    · have e2 : decide (16 < v) = true := decide_eq_true h2
      clear hh
      go_enter Try.func8, Try.ntmps8
      go_wp2
      go_ret2
      exact ⟨rfl, Below.refl _ _⟩
    · have e2 : decide (16 < v) = false := decide_eq_false h2
      rw [e1, e2] at hh
      have HH := Lib.hid (And.intro hh d0)
      clear hh d0
      go_enter Try.func8, Try.ntmps8
      go_wp2_with (fail)
      refine (cF _).mono ?_
      rintro e w' ⟨rfl, rfl⟩
      cases f1
      · go_wp2
        go_ret2
        exact ⟨rfl, HH.out.2 _⟩
      · cases f2
        · exact absurd HH.out.1 (by simp)
        · go_wp2
          go_ret2
          exact ⟨rfl, HH.out.2 _⟩

set_option maxHeartbeats 4000000 in
theorem roundD_arg (n : Nat) (o : Option Addr) (cap delay : Nat) (v : Int) (h : errR v delay = true) (w : World) :
    Calls Try.prog 6 #[.slice o n cap, .int .i64 v, .float .f64 delay] w fun e w' => e = .returned (.tuple #[.slice none 0 0, .int .i64 2]) ∧ Below w.heap.size w w' := by
  have d0 : ∀ k, Below w.heap.size w (w.drewN k) := fun k => ⟨rfl, rfl, rfl, Nat.le_refl _, fun _ _ => rfl⟩
  have cF := fun W => finiteD_any delay W
  obtain ⟨f1, hf1⟩ : ∃ b, finB delay = b := ⟨_, rfl⟩
  obtain ⟨f2, hf2⟩ : ∃ b, (FloatKind.f64.format.order delay 0 == some .lt) = b := ⟨_, rfl⟩
  have hh : (decide (v < 1) || decide (16 < v) || !f1 || f2) = true := by rw [← hf1, ← hf2]; exact h
  rw [hf1] at cF
  clear h hf1
  by_cases h1 : v < 1
  · have e1 : decide (v < 1) = true := decide_eq_true h1
    clear hh
    go_enter Try.func6, Try.ntmps6
    go_wp2
    go_ret2
    exact ⟨rfl, Below.refl _ _⟩
  · have e1 : decide (v < 1) = false := decide_eq_false h1
    by_cases h2 : 16 < v
    · have e2 : decide (16 < v) = true := decide_eq_true h2
      clear hh
      go_enter Try.func6, Try.ntmps6
      go_wp2
      go_ret2
      exact ⟨rfl, Below.refl _ _⟩
    · have e2 : decide (16 < v) = false := decide_eq_false h2
      rw [e1, e2] at hh
      have HH := Lib.hid (And.intro hh d0)
      clear hh d0
      go_enter Try.func6, Try.ntmps6
      go_wp2_with (fail)
      refine (cF _).mono ?_
      rintro e w' ⟨rfl, rfl⟩
      cases f1
      · go_wp2
        go_ret2
        exact ⟨rfl, HH.out.2 _⟩
      · cases f2
        · exact absurd HH.out.1 (by simp)
        · go_wp2
          go_ret2
          exact ⟨rfl, HH.out.2 _⟩

set_option maxHeartbeats 4000000 in
theorem round_long (n : Nat) (o : Option Addr) (cap delay p : Nat) (hp1 : 1 ≤ p) (hp2 : p ≤ 16) (hn : n ≤ 2932031007317) (hl : 65536 < p * n) (h : errR p delay = false) (w : World) :
    Calls Try.prog 8 #[.slice o n cap, .int .i64 p, .float .f64 delay] w fun e w' => e = .returned (.tuple #[.slice none 0 0, .int .i64 3]) ∧ Below w.heap.size w w' := by
  have d0 : ∀ k, Below w.heap.size w (w.drewN k) := fun k => ⟨rfl, rfl, rfl, Nat.le_refl _, fun _ _ => rfl⟩
  have cF := fun W => finite_any delay W
  have h' := h
  unfold errR at h'
  simp only [Bool.or_eq_false_iff, Bool.not_eq_false'] at h'
  obtain ⟨⟨⟨_, _⟩, hf1⟩, hf2'⟩ := h'
  have hf2 : (FloatKind.f64.format.order delay 0 == some .lt) = false := hf2'
  rw [hf1] at cF
  have e1 : decide ((p : Int) < 1) = false := decide_eq_false (by omega)
  have e1n : decide (p < 1) = false := decide_eq_false (by omega)
  have e2 : decide ((16 : Int) < p) = false := decide_eq_false (by omega)
  have e2n : decide (16 < p) = false := decide_eq_false (by omega)
  have hb : p * n ≤ 46912496117072 := Nat.le_trans (Nat.mul_le_mul hp2 hn) (by decide)
  have j2 : (p : Int) * (n : Int) = ((p * n : Nat) : Int) := by rw [← Int.natCast_mul]
  obtain ⟨m, hm⟩ : ∃ m, p * n = m := ⟨_, rfl⟩
  rw [hm] at hb j2 hl
  have e3 : decide ((65536 : Int) < (m : Int)) = true := decide_eq_true (by omega)
  have e3n : decide (65536 < m) = true := decide_eq_true hl
  have jw : wrap64 ((p : Int) * (n : Int)) = (m : Int) := by
    rw [j2]; unfold wrap64; omega
  clear hm j2
  have HH := Lib.hid d0
  clear h hf1 hf2' d0
  go_enter Try.func8, Try.ntmps8
  go_wp2_with (fail)
  refine (cF _).mono ?_
  rintro e w' ⟨rfl, rfl⟩
  go_wp2
  go_ret2
  exact ⟨rfl, HH.out _⟩

set_option maxHeartbeats 4000000 in
theorem roundD_long (n : Nat) (o : Option Addr) (cap delay p : Nat) (hp1 : 1 ≤ p) (hp2 : p ≤ 16) (hn : n ≤ 2932031007317) (hl : 65536 < p * n) (h : errR p delay = false) (w : World) :
    Calls Try.prog 6 #[.slice o n cap, .int .i64 p, .float .f64 delay] w fun e w' => e = .returned (.tuple #[.slice none 0 0, .int .i64 3]) ∧ Below w.heap.size w w' := by
  have d0 : ∀ k, Below w.heap.size w (w.drewN k) := fun k => ⟨rfl, rfl, rfl, Nat.le_refl _, fun _ _ => rfl⟩
  have cF := fun W => finiteD_any delay W
  have h' := h
  unfold errR at h'
  simp only [Bool.or_eq_false_iff, Bool.not_eq_false'] at h'
  obtain ⟨⟨⟨_, _⟩, hf1⟩, hf2'⟩ := h'
  have hf2 : (FloatKind.f64.format.order delay 0 == some .lt) = false := hf2'
  rw [hf1] at cF
  have e1 : decide ((p : Int) < 1) = false := decide_eq_false (by omega)
  have e1n : decide (p < 1) = false := decide_eq_false (by omega)
  have e2 : decide ((16 : Int) < p) = false := decide_eq_false (by omega)
  have e2n : decide (16 < p) = false := decide_eq_false (by omega)
  have hd : 65536 / p < n := (Nat.div_lt_iff_lt_mul (by omega)).2 (by rw [Nat.mul_comm]; exact hl)
  have j1 : (65536 : Int) / (p : Int) = ((65536 / p : Nat) : Int) := (Int.natCast_ediv 65536 p).symm
  obtain ⟨m, hm⟩ : ∃ m, 65536 / p = m := ⟨_, rfl⟩
  rw [hm] at hd j1
  have e3 : decide (((m : Nat) : Int) < (n : Int)) = true := decide_eq_true (by omega)
  have e3n : decide (m < n) = true := decide_eq_true hd
  clear hm
  have HH := Lib.hid d0
  clear h hf1 hf2' d0
  go_enter Try.func6, Try.ntmps6
  go_wp2_with (fail)
  refine (cF _).mono ?_
  rintro e w' ⟨rfl, rfl⟩
  go_wp2
  go_ret2
  exact ⟨rfl, HH.out _⟩
end Go.Proofs.Ytdlbopaefkbmhaa
