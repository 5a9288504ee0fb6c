/- RunesWhole: what stands at a piece, behind it, and within it. -/
import Derived.Test.YtgpnheaefagfiaaSeqC
import Derived.Test.YtgpnheaefagfiaaArW
import Derived.Test.YtgpnheaefagfiaaLawAts
import Derived.Test.YtgpnheaefagfiaaWk
namespace Go.Proofs.Ytgpnheaefagfiaa
set_option linter.unusedVariables false
set_option linter.unusedSimpArgs false
open Go Go.RowKit
set_option maxRecDepth 100000

theorem bef_end (s : ByteArray) (y n : Nat) (hy : y ∈ posns s) (hn : y + wd s y = n) (hs : s.size ≤ 281474976710656) (w : World) :
    Calls Try.prog 18 #[.string s, .int .i64 (n : Int)] w fun e w' => e = .returned (.tuple #[.agg #[.int .i64 y, .int .i64 (wd s y : Nat), .int .i32 (rn s y : Nat), .bool (bk s y)], .int .i64 0]) ∧ Below w.heap.size w w' := by
  have hlt := (posG_ge s 0 y hy).2
  have hw1 := wd_pos s y
  have hwf := wd_fits s y hlt
  obtain ⟨a, b, hab⟩ := List.append_of_mem hy
  have h2 := posG_tail s 0 a y b (by rw [← posns_G]; exact hab)
  obtain ⟨l, p, e, _, _, _, hv⟩ := bnd_prev s (a ++ [y]) n (by rw [hab, h2.2.1, hn]; simp) (by omega) (by omega)
  obtain ⟨rfl, e2⟩ := List.append_inj' e rfl
  obtain rfl : y = p := by simpa using e2
  have hb := bef_ok s n (by omega) (by omega) hs w _ _ rfl rfl
  refine hb.mono fun e w' ⟨he, hw⟩ => ⟨?_, hw⟩
  rw [he]
  have hv2 : Value.agg #[.int .i64 (lp (s.extract 0 n) : Nat), .int .i64 (wd (s.extract 0 n) (lp (s.extract 0 n)) : Nat), .int .i32 (rn (s.extract 0 n) (lp (s.extract 0 n)) : Nat), .bool (bk (s.extract 0 n) (lp (s.extract 0 n)))] = .agg #[.int .i64 y, .int .i64 (wd s y : Nat), .int .i32 (rn s y : Nat), .bool (bk s y)] := hv
  rw [hv2]

theorem isB_at (s : ByteArray) (y : Nat) (hy : y ∈ posns s) : isB s (y : Int) = true := by
  unfold isB
  rw [decide_eq_true_iff]
  exact ⟨by omega, (mem_ends s _).2 (.inl (by simpa using hy))⟩
theorem isB_end (s : ByteArray) : isB s (s.size : Int) = true := by
  unfold isB
  rw [decide_eq_true_iff]
  exact ⟨by omega, (mem_ends s _).2 (.inr (by simp))⟩
theorem in_mid (s : ByteArray) (y i : Nat) (hy : y ∈ posns s) (h1 : y < i) (h2 : i < y + wd s y) :
    bk s i = true ∧ wd s i = 1 ∧ isB s (i : Int) = false ∧ ∀ F T, InB s i F T → F = y ∧ T = y + wd s y := by
  have hlt := (posG_ge s 0 y hy).2
  have hbk := (bk_iff s i).2 (len_cont s i (inside s y i hlt h1 h2))
  have hne : i ∉ ends s := fun h => by rcases ends_apart s y hy i h with h | h <;> omega
  refine ⟨hbk, (bk_rn s i hbk).2, ?_, fun F T h => ?_⟩
  · unfold isB
    rw [decide_eq_false_iff_not]
    rintro ⟨_, h⟩
    exact hne (by simpa using h)
  · rcases h with ⟨h, _⟩ | ⟨_, p, hp, k1, k2, rfl, rfl⟩
    · exact absurd h hne
    · rcases Nat.lt_trichotomy F y with hlt | rfl | hlt
      · have := posG_apart s 0 F hp y hy hlt; omega
      · exact ⟨rfl, rfl⟩
      · have := posG_apart s 0 y hy F hp hlt; omega
end Go.Proofs.Ytgpnheaefagfiaa
