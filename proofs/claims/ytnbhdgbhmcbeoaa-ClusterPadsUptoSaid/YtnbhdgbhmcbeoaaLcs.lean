/- ClusterCuts: the law's call. -/
import Derived.Test.YtnbhdgbhmcbeoaaDl
import Derived.Test.YtnbhdgbhmcbeoaaClb
namespace Go.Proofs.Ytnbhdgbhmcbeoaa
set_option linter.unusedVariables false
set_option linter.unusedSimpArgs false
open Go Go.RowKit Go.Shelf
set_option maxRecDepth 100000

theorem cutOf_from (s : ByteArray) (cz : Int) : ∀ (R P : List Cel), cellsL s = P ++ R → (colsL P : Int) ≤ max cz 0 → ∃ Q, CutOf s cz Q
  | [], P, h, hc => ⟨P, ⟨[], by rw [h]⟩, hc, fun x hx => by
      have := hx.length_le
      rw [h] at this
      simp at this
      omega⟩
  | x :: R, P, h, hc => by
    by_cases hf : (colsL P : Int) + (x.2.2 : Int) ≤ max cz 0
    · exact cutOf_from s cz R (P ++ [x]) (by rw [h]; simp) (by rw [colsL_snoc]; push_cast; exact hf)
    · refine ⟨P, ⟨x :: R, h.symm⟩, hc, fun y hy => ?_⟩
      have h1 := pre_at hy
      rw [h] at h1
      have h2 : x = y := by simpa using h1
      rw [← h2]; omega
theorem cutOf_ex (s : ByteArray) (cz : Int) : ∃ Q, CutOf s cz Q := cutOf_from s cz (cellsL s) [] rfl (by simp [colsL]; omega)

/-- Both Pads say the same. -/
theorem pads_both (s : ByteArray) (hs : s.size ≤ 1048576) (cz side : Int) : ∃ (q : ByteArray) (k : Int), 
    (∀ W, Calls Try.prog 17 #[.string s, .int .i64 cz, .int .i64 side] W fun e w' => e = .returned (.tuple #[.string q, .int .i64 k]) ∧ Below W.heap.size W w') ∧
    (∀ W, Calls Try.prog 32 #[.string s, .int .i64 cz, .int .i64 side] W fun e w' => e = .returned (.tuple #[.string q, .int .i64 k]) ∧ Below W.heap.size W w') := by
  by_cases h1 : okSide side = false ∨ cz < 0
  · refine ⟨⟨#[]⟩, 2, fun W => (pad_arg s cz side W h1).mono fun e w' ⟨a, b⟩ => ⟨a, b ▸ Below.refl _ _⟩, fun W => (padD_arg s cz side W ?_).mono fun e w' ⟨a, b⟩ => ⟨a, b ▸ Below.refl _ _⟩⟩
    rcases h1 with h1 | h1
    · unfold okSide at h1
      rw [Bool.or_eq_false_iff, Bool.or_eq_false_iff, beq_eq_false_iff_ne, beq_eq_false_iff_ne, beq_eq_false_iff_ne] at h1
      omega
    · exact .inr (.inr h1)
  · have hok : okSide side = true := by
      cases h : okSide side with
      | true => rfl
      | false => exact absurd (.inl h) h1
    have hsd : ¬ side < 1 ∧ ¬ 3 < side := by
      have := hok
      unfold okSide at this
      rw [Bool.or_eq_true, Bool.or_eq_true, beq_iff_eq, beq_iff_eq, beq_iff_eq] at this
      omega
    by_cases h2 : 65536 < cz
    · exact ⟨⟨#[]⟩, 3, fun W => (pad_long s cz side W hok h2).mono fun e w' ⟨a, b⟩ => ⟨a, b ▸ Below.refl _ _⟩, fun W => (padD_long s cz side W hsd h2).mono fun e w' ⟨a, b⟩ => ⟨a, b ▸ Below.refl _ _⟩⟩
    · obtain ⟨cn, rfl⟩ : ∃ cn : Nat, cz = (cn : Int) := ⟨cz.toNat, by omega⟩
      obtain ⟨P0, hP0⟩ := cutOf_ex s cn
      refine ⟨padB s side cn P0, 0, fun W => (pad_ok s (by omega) cn (by omega) side hok W).mono ?_, fun W => (padD_ok s hs cn (by omega) side hok W).mono ?_⟩
      · rintro e w' ⟨P, hP, _, he, hb⟩
        rw [cutOf_one hP hP0] at he
        exact ⟨he, hb⟩
      · rintro e w' ⟨P, hP, _, he, hb⟩
        rw [cutOf_one hP hP0] at he
        exact ⟨he, hb⟩
theorem cuts_both (s : ByteArray) (hs : s.size ≤ 1048576) (cz : Int) : ∃ (a b : ByteArray) (k : Int), 
    (∀ W, Calls Try.prog 18 #[.string s, .int .i64 cz] W fun e w' => e = .returned (.tuple #[.string a, .string b, .int .i64 k]) ∧ Below W.heap.size W w') ∧
    (∀ W, Calls Try.prog 31 #[.string s, .int .i64 cz] W fun e w' => e = .returned (.tuple #[.string a, .string b, .int .i64 k]) ∧ Below W.heap.size W w') := by
  obtain ⟨P0, hP0⟩ := cutOf_ex s cz
  refine ⟨s.extract 0 (endC P0), s.extract (endC P0) s.size, (colsL P0 : Nat), fun W => (cut_any s (by omega) cz W).mono ?_, fun W => (cutD_any s hs cz W).mono ?_⟩
  · rintro e w' ⟨P, hP, _, he, hb⟩
    rw [cutOf_one hP hP0] at he
    exact ⟨he, hb⟩
  · rintro e w' ⟨P, hP, _, he, hb⟩
    rw [cutOf_one hP hP0] at he
    exact ⟨he, hb⟩

set_option maxHeartbeats 4000000 in
theorem lcs_any (s : ByteArray) (hs : s.size ≤ 1048576) (cz side : Int) (w : World) :
    Calls Try.prog 5 #[.string s, .int .i64 cz, .int .i64 side] w fun e w' => e = .returned (.bool true) ∧ Below w.heap.size w w' := by
  obtain ⟨a, b, k, c1, c2⟩ := cuts_both s hs cz
  obtain ⟨q, l, p1, p2⟩ := pads_both s hs cz side
  go_enter Try.func5, Try.ntmps5
  go_wp2_with (fail)
  refine (works_any _).mono ?_
  rintro e w1 ⟨rfl, hb1⟩
  go_wp2_with (fail)
  refine (c1 _).mono ?_
  rintro e w2 ⟨rfl, hb2⟩
  have hB2 := hb1.trans (hb2.mono hb1.size)
  go_wp2_with (fail)
  refine (c2 _).mono ?_
  rintro e w3 ⟨rfl, hb3⟩
  have hB3 := hB2.trans (hb3.mono hB2.size)
  go_wp2_with (fail)
  refine (p1 _).mono ?_
  rintro e w4 ⟨rfl, hb4⟩
  have hB4 := hB3.trans (hb4.mono hB3.size)
  go_wp2_with (fail)
  refine (p2 _).mono ?_
  rintro e w5 ⟨rfl, hb5⟩
  have hB5 := hB4.trans (hb5.mono hB4.size)
  go_wp2_with (fail)
  refine (works_any _).mono ?_
  rintro e w6 ⟨rfl, hb6⟩
  have hB6 := hB5.trans (hb6.mono hB5.size)
  go_wp2
  go_ret
  exact ⟨rfl, hB6⟩
end Go.Proofs.Ytnbhdgbhmcbeoaa
