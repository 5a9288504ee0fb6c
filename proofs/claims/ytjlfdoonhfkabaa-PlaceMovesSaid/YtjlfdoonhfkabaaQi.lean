/- Places: the law's works. -/
import Derived.Test.YtjlfdoonhfkabaaQh
namespace Go.Proofs.Ytjlfdoonhfkabaa
set_option linter.unusedVariables false
set_option linter.unusedSimpArgs false
open Go Go.RowKit Go.Shelf
set_option maxRecDepth 100000

/-- The law's text. -/
abbrev tee : ByteArray := ⟨#[97, 195, 169, 13, 10, 255, 240, 159, 152, 128, 10]⟩
theorem tee_n : nP tee = 7 := by kernel_rfl
theorem tee_4 : pK tee 4 = ⟨5, 4, 4, 1, 0⟩ := by kernel_rfl
theorem tee_5 : pK tee 5 = ⟨6, 5, 5, 1, 1⟩ := by kernel_rfl
theorem tee_6 : pK tee 6 = ⟨10, 6, 7, 1, 2⟩ := by kernel_rfl
theorem tee_7 : pK tee 7 = ⟨11, 7, 8, 2, 0⟩ := by kernel_rfl
theorem tee_r : rws tee = [(0, 3, 2), (5, 10, 1), (11, 11, 0)] := by kernel_rfl
theorem tee_s : tee.size = 11 := by kernel_rfl

theorem teeByte (m : Nat) (W : World) (h : MapAt tee m W) : Calls Try.prog 17 #[.pointer (some ⟨m, 0, none⟩), .int .i64 8] W fun e w' => e = .returned (.tuple #[.agg #[.int .i64 6, .int .i64 5, .int .i64 5, .int .i64 1, .int .i64 1], .int .i64 2, .int .i64 0]) ∧ Below W.heap.size W w' := by
  have h1 := byte_any tee (by rw [tee_s]; decide) m W h 8 (by rw [tee_s]; decide) 5 (by rw [tee_n]; decide) (by rw [tee_5]; decide) (fun _ => by rw [tee_6]; decide)
  rw [tee_5] at h1
  exact h1
theorem teeRune (m : Nat) (W : World) (h : MapAt tee m W) : Calls Try.prog 18 #[.pointer (some ⟨m, 0, none⟩), .int .i64 5] W fun e w' => e = .returned (.tuple #[.agg #[.int .i64 6, .int .i64 5, .int .i64 5, .int .i64 1, .int .i64 1], .int .i64 0]) ∧ Below W.heap.size W w' := by
  have h1 := rune_any tee (by rw [tee_s]; decide) m W h 5 (by rw [tee_n]; decide)
  rw [tee_5] at h1
  exact h1
theorem teeUnit (m : Nat) (W : World) (h : MapAt tee m W) : Calls Try.prog 19 #[.pointer (some ⟨m, 0, none⟩), .int .i64 6] W fun e w' => e = .returned (.tuple #[.agg #[.int .i64 6, .int .i64 5, .int .i64 5, .int .i64 1, .int .i64 1], .int .i64 1, .int .i64 0]) ∧ Below W.heap.size W w' := by
  have h1 := unit_any tee (by rw [tee_s]; decide) m W h 6 (by rw [tee_n, tee_7]; decide) 5 (by rw [tee_n]; decide) (by rw [tee_5]; decide) (fun _ => by rw [tee_6]; decide)
  rw [tee_5] at h1
  exact h1
theorem teeLine (m : Nat) (W : World) (h : MapAt tee m W) : Calls Try.prog 20 #[.pointer (some ⟨m, 0, none⟩), .int .i64 1, .int .i64 1] W fun e w' => e = .returned (.tuple #[.agg #[.int .i64 6, .int .i64 5, .int .i64 5, .int .i64 1, .int .i64 1], .int .i64 0]) ∧ Below W.heap.size W w' := by
  have h1 := line_any tee (by rw [tee_s]; decide) m W h 1 5 10 1 (by rw [tee_r]; rfl) 4 (by rw [tee_n]; decide) (by rw [tee_4]; decide) (fun _ => by rw [tee_5]; decide) 1 (by rw [tee_n]; decide) (by rw [tee_5])
  rw [tee_5] at h1
  exact h1
theorem teeLines (m : Nat) (W : World) (h : MapAt tee m W) : Calls Try.prog 23 #[.pointer (some ⟨m, 0, none⟩)] W fun e w' => e = .returned (.int .i64 3) ∧ W = w' := by
  have h1 := lines_any tee m W h
  rw [tee_r] at h1
  exact h1

set_option maxHeartbeats 4000000 in
theorem works_any (w : World) : Calls Try.prog 12 #[] w fun e w' => e = .returned (.bool true) ∧ Below w.heap.size w w' := by
  have cN := callsIn_wide.1 (new_in tee (by rw [tee_s]; decide) w)
  go_enter Try.func12, Try.ntmps12
  go_wp2_with (first | (go_at_call 13; refine cN.mono ?_; rintro e w1 ⟨m, rfl, hM, hB⟩) | (go_at_call 24; refine (text_any tee m _ hM).mono ?_; rintro e w' ⟨rfl, rfl⟩) | (go_at_call 23; refine (teeLines m _ hM).mono ?_; rintro e w' ⟨rfl, rfl⟩))
  refine (teeByte m w1 hM).mono ?_
  rintro e w2 ⟨rfl, hb2⟩
  have hM2 := mapAt_below (mapAt_below hM hb2) ((Below.refl _ w2).alloc (Nat.le_refl _) (.cells #[.int .i64 6, .int .i64 5, .int .i64 5, .int .i64 1, .int .i64 1] 28))
  have hB2 := (hB.trans (hb2.mono hB.size)).alloc (hB.trans (hb2.mono hB.size)).size (.cells #[.int .i64 6, .int .i64 5, .int .i64 5, .int .i64 1, .int .i64 1] 28)
  have q2 := Blk.new w2 #[.int .i64 6, .int .i64 5, .int .i64 5, .int .i64 1, .int .i64 1] 28
  go_wp2_with fail
  refine (teeRune m _ hM2).mono ?_
  rintro e w3 ⟨rfl, hb3⟩
  have hM3 := mapAt_below (mapAt_below hM2 hb3) ((Below.refl _ w3).alloc (Nat.le_refl _) (.cells #[.int .i64 6, .int .i64 5, .int .i64 5, .int .i64 1, .int .i64 1] 28))
  have hB3 := (hB2.trans (hb3.mono hB2.size)).alloc (hB2.trans (hb3.mono hB2.size)).size (.cells #[.int .i64 6, .int .i64 5, .int .i64 5, .int .i64 1, .int .i64 1] 28)
  replace q2 := (q2.below' hb3).alloc (.cells #[.int .i64 6, .int .i64 5, .int .i64 5, .int .i64 1, .int .i64 1] 28)
  have q3 := Blk.new w3 #[.int .i64 6, .int .i64 5, .int .i64 5, .int .i64 1, .int .i64 1] 28
  go_wp2_with fail
  refine (teeUnit m _ hM3).mono ?_
  rintro e w4 ⟨rfl, hb4⟩
  have hM4 := mapAt_below (mapAt_below hM3 hb4) ((Below.refl _ w4).alloc (Nat.le_refl _) (.cells #[.int .i64 6, .int .i64 5, .int .i64 5, .int .i64 1, .int .i64 1] 28))
  have hB4 := (hB3.trans (hb4.mono hB3.size)).alloc (hB3.trans (hb4.mono hB3.size)).size (.cells #[.int .i64 6, .int .i64 5, .int .i64 5, .int .i64 1, .int .i64 1] 28)
  replace q2 := (q2.below' hb4).alloc (.cells #[.int .i64 6, .int .i64 5, .int .i64 5, .int .i64 1, .int .i64 1] 28)
  replace q3 := (q3.below' hb4).alloc (.cells #[.int .i64 6, .int .i64 5, .int .i64 5, .int .i64 1, .int .i64 1] 28)
  have q4 := Blk.new w4 #[.int .i64 6, .int .i64 5, .int .i64 5, .int .i64 1, .int .i64 1] 28
  go_wp2_with fail
  refine (teeLine m _ hM4).mono ?_
  rintro e w5 ⟨rfl, hb5⟩
  have hM5 := mapAt_below (mapAt_below hM4 hb5) ((Below.refl _ w5).alloc (Nat.le_refl _) (.cells #[.int .i64 6, .int .i64 5, .int .i64 5, .int .i64 1, .int .i64 1] 28))
  have hB5 := (hB4.trans (hb5.mono hB4.size)).alloc (hB4.trans (hb5.mono hB4.size)).size (.cells #[.int .i64 6, .int .i64 5, .int .i64 5, .int .i64 1, .int .i64 1] 28)
  replace q2 := (q2.below' hb5).alloc (.cells #[.int .i64 6, .int .i64 5, .int .i64 5, .int .i64 1, .int .i64 1] 28)
  replace q3 := (q3.below' hb5).alloc (.cells #[.int .i64 6, .int .i64 5, .int .i64 5, .int .i64 1, .int .i64 1] 28)
  replace q4 := (q4.below' hb5).alloc (.cells #[.int .i64 6, .int .i64 5, .int .i64 5, .int .i64 1, .int .i64 1] 28)
  have q5 := Blk.new w5 #[.int .i64 6, .int .i64 5, .int .i64 5, .int .i64 1, .int .i64 1] 28
  have q6 := Blk.new (w5.alloc (.cells #[.int .i64 6, .int .i64 5, .int .i64 5, .int .i64 1, .int .i64 1] 28)) #[.int .i64 6, .int .i64 5, .int .i64 5, .int .i64 1, .int .i64 1] 28
  have hB6 := hB5.alloc hB5.size (.cells #[.int .i64 6, .int .i64 5, .int .i64 5, .int .i64 1, .int .i64 1] 28)
  replace q2 := q2.alloc (.cells #[.int .i64 6, .int .i64 5, .int .i64 5, .int .i64 1, .int .i64 1] 28)
  replace q3 := q3.alloc (.cells #[.int .i64 6, .int .i64 5, .int .i64 5, .int .i64 1, .int .i64 1] 28)
  replace q4 := q4.alloc (.cells #[.int .i64 6, .int .i64 5, .int .i64 5, .int .i64 1, .int .i64 1] 28)
  replace q5 := q5.alloc (.cells #[.int .i64 6, .int .i64 5, .int .i64 5, .int .i64 1, .int .i64 1] 28)
  simp only [World.size_alloc] at q6
  have c2 := q2.cell
  have c3 := q3.cell
  have c4 := q4.cell
  have c5 := q5.cell
  have c6 := q6.cell
  go_wp2
  go_ret
  exact ⟨rfl, hB6⟩
end Go.Proofs.Ytjlfdoonhfkabaa
