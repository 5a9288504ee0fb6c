/- Layer 5: Pad. -/
import Derived.Test.YtnbhdgbhmcbeoaaCl8
namespace Go.Proofs.Ytnbhdgbhmcbeoaa
set_option linter.unusedVariables false
set_option linter.unusedSimpArgs false
open Go Go.RowKit Go.Shelf
set_option maxRecDepth 100000

def okSide (side : Int) : Bool := side == 1 || side == 2 || side == 3
/-- The blanks ahead. -/
def aheadN (side : Int) (lack : Nat) : Nat := if side = 2 then lack else if side = 3 then lack / 2 else 0
theorem aheadN_le (side : Int) (lack : Nat) : aheadN side lack ≤ lack := by unfold aheadN; (repeat' split) <;> omega
/-- What is padded. -/
def padB (s : ByteArray) (side : Int) (cz : Nat) (P : List Cel) : ByteArray := blanksB (aheadN side (cz - colsL P)) ++ s.extract 0 (endC P) ++ blanksB (cz - colsL P - aheadN side (cz - colsL P))

theorem pad_arg (s : ByteArray) (cz side : Int) (w : World) (h : okSide side = false ∨ cz < 0) :
    Calls Try.prog 17 #[.string s, .int .i64 cz, .int .i64 side] w fun e w' => e = .returned (.tuple #[.string ⟨#[]⟩, .int .i64 2]) ∧ w = w' := by
  have hb : ((side == 1) = true ∨ (side == 2) = true ∨ (side == 3) = true) ∧ cz < 0 ∨ ((side == 1) = false ∧ (side == 2) = false ∧ (side == 3) = false) := by
    unfold okSide at h
    cases h1 : side == 1 <;> cases h2 : side == 2 <;> cases h3 : side == 3 <;> simp_all
  clear h
  have key : ∀ b1 b2 b3 : Bool, (side == 1) = b1 → (side == 2) = b2 → (side == 3) = b3 → ((b1 = false ∧ b2 = false ∧ b3 = false) ∨ cz < 0) → Calls Try.prog 17 #[.string s, .int .i64 cz, .int .i64 side] w fun e w' => e = .returned (.tuple #[.string ⟨#[]⟩, .int .i64 2]) ∧ w = w' := by
    intro b1 b2 b3 h1 h2 h3 h
    have n1 : (side != 1) = !b1 := by rw [← h1]; rfl
    have n2 : (side != 2) = !b2 := by rw [← h2]; rfl
    have n3 : (side != 3) = !b3 := by rw [← h3]; rfl
    clear hb h1 h2 h3
    by_cases hc : cz < 0
    · have e4 : decide (cz < 0) = true := decide_eq_true hc
      clear h hc
      cases b1 <;> cases b2 <;> cases b3
      all_goals
        go_enter Try.func17, Try.ntmps17
        go_wp2
        go_ret2
        exact ⟨rfl, rfl⟩
    · obtain ⟨rfl, rfl, rfl⟩ := h.resolve_right hc
      clear h hc
      go_enter Try.func17, Try.ntmps17
      go_wp2
      go_ret2
      exact ⟨rfl, rfl⟩
  refine key _ _ _ rfl rfl rfl ?_
  rcases hb with ⟨_, h⟩ | h
  · exact .inr h
  · exact .inl h

theorem pad_long (s : ByteArray) (cz side : Int) (w : World) (h : okSide side = true) (h2 : 65536 < cz) :
    Calls Try.prog 17 #[.string s, .int .i64 cz, .int .i64 side] w fun e w' => e = .returned (.tuple #[.string ⟨#[]⟩, .int .i64 3]) ∧ w = w' := by
  have h3 : side = 1 ∨ side = 2 ∨ side = 3 := by
    unfold okSide at h
    rw [Bool.or_eq_true, Bool.or_eq_true, beq_iff_eq, beq_iff_eq, beq_iff_eq] at h
    omega
  have e1 : decide (cz < 0) = false := decide_eq_false (by omega)
  have e2 : decide (65536 < cz) = true := decide_eq_true h2
  clear h h2
  rcases h3 with rfl | rfl | rfl
  all_goals
    go_enter Try.func17, Try.ntmps17
    go_wp2
    go_ret2
    exact ⟨rfl, rfl⟩

def PadPost (s : ByteArray) (cn : Nat) (side : Int) (w : World) (e : Ending) (w' : World) : Prop := ∃ P, CutOf s cn P ∧ endC P ≤ s.size ∧ e = .returned (.tuple #[.string (padB s side cn P), .int .i64 0]) ∧ Below w.heap.size w w'

set_option maxHeartbeats 4000000 in
theorem pad_1 (s : ByteArray) (hs : s.size ≤ 2147483647) (cn : Nat) (hc : cn ≤ 65536) (w : World) :
    Calls Try.prog 17 #[.string s, .int .i64 (cn : Int), .int .i64 1] w (PadPost s cn 1 w) := by
  have cC := cut_any s (by omega) cn w
  have e1 : decide ((cn : Int) < 0) = false := decide_eq_false (by omega)
  have e2 : decide ((65536 : Int) < (cn : Int)) = false := decide_eq_false (by omega)
  have e3 : decide (65536 < cn) = false := decide_eq_false (by omega)
  go_enter Try.func17, Try.ntmps17
  go_wp2_with (fail)
  refine cC.mono ?_
  rintro e w1 ⟨P, hcut, hle, rfl, hb⟩
  have hcl : colsL P ≤ cn := by have := hcut.2.1; omega
  obtain ⟨lack, hlk⟩ : ∃ l, cn - colsL P = l := ⟨_, rfl⟩
  obtain ⟨tk, htk⟩ : ∃ l, colsL P = l := ⟨_, rfl⟩
  obtain ⟨hd, hhd⟩ : ∃ l, s.extract 0 (endC P) = l := ⟨_, rfl⟩
  obtain ⟨tl, htl⟩ : ∃ l, s.extract (endC P) s.size = l := ⟨_, rfl⟩
  have hds : hd.size ≤ 2147483647 := by rw [← hhd, ByteArray.size_extract]; omega
  rw [htk] at hcl
  rw [htk, hhd, htl]
  have j1 : IntKind.i64.wrap ((cn : Int) - (tk : Int)) = (lack : Int) := by rw [htk] at hlk; rw [IntWalk.i64_in _ (by omega)]; omega
  have hll : lack ≤ 65536 := by omega
  have cA : ∀ W, Calls Try.prog 39 #[.int .i64 0] W fun e w' => e = .returned (.string (blanksB 0)) ∧ Below W.heap.size W w' := fun W => blanks_any 0 (by omega) W
  have cB : ∀ W, Calls Try.prog 39 #[.int .i64 (lack : Int)] W fun e w' => e = .returned (.string (blanksB lack)) ∧ Below W.heap.size W w' := fun W => blanks_any lack (by omega) W
  have sa := blanksB_size 0
  have sb := blanksB_size lack
  obtain ⟨ba, hba⟩ : ∃ l, blanksB 0 = l := ⟨_, rfl⟩
  obtain ⟨bb, hbbb⟩ : ∃ l, blanksB lack = l := ⟨_, rfl⟩
  simp only [hba] at cA sa
  simp only [hbbb] at cB sb
  have g1 : (9223372036854775807 < ba.size + hd.size) = False := eq_false (by omega)
  have g2 : (9223372036854775807 < (ba ++ hd).size + bb.size) = False := eq_false (by rw [ByteArray.size_append]; omega)
  have g3 : (9223372036854775807 < ba.size + hd.size + bb.size) = False := eq_false (by omega)
  have HP := Lib.hid (And.intro hcut (And.intro hle (show padB s 1 cn P = ba ++ hd ++ bb by unfold padB; rw [hlk, hhd, show aheadN 1 lack = 0 from by unfold aheadN; rfl, Nat.sub_zero, hba, hbbb])))
  clear hcut hle hlk htk hhd htl hba hbbb sa sb
  go_wp2_with (fail)
  refine (cA _).mono ?_
  rintro e w2 ⟨rfl, hb2⟩
  go_wp2_with (fail)
  refine (cB _).mono ?_
  rintro e w3 ⟨rfl, hb3⟩
  go_wp2_with (fail)
  go_ret2
  exact ⟨P, HP.out.1, HP.out.2.1, by rw [HP.out.2.2]; rfl, hb.trans ((hb2.mono hb.size).trans (hb3.mono (Nat.le_trans hb.size hb2.size)))⟩

set_option maxHeartbeats 4000000 in
theorem pad_2 (s : ByteArray) (hs : s.size ≤ 2147483647) (cn : Nat) (hc : cn ≤ 65536) (w : World) :
    Calls Try.prog 17 #[.string s, .int .i64 (cn : Int), .int .i64 2] w (PadPost s cn 2 w) := by
  have cC := cut_any s (by omega) cn w
  have e1 : decide ((cn : Int) < 0) = false := decide_eq_false (by omega)
  have e2 : decide ((65536 : Int) < (cn : Int)) = false := decide_eq_false (by omega)
  have e3 : decide (65536 < cn) = false := decide_eq_false (by omega)
  go_enter Try.func17, Try.ntmps17
  go_wp2_with (fail)
  refine cC.mono ?_
  rintro e w1 ⟨P, hcut, hle, rfl, hb⟩
  have hcl : colsL P ≤ cn := by have := hcut.2.1; omega
  obtain ⟨lack, hlk⟩ : ∃ l, cn - colsL P = l := ⟨_, rfl⟩
  obtain ⟨tk, htk⟩ : ∃ l, colsL P = l := ⟨_, rfl⟩
  obtain ⟨hd, hhd⟩ : ∃ l, s.extract 0 (endC P) = l := ⟨_, rfl⟩
  obtain ⟨tl, htl⟩ : ∃ l, s.extract (endC P) s.size = l := ⟨_, rfl⟩
  have hds : hd.size ≤ 2147483647 := by rw [← hhd, ByteArray.size_extract]; omega
  rw [htk] at hcl
  rw [htk, hhd, htl]
  have j1 : IntKind.i64.wrap ((cn : Int) - (tk : Int)) = (lack : Int) := by rw [htk] at hlk; rw [IntWalk.i64_in _ (by omega)]; omega
  have hll : lack ≤ 65536 := by omega
  have cA : ∀ W, Calls Try.prog 39 #[.int .i64 (lack : Int)] W fun e w' => e = .returned (.string (blanksB lack)) ∧ Below W.heap.size W w' := fun W => blanks_any lack (by omega) W
  have cB : ∀ W, Calls Try.prog 39 #[.int .i64 0] W fun e w' => e = .returned (.string (blanksB 0)) ∧ Below W.heap.size W w' := fun W => blanks_any 0 (by omega) W
  have sa := blanksB_size lack
  have sb := blanksB_size 0
  obtain ⟨ba, hba⟩ : ∃ l, blanksB lack = l := ⟨_, rfl⟩
  obtain ⟨bb, hbbb⟩ : ∃ l, blanksB 0 = l := ⟨_, rfl⟩
  simp only [hba] at cA sa
  simp only [hbbb] at cB sb
  have g1 : (9223372036854775807 < ba.size + hd.size) = False := eq_false (by omega)
  have g2 : (9223372036854775807 < (ba ++ hd).size + bb.size) = False := eq_false (by rw [ByteArray.size_append]; omega)
  have g3 : (9223372036854775807 < ba.size + hd.size + bb.size) = False := eq_false (by omega)
  have HP := Lib.hid (And.intro hcut (And.intro hle (show padB s 2 cn P = ba ++ hd ++ bb by unfold padB; rw [hlk, hhd, show aheadN 2 lack = lack from by unfold aheadN; rfl, Nat.sub_self, hba, hbbb])))
  clear hcut hle hlk htk hhd htl hba hbbb sa sb
  go_wp2_with (fail)
  refine (cA _).mono ?_
  rintro e w2 ⟨rfl, hb2⟩
  go_wp2_with (fail)
  refine (cB _).mono ?_
  rintro e w3 ⟨rfl, hb3⟩
  go_wp2_with (fail)
  go_ret2
  exact ⟨P, HP.out.1, HP.out.2.1, by rw [HP.out.2.2]; rfl, hb.trans ((hb2.mono hb.size).trans (hb3.mono (Nat.le_trans hb.size hb2.size)))⟩

set_option maxHeartbeats 4000000 in
theorem pad_3 (s : ByteArray) (hs : s.size ≤ 2147483647) (cn : Nat) (hc : cn ≤ 65536) (w : World) :
    Calls Try.prog 17 #[.string s, .int .i64 (cn : Int), .int .i64 3] w (PadPost s cn 3 w) := by
  have cC := cut_any s (by omega) cn w
  have e1 : decide ((cn : Int) < 0) = false := decide_eq_false (by omega)
  have e2 : decide ((65536 : Int) < (cn : Int)) = false := decide_eq_false (by omega)
  have e3 : decide (65536 < cn) = false := decide_eq_false (by omega)
  go_enter Try.func17, Try.ntmps17
  go_wp2_with (fail)
  refine cC.mono ?_
  rintro e w1 ⟨P, hcut, hle, rfl, hb⟩
  have hcl : colsL P ≤ cn := by have := hcut.2.1; omega
  obtain ⟨lack, hlk⟩ : ∃ l, cn - colsL P = l := ⟨_, rfl⟩
  obtain ⟨tk, htk⟩ : ∃ l, colsL P = l := ⟨_, rfl⟩
  obtain ⟨hd, hhd⟩ : ∃ l, s.extract 0 (endC P) = l := ⟨_, rfl⟩
  obtain ⟨tl, htl⟩ : ∃ l, s.extract (endC P) s.size = l := ⟨_, rfl⟩
  have hds : hd.size ≤ 2147483647 := by rw [← hhd, ByteArray.size_extract]; omega
  rw [htk] at hcl
  rw [htk, hhd, htl]
  have j1 : IntKind.i64.wrap ((cn : Int) - (tk : Int)) = (lack : Int) := by rw [htk] at hlk; rw [IntWalk.i64_in _ (by omega)]; omega
  have hll : lack ≤ 65536 := by omega
  obtain ⟨a, ha⟩ : ∃ a, lack / 2 = a := ⟨_, rfl⟩
  obtain ⟨b, hbb⟩ : ∃ b, lack - a = b := ⟨_, rfl⟩
  have hal : a ≤ lack := by omega
  have j2 : (lack : Int) / 2 = (a : Int) := by omega
  have j3 : (lack : Int).tdiv 2 = (a : Int) := by rw [Int.tdiv_eq_ediv_of_nonneg (by omega)]; exact j2
  have j4 : IntKind.i64.wrap ((lack : Int) - (a : Int)) = (b : Int) := by rw [IntWalk.i64_in _ (by omega)]; omega
  have cA : ∀ W, Calls Try.prog 39 #[.int .i64 (a : Int)] W fun e w' => e = .returned (.string (blanksB a)) ∧ Below W.heap.size W w' := fun W => blanks_any a (by omega) W
  have cB : ∀ W, Calls Try.prog 39 #[.int .i64 (b : Int)] W fun e w' => e = .returned (.string (blanksB b)) ∧ Below W.heap.size W w' := fun W => blanks_any b (by omega) W
  have sa := blanksB_size a
  have sb := blanksB_size b
  obtain ⟨ba, hba⟩ : ∃ l, blanksB a = l := ⟨_, rfl⟩
  obtain ⟨bb, hbbb⟩ : ∃ l, blanksB b = l := ⟨_, rfl⟩
  simp only [hba] at cA sa
  simp only [hbbb] at cB sb
  have g1 : (9223372036854775807 < ba.size + hd.size) = False := eq_false (by omega)
  have g2 : (9223372036854775807 < (ba ++ hd).size + bb.size) = False := eq_false (by rw [ByteArray.size_append]; omega)
  have g3 : (9223372036854775807 < ba.size + hd.size + bb.size) = False := eq_false (by omega)
  have HP := Lib.hid (And.intro hcut (And.intro hle (show padB s 3 cn P = ba ++ hd ++ bb by unfold padB; rw [hlk, hhd, show aheadN 3 lack = a from by rw [← ha]; unfold aheadN; rfl, hbb, hba, hbbb])))
  clear hcut hle hlk htk hhd htl hba hbbb sa sb
  clear ha hbb
  go_wp2_with (fail)
  refine (cA _).mono ?_
  rintro e w2 ⟨rfl, hb2⟩
  go_wp2_with (fail)
  refine (cB _).mono ?_
  rintro e w3 ⟨rfl, hb3⟩
  go_wp2_with (fail)
  go_ret2
  exact ⟨P, HP.out.1, HP.out.2.1, by rw [HP.out.2.2]; rfl, hb.trans ((hb2.mono hb.size).trans (hb3.mono (Nat.le_trans hb.size hb2.size)))⟩
theorem pad_ok (s : ByteArray) (hs : s.size ≤ 2147483647) (cn : Nat) (hc : cn ≤ 65536) (side : Int) (h : okSide side = true) (w : World) :
    Calls Try.prog 17 #[.string s, .int .i64 (cn : Int), .int .i64 side] w (PadPost s cn side w) := by
  have h3 : side = 1 ∨ side = 2 ∨ side = 3 := by
    unfold okSide at h
    rw [Bool.or_eq_true, Bool.or_eq_true, beq_iff_eq, beq_iff_eq, beq_iff_eq] at h
    omega
  rcases h3 with rfl | rfl | rfl
  · exact pad_1 s hs cn hc w
  · exact pad_2 s hs cn hc w
  · exact pad_3 s hs cn hc w
end Go.Proofs.Ytnbhdgbhmcbeoaa
