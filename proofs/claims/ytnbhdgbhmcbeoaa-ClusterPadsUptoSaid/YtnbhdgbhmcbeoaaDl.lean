/- The document's blank and Pad of layer 5. -/
import Derived.Test.YtnbhdgbhmcbeoaaDk
namespace Go.Proofs.Ytnbhdgbhmcbeoaa
set_option linter.unusedVariables false
set_option linter.unusedSimpArgs false
open Go Go.RowKit Go.Shelf
set_option maxRecDepth 100000

set_option maxHeartbeats 4000000 in
theorem blankD_any (n : Nat) (h : n ≤ 65536) (w : World) :
    Calls Try.prog 45 #[.int .i64 (n : Int)] w fun e w' => e = .returned (.string (blanksB n)) ∧ Below w.heap.size w w' := by
  have hm := fun W => make_bytes W n (by omega)
  have hr := made_row w n (by omega)
  have hB := (Below.refl w.heap.size w).alloc (Nat.le_refl _) (.cells (madeCells #[.int .u8 0] n) 5)
  obtain ⟨C, hC⟩ : ∃ C, madeCells #[.int .u8 0] n = C := ⟨_, rfl⟩
  simp only [hC] at hm
  rw [hC] at hr hB
  clear hC
  go_enter Try.func45, Try.ntmps45
  go_wp2
  have HA := Lib.hid (And.intro hr hB)
  clear hr hB hm
  go_loopw [4] (fun k wr => BlRel n w w.heap.size k wr) (fun k _ => n - (intOf k).toNat)
  case atStart => exact ⟨0, rfl, Nat.zero_le _, by unfold mixB; simpa using HA.out.1, HA.out.2⟩
  case round =>
    clear HA
    obtain ⟨j, rfl, hj, hown, hBw⟩ := hrel
    by_cases hlt : j < n
    · have i1 : (j : Int) < (n : Int) := by omega
      have i2 : (0 : Int) ≤ (j : Int) := by omega
      have i3 : decide ((j : Int) < (n : Int)) = true := decide_eq_true i1
      obtain ⟨st, sg⟩ := hown.stored j (.int .u8 32)
      rw [mixB_set n j hlt] at st
      have hz := hown.cellAt j (by omega)
      have hzf := hown.frozenAt j
      have hz2 : (mixB n j)[j]? = some (.int .u8 0) := by
        unfold mixB
        rw [List.getElem?_append_right (by simp), List.length_replicate, Nat.sub_self, List.getElem?_replicate, if_pos (by omega)]
      rw [hz2] at hz
      have HS := Lib.hid (And.intro st (hBw.setCell (p := ⟨w.heap.size, j, none⟩) (Nat.le_refl _) (.int .u8 32)))
      clear st sg hown hBw hz2
      go_wp2
      go_roundw
      case rel => exact ⟨j + 1, by go_num, by omega, HS.out.1, HS.out.2⟩
      case measure => simp [intOf]; omega
    · have hjn : j = n := by omega
      have hfin : wr.ownsRow w.heap.size 5 1 (.slice (some ⟨w.heap.size, 0, none⟩) n n) n (Lib.strCells (blanksB n)) := by
        rw [blanksB_cells]
        have := hown
        rw [hjn] at this
        unfold mixB at this
        simpa using this
      have hcv := conv_own (blanksB_size n) hfin
      have i1 : ¬ (j : Int) < (n : Int) := by omega
      have i3 : decide ((j : Int) < (n : Int)) = false := decide_eq_false i1
      have HB := Lib.hid hBw
      clear hjn hfin hown hBw
      go_wp2
      go_ret
      exact ⟨rfl, HB.out⟩

theorem padD_arg (s : ByteArray) (cz side : Int) (w : World) (h : side < 1 ∨ 3 < side ∨ cz < 0) :
    Calls Try.prog 32 #[.string s, .int .i64 cz, .int .i64 side] w fun e w' => e = .returned (.tuple #[.string ⟨#[]⟩, .int .i64 2]) ∧ w = w' := by
  have key : decide (side < 1) = true ∨ (decide (side < 1) = false ∧ decide (3 < side) = true) ∨ (decide (side < 1) = false ∧ decide (3 < side) = false ∧ decide (cz < 0) = true) := by
    simp only [decide_eq_true_eq, decide_eq_false_iff_not]; omega
  clear h
  rcases key with k1 | ⟨k1, k2⟩ | ⟨k1, k2, k3⟩
  all_goals
    go_enter Try.func32, Try.ntmps32
    go_wp2
    go_ret2
    exact ⟨rfl, rfl⟩
theorem padD_long (s : ByteArray) (cz side : Int) (w : World) (h : ¬ side < 1 ∧ ¬ 3 < side) (h2 : 65536 < cz) :
    Calls Try.prog 32 #[.string s, .int .i64 cz, .int .i64 side] w fun e w' => e = .returned (.tuple #[.string ⟨#[]⟩, .int .i64 3]) ∧ w = w' := by
  have k1 : decide (side < 1) = false := decide_eq_false h.1
  have k2 : decide (3 < side) = false := decide_eq_false h.2
  have k3 : decide (cz < 0) = false := decide_eq_false (by omega)
  have k4 : decide (65536 < cz) = true := decide_eq_true h2
  clear h h2
  go_enter Try.func32, Try.ntmps32
  go_wp2
  go_ret2
  exact ⟨rfl, rfl⟩
set_option maxHeartbeats 4000000 in
theorem padD_1 (s : ByteArray) (hs : s.size ≤ 1048576) (cn : Nat) (hc : cn ≤ 65536) (w : World) :
    Calls Try.prog 32 #[.string s, .int .i64 (cn : Int), .int .i64 1] w (PadPost s cn 1 w) := by
  have cC := cutD_any s hs cn w
  have e1 : decide ((cn : Int) < 0) = false := decide_eq_false (by omega)
  have e2 : decide ((65536 : Int) < (cn : Int)) = false := decide_eq_false (by omega)
  have e3 : decide (65536 < cn) = false := decide_eq_false (by omega)
  have e9 : ∀ l : Int, IntKind.i64.wrap (l - 0) = IntKind.i64.wrap l := fun l => by rw [Int.sub_zero]
  go_enter Try.func32, Try.ntmps32
  go_wp2_with (fail)
  refine cC.mono ?_
  rintro e w1 ⟨P, hcut, hle, rfl, hb⟩
  have hcl : colsL P ≤ cn := by have := hcut.2.1; omega
  obtain ⟨lack, hlk⟩ : ∃ l, cn - colsL P = l := ⟨_, rfl⟩
  obtain ⟨tk, htk⟩ : ∃ l, colsL P = l := ⟨_, rfl⟩
  obtain ⟨hd, hhd⟩ : ∃ l, s.extract 0 (endC P) = l := ⟨_, rfl⟩
  obtain ⟨tl, htl⟩ : ∃ l, s.extract (endC P) s.size = l := ⟨_, rfl⟩
  have hds : hd.size ≤ 2147483647 := by rw [← hhd, ByteArray.size_extract]; omega
  rw [htk] at hcl
  rw [htk, hhd, htl]
  have j1 : IntKind.i64.wrap ((cn : Int) - (tk : Int)) = (lack : Int) := by rw [htk] at hlk; rw [IntWalk.i64_in _ (by omega)]; omega
  have hll : lack ≤ 65536 := by omega
  have cA : ∀ W, Calls Try.prog 45 #[.int .i64 0] W fun e w' => e = .returned (.string (blanksB 0)) ∧ Below W.heap.size W w' := fun W => blankD_any 0 (by omega) W
  have cB : ∀ W, Calls Try.prog 45 #[.int .i64 (lack : Int)] W fun e w' => e = .returned (.string (blanksB lack)) ∧ Below W.heap.size W w' := fun W => blankD_any lack (by omega) W
  have sa := blanksB_size 0
  have sb := blanksB_size lack
  obtain ⟨ba, hba⟩ : ∃ l, blanksB 0 = l := ⟨_, rfl⟩
  obtain ⟨bb, hbbb⟩ : ∃ l, blanksB lack = l := ⟨_, rfl⟩
  simp only [hba] at cA sa
  simp only [hbbb] at cB sb
  have g1 : (9223372036854775807 < ba.size + hd.size) = False := eq_false (by omega)
  have g2 : (9223372036854775807 < (ba ++ hd).size + bb.size) = False := eq_false (by rw [ByteArray.size_append]; omega)
  have g3 : (9223372036854775807 < ba.size + hd.size + bb.size) = False := eq_false (by omega)
  have HP := Lib.hid (And.intro hcut (And.intro hle (show padB s 1 cn P = ba ++ hd ++ bb by unfold padB; rw [hlk, hhd, show aheadN 1 lack = 0 from by unfold aheadN; rfl, Nat.sub_zero, hba, hbbb])))
  clear hcut hle hlk htk hhd htl hba hbbb sa sb
  go_wp2_with (fail)
  refine (cA _).mono ?_
  rintro e w2 ⟨rfl, hb2⟩
  go_wp2_with (fail)
  refine (cB _).mono ?_
  rintro e w3 ⟨rfl, hb3⟩
  go_wp2_with (fail)
  go_ret2
  exact ⟨P, HP.out.1, HP.out.2.1, by rw [HP.out.2.2]; rfl, hb.trans ((hb2.mono hb.size).trans (hb3.mono (Nat.le_trans hb.size hb2.size)))⟩

set_option maxHeartbeats 4000000 in
theorem padD_2 (s : ByteArray) (hs : s.size ≤ 1048576) (cn : Nat) (hc : cn ≤ 65536) (w : World) :
    Calls Try.prog 32 #[.string s, .int .i64 (cn : Int), .int .i64 2] w (PadPost s cn 2 w) := by
  have cC := cutD_any s hs cn w
  have e1 : decide ((cn : Int) < 0) = false := decide_eq_false (by omega)
  have e2 : decide ((65536 : Int) < (cn : Int)) = false := decide_eq_false (by omega)
  have e3 : decide (65536 < cn) = false := decide_eq_false (by omega)
  have e9 : ∀ l : Int, IntKind.i64.wrap (l - 0) = IntKind.i64.wrap l := fun l => by rw [Int.sub_zero]
  go_enter Try.func32, Try.ntmps32
  go_wp2_with (fail)
  refine cC.mono ?_
  rintro e w1 ⟨P, hcut, hle, rfl, hb⟩
  have hcl : colsL P ≤ cn := by have := hcut.2.1; omega
  obtain ⟨lack, hlk⟩ : ∃ l, cn - colsL P = l := ⟨_, rfl⟩
  obtain ⟨tk, htk⟩ : ∃ l, colsL P = l := ⟨_, rfl⟩
  obtain ⟨hd, hhd⟩ : ∃ l, s.extract 0 (endC P) = l := ⟨_, rfl⟩
  obtain ⟨tl, htl⟩ : ∃ l, s.extract (endC P) s.size = l := ⟨_, rfl⟩
  have hds : hd.size ≤ 2147483647 := by rw [← hhd, ByteArray.size_extract]; omega
  rw [htk] at hcl
  rw [htk, hhd, htl]
  have j1 : IntKind.i64.wrap ((cn : Int) - (tk : Int)) = (lack : Int) := by rw [htk] at hlk; rw [IntWalk.i64_in _ (by omega)]; omega
  have hll : lack ≤ 65536 := by omega
  have cA : ∀ W, Calls Try.prog 45 #[.int .i64 (lack : Int)] W fun e w' => e = .returned (.string (blanksB lack)) ∧ Below W.heap.size W w' := fun W => blankD_any lack (by omega) W
  have cB : ∀ W, Calls Try.prog 45 #[.int .i64 0] W fun e w' => e = .returned (.string (blanksB 0)) ∧ Below W.heap.size W w' := fun W => blankD_any 0 (by omega) W
  have sa := blanksB_size lack
  have sb := blanksB_size 0
  obtain ⟨ba, hba⟩ : ∃ l, blanksB lack = l := ⟨_, rfl⟩
  obtain ⟨bb, hbbb⟩ : ∃ l, blanksB 0 = l := ⟨_, rfl⟩
  simp only [hba] at cA sa
  simp only [hbbb] at cB sb
  have g1 : (9223372036854775807 < ba.size + hd.size) = False := eq_false (by omega)
  have g2 : (9223372036854775807 < (ba ++ hd).size + bb.size) = False := eq_false (by rw [ByteArray.size_append]; omega)
  have g3 : (9223372036854775807 < ba.size + hd.size + bb.size) = False := eq_false (by omega)
  have HP := Lib.hid (And.intro hcut (And.intro hle (show padB s 2 cn P = ba ++ hd ++ bb by unfold padB; rw [hlk, hhd, show aheadN 2 lack = lack from by unfold aheadN; rfl, Nat.sub_self, hba, hbbb])))
  clear hcut hle hlk htk hhd htl hba hbbb sa sb
  go_wp2_with (fail)
  refine (cA _).mono ?_
  rintro e w2 ⟨rfl, hb2⟩
  go_wp2_with (fail)
  refine (cB _).mono ?_
  rintro e w3 ⟨rfl, hb3⟩
  go_wp2_with (fail)
  go_ret2
  exact ⟨P, HP.out.1, HP.out.2.1, by rw [HP.out.2.2]; rfl, hb.trans ((hb2.mono hb.size).trans (hb3.mono (Nat.le_trans hb.size hb2.size)))⟩

set_option maxHeartbeats 4000000 in
theorem padD_3 (s : ByteArray) (hs : s.size ≤ 1048576) (cn : Nat) (hc : cn ≤ 65536) (w : World) :
    Calls Try.prog 32 #[.string s, .int .i64 (cn : Int), .int .i64 3] w (PadPost s cn 3 w) := by
  have cC := cutD_any s hs cn w
  have e1 : decide ((cn : Int) < 0) = false := decide_eq_false (by omega)
  have e2 : decide ((65536 : Int) < (cn : Int)) = false := decide_eq_false (by omega)
  have e3 : decide (65536 < cn) = false := decide_eq_false (by omega)
  have e9 : ∀ l : Int, IntKind.i64.wrap (l - 0) = IntKind.i64.wrap l := fun l => by rw [Int.sub_zero]
  go_enter Try.func32, Try.ntmps32
  go_wp2_with (fail)
  refine cC.mono ?_
  rintro e w1 ⟨P, hcut, hle, rfl, hb⟩
  have hcl : colsL P ≤ cn := by have := hcut.2.1; omega
  obtain ⟨lack, hlk⟩ : ∃ l, cn - colsL P = l := ⟨_, rfl⟩
  obtain ⟨tk, htk⟩ : ∃ l, colsL P = l := ⟨_, rfl⟩
  obtain ⟨hd, hhd⟩ : ∃ l, s.extract 0 (endC P) = l := ⟨_, rfl⟩
  obtain ⟨tl, htl⟩ : ∃ l, s.extract (endC P) s.size = l := ⟨_, rfl⟩
  have hds : hd.size ≤ 2147483647 := by rw [← hhd, ByteArray.size_extract]; omega
  rw [htk] at hcl
  rw [htk, hhd, htl]
  have j1 : IntKind.i64.wrap ((cn : Int) - (tk : Int)) = (lack : Int) := by rw [htk] at hlk; rw [IntWalk.i64_in _ (by omega)]; omega
  have hll : lack ≤ 65536 := by omega
  obtain ⟨a, ha⟩ : ∃ a, lack / 2 = a := ⟨_, rfl⟩
  obtain ⟨b, hbb⟩ : ∃ b, lack - a = b := ⟨_, rfl⟩
  have hal : a ≤ lack := by omega
  have j2 : (lack : Int) / 2 = (a : Int) := by omega
  have j3 : (lack : Int).tdiv 2 = (a : Int) := by rw [Int.tdiv_eq_ediv_of_nonneg (by omega)]; exact j2
  have j4 : IntKind.i64.wrap ((lack : Int) - (a : Int)) = (b : Int) := by rw [IntWalk.i64_in _ (by omega)]; omega
  have cA : ∀ W, Calls Try.prog 45 #[.int .i64 (a : Int)] W fun e w' => e = .returned (.string (blanksB a)) ∧ Below W.heap.size W w' := fun W => blankD_any a (by omega) W
  have cB : ∀ W, Calls Try.prog 45 #[.int .i64 (b : Int)] W fun e w' => e = .returned (.string (blanksB b)) ∧ Below W.heap.size W w' := fun W => blankD_any b (by omega) W
  have sa := blanksB_size a
  have sb := blanksB_size b
  obtain ⟨ba, hba⟩ : ∃ l, blanksB a = l := ⟨_, rfl⟩
  obtain ⟨bb, hbbb⟩ : ∃ l, blanksB b = l := ⟨_, rfl⟩
  simp only [hba] at cA sa
  simp only [hbbb] at cB sb
  have g1 : (9223372036854775807 < ba.size + hd.size) = False := eq_false (by omega)
  have g2 : (9223372036854775807 < (ba ++ hd).size + bb.size) = False := eq_false (by rw [ByteArray.size_append]; omega)
  have g3 : (9223372036854775807 < ba.size + hd.size + bb.size) = False := eq_false (by omega)
  have HP := Lib.hid (And.intro hcut (And.intro hle (show padB s 3 cn P = ba ++ hd ++ bb by unfold padB; rw [hlk, hhd, show aheadN 3 lack = a from by rw [← ha]; unfold aheadN; rfl, hbb, hba, hbbb])))
  clear hcut hle hlk htk hhd htl hba hbbb sa sb
  clear ha hbb
  go_wp2_with (fail)
  refine (cA _).mono ?_
  rintro e w2 ⟨rfl, hb2⟩
  go_wp2_with (fail)
  refine (cB _).mono ?_
  rintro e w3 ⟨rfl, hb3⟩
  go_wp2_with (fail)
  go_ret2
  exact ⟨P, HP.out.1, HP.out.2.1, by rw [HP.out.2.2]; rfl, hb.trans ((hb2.mono hb.size).trans (hb3.mono (Nat.le_trans hb.size hb2.size)))⟩
theorem padD_ok (s : ByteArray) (hs : s.size ≤ 1048576) (cn : Nat) (hc : cn ≤ 65536) (side : Int) (h : okSide side = true) (w : World) :
    Calls Try.prog 32 #[.string s, .int .i64 (cn : Int), .int .i64 side] w (PadPost s cn side w) := by
  have h3 : side = 1 ∨ side = 2 ∨ side = 3 := by
    unfold okSide at h
    rw [Bool.or_eq_true, Bool.or_eq_true, beq_iff_eq, beq_iff_eq, beq_iff_eq] at h
    omega
  rcases h3 with rfl | rfl | rfl
  · exact padD_1 s hs cn hc w
  · exact padD_2 s hs cn hc w
  · exact padD_3 s hs cn hc w
end Go.Proofs.Ytnbhdgbhmcbeoaa
