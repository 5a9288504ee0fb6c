/- RunesBoundaries: the law's call, at every text and every place. -/
import Derived.Test.YtgpnheaefagfiaaArR
import Derived.Deep.RegionHeld3
namespace Go.Proofs.Ytgpnheaefagfiaa
set_option linter.unusedVariables false
set_option linter.unusedSimpArgs false
open Go Go.RowKit
set_option maxRecDepth 100000

set_option maxHeartbeats 2000000 in
theorem bds_in (s : ByteArray) (i : Nat) (hi : i ≤ s.size) (hs : s.size ≤ 1048576) (w : World) :
    Calls Try.prog 6 #[.string s, .int .i64 (i : Int)] w fun e w' => e = .returned (.bool true) ∧ Below w.heap.size w w' := by
  have cA := Around_ok s i hi (by omega)
  have cB := Boundary_any s i (by omega)
  have cR := BoundaryR_any s i hs
  have cX := AroundR_any s i hi hs
  obtain ⟨b, hb⟩ : ∃ b, isB s i = b := ⟨_, rfl⟩
  rw [hb] at cB cR
  clear hb
  go_enter Try.func6, Try.ntmps6
  go_wp2_with (first | (go_at_call 15; refine (wakes_any _).mono ?_; rintro e w1 ⟨rfl, hb1⟩) | (go_at_call 31; refine (cA _).mono ?_; rintro e w2 ⟨F, T, hin, rfl, hb2⟩; have HI := Lib.hid hin; clear hin) | (go_at_call 32; refine (cB _).mono ?_; rintro e w3 ⟨rfl, hb3⟩) | (go_at_call 33; refine (cR _).mono ?_; rintro e w4 ⟨rfl, hb4⟩))
  have hB2 : Below w.heap.size w w2 := hb1.trans (hb2.mono hb1.size)
  have x := ((Blk.new w2 #[.int .i64 (F : Nat), .int .i64 (T : Nat)] 49).below' hb3).below' hb4
  have hB4 : Below w.heap.size w w4 := ((hB2.alloc hB2.size _).trans (hb3.mono (by have := hB2.size; simp; omega))).trans (hb4.mono (Nat.le_trans (Nat.le_trans hB2.size (by simp)) hb3.size))
  have x0 : w4.cell? ⟨w2.heap.size, 0, none⟩ = some (.int .i64 (F : Nat)) := x.cell 0
  have x1 : w4.cell? ⟨w2.heap.size, 1, none⟩ = some (.int .i64 (T : Nat)) := x.cell 1
  have hxl := x.lt
  clear hb1 hb2 hb3 hb4 hB2 x
  obtain ⟨Q, hQ⟩ : ∃ Q, w2.heap.size = Q := ⟨_, rfl⟩
  rw [hQ] at x0 x1 hxl ⊢
  clear hQ
  have cX' := cX
  go_region_held3 (fun w' => w'.cell? ⟨Q, 0, none⟩ = some (.int .i64 (F : Nat)) ∧ w'.cell? ⟨Q, 1, none⟩ = some (.int .i64 (T : Nat))) (first | go_keep | exact ⟨((hb6.cell (p := ⟨Q, 0, none⟩) (Nat.lt_of_lt_of_le hxl hb5.size)).trans (hb5.cell (p := ⟨Q, 0, none⟩) hxl)).trans x0, ((hb6.cell (p := ⟨Q, 1, none⟩) (Nat.lt_of_lt_of_le hxl hb5.size)).trans (hb5.cell (p := ⟨Q, 1, none⟩) hxl)).trans x1⟩ | exact ⟨(hb5.cell (p := ⟨Q, 0, none⟩) hxl).trans x0, (hb5.cell (p := ⟨Q, 1, none⟩) hxl).trans x1⟩) (first | (go_at_call 34; refine (cX _ F T HI.out).mono ?_; rintro e w5 ⟨rfl, hb5⟩) | (go_at_call 15; refine (wakes_any _).mono ?_; rintro e w6 ⟨rfl, hb6⟩))
  go_wp2
  go_ret
  exact ⟨rfl, (hB4.drew.trans (hb5.mono hB4.size)).trans (hb6.mono (Nat.le_trans hB4.size hb5.size))⟩

set_option maxHeartbeats 2000000 in
theorem bds_out (s : ByteArray) (i : Int) (hi : i < 0 ∨ (s.size : Int) < i) (hs : s.size ≤ 1048576) (w : World) :
    Calls Try.prog 6 #[.string s, .int .i64 i] w fun e w' => e = .returned (.bool true) ∧ Below w.heap.size w w' := by
  have cA := Around_no s i hi
  have cB := Boundary_any s i (by omega)
  have cR := BoundaryR_any s i hs
  obtain ⟨b, hb⟩ : ∃ b, isB s i = b := ⟨_, rfl⟩
  rw [hb] at cB cR
  clear hb
  rcases (show i < 0 ∨ (¬ i < 0 ∧ (s.size : Int) < i) by omega) with h | ⟨h, h'⟩
  all_goals
    clear hi
    go_enter Try.func6, Try.ntmps6
    go_wp2_with (first | (go_at_call 15; refine (wakes_any _).mono ?_; rintro e w1 ⟨rfl, hb1⟩) | (go_at_call 31; refine (cA _).mono ?_; rintro e w2 ⟨rfl, hb2⟩))
    go_wp2_with (first | (go_at_call 32; refine (cB _).mono ?_; rintro e w3 ⟨rfl, hb3⟩) | (go_at_call 33; refine (cR _).mono ?_; rintro e w4 ⟨rfl, hb4⟩; have x := ((Blk.new w2 #[.int .i64 0, .int .i64 0] 49).below' hb3).below' hb4; have x0 : w4.cell? ⟨w2.heap.size, 0, none⟩ = some (.int .i64 0) := x.cell 0; have x1 : w4.cell? ⟨w2.heap.size, 1, none⟩ = some (.int .i64 0) := x.cell 1; clear x) | (go_at_call 15; refine (wakes_any _).mono ?_; rintro e w6 ⟨rfl, hb6⟩))
    go_ret
    have hB2 : Below w.heap.size w w2 := hb1.trans (hb2.mono hb1.size)
    have hB4 : Below w.heap.size w w4 := ((hB2.alloc hB2.size _).trans (hb3.mono (by have := hB2.size; simp; omega))).trans (hb4.mono (Nat.le_trans (Nat.le_trans hB2.size (by simp)) hb3.size))
    exact ⟨rfl, hB4.trans (hb6.mono hB4.size)⟩

/-- RunesBoundaries answers true, whatever it is asked. -/
theorem bds_any (s : ByteArray) (i : Int) (hs : s.size ≤ 1048576) (w : World) :
    Calls Try.prog 6 #[.string s, .int .i64 i] w fun e w' => e = .returned (.bool true) ∧ Below w.heap.size w w' := by
  by_cases h : i < 0 ∨ (s.size : Int) < i
  · exact bds_out s i h hs w
  · obtain ⟨n, rfl⟩ := Int.eq_ofNat_of_zero_le (show 0 ≤ i by omega)
    exact bds_in s n (by omega) hs w
end Go.Proofs.Ytgpnheaefagfiaa
