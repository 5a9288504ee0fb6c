/- What runes.At answers, Count in all, and that the layer wakes. -/
import Derived.Test.YtaogmmhkpknkmaaSeqB
namespace Go.Proofs.Ytaogmmhkpknkmaa
set_option linter.unusedVariables false
set_option linter.unusedSimpArgs false
open Go Go.RowKit Go.Shelf
set_option maxRecDepth 100000

/-- How many broken bytes a text has. -/
def badC (s : ByteArray) : Nat := ((posns s).filter (bk s)).length

theorem badN_all (s : ByteArray) (xs : List (Pos s)) (h : xs.map (·.1) = posns s) : badN s xs = badC s := by
  unfold badN badC; rw [← h, List.filter_map, List.length_map]; rfl

theorem count_any (s : ByteArray) (hs : s.size ≤ 9223372036854775807) (w : World) :
    Calls Try.prog 14 #[.string s] w fun e w' => e = .returned (.tuple #[.int .i64 ((posns s).length : Nat), .int .i64 (badC s : Nat)]) ∧ Below w.heap.size w w' := by
  refine (callsIn_wide.1 (count_in s hs w)).mono ?_
  rintro e w' ⟨xs, hxs, rfl, hb⟩
  refine ⟨?_, hb⟩
  rw [badN_all s xs hxs, ← hxs, List.length_map]

theorem read_pc (s : ByteArray) (i : Nat) (hi : i < s.size) (hs : s.size ≤ 9223372036854775807) (w : World) :
    Calls Try.prog 18 #[.string s, .int .i64 (i : Int)] w fun e w' => e = .returned (.agg (pcC s i)) ∧ Below w.heap.size w w' := by
  by_cases h : lenN s i = 0
  · refine (read_none s i hi hs w h).mono ?_
    rintro e w' ⟨rfl, hb⟩
    refine ⟨?_, hb⟩
    have hk := (bk_iff s i).2 h
    have h2 := bk_rn s i hk
    simp only [pcC, hk, h2.1, h2.2]; rfl
  · refine (read_any s i hi hs w (lenN s i) rfl (by omega)).mono ?_
    rintro e w' ⟨rfl, hb⟩
    refine ⟨?_, hb⟩
    have hk := (bk_not s i).2 h
    simp only [pcC, hk, wd, rn, if_neg h]

theorem read_pcL (s : ByteArray) (i : Nat) (hi : i < s.size) (hs : s.size ≤ 9223372036854775807) (w : World) :
    Calls Try.prog 18 #[.string s, .int .i64 (i : Int)] w fun e w' => e = .returned (.agg #[.int .i64 i, .int .i64 (wd s i : Nat), .int .i32 (rn s i : Nat), .bool (bk s i)]) ∧ Below w.heap.size w w' := read_pc s i hi hs w

set_option maxHeartbeats 400000 in
theorem at_ok (s : ByteArray) (i : Nat) (hi : i < s.size) (hs : s.size ≤ 9223372036854775807) (w : World) :
    Calls Try.prog 15 #[.string s, .int .i64 (i : Int)] w fun e w' => e = .returned (.tuple #[.agg #[.int .i64 i, .int .i64 (wd s i : Nat), .int .i32 (rn s i : Nat), .bool (bk s i)], .int .i64 0]) ∧ Below w.heap.size w w' := by
  go_enter Try.func15, Try.ntmps15
  go_wp2_with (go_at_call 18; refine (read_pcL s i hi hs _).mono ?_; rintro e w' ⟨rfl, hb⟩; obtain ⟨hc2, hf2⟩ := bcell hb; have hz2 := hb.size)
  refine bodyPost_ret (v := .tuple #[.agg #[.int .i64 i, .int .i64 (wd s i : Nat), .int .i32 (rn s i : Nat), .bool (bk s i)], .int .i64 0]) (by simp [results, Try.f15, go_sem, hc2, hz2]) rfl ⟨rfl, ?_⟩
  exact (((((((Below.refl _ _).alloc (Nat.le_refl _) _).trans (hb.mono (by simp))).setCell (p := ⟨_, 0, none⟩) (Nat.le_refl _) _).setCell (p := ⟨_, 1, none⟩) (Nat.le_refl _) _).setCell (p := ⟨_, 2, none⟩) (Nat.le_refl _) _).setCell (p := ⟨_, 3, none⟩) (Nat.le_refl _) _)

set_option maxHeartbeats 400000 in
theorem at_no (s : ByteArray) (i : Int) (hi : i < 0 ∨ (s.size : Int) ≤ i) (w : World) :
    Calls Try.prog 15 #[.string s, .int .i64 i] w fun e w' => e = .returned (.tuple #[.agg #[.int .i64 0, .int .i64 0, .int .i32 0, .bool false], .int .i64 5]) ∧ Below w.heap.size w w' := by
  rcases hi with hi | hi
  · go_enter Try.func15, Try.ntmps15
    go_wp2
    refine bodyPost_ret (v := .tuple #[.agg #[.int .i64 0, .int .i64 0, .int .i32 0, .bool false], .int .i64 5]) (by simp [results, Try.f15, go_sem]) rfl ⟨rfl, ?_⟩
    exact (Below.refl _ _).alloc (Nat.le_refl _) _
  · have h0 : ¬ i < 0 := by omega
    go_enter Try.func15, Try.ntmps15
    go_wp2
    refine bodyPost_ret (v := .tuple #[.agg #[.int .i64 0, .int .i64 0, .int .i32 0, .bool false], .int .i64 5]) (by simp [results, Try.f15, go_sem]) rfl ⟨rfl, ?_⟩
    exact (Below.refl _ _).alloc (Nat.le_refl _) _

set_option maxHeartbeats 400000 in
/-- The layer wakes. -/
theorem wakes_any (w : World) : Calls Try.prog 5 #[] w fun e w' => e = .returned (.bool true) ∧ Below w.heap.size w w' := by
  have k1 : (((posns ⟨#[97, 195, 169, 255]⟩).length : Nat) : Int) = 3 := by kernel_rfl
  have k2 : ((badC ⟨#[97, 195, 169, 255]⟩ : Nat) : Int) = 1 := by kernel_rfl
  have k3 : ((wd ⟨#[195, 169]⟩ 0 : Nat) : Int) = 2 := by kernel_rfl
  have k4 : ((rn ⟨#[195, 169]⟩ 0 : Nat) : Int) = 233 := by kernel_rfl
  have k5 : bk ⟨#[195, 169]⟩ 0 = false := by kernel_rfl
  have c1 := fun w => count_any ⟨#[97, 195, 169, 255]⟩ (by decide) w
  have c2 := fun w => at_ok ⟨#[195, 169]⟩ 0 (by decide) (by decide) w
  rw [k1, k2] at c1
  rw [k3, k4, k5] at c2
  have C1 := Lib.hid c1; clear c1
  have C2 := Lib.hid c2; clear c2
  clear k1 k2 k3 k4 k5
  go_enter Try.func5, Try.ntmps5
  go_wp2_with (first | (go_at_call 14; refine (C1.out _).mono ?_; rintro e w1 ⟨rfl, hb1⟩) | (go_at_call 15; refine (C2.out _).mono ?_; rintro e w2 ⟨rfl, hb2⟩))
  go_ret
  exact ⟨rfl, (hb1.trans (hb2.mono hb1.size)).alloc (Nat.le_trans hb1.size hb2.size) _⟩
end Go.Proofs.Ytaogmmhkpknkmaa
