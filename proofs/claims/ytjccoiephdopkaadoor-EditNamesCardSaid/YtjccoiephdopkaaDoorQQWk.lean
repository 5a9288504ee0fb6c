/- What runes.At answers, Count in all, and that the layer wakes. -/
import Derived.Test.YtjccoiephdopkaaDoorQQSeqB
namespace Go.Proofs.YtjccoiephdopkaaDoor.SQ
set_option linter.unusedVariables false
set_option linter.unusedSimpArgs false
open Go Go.RowKit Go.Shelf
set_option maxRecDepth 100000

/-- How many broken bytes a text has. -/
def badC (s : ByteArray) : Nat := ((posns s).filter (bk s)).length

theorem badN_all (s : ByteArray) (xs : List (Pos s)) (h : xs.map (·.1) = posns s) : badN s xs = badC s := by
  unfold badN badC; rw [← h, List.filter_map, List.length_map]; rfl

theorem read_pc (s : ByteArray) (i : Nat) (hi : i < s.size) (hs : s.size ≤ 9223372036854775807) (w : World) :
    Calls Tryd.prog 83 #[.string s, .int .i64 (i : Int)] w fun e w' => e = .returned (.agg (pcC s i)) ∧ Below w.heap.size w w' := by
  by_cases h : lenN s i = 0
  · refine (read_none s i hi hs w h).mono ?_
    rintro e w' ⟨rfl, hb⟩
    refine ⟨?_, hb⟩
    have hk := (bk_iff s i).2 h
    have h2 := bk_rn s i hk
    simp only [pcC, hk, h2.1, h2.2]; rfl
  · refine (read_any s i hi hs w (lenN s i) rfl (by omega)).mono ?_
    rintro e w' ⟨rfl, hb⟩
    refine ⟨?_, hb⟩
    have hk := (bk_not s i).2 h
    simp only [pcC, hk, wd, rn, if_neg h]

theorem read_pcL (s : ByteArray) (i : Nat) (hi : i < s.size) (hs : s.size ≤ 9223372036854775807) (w : World) :
    Calls Tryd.prog 83 #[.string s, .int .i64 (i : Int)] w fun e w' => e = .returned (.agg #[.int .i64 i, .int .i64 (wd s i : Nat), .int .i32 (rn s i : Nat), .bool (bk s i)]) ∧ Below w.heap.size w w' := read_pc s i hi hs w

set_option maxHeartbeats 400000 in
theorem at_ok (s : ByteArray) (i : Nat) (hi : i < s.size) (hs : s.size ≤ 9223372036854775807) (w : World) :
    Calls Tryd.prog 86 #[.string s, .int .i64 (i : Int)] w fun e w' => e = .returned (.tuple #[.agg #[.int .i64 i, .int .i64 (wd s i : Nat), .int .i32 (rn s i : Nat), .bool (bk s i)], .int .i64 0]) ∧ Below w.heap.size w w' := by
  go_enter Tryd.func86, Tryd.ntmps86
  go_wp2_with (go_at_call 83; refine (read_pcL s i hi hs _).mono ?_; rintro e w' ⟨rfl, hb⟩; obtain ⟨hc2, hf2⟩ := bcell hb; have hz2 := hb.size)
  refine bodyPost_ret (v := .tuple #[.agg #[.int .i64 i, .int .i64 (wd s i : Nat), .int .i32 (rn s i : Nat), .bool (bk s i)], .int .i64 0]) (by simp [results, Tryd.f86, go_sem, hc2, hz2]) rfl ⟨rfl, ?_⟩
  exact (((((((Below.refl _ _).alloc (Nat.le_refl _) _).trans (hb.mono (by simp))).setCell (p := ⟨_, 0, none⟩) (Nat.le_refl _) _).setCell (p := ⟨_, 1, none⟩) (Nat.le_refl _) _).setCell (p := ⟨_, 2, none⟩) (Nat.le_refl _) _).setCell (p := ⟨_, 3, none⟩) (Nat.le_refl _) _)

set_option maxHeartbeats 400000 in
theorem at_no (s : ByteArray) (i : Int) (hi : i < 0 ∨ (s.size : Int) ≤ i) (w : World) :
    Calls Tryd.prog 86 #[.string s, .int .i64 i] w fun e w' => e = .returned (.tuple #[.agg #[.int .i64 0, .int .i64 0, .int .i32 0, .bool false], .int .i64 5]) ∧ Below w.heap.size w w' := by
  rcases hi with hi | hi
  · go_enter Tryd.func86, Tryd.ntmps86
    go_wp2
    refine bodyPost_ret (v := .tuple #[.agg #[.int .i64 0, .int .i64 0, .int .i32 0, .bool false], .int .i64 5]) (by simp [results, Tryd.f86, go_sem]) rfl ⟨rfl, ?_⟩
    exact (Below.refl _ _).alloc (Nat.le_refl _) _
  · have h0 : ¬ i < 0 := by omega
    go_enter Tryd.func86, Tryd.ntmps86
    go_wp2
    refine bodyPost_ret (v := .tuple #[.agg #[.int .i64 0, .int .i64 0, .int .i32 0, .bool false], .int .i64 5]) (by simp [results, Tryd.f86, go_sem]) rfl ⟨rfl, ?_⟩
    exact (Below.refl _ _).alloc (Nat.le_refl _) _

end Go.Proofs.YtjccoiephdopkaaDoor.SQ
