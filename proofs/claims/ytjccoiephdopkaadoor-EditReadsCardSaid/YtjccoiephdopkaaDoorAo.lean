/- What runes.At answers; a lone byte. -/
import Derived.Test.YtjccoiephdopkaaDoorRnB
import Derived.Test.YtjccoiephdopkaaDoorBd
import Derived.Test.YtjccoiephdopkaaDoorIta
import Derived.Test.YtjccoiephdopkaaDoorK0
namespace Go.Proofs.YtjccoiephdopkaaDoor
set_option linter.unusedVariables false
set_option linter.unusedSimpArgs false
open Go Go.RowKit Go.Shelf
set_option maxRecDepth 100000

theorem read_pcL (s : ByteArray) (i : Nat) (hi : i < s.size) (hs : s.size ≤ 9223372036854775807) (w : World) :
    Calls Tryd.prog 83 #[.string s, .int .i64 (i : Int)] w fun e w' => e = .returned (.agg #[.int .i64 i, .int .i64 (wd s i : Nat), .int .i32 (rn s i : Nat), .bool (bk s i)]) ∧ Below w.heap.size w w' := by
  by_cases h : lenN s i = 0
  · refine (read_none s i hi hs w h).mono ?_
    rintro e w' ⟨rfl, hb⟩
    refine ⟨?_, hb⟩
    have hk := (bk_iff s i).2 h
    have h2 := bk_rn s i hk
    simp only [hk, h2.1, h2.2]; rfl
  · refine (read_any s i hi hs w (lenN s i) rfl (by omega)).mono ?_
    rintro e w' ⟨rfl, hb⟩
    refine ⟨?_, hb⟩
    have hk := (bk_not s i).2 h
    simp only [hk, wd, rn, if_neg h]

set_option maxHeartbeats 400000 in
theorem at_ok (s : ByteArray) (i : Nat) (hi : i < s.size) (hs : s.size ≤ 9223372036854775807) (w : World) :
    Calls Tryd.prog 86 #[.string s, .int .i64 (i : Int)] w fun e w' => e = .returned (.tuple #[.agg #[.int .i64 i, .int .i64 (wd s i : Nat), .int .i32 (rn s i : Nat), .bool (bk s i)], .int .i64 0]) ∧ Below w.heap.size w w' := by
  go_enter Tryd.func86, Tryd.ntmps86
  go_wp2_with (go_at_call 83; refine (read_pcL s i hi hs _).mono ?_; rintro e w' ⟨rfl, hb⟩; obtain ⟨hc2, hf2⟩ := bcell hb; have hz2 := hb.size)
  refine bodyPost_ret (v := .tuple #[.agg #[.int .i64 i, .int .i64 (wd s i : Nat), .int .i32 (rn s i : Nat), .bool (bk s i)], .int .i64 0]) (by simp [results, Tryd.f86, go_sem, hc2, hz2]) rfl ⟨rfl, ?_⟩
  exact (((((((Below.refl _ _).alloc (Nat.le_refl _) _).trans (hb.mono (by simp))).setCell (p := ⟨_, 0, none⟩) (Nat.le_refl _) _).setCell (p := ⟨_, 1, none⟩) (Nat.le_refl _) _).setCell (p := ⟨_, 2, none⟩) (Nat.le_refl _) _).setCell (p := ⟨_, 3, none⟩) (Nat.le_refl _) _)

theorem lone_any (s : ByteArray) (i : Nat) (hi : i < s.size) (hs : s.size ≤ 9223372036854775807) (w : World) :
    Calls Tryd.prog 76 #[.string s, .int .i64 (i : Int)] w fun e w' => e = .returned (.bool (decide (wd s i = 1))) ∧ Below w.heap.size w w' := by
  have cA := at_ok s i hi hs w
  have e1 : ((wd s i : Int) == 1) = decide (wd s i = 1) := by
    by_cases h : wd s i = 1
    · rw [h]; rfl
    · rw [decide_eq_false h, beq_eq_false_iff_ne]; omega
  clear hi hs
  go_enter Tryd.func76, Tryd.ntmps76
  go_wp2_with (go_at_call 86; refine cA.mono ?_; rintro e w' ⟨rfl, hb⟩)
  go_ret
  refine ⟨?_, ?_⟩
  · rw [← e1]; rfl
  · exact hb.alloc hb.size _
end Go.Proofs.YtjccoiephdopkaaDoor
