/- What runes.At and class.Of answer (for the layers that ask them). -/
import Derived.Test.YtnbhdgbhmcbeoaaRnB
import Derived.Test.YtnbhdgbhmcbeoaaCw4
import Derived.Test.YtnbhdgbhmcbeoaaK0
namespace Go.Proofs.Ytnbhdgbhmcbeoaa
set_option linter.unusedVariables false
set_option linter.unusedSimpArgs false
open Go Go.RowKit Go.Shelf
set_option maxRecDepth 100000

theorem read_pcL (s : ByteArray) (i : Nat) (hi : i < s.size) (hs : s.size ≤ 9223372036854775807) (w : World) :
    Calls Try.prog 68 #[.string s, .int .i64 (i : Int)] w fun e w' => e = .returned (.agg #[.int .i64 i, .int .i64 (wd s i : Nat), .int .i32 (rn s i : Nat), .bool (bk s i)]) ∧ Below w.heap.size w w' := by
  by_cases h : lenN s i = 0
  · refine (read_none s i hi hs w h).mono ?_
    rintro e w' ⟨rfl, hb⟩
    refine ⟨?_, hb⟩
    have hk := (bk_iff s i).2 h
    have h2 := bk_rn s i hk
    simp only [hk, h2.1, h2.2]; rfl
  · refine (read_any s i hi hs w (lenN s i) rfl (by omega)).mono ?_
    rintro e w' ⟨rfl, hb⟩
    refine ⟨?_, hb⟩
    have hk := (bk_not s i).2 h
    simp only [hk, wd, rn, if_neg h]

set_option maxHeartbeats 400000 in
theorem at_ok (s : ByteArray) (i : Nat) (hi : i < s.size) (hs : s.size ≤ 9223372036854775807) (w : World) :
    Calls Try.prog 55 #[.string s, .int .i64 (i : Int)] w fun e w' => e = .returned (.tuple #[.agg #[.int .i64 i, .int .i64 (wd s i : Nat), .int .i32 (rn s i : Nat), .bool (bk s i)], .int .i64 0]) ∧ Below w.heap.size w w' := by
  go_enter Try.func55, Try.ntmps55
  go_wp2_with (go_at_call 68; refine (read_pcL s i hi hs _).mono ?_; rintro e w' ⟨rfl, hb⟩; obtain ⟨hc2, hf2⟩ := bcell hb; have hz2 := hb.size)
  refine bodyPost_ret (v := .tuple #[.agg #[.int .i64 i, .int .i64 (wd s i : Nat), .int .i32 (rn s i : Nat), .bool (bk s i)], .int .i64 0]) (by simp [results, Try.f55, go_sem, hc2, hz2]) rfl ⟨rfl, ?_⟩
  exact (((((((Below.refl _ _).alloc (Nat.le_refl _) _).trans (hb.mono (by simp))).setCell (p := ⟨_, 0, none⟩) (Nat.le_refl _) _).setCell (p := ⟨_, 1, none⟩) (Nat.le_refl _) _).setCell (p := ⟨_, 2, none⟩) (Nat.le_refl _) _).setCell (p := ⟨_, 3, none⟩) (Nat.le_refl _) _)

theorem ofK_t (i wx r : Int) (w : World) :
    Calls Try.prog 57 #[.agg #[.int .i64 i, .int .i64 wx, .int .i32 r, .bool true]] w fun e w' => e = .returned (.int .i64 11) ∧ Below w.heap.size w w' := by
  go_enter Try.func57, Try.ntmps57
  go_wp2
  go_ret
  exact ⟨rfl, (Below.refl _ _).alloc (Nat.le_refl _) _⟩
theorem ofK_f (i wx r : Int) (w : World) :
    Calls Try.prog 57 #[.agg #[.int .i64 i, .int .i64 wx, .int .i32 r, .bool false]] w fun e w' => e = .returned (.int .i64 (kindZ r)) ∧ Below w.heap.size w w' := by
  have cK := kind_any r
  go_enter Try.func57, Try.ntmps57
  go_wp2_with (go_at_call 70; refine (cK _).mono ?_; rintro e w' ⟨rfl, rfl⟩)
  go_ret
  exact ⟨rfl, (Below.refl _ _).alloc (Nat.le_refl _) _⟩
/-- The kind of a piece as numbers: a broken byte's is 11. -/
def kdP (b : Bool) (r : Int) : Nat := if b then 11 else (kindZ r).toNat
theorem kindZ_nn (r : Int) : 0 ≤ kindZ r := by
  unfold kindZ
  repeat' split
  all_goals omega
theorem kindZ_le (r : Int) : kindZ r ≤ 10 := by
  unfold kindZ
  repeat' split
  all_goals omega
theorem kdP_le (b : Bool) (r : Int) : kdP b r ≤ 11 := by
  unfold kdP
  have := kindZ_le r
  split <;> omega
theorem ofK (i wx r : Int) (b : Bool) (w : World) :
    Calls Try.prog 57 #[.agg #[.int .i64 i, .int .i64 wx, .int .i32 r, .bool b]] w fun e w' => e = .returned (.int .i64 (kdP b r : Nat)) ∧ Below w.heap.size w w' := by
  unfold kdP
  cases b with
  | true => exact ofK_t i wx r w
  | false =>
    have := ofK_f i wx r w
    rw [show kindZ r = (((kindZ r).toNat : Nat) : Int) from (Int.toNat_of_nonneg (kindZ_nn _)).symm] at this
    simpa using this
end Go.Proofs.Ytnbhdgbhmcbeoaa
