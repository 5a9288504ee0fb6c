/- What the document's At answers: the piece that begins at a place. -/
import Derived.Test.YtgpnheaefagfiaaForm
import Derived.Test.YtgpnheaefagfiaaWk
namespace Go.Proofs.Ytgpnheaefagfiaa
set_option linter.unusedVariables false
set_option linter.unusedSimpArgs false
open Go Go.RowKit
set_option maxRecDepth 100000

set_option maxHeartbeats 400000 in
theorem atR_any (s : ByteArray) (i : Nat) (hi : i < s.size) (hs : s.size ≤ 281474976710656) (w : World) :
    Calls Try.prog 17 #[.string s, .int .i64 (i : Int)] w fun e w' => e = .returned (.agg #[.int .i64 i, .int .i64 (wd s i : Nat), .int .i32 (rn s i : Nat), .bool (bk s i)]) ∧ Below w.heap.size w w' := by
  have hf := form_any s i hi hs
  by_cases h : lenN s i = 0
  · have hk := (bk_iff s i).2 h
    have h2 := bk_rn s i hk
    rw [show fmR s i = 0 by rw [fmR, if_pos h], h] at hf
    rw [hk, h2.1, h2.2]
    clear h hk h2
    go_enter Try.func17, Try.ntmps17
    go_wp2_with (first | (go_at_call 68; refine (hf _).mono ?_; rintro e w' ⟨rfl, hb⟩; obtain ⟨hc2, hf2⟩ := bcell hb; have hz2 := hb.size))
    refine bodyPost_ret (v := .agg #[.int .i64 i, .int .i64 1, .int .i32 65533, .bool true]) (by simp [results, Try.f17, go_sem, hc2, hz2]) rfl ⟨rfl, ?_⟩
    exact (((((((Below.refl _ _).alloc (Nat.le_refl _) _).trans (hb.mono (by simp))).setCell (p := ⟨_, 0, none⟩) (Nat.le_refl _) _).setCell (p := ⟨_, 1, none⟩) (Nat.le_refl _) _).setCell (p := ⟨_, 2, none⟩) (Nat.le_refl _) _).setCell (p := ⟨_, 3, none⟩) (Nat.le_refl _) _)
  · have hk := (bk_not s i).2 h
    rw [show fmR s i = rn s i by rw [fmR, if_neg h]] at hf
    have hw : wd s i = lenN s i := by rw [wd, if_neg h]
    rw [hk, hw]
    have hpos : 0 < lenN s i := by omega
    obtain ⟨L, hL⟩ : ∃ L, lenN s i = L := ⟨_, rfl⟩
    obtain ⟨R, hR⟩ : ∃ R, rn s i = R := ⟨_, rfl⟩
    rw [hL, hR] at hf ⊢
    rw [hL] at hpos
    clear h hk hw hL hR
    go_enter Try.func17, Try.ntmps17
    go_wp2_with (first | (go_at_call 68; refine (hf _).mono ?_; rintro e w' ⟨rfl, hb⟩; obtain ⟨hc2, hf2⟩ := bcell hb; have hz2 := hb.size))
    refine bodyPost_ret (v := .agg #[.int .i64 i, .int .i64 L, .int .i32 R, .bool false]) (by simp [results, Try.f17, go_sem, hc2, hz2]) rfl ⟨rfl, ?_⟩
    exact (((((((Below.refl _ _).alloc (Nat.le_refl _) _).trans (hb.mono (by simp))).setCell (p := ⟨_, 0, none⟩) (Nat.le_refl _) _).setCell (p := ⟨_, 1, none⟩) (Nat.le_refl _) _).setCell (p := ⟨_, 2, none⟩) (Nat.le_refl _) _).setCell (p := ⟨_, 3, none⟩) (Nat.le_refl _) _)

theorem infoP : (Try.prog.info? 24).map (fun i => (i.zero, i.size, i.bytes)) = some (some (.agg #[.int .i64 0, .int .i64 0, .int .i32 0, .bool false]), 4, 24) := by kernel_rfl

end Go.Proofs.Ytgpnheaefagfiaa
