/- Stage 31: ChantSounds. -/
import Derived.Test.YtieaeicpmibjkaaCho
namespace Go.Proofs.Ytieaeicpmibjkaa
set_option linter.unusedVariables false
set_option linter.unusedSimpArgs false
open Go Go.RowKit Go.Shelf
set_option maxRecDepth 100000

theorem VoicesIn.below' {w W : World} {o : Option Addr} {vs : List (List Nt)} (h : VoicesIn w o vs) (hb : Below w.heap.size w W) : VoicesIn W o vs := by
  intro k l hk
  obtain ⟨g, off, ol, cap, ho, hc, hr, hf⟩ := h k l hk
  exact ⟨g, off, ol, cap, ho, by rw [hb.cell (p := ⟨g, off + k, none⟩) (lt_cell hc)]; exact hc, hr.below encN_len (by decide) hb, hf⟩

set_option maxHeartbeats 4000000 in
theorem sounds_law (vs : List (List Nt)) (o : Option Addr) (cap t : Nat) (hn : vs.length ≤ 9223372036854775807) (w : World) (hv : VoicesIn w o vs) :
    Calls Try.prog 7 #[.slice o vs.length cap, .float .f64 t] w fun e w' => e = .returned (.bool true) ∧ Below w.heap.size w w' := by
  have cSo := fun W h => some_any vs o cap hn W h
  have hl := someV_len vs
  have ht := some_tot vs
  have c1 := fun o' cap' W h => sounding_any (someV vs) o' cap' t (by omega) (by omega) W h
  have c2 := fun o' cap' W h => soundingD_any (someV vs) o' cap' t (by omega) (by omega) W h
  have c3 := fun o' cap' W h => most_any (someV vs) o' cap' (by omega) (by omega) W h
  have c4 := fun o' cap' W h => mostD_any (someV vs) o' cap' (by omega) (by omega) W h
  obtain ⟨us, hus⟩ : ∃ us, someV vs = us := ⟨_, rfl⟩
  rw [hus] at cSo c1 c2 c3 c4 hl ht
  obtain ⟨z1, hz1⟩ : ∃ z, cntS us t = z := ⟨_, rfl⟩
  obtain ⟨z2, hz2⟩ : ∃ z, mostV us = z := ⟨_, rfl⟩
  rw [hz1] at c1 c2
  rw [hz2] at c3 c4
  have k1 : ((z1 : Int) == (z1 : Int)) = true := by simp
  have k2 : ((z2 : Int) == (z2 : Int)) = true := by simp
  have hv1 := fun W h => hv.below' (W := W) h
  clear hus hz1 hz2 hl ht
  go_enter Try.func7, Try.ntmps7
  go_wp2_with (fail)
  refine (wakes_any _).mono ?_
  rintro e w1 ⟨rfl, hb1⟩
  go_wp2_with (fail)
  refine (cSo _ (hv1 _ hb1)).mono ?_
  rintro e w2 ⟨o2, cap2, rfl, hV2, hb2⟩
  have hB2 := hb1.trans (hb2.mono hb1.size)
  clear hb1 hb2
  go_wp2_with (fail)
  refine (c1 _ _ _ hV2).mono ?_
  rintro e w3 ⟨rfl, hb3⟩
  have hV3 := hV2.below hb3
  have hB3 := hB2.trans (hb3.mono hB2.size)
  clear hb3
  go_wp2_with (fail)
  refine (c2 _ _ _ hV3).mono ?_
  rintro e w4 ⟨rfl, hb4⟩
  have hV4 := hV3.below hb4
  have hB4 := hB3.trans (hb4.mono hB3.size)
  clear hb4
  go_wp2_with (fail)
  refine (c3 _ _ _ hV4).mono ?_
  rintro e w5 ⟨rfl, hb5⟩
  have hV5 := hV4.below hb5
  have hB5 := hB4.trans (hb5.mono hB4.size)
  clear hb5
  go_wp2_with (fail)
  refine (c4 _ _ _ hV5).mono ?_
  rintro e w6 ⟨rfl, hb6⟩
  have hB6 := hB5.trans (hb6.mono hB5.size)
  clear hb6
  go_wp2_with (fail)
  refine (wakes_any _).mono ?_
  rintro e w7 ⟨rfl, hb7⟩
  have hB7 := hB6.trans (hb7.mono hB6.size)
  clear hb7
  go_wp2
  go_ret
  exact ⟨rfl, hB7⟩
end Go.Proofs.Ytieaeicpmibjkaa
