/- Stage 27: the document's reader: behind. -/
import Derived.Test.YtjccoiephdopkaaDoorRe2
import Derived.Test.YtjccoiephdopkaaDoorRp2
namespace Go.Proofs.YtjccoiephdopkaaDoor
set_option linter.unusedVariables false
set_option linter.unusedSimpArgs false
open Go Go.RowKit Go.Shelf
set_option maxRecDepth 100000

structure BehP (w : World) (B : Nat) (s : ByteArray) (p : Nat) (e : Ending) (w' : World) : Prop where
  h : ∃ str, e = .returned (.string str) ∧ str.size ≤ 4 ∧ ((∃ b q, escS s p = (some b, q) ∧ str.data.toList = b ∧ DdK w w' B s q (-1)) ∨ (∃ q p', escS s p = (none, q) ∧ p' ≤ s.size + 2 ∧ DdK w w' B s p' (q : Int)))
theorem one4 (u : UInt8) : (⟨#[u]⟩ : ByteArray).size ≤ 4 := by show 1 ≤ 4; omega
theorem enc4 (r : Int) : (Utf8.encode r).size ≤ 4 := by have := enc_len r; rwa [Array.length_toList] at this
set_option maxHeartbeats 4000000 in
theorem behind_any {B p : Nat} {s : ByteArray} {w : World} (h : RdD w B s p (-1)) (hp : p ≤ s.size) (hs : s.size ≤ 1048576) :
    Calls Tryd.prog 60 #[.pointer (some ⟨B, 0, none⟩)] w (BehP w B s p) := by
  have cL := cD_ok h hp hs
  have rK := fun (Y : World) m (hY : Y = w.drewN m) => (hY ▸ (DdK.start h).drew m : DdK w Y B s p (-1))
  have hpI : (p : Int) ≤ 1048576 := by omega
  obtain ⟨c, hc⟩ : ∃ c, lkN s p = c := ⟨_, rfl⟩
  have hpl : c ≠ 0 → p + 1 ≤ s.size := fun h0 => lkN_lt hc h0
  have hc8 : c < 256 := hc ▸ lkN_256 s p
  have HC := Lib.hid hc
  rw [hc] at cL
  have HP := Lib.hid (And.intro hp hs)
  clear hc hp
  by_cases h1 : c = 34
  · subst h1
    have hE : escS s p = (some [34], p + 1) := by unfold escS; rw [HC.out]; rfl
    go_enter Tryd.func60, Tryd.ntmps60
    go_wp2_with (go_at_call 32; refine cL.mono ?_; rintro e w1 ⟨rfl, y, rfl⟩; have HK := Lib.hid (rK _ y rfl); obtain ⟨c0, c1, c2, cf⟩ := HK.out.cells; have hcv := fun v => conv_oneG ((w.drewN y).setCell ⟨B, 1, none⟩ v) w.heap.size 34 34 rfl (by simp) (by decide))
    go_ret
    refine ⟨_, rfl, one4 _, .inl ⟨_, _, hE, rfl, ?_⟩⟩
    have := (HK.out.to (p + 1)).below ((Below.refl _ _).alloc (Nat.le_refl _) (.cells #[.int .u8 34] 5))
    simpa using this
  by_cases h2 : c = 92
  · subst h2
    have hE : escS s p = (some [92], p + 1) := by unfold escS; rw [HC.out]; rfl
    go_enter Tryd.func60, Tryd.ntmps60
    go_wp2_with (go_at_call 32; refine cL.mono ?_; rintro e w1 ⟨rfl, y, rfl⟩; have HK := Lib.hid (rK _ y rfl); obtain ⟨c0, c1, c2, cf⟩ := HK.out.cells; have hcv := fun v => conv_oneG ((w.drewN y).setCell ⟨B, 1, none⟩ v) w.heap.size 92 92 rfl (by simp) (by decide))
    go_ret
    refine ⟨_, rfl, one4 _, .inl ⟨_, _, hE, rfl, ?_⟩⟩
    have := (HK.out.to (p + 1)).below ((Below.refl _ _).alloc (Nat.le_refl _) (.cells #[.int .u8 92] 5))
    simpa using this
  have a1 : ¬ (c : Int) = 34 := by omega
  have a2 : ¬ (c : Int) = 92 := by omega
  have b1 : ((c : Int) == 34) = false := by rw [beq_eq_false_iff_ne]; exact a1
  have b2 : ((c : Int) == 92) = false := by rw [beq_eq_false_iff_ne]; exact a2
  by_cases h3 : c = 120
  · subst h3
    have cH := fun (Y : World) (hY : RdD Y B s (p + 1) (-1)) => digitsD_any hY (hpl (by decide)) hs 2 2 (by omega) (by omega)
    have hx := hxS_pos s 2 (p + 1) 0 (hpl (by decide))
    have hxv := hxS_val s 2 (p + 1) 0 0 (by decide)
    have hE : escS s p = if (hxS s 2 (p + 1) 0).2 = p + 3 then (some [UInt8.ofNat (hxS s 2 (p + 1) 0).1], p + 3) else (none, (hxS s 2 (p + 1) 0).2) := by
      unfold escS; rw [HC.out, if_neg (by omega), if_pos rfl]
    rcases hh : hxS s 2 (p + 1) 0 with ⟨n, q⟩
    rw [hh] at hE hx hxv
    simp only [] at hE hx hxv
    have e2 : (16 : Nat) ^ (0 + 2) = 256 := by decide
    rw [e2] at hxv
    have ew : IntKind.u8.wrap (n : Int) = (n : Int) := by rw [IntKind.wrap_u8]; omega
    have hcv := fun X => conv_one X n hxv
    have hqs := HP.out.1
    by_cases hq : q = p + 3
    · rw [if_pos hq] at hE
      have HX := Lib.hid (And.intro hh (And.intro (show (if q - (p + 1) < 2 then (q : Int) else -1) = -1 from if_neg (by omega)) hE))
      subst hq
      clear hx hE hh hxv e2 a1 a2 b1 b2
      go_enter Tryd.func60, Tryd.ntmps60
      go_wp2_with (first
        | (go_at_call 32; refine cL.mono ?_; rintro e w1 ⟨rfl, y, rfl⟩; have HK := Lib.hid (rK _ y rfl); obtain ⟨c0, c1, c2, cf⟩ := HK.out.cells)
        | (go_at_call 79; refine (cH _ (by have := (HK.out.to (p + 1)).1; simpa using this)).mono ?_; rintro e w3 ⟨hd1, hk⟩; rw [HX.out.1] at hd1 hk; rw [HX.out.2.1] at hk; subst hd1; have HK3 := Lib.hid (DdK.trans (by simpa using HK.out.to (p + 1)) hk); clear hk))
      go_ret
      exact ⟨_, rfl, one4 _, .inl ⟨_, _, HX.out.2.2, rfl, HK3.out.below ((Below.refl _ _).alloc (Nat.le_refl _) _)⟩⟩
    · rw [if_neg hq] at hE
      have HX := Lib.hid (And.intro hh (And.intro (show (if q - (p + 1) < 2 then (q : Int) else -1) = (q : Int) from if_pos (by omega)) (And.intro hE (show q ≤ s.size + 2 by omega))))
      clear hx hE hh hxv e2 hq a1 a2 b1 b2
      go_enter Tryd.func60, Tryd.ntmps60
      go_wp2_with (first
        | (go_at_call 32; refine cL.mono ?_; rintro e w1 ⟨rfl, y, rfl⟩; have HK := Lib.hid (rK _ y rfl); obtain ⟨c0, c1, c2, cf⟩ := HK.out.cells)
        | (go_at_call 79; refine (cH _ (by have := (HK.out.to (p + 1)).1; simpa using this)).mono ?_; rintro e w3 ⟨hd1, hk⟩; rw [HX.out.1] at hd1 hk; rw [HX.out.2.1] at hk; subst hd1; have HK3 := Lib.hid (DdK.trans (by simpa using HK.out.to (p + 1)) hk); clear hk))
      go_ret
      exact ⟨_, rfl, one4 _, .inr ⟨q, q, HX.out.2.2.1, HX.out.2.2.2, HK3.out.below ((Below.refl _ _).alloc (Nat.le_refl _) _)⟩⟩
  by_cases h4 : c = 123
  · subst h4
    have cH := fun (Y : World) (hY : RdD Y B s (p + 1) (-1)) => digitsD_any hY (hpl (by decide)) hs 1 6 (by omega) (by omega)
    have hx := hxS_pos s 6 (p + 1) 0 (hpl (by decide))
    have hxv := hxS_val s 6 (p + 1) 0 0 (by decide)
    have hE : escS s p = if (hxS s 6 (p + 1) 0).2 = p + 1 ∨ lkN s (hxS s 6 (p + 1) 0).2 ≠ 125 then (none, (hxS s 6 (p + 1) 0).2) else (some (Utf8.encode ((hxS s 6 (p + 1) 0).1 : Nat)).data.toList, (hxS s 6 (p + 1) 0).2 + 1) := by
      unfold escS; rw [HC.out, if_neg (by omega), if_neg (by omega), if_pos rfl]
    rcases hh : hxS s 6 (p + 1) 0 with ⟨n, q⟩
    rw [hh] at hE hx hxv
    simp only [] at hE hx hxv
    have e2 : (16 : Nat) ^ (0 + 6) = 16777216 := by decide
    rw [e2] at hxv
    have ew : IntKind.i32.wrap (n : Int) = (n : Int) := by rw [IntKind.wrap_i32]; omega
    have hqI : (q : Int) ≤ 1048576 := by omega
    by_cases hq : q = p + 1
    · rw [if_pos (.inl hq)] at hE
      have HX := Lib.hid (And.intro hh (And.intro (show (if q - (p + 1) < 1 then (q : Int) else -1) = (q : Int) from if_pos (by omega)) (And.intro hE (show q + 1 ≤ s.size + 2 by omega))))
      clear hx hE hh hxv e2 hq a1 a2 b1 b2
      go_enter Tryd.func60, Tryd.ntmps60
      go_wp2_with (first
        | (go_at_call 32; refine cL.mono ?_; rintro e w1 ⟨rfl, y, rfl⟩; have HK := Lib.hid (rK _ y rfl); obtain ⟨c0, c1, c2, cf⟩ := HK.out.cells)
        | (go_at_call 79; refine (cH _ (by have := (HK.out.to (p + 1)).1; simpa using this)).mono ?_; rintro e w3 ⟨hd1, hk⟩; rw [HX.out.1] at hd1 hk; rw [HX.out.2.1] at hk; subst hd1; have HK3 := Lib.hid (DdK.trans (by simpa using HK.out.to (p + 1)) hk); clear hk; obtain ⟨m0, m1, m2, mf⟩ := HK3.out.cells)
        | (go_at_call 32; refine (cD_bad HK3.out.1 (by omega)).mono ?_; rintro e w4 ⟨rfl, y4, rfl⟩; have HK4 := Lib.hid (HK3.out.drew y4); obtain ⟨k0, k1, k2, kf⟩ := HK4.out.cells)
        | (go_at_call 34; refine (badD_no HK4.out.1 (by omega) q).mono ?_; rintro e w5 ⟨rfl, rfl⟩))
      go_ret
      refine ⟨_, rfl, enc4 _, .inr ⟨q, q + 1, HX.out.2.2.1, HX.out.2.2.2, ?_⟩⟩
      have := HK4.out.to (q + 1)
      simpa using this
    have cL2 := fun (Y : World) (hY : RdD Y B s q (-1)) => cD_ok hY hx.2.2 hs
    obtain ⟨g, hg⟩ : ∃ g, lkN s q = g := ⟨_, rfl⟩
    rw [hg] at cL2 hE
    by_cases hgg : g = 125
    · rw [if_neg (fun h => h.elim hq (fun h => h hgg))] at hE
      subst hgg
      have HX := Lib.hid (And.intro hh (And.intro (show (if q - (p + 1) < 1 then (q : Int) else -1) = -1 from if_neg (by omega)) hE))
      clear hx hE hh hxv e2 hq hg a1 a2 b1 b2
      go_enter Tryd.func60, Tryd.ntmps60
      go_wp2_with (first
        | (go_at_call 32; refine cL.mono ?_; rintro e w1 ⟨rfl, y, rfl⟩; have HK := Lib.hid (rK _ y rfl); obtain ⟨c0, c1, c2, cf⟩ := HK.out.cells)
        | (go_at_call 79; refine (cH _ (by have := (HK.out.to (p + 1)).1; simpa using this)).mono ?_; rintro e w3 ⟨hd1, hk⟩; rw [HX.out.1] at hd1 hk; rw [HX.out.2.1] at hk; subst hd1; have HK3 := Lib.hid (DdK.trans (by simpa using HK.out.to (p + 1)) hk); clear hk; obtain ⟨m0, m1, m2, mf⟩ := HK3.out.cells)
        | (go_at_call 32; refine (cL2 _ HK3.out.1).mono ?_; rintro e w4 ⟨rfl, y4, rfl⟩; have HK4 := Lib.hid (HK3.out.drew y4); obtain ⟨k0, k1, k2, kf⟩ := HK4.out.cells))
      go_ret
      refine ⟨_, rfl, enc4 _, .inl ⟨_, _, HX.out.2.2, rfl, ?_⟩⟩
      have := HK4.out.to (q + 1)
      simpa using this
    · rw [if_pos (.inr hgg)] at hE
      have g1 : ¬ (g : Int) = 125 := by omega
      have g2 : ((g : Int) == 125) = false := by rw [beq_eq_false_iff_ne]; exact g1
      have HX := Lib.hid (And.intro hh (And.intro (show (if q - (p + 1) < 1 then (q : Int) else -1) = -1 from if_neg (by omega)) (And.intro hE (show q + 1 ≤ s.size + 2 by omega))))
      clear hx hE hh hxv e2 hq hg hgg a1 a2 b1 b2
      go_enter Tryd.func60, Tryd.ntmps60
      go_wp2_with (first
        | (go_at_call 32; refine cL.mono ?_; rintro e w1 ⟨rfl, y, rfl⟩; have HK := Lib.hid (rK _ y rfl); obtain ⟨c0, c1, c2, cf⟩ := HK.out.cells)
        | (go_at_call 79; refine (cH _ (by have := (HK.out.to (p + 1)).1; simpa using this)).mono ?_; rintro e w3 ⟨hd1, hk⟩; rw [HX.out.1] at hd1 hk; rw [HX.out.2.1] at hk; subst hd1; have HK3 := Lib.hid (DdK.trans (by simpa using HK.out.to (p + 1)) hk); clear hk; obtain ⟨m0, m1, m2, mf⟩ := HK3.out.cells)
        | (go_at_call 32; refine (cL2 _ HK3.out.1).mono ?_; rintro e w4 ⟨rfl, y4, rfl⟩; have HK4 := Lib.hid (HK3.out.drew y4); obtain ⟨k0, k1, k2, kf⟩ := HK4.out.cells)
        | (go_at_call 34; refine (badD_ok HK4.out.1 q).mono ?_; rintro e w5 ⟨rfl, rfl⟩; have HK5 := Lib.hid (HK4.out.bad q); obtain ⟨j0, j1, j2, jf⟩ := HK5.out.cells))
      go_ret
      refine ⟨_, rfl, enc4 _, .inr ⟨q, q + 1, HX.out.2.2.1, HX.out.2.2.2, ?_⟩⟩
      have := HK5.out.to (q + 1)
      simpa using this
  · have hE : escS s p = (none, p) := by unfold escS; rw [HC.out, if_neg (by omega), if_neg (by omega), if_neg (by omega)]
    have HE := Lib.hid hE
    have a3 : ¬ (c : Int) = 120 := by omega
    have a4 : ¬ (c : Int) = 123 := by omega
    have b3 : ((c : Int) == 120) = false := by rw [beq_eq_false_iff_ne]; exact a3
    have b4 : ((c : Int) == 123) = false := by rw [beq_eq_false_iff_ne]; exact a4
    clear hE h1 h2 h3 h4
    go_enter Tryd.func60, Tryd.ntmps60
    go_wp2_with (first
      | (go_at_call 32; refine cL.mono ?_; rintro e w1 ⟨rfl, y, rfl⟩; have HK := Lib.hid (rK _ y rfl); obtain ⟨c0, c1, c2, cf⟩ := HK.out.cells)
      | (go_at_call 34; refine (badD_ok HK.out.1 p).mono ?_; rintro e w5 ⟨rfl, rfl⟩; have HK5 := Lib.hid (HK.out.bad p)))
    go_ret
    exact ⟨_, rfl, Nat.zero_le _, .inr ⟨p, p, HE.out, by have := HP.out.1; omega, HK5.out⟩⟩
end Go.Proofs.YtjccoiephdopkaaDoor
