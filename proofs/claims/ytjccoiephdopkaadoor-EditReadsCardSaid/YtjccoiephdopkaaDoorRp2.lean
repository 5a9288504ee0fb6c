/- Stage 27: the program's reader: escape. -/
import Derived.Test.YtjccoiephdopkaaDoorRp1
namespace Go.Proofs.YtjccoiephdopkaaDoor
set_option linter.unusedVariables false
set_option linter.unusedSimpArgs false
open Go Go.RowKit Go.Shelf
set_option maxRecDepth 100000

theorem RdK.trans {W W1 W2 : World} {B p f t q f2 t2 : Nat} {s : ByteArray} (h : RdK W W1 B s p f t) (k : RdK W1 W2 B s q f2 t2) : RdK W W2 B s q f2 t2 := ⟨k.1, World.grownBy.trans h.2 k.2⟩
theorem RdK.below {W W1 W2 : World} {B p f t : Nat} {s : ByteArray} (h : RdK W W1 B s p f t) (k : Below W1.heap.size W1 W2) : RdK W W2 B s p f t := by
  refine ⟨Blk.below' h.1 k, h.2.trans ?_⟩
  exact (grown_none k).but _
theorem conv_oneG (X : World) (g c : Nat) (z : Int) (hz : (c : Int) = z) (hg : X.heap.size = g) (hc : c < 256) :
    (convert 46 9 (.slice (some ⟨g, 0, none⟩) 1 1)).run Tryd.prog (X.alloc (.cells #[.int .u8 z] 5)) = .ok (.string ⟨#[UInt8.ofNat c]⟩) (X.alloc (.cells #[.int .u8 z] 5)) := by
  subst hg; subst hz; exact conv_one X c hc
def EscP (W : World) (B : Nat) (s : ByteArray) (p f t : Nat) (e : Ending) (W' : World) : Prop :=
  ∃ (str : ByteArray) (ok : Bool), e = .returned (.tuple #[.string str, .bool ok]) ∧ RdK W W' B s (escS s p).2 f t ∧ (escS s p).1 = if ok = true then some str.data.toList else none
set_option maxHeartbeats 4000000 in
theorem escape_any {B p f t : Nat} {s : ByteArray} {w : World} (h : RdB w B s p f t) (hp : p ≤ s.size) (hs : s.size ≤ 1048576) :
    Calls Tryd.prog 80 #[.pointer (some ⟨B, 0, none⟩)] w (EscP w B s p f t) := by
  have cL := look_any h hp (by omega)
  have rK := fun (Y : World) m (hY : Y = w.drewN m) => (hY ▸ (RdK.start h).drew m : RdK w Y B s p f t)
  have hpI : (p : Int) ≤ 1048576 := by omega
  obtain ⟨c, hc⟩ : ∃ c, lkN s p = c := ⟨_, rfl⟩
  have hpl : c ≠ 0 → p + 1 ≤ s.size := fun h0 => lkN_lt hc h0
  have hc8 : c < 256 := hc ▸ lkN_256 s p
  have HC := Lib.hid hc
  rw [hc] at cL
  clear hc hp
  by_cases h1 : c = 34
  · subst h1
    have hE : escS s p = (some [34], p + 1) := by unfold escS; rw [HC.out]; rfl
    go_enter Tryd.func80, Tryd.ntmps80
    go_wp2_with (go_at_call 37; refine cL.mono ?_; rintro e w1 ⟨rfl, y, rfl⟩; have HK := Lib.hid (rK _ y rfl); obtain ⟨c0, c1, c2, c3, cf⟩ := HK.out.cells; have hcv := fun v => conv_oneG ((w.drewN y).setCell ⟨B, 1, none⟩ v) w.heap.size 34 34 rfl (by simp) (by decide))
    refine bodyPost_ret (results_tmp2 rfl _ _ _) rfl ?_
    unfold EscP
    rw [hE]
    refine ⟨_, true, rfl, ?_, rfl⟩
    have := (HK.out.to (p + 1)).below ((Below.refl _ _).alloc (Nat.le_refl _) (.cells #[.int .u8 34] 5))
    simpa using this
  by_cases h2 : c = 92
  · subst h2
    have hE : escS s p = (some [92], p + 1) := by unfold escS; rw [HC.out]; rfl
    go_enter Tryd.func80, Tryd.ntmps80
    go_wp2_with (go_at_call 37; refine cL.mono ?_; rintro e w1 ⟨rfl, y, rfl⟩; have HK := Lib.hid (rK _ y rfl); obtain ⟨c0, c1, c2, c3, cf⟩ := HK.out.cells; have hcv := fun v => conv_oneG ((w.drewN y).setCell ⟨B, 1, none⟩ v) w.heap.size 92 92 rfl (by simp) (by decide))
    refine bodyPost_ret (results_tmp2 rfl _ _ _) rfl ?_
    unfold EscP
    rw [hE]
    refine ⟨_, true, rfl, ?_, rfl⟩
    have := (HK.out.to (p + 1)).below ((Below.refl _ _).alloc (Nat.le_refl _) (.cells #[.int .u8 92] 5))
    simpa using this
  by_cases h3 : c = 120
  · subst h3
    have cH := fun (Y : World) (hY : RdB Y B s (p + 1) f t) => hex_any hY (hpl (by decide)) hs 2 (by omega)
    have hx := hxS_pos s 2 (p + 1) 0 (hpl (by decide))
    have hxv := hxS_val s 2 (p + 1) 0 0 (by decide)
    have hE : escS s p = if (hxS s 2 (p + 1) 0).2 = p + 3 then (some [UInt8.ofNat (hxS s 2 (p + 1) 0).1], p + 3) else (none, (hxS s 2 (p + 1) 0).2) := by
      unfold escS; rw [HC.out, if_neg (by omega), if_pos rfl]
    obtain ⟨n, hn⟩ : ∃ n, (hxS s 2 (p + 1) 0).1 = n := ⟨_, rfl⟩
    obtain ⟨q, hq⟩ : ∃ q, (hxS s 2 (p + 1) 0).2 = q := ⟨_, rfl⟩
    rw [hn, hq] at hE
    rw [hn] at hxv
    rw [hq] at hx
    simp only [hn, hq] at cH
    obtain ⟨d, hd⟩ : ∃ d, q - (p + 1) = d := ⟨_, rfl⟩
    rw [hd] at cH
    have e2 : (16 : Nat) ^ (0 + 2) = 256 := by decide
    rw [e2] at hxv
    have ew : IntKind.u8.wrap (n : Int) = (n : Int) := by rw [IntKind.wrap_u8]; omega
    have hdd : d = 2 ↔ q = p + 3 := by omega
    have HX := Lib.hid (And.intro hE (And.intro hx hdd))
    have hcv := fun X => conv_one X n hxv
    clear hx hE hdd hd hq hn hxv e2
    have ED : ((d : Int) == 2) = decide (d = 2) := by
      by_cases h : d = 2
      · subst h; rfl
      · rw [decide_eq_false h, beq_eq_false_iff_ne]; omega
    have HED := Lib.hid ED
    clear ED
    go_enter Tryd.func80, Tryd.ntmps80
    go_wp2_with (first
      | (go_at_call 37; refine cL.mono ?_; rintro e w1 ⟨rfl, y, rfl⟩; have HK := Lib.hid (rK _ y rfl); obtain ⟨c0, c1, c2, c3, cf⟩ := HK.out.cells)
      | (go_at_call 88; refine (cH _ (by have := (HK.out.to (p + 1)).1; simpa using this)).mono ?_; rintro e w3 ⟨rfl, hk⟩; have HK3 := Lib.hid (RdK.trans (by simpa using HK.out.to (p + 1)) hk)))
    refine bodyPost_ret (results_tmp2 rfl _ _ _) rfl ?_
    unfold EscP
    by_cases hq : q = p + 3
    · obtain rfl : d = 2 := HX.out.2.2.2 hq
      rw [HX.out.1, if_pos hq]
      refine ⟨_, true, rfl, ?_, rfl⟩
      rw [← hq]
      exact HK3.out.below ((Below.refl _ _).alloc (Nat.le_refl _) _)
    · have hd2 : d ≠ 2 := fun e => hq (HX.out.2.2.1 e)
      rw [HX.out.1, if_neg hq]
      refine ⟨⟨#[UInt8.ofNat n]⟩, false, ?_, HK3.out.below ((Below.refl _ _).alloc (Nat.le_refl _) _), rfl⟩
      have e : ((d : Int) == 2) = false := by rw [HED.out, decide_eq_false hd2]
      rw [← e]
      rfl
  by_cases h4 : c = 123
  · subst h4
    have cH := fun (Y : World) (hY : RdB Y B s (p + 1) f t) => hex_any hY (hpl (by decide)) hs 6 (by omega)
    have hx := hxS_pos s 6 (p + 1) 0 (hpl (by decide))
    have hxv := hxS_val s 6 (p + 1) 0 0 (by decide)
    have hE : escS s p = if (hxS s 6 (p + 1) 0).2 = p + 1 ∨ lkN s (hxS s 6 (p + 1) 0).2 ≠ 125 then (none, (hxS s 6 (p + 1) 0).2) else (some (Utf8.encode ((hxS s 6 (p + 1) 0).1 : Nat)).data.toList, (hxS s 6 (p + 1) 0).2 + 1) := by
      unfold escS; rw [HC.out, if_neg (by omega), if_neg (by omega), if_pos rfl]
    obtain ⟨n, hn⟩ : ∃ n, (hxS s 6 (p + 1) 0).1 = n := ⟨_, rfl⟩
    obtain ⟨q, hq⟩ : ∃ q, (hxS s 6 (p + 1) 0).2 = q := ⟨_, rfl⟩
    rw [hn, hq] at hE
    rw [hn] at hxv
    rw [hq] at hx
    simp only [hn, hq] at cH
    obtain ⟨d, hd⟩ : ∃ d, q - (p + 1) = d := ⟨_, rfl⟩
    rw [hd] at cH
    have e2 : (16 : Nat) ^ (0 + 6) = 16777216 := by decide
    rw [e2] at hxv
    have cL2 := fun (Y : World) (hY : RdB Y B s q f t) => look_any hY hx.2.2 (by omega)
    obtain ⟨g, hg⟩ : ∃ g, lkN s q = g := ⟨_, rfl⟩
    rw [hg] at cL2 hE
    have hqI : (q : Int) ≤ 1048576 := by omega
    have hd0 : d = 0 ↔ q = p + 1 := by omega
    have hdi : (d : Int) ≤ 6 := by omega
    have HX := Lib.hid (And.intro hE (And.intro hx hd0))
    have cEn := fun W => SQ.encP_any (n : Int) W
    clear hx hE hd hq hn hxv e2 hg hd0
    by_cases hz : d = 0
    · subst hz
      have hq1 := HX.out.2.2.1 rfl
      have hE : escS s p = (none, q) := by rw [HX.out.1, if_pos (.inl hq1)]
      have HE := Lib.hid hE
      clear hE hq1 hdi
      go_enter Tryd.func80, Tryd.ntmps80
      go_wp2_with (first
        | (go_at_call 37; refine cL.mono ?_; rintro e w1 ⟨rfl, y, rfl⟩; have HK := Lib.hid (rK _ y rfl); obtain ⟨c0, c1, c2, c3, cf⟩ := HK.out.cells)
        | (go_at_call 88; refine (cH _ (by have := (HK.out.to (p + 1)).1; simpa using this)).mono ?_; rintro e w3 ⟨rfl, hk⟩; have HK3 := Lib.hid (RdK.trans (by simpa using HK.out.to (p + 1)) hk)))
      refine bodyPost_ret (results_tmp2 rfl _ _ _) rfl ?_
      unfold EscP
      rw [HE.out]
      exact ⟨_, false, rfl, HK3.out, rfl⟩
    · have z1 : ((d : Int) == 0) = false := by rw [beq_eq_false_iff_ne]; omega
      have z2 : ¬ (d : Int) = 0 := by omega
      have hnq : ¬ q = p + 1 := fun e => hz (HX.out.2.2.2 e)
      by_cases hg : g = 125
      · subst hg
        have hE : escS s p = (some (Utf8.encode (n : Int)).data.toList, q + 1) := by
          rw [HX.out.1, if_neg (fun h => h.elim hnq (fun h => h rfl))]
        have HE := Lib.hid hE
        clear hE hnq
        go_enter Tryd.func80, Tryd.ntmps80
        go_wp2_with (first
          | (go_at_call 37; refine cL.mono ?_; rintro e w1 ⟨rfl, y, rfl⟩; have HK := Lib.hid (rK _ y rfl); obtain ⟨c0, c1, c2, c3, cf⟩ := HK.out.cells)
          | (go_at_call 88; refine (cH _ (by have := (HK.out.to (p + 1)).1; simpa using this)).mono ?_; rintro e w3 ⟨rfl, hk⟩; have HK3 := Lib.hid (RdK.trans (by simpa using HK.out.to (p + 1)) hk))
          | (go_at_call 37; refine (cL2 _ HK3.out.1).mono ?_; rintro e w4 ⟨rfl, y2, rfl⟩; have HK4 := Lib.hid (HK3.out.drew y2); obtain ⟨k0, k1, k2, k3, kf⟩ := HK4.out.cells)
          | (go_at_call 89; refine (cEn _).mono ?_; rintro e w5 ⟨rfl, hb5⟩))
        refine bodyPost_ret (results_tmp2 rfl _ _ _) rfl ?_
        unfold EscP
        rw [HE.out]
        exact ⟨_, true, rfl, RdK.below (by simpa using HK4.out.to (q + 1)) hb5, rfl⟩
      · have hE : escS s p = (none, q) := by rw [HX.out.1, if_pos (.inr hg)]
        have HE := Lib.hid hE
        have g1 : ¬ (g : Int) = 125 := by omega
        have g2 : ((g : Int) == 125) = false := by rw [beq_eq_false_iff_ne]; exact g1
        clear hE hnq
        go_enter Tryd.func80, Tryd.ntmps80
        go_wp2_with (first
          | (go_at_call 37; refine cL.mono ?_; rintro e w1 ⟨rfl, y, rfl⟩; have HK := Lib.hid (rK _ y rfl); obtain ⟨c0, c1, c2, c3, cf⟩ := HK.out.cells)
          | (go_at_call 88; refine (cH _ (by have := (HK.out.to (p + 1)).1; simpa using this)).mono ?_; rintro e w3 ⟨rfl, hk⟩; have HK3 := Lib.hid (RdK.trans (by simpa using HK.out.to (p + 1)) hk))
          | (go_at_call 37; refine (cL2 _ HK3.out.1).mono ?_; rintro e w4 ⟨rfl, y2, rfl⟩; have HK4 := Lib.hid (HK3.out.drew y2)))
        refine bodyPost_ret (results_tmp2 rfl _ _ _) rfl ?_
        unfold EscP
        rw [HE.out]
        exact ⟨_, false, rfl, HK4.out, rfl⟩
  have hE : escS s p = (none, p) := by unfold escS; rw [HC.out, if_neg (by omega), if_neg (by omega), if_neg (by omega)]
  have HE := Lib.hid hE
  have a1 : ¬ (c : Int) = 34 := by omega
  have a2 : ¬ (c : Int) = 92 := by omega
  have a3 : ¬ (c : Int) = 120 := by omega
  have a4 : ¬ (c : Int) = 123 := by omega
  have b1 : ((c : Int) == 34) = false := by rw [beq_eq_false_iff_ne]; exact a1
  have b2 : ((c : Int) == 92) = false := by rw [beq_eq_false_iff_ne]; exact a2
  have b3 : ((c : Int) == 120) = false := by rw [beq_eq_false_iff_ne]; exact a3
  have b4 : ((c : Int) == 123) = false := by rw [beq_eq_false_iff_ne]; exact a4
  clear hE
  go_enter Tryd.func80, Tryd.ntmps80
  go_wp2_with (go_at_call 37; refine cL.mono ?_; rintro e w1 ⟨rfl, y, rfl⟩; have HK := Lib.hid (rK _ y rfl))
  refine bodyPost_ret (results_tmp2 rfl _ _ _) rfl ?_
  unfold EscP
  rw [HE.out]
  exact ⟨_, false, rfl, HK.out, rfl⟩
end Go.Proofs.YtjccoiephdopkaaDoor
