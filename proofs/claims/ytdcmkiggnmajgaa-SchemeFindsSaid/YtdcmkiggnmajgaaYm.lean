/- Stage 16: Found, the document's. -/
import Derived.Test.YtdcmkiggnmajgaaYc
import Derived.Test.YtdcmkiggnmajgaaYe
import Derived.Test.YtdcmkiggnmajgaaXc
namespace Go.Proofs.Ytdcmkiggnmajgaa
set_option linter.unusedVariables false
set_option linter.unusedSimpArgs false
open Go Go.RowKit Go.Shelf
set_option maxRecDepth 100000

/-- What the document's Found's memory is like. -/
structure RnR (ks : List ByteArray) (w X : World) (k : Nat) (vl : Value) : Prop where
  sch : SchB X (w.heap.size + 1) (w.heap.size + 2) vl (.slice none 0 0) ((fndL ks).take k) []
  res : Blk X w.heap.size #[.slice none 0 0, .slice none 0 0] 25
  bel : Below w.heap.size w X
  siz : w.heap.size + 2 ≤ X.heap.size
section
variable {ks : List ByteArray} {w X Y : World} {k : Nat} {vl : Value}
theorem RnR.below (h : RnR ks w X k vl) (hb : Below X.heap.size X Y) : RnR ks w Y k vl := ⟨h.sch.below hb, h.res.below' hb, h.bel.trans (hb.mono h.bel.size), Nat.le_trans h.siz hb.size⟩
theorem RnR.cells (h : RnR ks w X k vl) : X.cell? ⟨w.heap.size + 1, 0, none⟩ = some vl ∧ X.cell? ⟨w.heap.size + 1, 1, none⟩ = some (.slice none 0 0) := ⟨h.sch.1.cell 0, h.sch.1.cell 1⟩
theorem RnR.cellsG {W : World} (h : RnR ks w X k vl) (hg : X.grownBy W vl.ownBlock) : W.cell? ⟨w.heap.size + 1, 0, none⟩ = some vl ∧ W.cell? ⟨w.heap.size + 1, 1, none⟩ = some (.slice none 0 0) ∧ W.frozen? ⟨w.heap.size + 1, 0, none⟩ = false ∧ W.frozen? ⟨w.heap.size + 1, 1, none⟩ = false := by
  have b := h.sch.1.kept hg (fun e => by have := (h.sch.2.1.lt _ e.symm).1; omega)
  exact ⟨b.cell 0, b.cell 1, b.frozen 0, b.frozen 1⟩
theorem RnR.row (h : RnR ks w X k vl) (hk : k ≤ ks.length) : X.ownsRow (w.heap.size + 2) 79 2 vl k (((fndL ks).take k).flatMap encR) := by
  have h1 := h.sch.2.1
  rw [List.length_take, fndL_len, Nat.min_eq_left hk] at h1
  exact h1
theorem RnR.app {W : World} {v2 : Value} {s : ByteArray} (h : RnR ks w X k vl) (hs : ks[k]? = some s) (hg : X.grownBy W vl.ownBlock)
    (hr : W.ownsRow (w.heap.size + 2) 79 2 v2 (k + 1) (((fndL ks).take k).flatMap encR ++ [.int .i64 (cntF (keyL ks) (kIx ks s) : Nat), .int .i64 0])) : RnR ks w (W.setCell ⟨w.heap.size + 1, 0, none⟩ v2) (k + 1) v2 := by
  have hrow : ∀ g, vl.ownBlock = some g → w.heap.size + 2 ≤ g := fun g e => (h.sch.2.1.lt g e).1
  refine ⟨?_, (h.res.kept hg (fun e => by have := hrow _ e.symm; omega)).other (by omega) _ _, (h.bel.grown hg h.bel.size (fun r e => by have := hrow r e; omega)).setCell (p := ⟨w.heap.size + 1, 0, none⟩) (Nat.le_succ _) v2, by have := hg.size; have := h.siz; simp; omega⟩
  have hkl := (List.getElem?_eq_some_iff.1 hs).1
  refine h.sch.putL (by omega) hg (n := k + 1) ?_ ?_
  · rw [fndL_next hs, List.flatMap_append]
    simpa [encR] using hr
  · rw [List.length_take, fndL_len]; omega
end

theorem FnR.fin2 {w X : World} {vl vs : Value} {L : List Rh} {S : List Int} (hs : SchB X (w.heap.size + 1) (w.heap.size + 2) vl vs L S) (res : Blk X w.heap.size #[.slice none 0 0, .slice none 0 0] 25) (bel : Below w.heap.size w X) :
    let F := (X.setCell ⟨w.heap.size, 0, none⟩ vl).setCell ⟨w.heap.size, 1, none⟩ vs
    F.cell? ⟨w.heap.size, 0, none⟩ = some vl ∧ F.cell? ⟨w.heap.size, 1, none⟩ = some vs ∧ F.ownsRow w.heap.size 79 2 vl L.length (L.flatMap encR) ∧ F.ownsRow w.heap.size 3 1 vs S.length (S.flatMap encI) ∧ Below w.heap.size w F := by
  have b2 := (res.set 0 vl).set 1 vs
  have g0 := b2.cell 0
  have g1 := b2.cell 1
  simp only [List.setIfInBounds_toArray, List.set_cons_zero, List.set_cons_succ, List.getElem?_toArray, List.getElem?_cons_succ, List.getElem?_cons_zero] at g0 g1
  exact ⟨g0, g1, own_base (own_low (own_low hs.2.1 (by omega : w.heap.size < w.heap.size + 2) 0 vl) (by omega : w.heap.size < w.heap.size + 2) 1 vs) (by omega : w.heap.size ≤ w.heap.size + 2),
    own_base (own_low (own_low hs.2.2 (by omega : w.heap.size < w.heap.size + 2) 0 vl) (by omega : w.heap.size < w.heap.size + 2) 1 vs) (by omega : w.heap.size ≤ w.heap.size + 2),
    (bel.setCell (p := ⟨w.heap.size, 0, none⟩) (Nat.le_refl _) vl).setCell (p := ⟨w.heap.size, 1, none⟩) (Nat.le_refl _) vs⟩


set_option maxHeartbeats 8000000 in
theorem refFound_any (ks : List ByteArray) (o : Option Addr) (c : Nat) (hn : ks.length ≤ 9223372036854775807) (w : World) (hr : RowAt w encT 1 o ks) :
    Calls Try.prog 38 #[.slice o ks.length c] w fun e w' => ∃ vl vs, e = .returned (.tuple #[.agg #[vl, vs], .int .i64 (fndR ks).2]) ∧ w'.ownsRow w.heap.size 79 2 vl (fndR ks).1.L.length ((fndR ks).1.L.flatMap encR) ∧ w'.ownsRow w.heap.size 3 1 vs (fndR ks).1.S.length ((fndR ks).1.S.flatMap encI) ∧ Below w.heap.size w w' := by
  obtain ⟨i0, hi, hz0, hz1, hz2⟩ := info_parts infoInt
  obtain ⟨j0, hjI, hy0, hy1, hy2⟩ := info_parts infoRhyme
  by_cases hbig : 512 < ks.length
  · have d1 : decide ((512 : Int) < (ks.length : Int)) = true := decide_eq_true (by omega)
    have hF : fndR ks = (⟨[], []⟩, 3) := by unfold fndR; rw [if_pos hbig]
    rw [hF]
    clear hF
    go_enter Try.func38, Try.ntmps38
    go_wp2
    have g0 : (w.alloc (.cells #[.slice none 0 0, .slice none 0 0] 25)).cell? ⟨w.heap.size, 0, none⟩ = some (.slice none 0 0) := (Blk.new w #[.slice none 0 0, .slice none 0 0] 25).cell 0
    have g1 : (w.alloc (.cells #[.slice none 0 0, .slice none 0 0] 25)).cell? ⟨w.heap.size, 1, none⟩ = some (.slice none 0 0) := (Blk.new w #[.slice none 0 0, .slice none 0 0] 25).cell 1
    have hB0 := (Below.refl _ w).alloc (Nat.le_refl _) (.cells #[.slice none 0 0, .slice none 0 0] 25)
    obtain ⟨W0, hW0⟩ : ∃ W, w.alloc (.cells #[.slice none 0 0, .slice none 0 0] 25) = W := ⟨_, rfl⟩
    rw [hW0] at g0 g1 hB0 ⊢
    exact bodyPost_ret (v := .tuple #[.agg #[.slice none 0 0, .slice none 0 0], .int .i64 3]) (by simp [results, Try.f38, go_sem, g0, g1]) rfl ⟨_, _, rfl, World.ownsRow_nil _ _ _ _, World.ownsRow_nil _ _ _ _, hB0⟩
  · have d1 : decide ((512 : Int) < (ks.length : Int)) = false := decide_eq_false (by omega)
    have hB0 := ((Below.refl _ w).alloc (Nat.le_refl _) (.cells #[.slice none 0 0, .slice none 0 0] 25)).alloc (by simp) (.cells #[.slice none 0 0, .slice none 0 0] 25)
    have b0 := (Blk.new w #[.slice none 0 0, .slice none 0 0] 25).alloc (.cells #[.slice none 0 0, .slice none 0 0] 25)
    have b1 := Blk.new (w.alloc (.cells #[.slice none 0 0, .slice none 0 0] 25)) #[.slice none 0 0, .slice none 0 0] 25
    have hsz0 : w.heap.size + 2 ≤ ((w.alloc (.cells #[.slice none 0 0, .slice none 0 0] 25)).alloc (.cells #[.slice none 0 0, .slice none 0 0] 25)).heap.size := by simp
    simp only [World.size_alloc] at b1
    obtain ⟨W0, hW0⟩ : ∃ W, (w.alloc (.cells #[.slice none 0 0, .slice none 0 0] 25)).alloc (.cells #[.slice none 0 0, .slice none 0 0] 25) = W := ⟨_, rfl⟩
    rw [hW0] at hB0 b0 b1 hsz0
    have H0 : RnR ks w W0 0 (.slice none 0 0) := ⟨⟨b1, World.ownsRow_nil _ _ _ _, World.ownsRow_nil _ _ _ _⟩, b0, hB0, hsz0⟩
    have HH := Lib.hid H0
    have HR := Lib.hid hr
    clear hB0 b0 b1 H0 hsz0 hr
    go_enter Try.func38, Try.ntmps38
    go_wp2
    try rw [hW0]
    clear hW0
    go_loopw [5, 15] (fun nx i X => ∃ (k : Nat) (vl : Value), i = .int .i64 k ∧ nx = .int .i64 (cntF (keyL ks) k : Nat) ∧ k ≤ ks.length ∧ RnR ks w X k vl) (fun _ i _ => ks.length - (intOf i).toNat)
    case atStart => exact ⟨0, _, rfl, rfl, Nat.zero_le _, HH.out⟩
    case round =>
      obtain ⟨k, vl, rfl, rfl, hk, hF⟩ := hrel
      by_cases hlt : k < ks.length
      · obtain ⟨t, ht⟩ : ∃ x, ks[k]? = some x := ⟨_, List.getElem?_eq_getElem hlt⟩
        obtain ⟨ov, cv, rfl, hov⟩ := own_slice (hF.row hk)
        obtain ⟨gk, offk, rfl, hck⟩ := (HR.out.below encT_len (by decide) hF.bel) k t ht
        have p0 := hck 0 (by decide)
        simp only [encT, List.getElem?_cons_zero, Nat.add_zero, Nat.mul_one] at p0
        have HX := Lib.hid ht
        obtain ⟨V, hV⟩ : ∃ V, V = wr := ⟨_, rfl⟩
        subst hV
        have HM := Lib.hid hF
        have hcl := cntF_le (keyL ks) k
        obtain ⟨nx, hnx⟩ : ∃ q, cntF (keyL ks) k = q := ⟨_, rfl⟩
        obtain ⟨cv2, hcv2⟩ : ∃ q, cntF (keyL ks) (kIx ks t) = q := ⟨_, rfl⟩
        rw [hnx] at hcl ⊢
        have HNX := Lib.hid (And.intro hnx hcv2)
        have hkN : (k : Int) < (ks.length : Int) := by omega
        have hov2 : 0 < k → ∃ g, ov = some ⟨g, 0, none⟩ := hov
        have HOV := Lib.hid hov2
        clear hF ht hck hnx hcv2 hov hov2
        go_wp2
        go_loopw [7, 8] (fun cc i X => ∃ j : Nat, i = .int .i64 j ∧ j ≤ k ∧ ((kIx ks t < j ∧ cc = .int .i64 (cv2 : Nat)) ∨ (j ≤ kIx ks t ∧ cc = .int .i64 (-1))) ∧ Below V.heap.size V X) (fun _ i _ => k - (intOf i).toNat)
        case atStart => exact ⟨0, rfl, Nat.zero_le _, .inr ⟨Nat.zero_le _, rfl⟩, Below.refl _ _⟩
        case round =>
          obtain ⟨j, rfl, hj, hcc, hB⟩ := hrel
          by_cases hjk : j < k
          · obtain ⟨z, hz⟩ : ∃ z, ks[j]? = some z := ⟨_, List.getElem?_eq_getElem (by omega)⟩
            obtain ⟨_, _, e3, c3⟩ := ((HR.out.below encT_len (by decide) HM.out.bel).below encT_len (by decide) hB) j z hz
            cases e3
            have p3 := c3 0 (by decide)
            have p4 := at_below p0 hB
            simp only [encT, List.getElem?_cons_zero, Nat.add_zero, Nat.mul_one] at p3
            have hjN : (j : Int) < (ks.length : Int) := by omega
            have hjK : (j : Int) < (k : Int) := by omega
            have HZ := Lib.hid (And.intro hz (And.intro hB hcc))
            clear c3 hz hB hcc
            by_cases hzt : z = t
            · subst hzt
              have t1 : (z.toList == z.toList) = true := by simp
              obtain ⟨g4, hg4⟩ := HOV.out (by omega)
              subst hg4
              go_wp2
              go_quiet (fail)
              generalize hU : World.drewN wr _ = U
              have hUb : Below V.heap.size V U := HZ.out.2.1.trans ((hU ▸ below_drewN wr _ : Below wr.heap.size wr U).mono HZ.out.2.1.size)
              have hFU := HM.out.below hUb
              obtain ⟨y0, y1⟩ := hFU.cells
              have hgt : ((fndL ks).take k)[j]? = some ⟨(cntF (keyL ks) (kIx ks z) : Nat), 0⟩ := by rw [List.getElem?_take, if_pos hjk]; exact fndL_at HZ.out.1
              obtain ⟨y2, _⟩ := getR (hFU.row hk) hgt (by rw [List.length_take, fndL_len]; omega)
              rw [HNX.out.2] at y2
              have HUB := Lib.hid hUb
              clear hU hFU hgt hUb
              go_wp2
              go_roundw
              case rel => exact ⟨j + 1, by go_num, by omega, .inl ⟨by have := (kIx_le HZ.out.1).1; omega, rfl⟩, HUB.out⟩
              case measure => simp [intOf]; omega
            · have t1 : (z.toList == t.toList) = false := str_ne hzt
              go_wp2
              go_quiet (fail)
              go_wp2
              go_roundw
              case rel =>
                refine ⟨j + 1, by go_num, by omega, ?_, HZ.out.2.1.trans ((below_drewN _ _).mono HZ.out.2.1.size)⟩
                rcases HZ.out.2.2 with ⟨h1, h2⟩ | ⟨h1, h2⟩
                · exact .inl ⟨by omega, h2⟩
                · refine .inr ⟨?_, h2⟩
                  rcases (by omega : j < kIx ks t ∨ kIx ks t = j) with h | h
                  · exact h
                  · exfalso
                    have h3 := (kIx_le HX.out).2
                    rw [h, HZ.out.1] at h3
                    cases h3
                    exact hzt rfl
              case measure => simp [intOf]; omega
          · obtain rfl : j = k := by omega
            have hFB := HM.out.below hB
            obtain ⟨y0, y1⟩ := hFB.cells
            have hkx := (kIx_le HX.out).1
            have hS := hFB.below ((Below.refl wr.heap.size wr).alloc (Nat.le_refl _) (.cells #[.int .i64 (cv2 : Nat), .int .i64 0] 79))
            have HS := Lib.hid hS
            have HK := Lib.hid (And.intro (hS.row hk) (World.news_of_block (cs := #[.int .i64 (cv2 : Nat), .int .i64 0]) (t := 79) (fr := (0, 0)) (World.alloc_heap_new wr (.cells #[.int .i64 (cv2 : Nat), .int .i64 0] 79))))
            have hWX := hFB.siz
            clear hS hFB hB
            rcases hcc with ⟨h1, rfl⟩ | ⟨h1, rfl⟩
            · have d1 : decide ((cv2 : Int) < 0) = false := decide_eq_false (by omega)
              have HC := Lib.hid (cntF_not (keyL_at HX.out) (.inr (by simp only [keyL_fidx HX.out]; omega)))
              clear h1 hkx
              go_wp2_with (at_builtin; (refine wpList_append_own _ rfl _ _ 22 rfl (w.heap.size + 2) 79 j0 (.agg #[.int .i64 0, .int .i64 0]) 2 16 Try.underlying22 hjI hy0 hy1 hy2 rfl (by decide) _ _ _ rfl HK.out.1 ⟨wr.heap.size, 0, none⟩ 1 1 [.int .i64 (cv2 : Nat), .int .i64 0] rfl rfl HK.out.2 (fun x hx => by simp at hx; rcases hx with rfl | rfl <;> rfl) (by unfold maxLen; omega) (by omega) (by simp; omega) ?_); intro v2 w2 hown2 hg2 _; obtain ⟨o2, c2, rfl, _⟩ := own_slice hown2; (have hA := HS.out.app HX.out hg2 (by rw [HNX.out.2]; exact hown2)); (have HA := Lib.hid hA); obtain ⟨z0, z1, z2, z3⟩ := HS.out.cellsG hg2)
              go_roundw
              case rel => exact ⟨j + 1, _, by go_num, by rw [HC.out, HNX.out.1], by omega, HA.out⟩
              case measure => simp [intOf]; omega
            · have hkj : kIx ks t = j := by omega
              have hnc : nx = cv2 := by rw [← HNX.out.1, ← HNX.out.2, hkj]
              subst hnc
              have HC := Lib.hid (cntF_first (keyL_at HX.out) (by simp) (by have := keyL_fidx HX.out; rw [hkj] at this; simp only [hkj]; exact this))
              clear h1 hkx hkj
              go_wp2_with (at_builtin; (refine wpList_append_own _ rfl _ _ 22 rfl (w.heap.size + 2) 79 j0 (.agg #[.int .i64 0, .int .i64 0]) 2 16 Try.underlying22 hjI hy0 hy1 hy2 rfl (by decide) _ _ _ rfl HK.out.1 ⟨wr.heap.size, 0, none⟩ 1 1 [.int .i64 (nx : Nat), .int .i64 0] rfl rfl HK.out.2 (fun x hx => by simp at hx; rcases hx with rfl | rfl <;> rfl) (by unfold maxLen; omega) (by omega) (by simp; omega) ?_); intro v2 w2 hown2 hg2 _; obtain ⟨o2, c2, rfl, _⟩ := own_slice hown2; (have hA := HS.out.app HX.out hg2 (by rw [HNX.out.2]; exact hown2)); (have HA := Lib.hid hA); obtain ⟨z0, z1, z2, z3⟩ := HS.out.cellsG hg2)
              go_roundw
              case rel => exact ⟨j + 1, _, by go_num, by rw [HC.out, HNX.out.1]; go_num, by omega, HA.out⟩
              case measure => simp [intOf]; omega
      · obtain rfl : k = ks.length := by omega
        have hrow := hF.row hk
        have htk : (fndL ks).take ks.length = fndL ks := List.take_of_length_le (by rw [fndL_len]; exact Nat.le_refl _)
        obtain ⟨ov, cv, rfl, hov⟩ := own_slice hrow
        have hsch := hF.sch
        rw [htk] at hsch
        obtain ⟨Q, hQ⟩ : ∃ Q, cntF (keyL ks) ks.length = Q := ⟨_, rfl⟩
        rw [hQ]
        have hQn : Q ≤ ks.length := by rw [← hQ]; exact cntF_le _ _
        have f0 := hF.res.frozen 0
        have f1 := hF.res.frozen 1
        have n0 : wr.cell? ⟨w.heap.size, 0, none⟩ = some (.slice none 0 0) := hF.res.cell 0
        have n1 : wr.cell? ⟨w.heap.size, 1, none⟩ = some (.slice none 0 0) := hF.res.cell 1
        by_cases h25 : 25 < Q
        · have d2 : decide ((25 : Int) < (Q : Int)) = true := decide_eq_true (by omega)
          have d3 : decide (25 < Q) = true := decide_eq_true h25
          have hR : fndR ks = (⟨[], []⟩, 5) := by unfold fndR; rw [if_neg hbig, hQ, if_pos h25]
          have b2 := (hF.res.set 0 (.slice none 0 0)).set 1 (.slice none 0 0)
          have g0 := b2.cell 0
          have g1 := b2.cell 1
          simp only [List.setIfInBounds_toArray, List.set_cons_zero, List.set_cons_succ, List.getElem?_toArray, List.getElem?_cons_succ, List.getElem?_cons_zero] at g0 g1
          have rB := (hF.bel.setCell (p := ⟨w.heap.size, 0, none⟩) (Nat.le_refl _) (.slice none 0 0)).setCell (p := ⟨w.heap.size, 1, none⟩) (Nat.le_refl _) (.slice none 0 0)
          obtain ⟨F, hF2⟩ : ∃ F, (wr.setCell ⟨w.heap.size, 0, none⟩ (.slice none 0 0)).setCell ⟨w.heap.size, 1, none⟩ (.slice none 0 0) = F := ⟨_, rfl⟩
          rw [hF2] at g0 g1 rB
          have HB := Lib.hid (And.intro rB hR)
          clear hF hrow hsch hQ hR b2 rB htk
          go_wp2
          try rw [hF2]
          clear hF2
          exact bodyPost_ret (v := .tuple #[.agg #[.slice none 0 0, .slice none 0 0], .int .i64 5]) (by simp [results, Try.f38, go_sem, g0, g1]) rfl (by rw [HB.out.2]; exact ⟨_, _, rfl, World.ownsRow_nil _ _ _ _, World.ownsRow_nil _ _ _ _, HB.out.1⟩)
        · have d2 : decide ((25 : Int) < (Q : Int)) = false := decide_eq_false (by omega)
          have d3 : decide (25 < Q) = false := decide_eq_false h25
          have hR : fndR ks = (fndS ks, 0) := by unfold fndR; rw [if_neg hbig, hQ, if_neg h25]
          by_cases h0 : ks.length = 0
          · have hS0 : fndS ks = ⟨fndL ks, []⟩ := by unfold fndS; rw [if_pos (List.eq_nil_of_length_eq_zero h0)]
            rw [hS0] at hR
            have d4 : decide ((0 : Int) < (ks.length : Int)) = false := decide_eq_false (by omega)
            have d5 : decide (0 < ks.length) = false := decide_eq_false (by omega)
            have y0 : wr.cell? ⟨w.heap.size + 1, 0, none⟩ = some (.slice ov ks.length cv) := hsch.1.cell 0
            have y1 : wr.cell? ⟨w.heap.size + 1, 1, none⟩ = some (.slice none 0 0) := hsch.1.cell 1
            obtain ⟨g0, g1, r0, r1, rB⟩ := FnR.fin2 (vl := .slice ov ks.length cv) (vs := (.slice none 0 0)) hsch hF.res hF.bel
            obtain ⟨F, hF2⟩ : ∃ F, (wr.setCell ⟨w.heap.size, 0, none⟩ (.slice ov ks.length cv)).setCell ⟨w.heap.size, 1, none⟩ (.slice none 0 0) = F := ⟨_, rfl⟩
            rw [hF2] at g0 g1 r0 r1 rB
            have HB := Lib.hid (And.intro r0 (And.intro r1 (And.intro rB hR)))
            clear hF hrow hsch hQ hR r0 r1 rB htk hS0 hov h0
            go_wp2
            try rw [hF2]
            clear hF2
            exact bodyPost_ret (v := .tuple #[.agg #[.slice ov ks.length cv, .slice none 0 0], .int .i64 0]) (by simp [results, Try.f38, go_sem, g0, g1]) rfl (by rw [HB.out.2.2.2]; exact ⟨_, _, rfl, HB.out.1, HB.out.2.1, HB.out.2.2.1⟩)
          · have hS0 : fndS ks = ⟨fndL ks, [(ks.length : Int)]⟩ := by unfold fndS; rw [if_neg (fun e => h0 (by rw [e]; rfl))]
            rw [hS0] at hR
            have d4 : decide ((0 : Int) < (ks.length : Int)) = true := decide_eq_true (by omega)
            have d5 : decide (0 < ks.length) = true := decide_eq_true (by omega)
            have hrl := World.ownsRow_lit (base := w.heap.size + 2) (e := 3) (size := 1) wr #[.int .i64 ks.length] 1 hF.siz (by decide) rfl
            have hsch2 := hsch.putS (S' := [(ks.length : Int)]) (by omega) (World.grownBy_alloc wr (.cells #[.int .i64 ks.length] 3) none) (n := 1) (by simpa [encI] using hrl) rfl
            have res2 := (hF.res.alloc (.cells #[.int .i64 ks.length] 3)).other (by omega : w.heap.size ≠ w.heap.size + 1) 1 (.slice (some ⟨wr.heap.size, 0, none⟩) 1 1)
            have bel2 := (hF.bel.alloc hF.bel.size (.cells #[.int .i64 ks.length] 3)).setCell (p := ⟨w.heap.size + 1, 1, none⟩) (Nat.le_succ _) (.slice (some ⟨wr.heap.size, 0, none⟩) 1 1)
            have ba := hF.sch.1.alloc (.cells #[.int .i64 ks.length] 3)
            have a1 := ba.cell 1
            have a2 := ba.frozen 1
            obtain ⟨V, hV⟩ : ∃ V, (wr.alloc (.cells #[.int .i64 ks.length] 3)).setCell ⟨w.heap.size + 1, 1, none⟩ (.slice (some ⟨wr.heap.size, 0, none⟩) 1 1) = V := ⟨_, rfl⟩
            rw [hV] at hsch2 res2 bel2
            have y0 : V.cell? ⟨w.heap.size + 1, 0, none⟩ = some (.slice ov ks.length cv) := hsch2.1.cell 0
            have y1 : V.cell? ⟨w.heap.size + 1, 1, none⟩ = some (.slice (some ⟨wr.heap.size, 0, none⟩) 1 1) := hsch2.1.cell 1
            have f2 := res2.frozen 0
            have f3 := res2.frozen 1
            have n2 : V.cell? ⟨w.heap.size, 0, none⟩ = some (.slice none 0 0) := res2.cell 0
            have n3 : V.cell? ⟨w.heap.size, 1, none⟩ = some (.slice none 0 0) := res2.cell 1
            obtain ⟨g0, g1, r0, r1, rB⟩ := FnR.fin2 (vl := .slice ov ks.length cv) (vs := (.slice (some ⟨wr.heap.size, 0, none⟩) 1 1)) hsch2 res2 bel2
            obtain ⟨F, hF2⟩ : ∃ F, (V.setCell ⟨w.heap.size, 0, none⟩ (.slice ov ks.length cv)).setCell ⟨w.heap.size, 1, none⟩ (.slice (some ⟨wr.heap.size, 0, none⟩) 1 1) = F := ⟨_, rfl⟩
            rw [hF2] at g0 g1 r0 r1 rB
            have HB := Lib.hid (And.intro r0 (And.intro r1 (And.intro rB hR)))
            clear hF hrow hsch hQ hR r0 r1 rB htk hS0 hov hrl hsch2 res2 bel2 ba
            go_wp2
            try rw [hF2]
            clear hF2
            exact bodyPost_ret (v := .tuple #[.agg #[.slice ov ks.length cv, .slice (some ⟨wr.heap.size, 0, none⟩) 1 1], .int .i64 0]) (by simp [results, Try.f38, go_sem, g0, g1]) rfl (by rw [HB.out.2.2.2]; exact ⟨_, _, rfl, HB.out.1, HB.out.2.1, HB.out.2.2.1⟩)
end Go.Proofs.Ytdcmkiggnmajgaa
