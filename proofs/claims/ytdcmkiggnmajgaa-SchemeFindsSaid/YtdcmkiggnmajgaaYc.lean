/- Stage 16: Found, the program's. -/
import Derived.Test.YtdcmkiggnmajgaaYb
namespace Go.Proofs.Ytdcmkiggnmajgaa
set_option linter.unusedVariables false
set_option linter.unusedSimpArgs false
open Go Go.RowKit Go.Shelf Go.WideShapes Go.Maps
set_option maxRecDepth 100000

/-- What Found's memory is like. -/
structure FnR (ks : List ByteArray) (w X : World) (k m : Nat) (D : DataW Unit) (vl : Value) : Prop where
  map : X.ownsMap Try.prog 9 (plainElem Try.prog 3) (w.heap.size + 2) m D
  mpk : MapK ks m D
  sch : SchB X (w.heap.size + 1) (w.heap.size + 3) vl (.slice none 0 0) ((fndL ks).take k) []
  res : Blk X w.heap.size #[.slice none 0 0, .slice none 0 0] 25
  bel : Below w.heap.size w X
section
variable {ks : List ByteArray} {w X : World} {k m : Nat} {D : DataW Unit} {vl : Value}
theorem FnR.alloc (h : FnR ks w X k m D vl) (o : Obj) : FnR ks w (X.alloc o) k m D vl :=
  ⟨h.map.alloc o, h.mpk, h.sch.alloc o, h.res.alloc o, h.bel.alloc h.bel.size o⟩
theorem FnR.cells (h : FnR ks w X k m D vl) : X.cell? ⟨w.heap.size + 1, 0, none⟩ = some vl ∧ X.cell? ⟨w.heap.size + 1, 1, none⟩ = some (.slice none 0 0) ∧ X.frozen? ⟨w.heap.size + 1, 0, none⟩ = false ∧ X.frozen? ⟨w.heap.size + 1, 1, none⟩ = false := ⟨h.sch.1.cell 0, h.sch.1.cell 1, h.sch.1.frozen 0, h.sch.1.frozen 1⟩
/-- The variable's cells behind an append. -/
theorem FnR.cellsG {W : World} (h : FnR ks w X k m D vl) (hg : X.grownBy W vl.ownBlock) : W.cell? ⟨w.heap.size + 1, 0, none⟩ = some vl ∧ W.cell? ⟨w.heap.size + 1, 1, none⟩ = some (.slice none 0 0) ∧ W.frozen? ⟨w.heap.size + 1, 0, none⟩ = false ∧ W.frozen? ⟨w.heap.size + 1, 1, none⟩ = false := by
  have b := h.sch.1.kept hg (fun e => by have := (h.sch.2.1.lt _ e.symm).1; omega)
  exact ⟨b.cell 0, b.cell 1, b.frozen 0, b.frozen 1⟩
/-- A new key stands in the map. -/
theorem FnR.put {W : World} {D' : DataW Unit} (h : FnR ks w X k k D vl) (hm : W.ownsMap Try.prog 9 (plainElem Try.prog 3) (w.heap.size + 2) (k + 1) D') (hg : X.grownBy W (some (w.heap.size + 2))) (hk : MapK ks (k + 1) D') : FnR ks w W k (k + 1) D' vl :=
  ⟨hm, hk, h.sch.kept hg (fun r e => by cases e; exact ⟨by omega, .inl (by omega)⟩), h.res.kept hg (by simp), h.bel.grown hg h.bel.size (fun r e => by cases e; omega)⟩
theorem FnR.old {s : ByteArray} (h : FnR ks w X k k D vl) (hs : ks[k]? = some s) (hk : kIx ks s < k) : FnR ks w X k (k + 1) D vl :=
  ⟨h.map.mono (Nat.le_succ _), (h.mpk.old hs hk).2, h.sch, h.res, h.bel⟩
theorem FnR.row (h : FnR ks w X k m D vl) (hk : k ≤ ks.length) : X.ownsRow (w.heap.size + 3) 79 2 vl k (((fndL ks).take k).flatMap encR) := by
  have h1 := h.sch.2.1
  rw [List.length_take, fndL_len, Nat.min_eq_left hk] at h1
  exact h1
/-- A line is appended. -/
theorem FnR.app {W : World} {v2 : Value} {s : ByteArray} (h : FnR ks w X k m D vl) (hs : ks[k]? = some s) (hg : X.grownBy W vl.ownBlock)
    (hr : W.ownsRow (w.heap.size + 3) 79 2 v2 (k + 1) (((fndL ks).take k).flatMap encR ++ [.int .i64 (cntF (keyL ks) (kIx ks s) : Nat), .int .i64 0])) : FnR ks w (W.setCell ⟨w.heap.size + 1, 0, none⟩ v2) (k + 1) m D v2 := by
  have hrow : ∀ g, vl.ownBlock = some g → w.heap.size + 3 ≤ g := fun g e => (h.sch.2.1.lt g e).1
  refine ⟨(h.map.kept hg (fun e => by have := hrow _ e.symm; omega)).setCell (by simp) v2, h.mpk, ?_, (h.res.kept hg (fun e => by have := hrow _ e.symm; omega)).other (by omega) _ _, (h.bel.grown hg h.bel.size (fun r e => by have := hrow r e; omega)).setCell (p := ⟨w.heap.size + 1, 0, none⟩) (Nat.le_succ _) v2⟩
  have hkl := (List.getElem?_eq_some_iff.1 hs).1
  refine h.sch.putL (by omega) hg (n := k + 1) ?_ ?_
  · rw [fndL_next hs, List.flatMap_append]
    simpa [encR] using hr
  · rw [List.length_take, fndL_len]; omega
end
/-- What is handed back. -/
theorem FnR.fin {ks : List ByteArray} {w X : World} {k m : Nat} {D : DataW Unit} {vl vs : Value} {L : List Rh} {S : List Int} (hs : SchB X (w.heap.size + 1) (w.heap.size + 3) vl vs L S) (res : Blk X w.heap.size #[.slice none 0 0, .slice none 0 0] 25) (bel : Below w.heap.size w X) :
    let F := (X.setCell ⟨w.heap.size, 0, none⟩ vl).setCell ⟨w.heap.size, 1, none⟩ vs
    F.cell? ⟨w.heap.size, 0, none⟩ = some vl ∧ F.cell? ⟨w.heap.size, 1, none⟩ = some vs ∧ F.ownsRow w.heap.size 79 2 vl L.length (L.flatMap encR) ∧ F.ownsRow w.heap.size 3 1 vs S.length (S.flatMap encI) ∧ Below w.heap.size w F := by
  have b2 := (res.set 0 vl).set 1 vs
  have g0 := b2.cell 0
  have g1 := b2.cell 1
  simp only [List.setIfInBounds_toArray, List.set_cons_zero, List.set_cons_succ, List.getElem?_toArray, List.getElem?_cons_succ, List.getElem?_cons_zero] at g0 g1
  exact ⟨g0, g1, own_base (own_low (own_low hs.2.1 (by omega : w.heap.size < w.heap.size + 3) 0 vl) (by omega : w.heap.size < w.heap.size + 3) 1 vs) (by omega : w.heap.size ≤ w.heap.size + 3),
    own_base (own_low (own_low hs.2.2 (by omega : w.heap.size < w.heap.size + 3) 0 vl) (by omega : w.heap.size < w.heap.size + 3) 1 vs) (by omega : w.heap.size ≤ w.heap.size + 3),
    (bel.setCell (p := ⟨w.heap.size, 0, none⟩) (Nat.le_refl _) vl).setCell (p := ⟨w.heap.size, 1, none⟩) (Nat.le_refl _) vs⟩

set_option maxHeartbeats 8000000 in
theorem found_any (ks : List ByteArray) (o : Option Addr) (c : Nat) (hn : ks.length ≤ 9223372036854775807) (hz : ∀ s ∈ ks, s.size ≤ maxLen) (w : World) (hr : RowAt w encT 1 o ks) :
    Calls Try.prog 37 #[.slice o ks.length c] w fun e w' => ∃ vl vs, e = .returned (.tuple #[.agg #[vl, vs], .int .i64 (fndR ks).2]) ∧ w'.ownsRow w.heap.size 79 2 vl (fndR ks).1.L.length ((fndR ks).1.L.flatMap encR) ∧ w'.ownsRow w.heap.size 3 1 vs (fndR ks).1.S.length ((fndR ks).1.S.flatMap encI) ∧ Below w.heap.size w w' := by
  obtain ⟨i0, hi, hz0, hz1, hz2⟩ := info_parts infoInt
  obtain ⟨j0, hj, hy0, hy1, hy2⟩ := info_parts infoRhyme
  have hmm := @run_makeMap Try.prog

  by_cases hbig : 512 < ks.length
  · have d1 : decide ((512 : Int) < (ks.length : Int)) = true := decide_eq_true (by omega)
    have hF : fndR ks = (⟨[], []⟩, 3) := by unfold fndR; rw [if_pos hbig]
    rw [hF]
    clear hF
    go_enter Try.func37, Try.ntmps37
    go_wp2
    have g0 : (w.alloc (.cells #[.slice none 0 0, .slice none 0 0] 25)).cell? ⟨w.heap.size, 0, none⟩ = some (.slice none 0 0) := (Blk.new w #[.slice none 0 0, .slice none 0 0] 25).cell 0
    have g1 : (w.alloc (.cells #[.slice none 0 0, .slice none 0 0] 25)).cell? ⟨w.heap.size, 1, none⟩ = some (.slice none 0 0) := (Blk.new w #[.slice none 0 0, .slice none 0 0] 25).cell 1
    have hB0 := (Below.refl _ w).alloc (Nat.le_refl _) (.cells #[.slice none 0 0, .slice none 0 0] 25)
    obtain ⟨W0, hW0⟩ : ∃ W, w.alloc (.cells #[.slice none 0 0, .slice none 0 0] 25) = W := ⟨_, rfl⟩
    rw [hW0] at g0 g1 hB0 ⊢
    exact bodyPost_ret (v := .tuple #[.agg #[.slice none 0 0, .slice none 0 0], .int .i64 3]) (by simp [results, Try.f37, go_sem, g0, g1]) rfl ⟨_, _, rfl, World.ownsRow_nil _ _ _ _, World.ownsRow_nil _ _ _ _, hB0⟩
  · have d1 : decide ((512 : Int) < (ks.length : Int)) = false := decide_eq_false (by omega)
    have hB0 := (((Below.refl _ w).alloc (Nat.le_refl _) (.cells #[.slice none 0 0, .slice none 0 0] 25)).alloc (by simp) (.cells #[.slice none 0 0, .slice none 0 0] 25)).alloc (by simp; omega) (.map #[] 0)
    have b0 := ((Blk.new w #[.slice none 0 0, .slice none 0 0] 25).alloc (.cells #[.slice none 0 0, .slice none 0 0] 25)).alloc (.map #[] 0)
    have b1 := (Blk.new (w.alloc (.cells #[.slice none 0 0, .slice none 0 0] 25)) #[.slice none 0 0, .slice none 0 0] 25).alloc (.map #[] 0)
    have m0 := World.ownsMap_made (H := Unit) ((w.alloc (.cells #[.slice none 0 0, .slice none 0 0] 25)).alloc (.cells #[.slice none 0 0, .slice none 0 0] 25)) Try.prog 9 (plainElem Try.prog 3)
    simp only [World.size_alloc] at b1 m0
    obtain ⟨W0, hW0⟩ : ∃ W, ((w.alloc (.cells #[.slice none 0 0, .slice none 0 0] 25)).alloc (.cells #[.slice none 0 0, .slice none 0 0] 25)).alloc (.map #[] 0) = W := ⟨_, rfl⟩
    rw [hW0] at hB0 b0 b1 m0
    have H0 : FnR ks w W0 0 0 (.map []) (.slice none 0 0) := ⟨m0, MapK.start ks, ⟨b1, World.ownsRow_nil _ _ _ _, World.ownsRow_nil _ _ _ _⟩, b0, hB0⟩
    have HH := Lib.hid H0
    clear hB0 b0 b1 m0 H0
    go_enter Try.func37, Try.ntmps37
    go_wp2
    try rw [hW0]
    clear hW0
    go_loopw [17] (fun i X => ∃ (k : Nat) (D : DataW Unit) (vl : Value), i = .int .i64 k ∧ k ≤ ks.length ∧ FnR ks w X k k D vl) (fun i _ => ks.length - (intOf i).toNat)
    case atStart => exact ⟨0, _, _, rfl, Nat.zero_le _, HH.out⟩
    case round =>
      obtain ⟨k, D, vl, rfl, hk, hF⟩ := hrel
      by_cases hlt : k < ks.length
      · obtain ⟨x, hx⟩ : ∃ x, ks[k]? = some x := ⟨_, List.getElem?_eq_getElem hlt⟩
        obtain ⟨g, off, rfl, hc⟩ := (hr.below encT_len (by decide) hF.bel) k x hx
        have q0 := hc 0 (by decide)
        simp only [encT, List.getElem?_cons_zero, Nat.add_zero, Nat.mul_one] at q0
        have hkey := kLit_of (hz x (List.mem_of_getElem? hx))
        have HX := Lib.hid hx
        obtain ⟨ov, cv, rfl, _⟩ := own_slice (hF.row hk)
        have HM := Lib.hid hF
        rcases (by have := (kIx_le hx).1; omega : kIx ks x < k ∨ kIx ks x = k) with hko | hkn
        · have hhas := (hF.mpk.old hx hko).1
          have hS := hF.old hx hko
          obtain ⟨WX, hWXe⟩ : ∃ W, wr = W := ⟨_, rfl⟩
          subst hWXe
          have HS := Lib.hid hS
          have HK := Lib.hid (And.intro ((hS.alloc (.cells #[.int .i64 (cntF (keyL ks) (kIx ks x) : Nat), .int .i64 0] 79)).row hk) (World.news_of_block (cs := #[.int .i64 (cntF (keyL ks) (kIx ks x) : Nat), .int .i64 0]) (t := 79) (fr := (0, 0)) (World.alloc_heap_new wr (.cells #[.int .i64 (cntF (keyL ks) (kIx ks x) : Nat), .int .i64 0] 79))))
          obtain ⟨y0, y1, _, _⟩ := hS.cells
          have hWX := hS.map.lt
          clear hS hF hx hc hko
          go_wp2_with (first | (at_lookup; refine wpList_lookup_own_ok_int _ rfl _ _ 101 rfl 9 3 .i64 lawS Try.underlying101 Try.underlying3 (zeroI _) (w.heap.size + 2) k D rfl HM.out.map _ (kLit x) rfl hkey ?_; intro c0 hat0 hwc0; rw [hhas]; clear hat0 hwc0) | (at_lookup; refine wpList_lookup_own_int _ rfl _ _ 101 rfl 9 3 .i64 lawS Try.underlying101 Try.underlying3 (zeroI _) (w.heap.size + 2) (k + 1) D rfl HS.out.map _ (kLit x) rfl hkey ?_; intro cc hat hwc; (have hcc : cc = (cntF (keyL ks) (kIx ks x) : Nat) := by (have h1 := (HS.out.mpk.yes k x (Nat.lt_succ_self _) HX.out).2; rw [hat] at h1; injection h1 with h1; injection h1)); subst hcc; clear hat hwc) | (at_builtin; refine wpList_append_own _ rfl _ _ 22 rfl (w.heap.size + 3) 79 j0 (.agg #[.int .i64 0, .int .i64 0]) 2 16 Try.underlying22 hj hy0 hy1 hy2 rfl (by decide) _ _ _ rfl HK.out.1 ⟨wr.heap.size, 0, none⟩ 1 1 [.int .i64 (cntF (keyL ks) (kIx ks x) : Nat), .int .i64 0] rfl rfl HK.out.2 (fun x hx => by simp at hx; rcases hx with rfl | rfl <;> rfl) (by unfold maxLen; omega) (by omega) (by simp; omega) ?_; intro v2 w2 hown2 hg2 _; obtain ⟨o2, c2, rfl, _⟩ := own_slice hown2; (have hA := (HS.out.alloc (.cells #[.int .i64 (cntF (keyL ks) (kIx ks x) : Nat), .int .i64 0] 79)).app HX.out hg2 hown2); (have HA := Lib.hid hA); obtain ⟨z0, z1, z2, z3⟩ := (HS.out.alloc (.cells #[.int .i64 (cntF (keyL ks) (kIx ks x) : Nat), .int .i64 0] 79)).cellsG hg2))
          go_roundw
          case rel => exact ⟨k + 1, D, _, by go_num, by omega, HA.out⟩
          case measure => simp [intOf]; omega
        · have hNew := hF.mpk.new (hF.map.tidy lawS) hx hkn
          have hhas := hNew.1
          have HN := Lib.hid hNew.2
          have hsl := hF.map.size_le
          clear hF hx hc hkn hNew
          go_wp2_with (first | (at_lookup; refine wpList_lookup_own_ok_int _ rfl _ _ 101 rfl 9 3 .i64 lawS Try.underlying101 Try.underlying3 (zeroI _) (w.heap.size + 2) k D rfl HM.out.map _ (kLit x) rfl hkey ?_; intro c0 hat0 hwc0; rw [hhas]; clear hat0 hwc0) | (at_len; refine wpList_len_own _ rfl _ 101 rfl 9 3 Try.underlying101 _ (w.heap.size + 2) k D rfl HM.out.map ?_) | (at_mapUpdate; refine wpList_mapUpdate_own _ rfl _ _ _ 101 rfl 9 3 lawS Try.underlying101 _ (w.heap.size + 2) k _ rfl HM.out.map (by unfold maxLen; omega) _ _ _ rfl rfl hkey _ [] (plainElem_int Try.underlying3 (WalkArith.wf_i64 (by omega))) ?_; intro w1 hown1 hgrow1; (have hS := HM.out.put hown1 hgrow1 HN.out); (have HS := Lib.hid hS); (have HK := Lib.hid (And.intro ((hS.alloc (.cells #[.int .i64 (cntF (keyL ks) (kIx ks x) : Nat), .int .i64 0] 79)).row hk) (World.news_of_block (cs := #[.int .i64 (cntF (keyL ks) (kIx ks x) : Nat), .int .i64 0]) (t := 79) (fr := (0, 0)) (World.alloc_heap_new w1 (.cells #[.int .i64 (cntF (keyL ks) (kIx ks x) : Nat), .int .i64 0] 79))))); obtain ⟨y0, y1, _, _⟩ := hS.cells; (have hWX := hS.map.lt); clear hS hown1 hgrow1) | (at_lookup; refine wpList_lookup_own_int _ rfl _ _ 101 rfl 9 3 .i64 lawS Try.underlying101 Try.underlying3 (zeroI _) (w.heap.size + 2) (k + 1) _ rfl HS.out.map _ (kLit x) rfl hkey ?_; intro cc hat hwc; (have hcc : cc = (cntF (keyL ks) (kIx ks x) : Nat) := by (have h1 := (HS.out.mpk.yes k x (Nat.lt_succ_self _) HX.out).2; rw [hat] at h1; injection h1 with h1; injection h1)); subst hcc; clear hat hwc) | (at_builtin; refine wpList_append_own _ rfl _ _ 22 rfl (w.heap.size + 3) 79 j0 (.agg #[.int .i64 0, .int .i64 0]) 2 16 Try.underlying22 hj hy0 hy1 hy2 rfl (by decide) _ _ _ rfl HK.out.1 ⟨w1.heap.size, 0, none⟩ 1 1 [.int .i64 (cntF (keyL ks) (kIx ks x) : Nat), .int .i64 0] rfl rfl HK.out.2 (fun x hx => by simp at hx; rcases hx with rfl | rfl <;> rfl) (by unfold maxLen; omega) (by omega) (by simp; omega) ?_; intro v2 w2 hown2 hg2 _; obtain ⟨o2, c2, rfl, _⟩ := own_slice hown2; (have hA := (HS.out.alloc (.cells #[.int .i64 (cntF (keyL ks) (kIx ks x) : Nat), .int .i64 0] 79)).app HX.out hg2 hown2); (have HA := Lib.hid hA); obtain ⟨z0, z1, z2, z3⟩ := (HS.out.alloc (.cells #[.int .i64 (cntF (keyL ks) (kIx ks x) : Nat), .int .i64 0] 79)).cellsG hg2))
          go_roundw
          case rel => exact ⟨k + 1, _, _, by go_num, by omega, HA.out⟩
          case measure => simp [intOf]; omega
      · obtain rfl : k = ks.length := by omega
        have hsz := hF.mpk.size
        have hrow := hF.row hk
        have htk : (fndL ks).take ks.length = fndL ks := List.take_of_length_le (by rw [fndL_len]; exact Nat.le_refl _)
        obtain ⟨ov, cv, rfl, hov⟩ := own_slice hrow
        have hsch := hF.sch
        rw [htk] at hsch
        have HM := Lib.hid hF
        obtain ⟨Q, hQ⟩ : ∃ Q, cntF (keyL ks) ks.length = Q := ⟨_, rfl⟩
        rw [hQ] at hsz
        have hQn : Q ≤ ks.length := by rw [← hQ]; exact cntF_le _ _
        have f0 := hF.res.frozen 0
        have f1 := hF.res.frozen 1
        have n0 : wr.cell? ⟨w.heap.size, 0, none⟩ = some (.slice none 0 0) := hF.res.cell 0
        have n1 : wr.cell? ⟨w.heap.size, 1, none⟩ = some (.slice none 0 0) := hF.res.cell 1
        by_cases h25 : 25 < Q
        · have d2 : decide ((25 : Int) < (Q : Int)) = true := decide_eq_true (by omega)
          have d3 : decide (25 < Q) = true := decide_eq_true h25
          have hR : fndR ks = (⟨[], []⟩, 5) := by unfold fndR; rw [if_neg hbig, hQ, if_pos h25]
          have b2 := (hF.res.set 0 (.slice none 0 0)).set 1 (.slice none 0 0)
          have g0 := b2.cell 0
          have g1 := b2.cell 1
          simp only [List.setIfInBounds_toArray, List.set_cons_zero, List.set_cons_succ, List.getElem?_toArray, List.getElem?_cons_succ, List.getElem?_cons_zero] at g0 g1
          have rB := (hF.bel.setCell (p := ⟨w.heap.size, 0, none⟩) (Nat.le_refl _) (.slice none 0 0)).setCell (p := ⟨w.heap.size, 1, none⟩) (Nat.le_refl _) (.slice none 0 0)
          obtain ⟨F, hF2⟩ : ∃ F, (wr.setCell ⟨w.heap.size, 0, none⟩ (.slice none 0 0)).setCell ⟨w.heap.size, 1, none⟩ (.slice none 0 0) = F := ⟨_, rfl⟩
          rw [hF2] at g0 g1 rB
          have HB := Lib.hid (And.intro rB hR)
          clear hF hrow hsch hQ hR b2 rB htk
          go_wp2_with (at_len; refine wpList_len_own _ rfl _ 101 rfl 9 3 Try.underlying101 _ (w.heap.size + 2) _ D rfl HM.out.map ?_; rw [hsz])
          try rw [hF2]
          clear hF2
          exact bodyPost_ret (v := .tuple #[.agg #[.slice none 0 0, .slice none 0 0], .int .i64 5]) (by simp [results, Try.f37, go_sem, g0, g1]) rfl (by rw [HB.out.2]; exact ⟨_, _, rfl, World.ownsRow_nil _ _ _ _, World.ownsRow_nil _ _ _ _, HB.out.1⟩)
        · have d2 : decide ((25 : Int) < (Q : Int)) = false := decide_eq_false (by omega)
          have d3 : decide (25 < Q) = false := decide_eq_false h25
          have hR : fndR ks = (fndS ks, 0) := by unfold fndR; rw [if_neg hbig, hQ, if_neg h25]
          by_cases h0 : ks.length = 0
          · have hS0 : fndS ks = ⟨fndL ks, []⟩ := by unfold fndS; rw [if_pos (List.eq_nil_of_length_eq_zero h0)]
            rw [hS0] at hR
            have d4 : decide ((0 : Int) < (ks.length : Int)) = false := decide_eq_false (by omega)
            have d5 : decide (0 < ks.length) = false := decide_eq_false (by omega)
            have y0 : wr.cell? ⟨w.heap.size + 1, 0, none⟩ = some (.slice ov ks.length cv) := hsch.1.cell 0
            have y1 : wr.cell? ⟨w.heap.size + 1, 1, none⟩ = some (.slice none 0 0) := hsch.1.cell 1
            obtain ⟨g0, g1, r0, r1, rB⟩ := FnR.fin (ks := ks) (k := 0) (m := 0) (D := D) (vl := .slice ov ks.length cv) (vs := (.slice none 0 0)) hsch hF.res hF.bel
            obtain ⟨F, hF2⟩ : ∃ F, (wr.setCell ⟨w.heap.size, 0, none⟩ (.slice ov ks.length cv)).setCell ⟨w.heap.size, 1, none⟩ (.slice none 0 0) = F := ⟨_, rfl⟩
            rw [hF2] at g0 g1 r0 r1 rB
            have HB := Lib.hid (And.intro r0 (And.intro r1 (And.intro rB hR)))
            clear hF hrow hsch hQ hR r0 r1 rB htk hS0 hov h0
            go_wp2_with (at_len; refine wpList_len_own _ rfl _ 101 rfl 9 3 Try.underlying101 _ (w.heap.size + 2) _ D rfl HM.out.map ?_; rw [hsz])
            try rw [hF2]
            clear hF2
            exact bodyPost_ret (v := .tuple #[.agg #[.slice ov ks.length cv, .slice none 0 0], .int .i64 0]) (by simp [results, Try.f37, go_sem, g0, g1]) rfl (by rw [HB.out.2.2.2]; exact ⟨_, _, rfl, HB.out.1, HB.out.2.1, HB.out.2.2.1⟩)
          · have hS0 : fndS ks = ⟨fndL ks, [(ks.length : Int)]⟩ := by unfold fndS; rw [if_neg (fun e => h0 (by rw [e]; rfl))]
            rw [hS0] at hR
            have d4 : decide ((0 : Int) < (ks.length : Int)) = true := decide_eq_true (by omega)
            have d5 : decide (0 < ks.length) = true := decide_eq_true (by omega)
            have hrl := World.ownsRow_lit (base := w.heap.size + 3) (e := 3) (size := 1) wr #[.int .i64 ks.length] 1 (by have := HM.out.map.lt; omega) (by decide) rfl
            have hsch2 := hsch.putS (S' := [(ks.length : Int)]) (by omega) (World.grownBy_alloc wr (.cells #[.int .i64 ks.length] 3) none) (n := 1) (by simpa [encI] using hrl) rfl
            have res2 := (hF.res.alloc (.cells #[.int .i64 ks.length] 3)).other (by omega : w.heap.size ≠ w.heap.size + 1) 1 (.slice (some ⟨wr.heap.size, 0, none⟩) 1 1)
            have bel2 := (hF.bel.alloc hF.bel.size (.cells #[.int .i64 ks.length] 3)).setCell (p := ⟨w.heap.size + 1, 1, none⟩) (Nat.le_succ _) (.slice (some ⟨wr.heap.size, 0, none⟩) 1 1)
            have ba := hF.sch.1.alloc (.cells #[.int .i64 ks.length] 3)
            have a1 := ba.cell 1
            have a2 := ba.frozen 1
            obtain ⟨V, hV⟩ : ∃ V, (wr.alloc (.cells #[.int .i64 ks.length] 3)).setCell ⟨w.heap.size + 1, 1, none⟩ (.slice (some ⟨wr.heap.size, 0, none⟩) 1 1) = V := ⟨_, rfl⟩
            rw [hV] at hsch2 res2 bel2
            have y0 : V.cell? ⟨w.heap.size + 1, 0, none⟩ = some (.slice ov ks.length cv) := hsch2.1.cell 0
            have y1 : V.cell? ⟨w.heap.size + 1, 1, none⟩ = some (.slice (some ⟨wr.heap.size, 0, none⟩) 1 1) := hsch2.1.cell 1
            have f2 := res2.frozen 0
            have f3 := res2.frozen 1
            have n2 : V.cell? ⟨w.heap.size, 0, none⟩ = some (.slice none 0 0) := res2.cell 0
            have n3 : V.cell? ⟨w.heap.size, 1, none⟩ = some (.slice none 0 0) := res2.cell 1
            obtain ⟨g0, g1, r0, r1, rB⟩ := FnR.fin (ks := ks) (k := 0) (m := 0) (D := D) (vl := .slice ov ks.length cv) (vs := (.slice (some ⟨wr.heap.size, 0, none⟩) 1 1)) hsch2 res2 bel2
            obtain ⟨F, hF2⟩ : ∃ F, (V.setCell ⟨w.heap.size, 0, none⟩ (.slice ov ks.length cv)).setCell ⟨w.heap.size, 1, none⟩ (.slice (some ⟨wr.heap.size, 0, none⟩) 1 1) = F := ⟨_, rfl⟩
            rw [hF2] at g0 g1 r0 r1 rB
            have HB := Lib.hid (And.intro r0 (And.intro r1 (And.intro rB hR)))
            clear hF hrow hsch hQ hR r0 r1 rB htk hS0 hov hrl hsch2 res2 bel2 ba
            go_wp2_with (at_len; refine wpList_len_own _ rfl _ 101 rfl 9 3 Try.underlying101 _ (w.heap.size + 2) _ D rfl HM.out.map ?_; rw [hsz])
            try rw [hF2]
            clear hF2
            exact bodyPost_ret (v := .tuple #[.agg #[.slice ov ks.length cv, .slice (some ⟨wr.heap.size, 0, none⟩) 1 1], .int .i64 0]) (by simp [results, Try.f37, go_sem, g0, g1]) rfl (by rw [HB.out.2.2.2]; exact ⟨_, _, rfl, HB.out.1, HB.out.2.1, HB.out.2.2.1⟩)
end Go.Proofs.Ytdcmkiggnmajgaa
