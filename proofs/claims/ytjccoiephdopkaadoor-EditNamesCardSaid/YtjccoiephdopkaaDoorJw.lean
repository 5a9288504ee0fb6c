/- Stage 27: the maker's puts and drops. -/
import Derived.Test.YtjccoiephdopkaaDoorJv
namespace Go.Proofs.YtjccoiephdopkaaDoor
set_option linter.unusedVariables false
set_option linter.unusedSimpArgs false
open Go Go.RowKit Go.Shelf
set_option maxRecDepth 100000

theorem MkB.putS {W w2 : World} {B b : Nat} {vo vp vd v2 : Value} {m : Mk} (h : MkB W B b vo vp vd m) (s : ByteArray) (hown : w2.ownsRow b 5 1 v2 (m.put.size + s.size) (Lib.strCells m.put ++ Lib.strCells s)) (hg : W.grownBy w2 vp.ownBlock)
    (hv : v2.ownBlock = vp.ownBlock ∨ v2.ownBlock = some W.heap.size) : MkB (w2.setCell ⟨B, 2, none⟩ v2) B b vo v2 vd ⟨m.out, m.kept, m.put ++ s, m.drop⟩ ∧ KpM B (vo, vp, vd) (vo, v2, vd) W (w2.setCell ⟨B, 2, none⟩ v2) := by
  have hne : vd.ownBlock = none ∨ vd.ownBlock ≠ vp.ownBlock := by
    rcases h.ap with e | e
    · by_cases e2 : vd.ownBlock = none
      · exact .inl e2
      · exact .inr (fun e3 => e2 (e3.trans e))
    · exact .inr (fun e3 => e e3.symm)
  have b3 := Blk.kept h.blk hg (Blk.not_row h.blk (by decide) h.rp)
  have b4 := b3.set 2 v2
  simp only [List.setIfInBounds_toArray, List.set_cons_zero, List.set_cons_succ] at b4
  have r0 := own_low (h.ro.kept hg (rows_apart h.ro h.rp (by decide))) h.bb 2 v2
  have r1 := own_low hown h.bb 2 v2
  have r2 := own_low (h.rd.kept hg hne) h.bb 2 v2
  have hbw : b ≤ (w2.setCell ⟨B, 2, none⟩ v2).heap.size := by simp; exact Nat.le_trans h.bw hg.size
  have hlo : ∀ g, vd.ownBlock = some g → g < W.heap.size := fun g e => (h.rd.lt g e).2
  have hap2 : v2.ownBlock = none ∨ v2.ownBlock ≠ vd.ownBlock := by
    rcases hv with e | e
    · rw [e]; exact h.ap
    · right; rw [e]; intro e3; have := hlo _ e3.symm; omega
  refine ⟨⟨b4, r0, by rw [ByteArray.size_append, strCells_app]; exact r1, r2, hap2, h.bb, hbw⟩, ⟨hg.os, hg.tape, hg.output, by simp; exact hg.size, fun q hq hB hn => ⟨?_, hn.1, ?_, hn.2.2⟩⟩⟩
  · exact (Below.heap_setCell _ _ _ _ (fun e => hB e)).trans (hg.block q hq (fun e => hn.2.1 e))
  · show some q ≠ v2.ownBlock
    rcases hv with hv | hv
    · rw [hv]; exact hn.2.1
    · rw [hv]; intro e; cases e; omega
set_option maxHeartbeats 4000000 in
theorem puts_any {W : World} {B b : Nat} {vo vp vd : Value} {m : Mk} (h : MkB W B b vo vp vd m) (s : ByteArray) (hs6 : s.size ≤ 1000000) (hl : m.out.length ≤ 1000000000) (hp6 : m.put.size ≤ 1000000) :
    Calls Tryd.prog 49 #[.pointer (some ⟨B, 0, none⟩), .string s] W fun e W' => e = .returned (.tuple #[]) ∧ ∃ vo' vp' vd', MkB W' B b vo' vp' vd' (putsM s m) ∧ KpM B (vo, vp, vd) (vo', vp', vd') W W' := by
  obtain ⟨i0, hi, hz0, hz1, hz2⟩ := info_parts infoU8
  have cR := row_any h hl
  rcases emp_or s with rfl | ⟨s0, s1, s2, s3⟩
  · have hput : putsM .empty m = ⟨m.out, m.kept, m.put ++ .empty, m.drop⟩ := by unfold putsM; rw [if_neg (by decide)]
    obtain ⟨c0, c1, c2, c3⟩ := h.cells
    have f2 := h.blk.frozen 2
    have HM := Lib.hid (And.intro h hput)
    clear h hput cR
    go_enter Tryd.func49, Tryd.ntmps49
    go_wp2_with (at_builtin; refine wpList_app2 rfl _ _ 46 9 rfl b 5 i0 Tryd.underlying46 Tryd.underlying9 hi hz0 hz1 hz2 _ _ _ rfl HM.out.1.rp .empty rfl (by omega) HM.out.1.bw ?_; intro v2 w2 r2 g2 b2; have b3 := Blk.kept HM.out.1.blk g2 (Blk.not_row HM.out.1.blk (by decide) HM.out.1.rp); have z0 := b3.cell 2; have z1 := b3.frozen 2; simp only [List.getElem?_toArray, List.getElem?_cons_succ, List.getElem?_cons_zero] at z0; obtain ⟨o2, q2, rfl, _⟩ := own_slice r2; have HA := Lib.hid (MkB.putS HM.out.1 .empty r2 g2 b2); clear r2 g2 b2 b3)
    refine bodyPost_end (results_none rfl _ _ _) rfl ?_
    rw [HM.out.2]
    exact ⟨rfl, _, _, _, HA.out.1, HA.out.2⟩
  · have hput : putsM s m = ⟨(rowM m).out, (rowM m).kept, (rowM m).put ++ s, (rowM m).drop⟩ := by unfold putsM; rw [if_pos (by omega)]
    have HM := Lib.hid (And.intro h hput)
    clear h hput
    go_enter Tryd.func49, Tryd.ntmps49
    go_wp2_with (fail)
    refine cR.mono ?_
    rintro e V ⟨rfl, vo', hV, hKV⟩
    obtain ⟨c0, c1, c2, c3⟩ := hV.cells
    have f2 := hV.blk.frozen 2
    have HV := Lib.hid (And.intro hV hKV)
    have hp7 : (rowM m).put.size ≤ 1000000 := hp6
    clear hV hKV cR
    go_wp2_with (at_builtin; refine wpList_app2 rfl _ _ 46 9 rfl b 5 i0 Tryd.underlying46 Tryd.underlying9 hi hz0 hz1 hz2 _ _ _ rfl HV.out.1.rp s rfl (by omega) HV.out.1.bw ?_; intro v2 w2 r2 g2 b2; have b3 := Blk.kept HV.out.1.blk g2 (Blk.not_row HV.out.1.blk (by decide) HV.out.1.rp); have z0 := b3.cell 2; have z1 := b3.frozen 2; simp only [List.getElem?_toArray, List.getElem?_cons_succ, List.getElem?_cons_zero] at z0; obtain ⟨o2, q2, rfl, _⟩ := own_slice r2; have HA := Lib.hid (MkB.putS HV.out.1 s r2 g2 b2); clear r2 g2 b2 b3)
    refine bodyPost_end (results_none rfl _ _ _) rfl ?_
    rw [HM.out.2]
    exact ⟨rfl, _, _, _, HA.out.1, HV.out.2.trans HA.out.2⟩
theorem MkB.dropS {W w2 : World} {B b : Nat} {vo vp vd v2 : Value} {m : Mk} (h : MkB W B b vo vp vd m) (s : ByteArray) (hown : w2.ownsRow b 5 1 v2 (m.drop.size + s.size) (Lib.strCells m.drop ++ Lib.strCells s)) (hg : W.grownBy w2 vd.ownBlock)
    (hv : v2.ownBlock = vd.ownBlock ∨ v2.ownBlock = some W.heap.size) : MkB (w2.setCell ⟨B, 3, none⟩ v2) B b vo vp v2 ⟨m.out, m.kept, m.put, m.drop ++ s⟩ ∧ KpM B (vo, vp, vd) (vo, vp, v2) W (w2.setCell ⟨B, 3, none⟩ v2) := by
  have hne : vp.ownBlock = none ∨ vp.ownBlock ≠ vd.ownBlock := by
    rcases h.ap with e | e
    · by_cases e2 : vp.ownBlock = none
      · exact .inl e2
      · exact .inr (fun e3 => e2 e)
    · exact .inr e
  have b3 := Blk.kept h.blk hg (Blk.not_row h.blk (by decide) h.rd)
  have b4 := b3.set 3 v2
  simp only [List.setIfInBounds_toArray, List.set_cons_zero, List.set_cons_succ] at b4
  have r0 := own_low (h.ro.kept hg (rows_apart h.ro h.rd (by decide))) h.bb 3 v2
  have r1 := own_low hown h.bb 3 v2
  have r2 := own_low (h.rp.kept hg hne) h.bb 3 v2
  have hbw : b ≤ (w2.setCell ⟨B, 3, none⟩ v2).heap.size := by simp; exact Nat.le_trans h.bw hg.size
  have hlo : ∀ g, vp.ownBlock = some g → g < W.heap.size := fun g e => (h.rp.lt g e).2
  have hap3 : vp.ownBlock = none ∨ vp.ownBlock ≠ v2.ownBlock := by
    rcases hv with e | e
    · rw [e]; exact h.ap
    · right; rw [e]; intro e3; have := hlo _ e3; omega
  refine ⟨⟨b4, r0, r2, by rw [ByteArray.size_append, strCells_app]; exact r1, hap3, h.bb, hbw⟩, ⟨hg.os, hg.tape, hg.output, by simp; exact hg.size, fun q hq hB hn => ⟨?_, hn.1, hn.2.1, ?_⟩⟩⟩
  · exact (Below.heap_setCell _ _ _ _ (fun e => hB e)).trans (hg.block q hq (fun e => hn.2.2 e))
  · show some q ≠ v2.ownBlock
    rcases hv with hv | hv
    · rw [hv]; exact hn.2.2
    · rw [hv]; intro e; cases e; omega
set_option maxHeartbeats 4000000 in
theorem drops_any {W : World} {B b : Nat} {vo vp vd : Value} {m : Mk} (h : MkB W B b vo vp vd m) (s : ByteArray) (hs6 : s.size ≤ 1000000) (hl : m.out.length ≤ 1000000000) (hp6 : m.drop.size ≤ 1000000) :
    Calls Tryd.prog 50 #[.pointer (some ⟨B, 0, none⟩), .string s] W fun e W' => e = .returned (.tuple #[]) ∧ ∃ vo' vp' vd', MkB W' B b vo' vp' vd' (dropsM s m) ∧ KpM B (vo, vp, vd) (vo', vp', vd') W W' := by
  obtain ⟨i0, hi, hz0, hz1, hz2⟩ := info_parts infoU8
  have cR := row_any h hl
  rcases emp_or s with rfl | ⟨s0, s1, s2, s3⟩
  · have hput : dropsM .empty m = ⟨m.out, m.kept, m.put, m.drop ++ .empty⟩ := by unfold dropsM; rw [if_neg (by decide)]
    obtain ⟨c0, c1, c2, c3⟩ := h.cells
    have f2 := h.blk.frozen 3
    have HM := Lib.hid (And.intro h hput)
    clear h hput cR
    go_enter Tryd.func50, Tryd.ntmps50
    go_wp2_with (at_builtin; refine wpList_app2 rfl _ _ 46 9 rfl b 5 i0 Tryd.underlying46 Tryd.underlying9 hi hz0 hz1 hz2 _ _ _ rfl HM.out.1.rd .empty rfl (by omega) HM.out.1.bw ?_; intro v2 w2 r2 g2 b2; have b3 := Blk.kept HM.out.1.blk g2 (Blk.not_row HM.out.1.blk (by decide) HM.out.1.rd); have z0 := b3.cell 3; have z1 := b3.frozen 3; simp only [List.getElem?_toArray, List.getElem?_cons_succ, List.getElem?_cons_zero] at z0; obtain ⟨o2, q2, rfl, _⟩ := own_slice r2; have HA := Lib.hid (MkB.dropS HM.out.1 .empty r2 g2 b2); clear r2 g2 b2 b3)
    refine bodyPost_end (results_none rfl _ _ _) rfl ?_
    rw [HM.out.2]
    exact ⟨rfl, _, _, _, HA.out.1, HA.out.2⟩
  · have hput : dropsM s m = ⟨(rowM m).out, (rowM m).kept, (rowM m).put, (rowM m).drop ++ s⟩ := by unfold dropsM; rw [if_pos (by omega)]
    have HM := Lib.hid (And.intro h hput)
    clear h hput
    go_enter Tryd.func50, Tryd.ntmps50
    go_wp2_with (fail)
    refine cR.mono ?_
    rintro e V ⟨rfl, vo', hV, hKV⟩
    obtain ⟨c0, c1, c2, c3⟩ := hV.cells
    have f2 := hV.blk.frozen 3
    have HV := Lib.hid (And.intro hV hKV)
    have hp7 : (rowM m).drop.size ≤ 1000000 := hp6
    clear hV hKV cR
    go_wp2_with (at_builtin; refine wpList_app2 rfl _ _ 46 9 rfl b 5 i0 Tryd.underlying46 Tryd.underlying9 hi hz0 hz1 hz2 _ _ _ rfl HV.out.1.rd s rfl (by omega) HV.out.1.bw ?_; intro v2 w2 r2 g2 b2; have b3 := Blk.kept HV.out.1.blk g2 (Blk.not_row HV.out.1.blk (by decide) HV.out.1.rd); have z0 := b3.cell 3; have z1 := b3.frozen 3; simp only [List.getElem?_toArray, List.getElem?_cons_succ, List.getElem?_cons_zero] at z0; obtain ⟨o2, q2, rfl, _⟩ := own_slice r2; have HA := Lib.hid (MkB.dropS HV.out.1 s r2 g2 b2); clear r2 g2 b2 b3)
    refine bodyPost_end (results_none rfl _ _ _) rfl ?_
    rw [HM.out.2]
    exact ⟨rfl, _, _, _, HA.out.1, HV.out.2.trans HA.out.2⟩
end Go.Proofs.YtjccoiephdopkaaDoor
