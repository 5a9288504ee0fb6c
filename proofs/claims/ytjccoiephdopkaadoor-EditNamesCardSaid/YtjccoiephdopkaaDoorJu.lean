/- Stage 27: the maker's row and gap. -/
import Derived.Test.YtjccoiephdopkaaDoorJt
namespace Go.Proofs.YtjccoiephdopkaaDoor
set_option linter.unusedVariables false
set_option linter.unusedSimpArgs false
open Go Go.RowKit Go.Shelf
set_option maxRecDepth 100000

theorem infoStepA : (Tryd.prog.info? 39).map (fun i => (i.zero, i.size, i.bytes)) = some (some (.agg #[.int .i64 0, .string .empty, .string .empty]), 3, 40) := by kernel_rfl
theorem MkB.setK {W : World} {B b : Nat} {vo vp vd : Value} {m : Mk} (h : MkB W B b vo vp vd m) (n : Nat) : MkB (W.setCell ⟨B, 1, none⟩ (.int .i64 n)) B b vo vp vd ⟨m.out, n, m.put, m.drop⟩ := by
  have b4 := h.blk.set 1 (.int .i64 n)
  simp only [List.setIfInBounds_toArray, List.set_cons_zero, List.set_cons_succ] at b4
  exact ⟨b4, own_low h.ro h.bb 1 _, own_low h.rp h.bb 1 _, own_low h.rd h.bb 1 _, h.ap, h.bb, by simpa using h.bw⟩
theorem MkB.cells {W : World} {B b : Nat} {vo vp vd : Value} {m : Mk} (h : MkB W B b vo vp vd m) : W.cell? ⟨B, 0, none⟩ = some vo ∧ W.cell? ⟨B, 1, none⟩ = some (.int .i64 m.kept) ∧ W.cell? ⟨B, 2, none⟩ = some vp ∧ W.cell? ⟨B, 3, none⟩ = some vd := ⟨h.blk.cell 0, h.blk.cell 1, h.blk.cell 2, h.blk.cell 3⟩
/-- What of a maker a region's reads lean on. -/
def MkS (W : World) (B b : Nat) (vo vp vd : Value) (m : Mk) : Prop := Blk W B #[vo, .int .i64 m.kept, vp, vd] 96 ∧ W.ownsRow b 5 1 vp m.put.size (Lib.strCells m.put) ∧ W.ownsRow b 5 1 vd m.drop.size (Lib.strCells m.drop)
theorem MkB.toS {W : World} {B b : Nat} {vo vp vd : Value} {m : Mk} (h : MkB W B b vo vp vd m) : MkS W B b vo vp vd m := ⟨h.blk, h.rp, h.rd⟩
theorem MkS.cells {W : World} {B b : Nat} {vo vp vd : Value} {m : Mk} (h : MkS W B b vo vp vd m) : W.cell? ⟨B, 0, none⟩ = some vo ∧ W.cell? ⟨B, 1, none⟩ = some (.int .i64 m.kept) ∧ W.cell? ⟨B, 2, none⟩ = some vp ∧ W.cell? ⟨B, 3, none⟩ = some vd := ⟨h.1.cell 0, h.1.cell 1, h.1.cell 2, h.1.cell 3⟩
theorem MkB.keptS {X w3 : World} {B b : Nat} {vo vp vd : Value} {m : Mk} (h : MkB X B b vo vp vd m) (hg : X.grownBy w3 vo.ownBlock) : MkS w3 B b vo vp vd m :=
  ⟨Blk.kept h.blk hg (Blk.not_row h.blk (by decide) h.ro), h.rp.kept hg (rows_apart h.rp h.ro (by decide)), h.rd.kept hg (rows_apart h.rd h.ro (by decide))⟩
set_option maxHeartbeats 4000000 in
theorem row_any {W : World} {B b : Nat} {vo vp vd : Value} {m : Mk} (h : MkB W B b vo vp vd m) (hl : m.out.length ≤ 1000000000) :
    Calls Tryd.prog 74 #[.pointer (some ⟨B, 0, none⟩)] W fun e W' => e = .returned (.tuple #[]) ∧ ∃ vo', MkB W' B b vo' vp vd (rowM m) ∧ KpM B (vo, vp, vd) (vo', vp, vd) W W' := by
  obtain ⟨j0, hj, hy0, hy1, hy2⟩ := info_parts infoStepA
  obtain ⟨c0, c1, c2, c3⟩ := h.cells
  obtain ⟨ov, cv, rfl, _⟩ := own_slice h.ro
  obtain ⟨vo, hvo⟩ : ∃ v, Value.slice ov m.out.length cv = v := ⟨_, rfl⟩
  have f1 := h.blk.frozen 1
  by_cases hk : 0 < m.kept
  · have d1 : decide ((0 : Int) < (m.kept : Int)) = true := decide_eq_true (by omega)
    have hrow : rowM m = ⟨m.out ++ [⟨m.kept, .empty, .empty⟩], 0, m.put, m.drop⟩ := by unfold rowM; rw [if_pos hk]
    rw [hvo] at h c0 ⊢
    clear hvo
    have HM := Lib.hid h
    clear h f1
    go_enter Tryd.func74, Tryd.ntmps74
    go_wp2
    refine wp_region_noPanic ?_
    refine wp_region_g (S := untilG [14] (fun X => MkS X B b vo vp vd m)) (by kernel_rfl) ?_
    obtain ⟨X0, hX0⟩ : ∃ Z, W.drew = Z := ⟨_, rfl⟩
    have U0 : Below W.heap.size W X0 := hX0 ▸ (Below.refl W.heap.size W).drew
    have T0 := (MkB.below HM.out U0).toS
    rw [hX0]
    clear hX0
    refine wpAnyG_take [0, 12, 13, 14] (i := 0) (v := (.pointer (some ⟨B, 0, none⟩))) rfl (by kernel_rfl) (by kernel_rfl) (by kernel_rfl) (by kernel_rfl) (by kernel_rfl) (by kernel_rfl) (by kernel_rfl) (by kernel_rfl) (fun _ _ _ h => h) (Or.inl ⟨by rfl, ?hy⟩) T0 ?_
    case hy =>
      intro X hX
      go_simp
    try simp only [Act.put, List.getElem_toArray, List.getElem_cons_zero, List.getElem_cons_succ, List.setIfInBounds_toArray, List.set_cons_zero, List.set_cons_succ]
    refine wpAnyG_take [1, 2, 3, 4, 11, 14] (i := 1) (v := (.pointer (some ⟨B, 0, none⟩))) rfl (by kernel_rfl) (by kernel_rfl) (by kernel_rfl) (by kernel_rfl) (by kernel_rfl) (by kernel_rfl) (by kernel_rfl) (by kernel_rfl) (fun _ _ _ h => h) (Or.inl ⟨by rfl, ?hy⟩) T0 ?_
    case hy =>
      intro X hX
      go_simp
    try simp only [Act.put, List.getElem_toArray, List.getElem_cons_zero, List.getElem_cons_succ, List.setIfInBounds_toArray, List.set_cons_zero, List.set_cons_succ]
    refine wpAnyG_take [2, 3, 4, 11, 14] (i := 2) (v := (.pointer (some ⟨B, 0, none⟩))) rfl (by kernel_rfl) (by kernel_rfl) (by kernel_rfl) (by kernel_rfl) (by kernel_rfl) (by kernel_rfl) (by kernel_rfl) (by kernel_rfl) (fun _ _ _ h => h) (Or.inl ⟨by rfl, ?hy⟩) T0 ?_
    case hy =>
      intro X hX
      go_simp
    try simp only [Act.put, List.getElem_toArray, List.getElem_cons_zero, List.getElem_cons_succ, List.setIfInBounds_toArray, List.set_cons_zero, List.set_cons_succ]
    refine wpAnyG_take [3, 4, 11, 14] (i := 3) (v := (.pointer (some ⟨B, 0, none⟩))) rfl (by kernel_rfl) (by kernel_rfl) (by kernel_rfl) (by kernel_rfl) (by kernel_rfl) (by kernel_rfl) (by kernel_rfl) (by kernel_rfl) (fun _ _ _ h => h) (Or.inl ⟨by rfl, ?hy⟩) T0 ?_
    case hy =>
      intro X hX
      go_simp
    try simp only [Act.put, List.getElem_toArray, List.getElem_cons_zero, List.getElem_cons_succ, List.setIfInBounds_toArray, List.set_cons_zero, List.set_cons_succ]
    refine wpAnyG_take [4, 11, 14] (i := 4) (v := vo) rfl (by kernel_rfl) (by kernel_rfl) (by kernel_rfl) (by kernel_rfl) (by kernel_rfl) (by kernel_rfl) (by kernel_rfl) (by kernel_rfl) (fun _ _ _ h => h) (Or.inl ⟨by rfl, ?hy⟩) T0 ?_
    case hy =>
      intro X hX
      have e0 := hX.cells.1
      go_simp
    try simp only [Act.put, List.getElem_toArray, List.getElem_cons_zero, List.getElem_cons_succ, List.setIfInBounds_toArray, List.set_cons_zero, List.set_cons_succ]
    refine wpAnyG_take [5, 6, 7, 8, 9, 10, 11, 14] (i := 5) (v := (.pointer (some ⟨B, 0, none⟩))) rfl (by kernel_rfl) (by kernel_rfl) (by kernel_rfl) (by kernel_rfl) (by kernel_rfl) (by kernel_rfl) (by kernel_rfl) (by kernel_rfl) (fun _ _ _ h => h) (Or.inl ⟨by rfl, ?hy⟩) T0 ?_
    case hy =>
      intro X hX
      go_simp
    try simp only [Act.put, List.getElem_toArray, List.getElem_cons_zero, List.getElem_cons_succ, List.setIfInBounds_toArray, List.set_cons_zero, List.set_cons_succ]
    refine wpAnyG_take [6, 7, 8, 9, 10, 11, 14] (i := 6) (v := (.pointer (some ⟨B, 0, none⟩))) rfl (by kernel_rfl) (by kernel_rfl) (by kernel_rfl) (by kernel_rfl) (by kernel_rfl) (by kernel_rfl) (by kernel_rfl) (by kernel_rfl) (fun _ _ _ h => h) (Or.inl ⟨by rfl, ?hy⟩) T0 ?_
    case hy =>
      intro X hX
      go_simp
    try simp only [Act.put, List.getElem_toArray, List.getElem_cons_zero, List.getElem_cons_succ, List.setIfInBounds_toArray, List.set_cons_zero, List.set_cons_succ]
    refine wpAnyG_take [7, 8, 9, 10, 11, 14] (i := 7) (v := (.pointer (some ⟨B, 1, none⟩))) rfl (by kernel_rfl) (by kernel_rfl) (by kernel_rfl) (by kernel_rfl) (by kernel_rfl) (by kernel_rfl) (by kernel_rfl) (by kernel_rfl) (fun _ _ _ h => h) (Or.inl ⟨by rfl, ?hy⟩) T0 ?_
    case hy =>
      intro X hX
      go_simp
    try simp only [Act.put, List.getElem_toArray, List.getElem_cons_zero, List.getElem_cons_succ, List.setIfInBounds_toArray, List.set_cons_zero, List.set_cons_succ]
    refine wpAnyG_take [8, 9, 10, 11, 14] (i := 8) (v := (.int .i64 m.kept)) rfl (by kernel_rfl) (by kernel_rfl) (by kernel_rfl) (by kernel_rfl) (by kernel_rfl) (by kernel_rfl) (by kernel_rfl) (by kernel_rfl) (fun _ _ _ h => h) (Or.inl ⟨by rfl, ?hy⟩) T0 ?_
    case hy =>
      intro X hX
      have e0 := hX.cells.2.1
      go_simp
    try simp only [Act.put, List.getElem_toArray, List.getElem_cons_zero, List.getElem_cons_succ, List.setIfInBounds_toArray, List.set_cons_zero, List.set_cons_succ]
    refine wpAnyG_take [9, 10, 11, 14] (i := 9) (v := (.agg #[.int .i64 m.kept, .string .empty, .string .empty])) rfl (by kernel_rfl) (by kernel_rfl) (by kernel_rfl) (by kernel_rfl) (by kernel_rfl) (by kernel_rfl) (by kernel_rfl) (by kernel_rfl) (fun _ _ _ h => h) (Or.inl ⟨by rfl, ?hy⟩) T0 ?_
    case hy =>
      intro X hX
      (go_simp; try rfl)
    try simp only [Act.put, List.getElem_toArray, List.getElem_cons_zero, List.getElem_cons_succ, List.setIfInBounds_toArray, List.set_cons_zero, List.set_cons_succ]
    refine wpAnyG_all (rs := [10]) (by kernel_rfl) (by simp) ?_
    intro i hi
    simp only [List.mem_cons, List.not_mem_nil, or_false] at hi
    subst hi
    refine wpOp_now rfl rfl ?_
    go_simp
    have U1 := U0.alloc U0.size (.cells #[.int .i64 m.kept, .string .empty, .string .empty] 39)
    have hown1 := own_below HM.out.ro U1
    have hnew := World.alloc_heap_new X0 (.cells #[.int .i64 m.kept, .string .empty, .string .empty] 39)
    have hbX := Nat.le_trans HM.out.bw U1.size
    have T1 := (MkB.below HM.out U1).toS
    refine ⟨fun _ => T1, ?_⟩
    try simp only [Act.put, List.getElem_toArray, List.getElem_cons_zero, List.getElem_cons_succ, List.setIfInBounds_toArray, List.set_cons_zero, List.set_cons_succ]
    refine wpAnyG_all (rs := [11]) (by kernel_rfl) (by simp) ?_
    intro i hi
    simp only [List.mem_cons, List.not_mem_nil, or_false] at hi
    subst hi
    refine wpOp_now rfl rfl ?_
    refine opwp_append2 _ _ 22 rfl b 39 j0 (.agg #[.int .i64 0, .string .empty, .string .empty]) 3 40 Tryd.underlying22 hj hy0 hy1 hy2 rfl (by decide) _ _ _ rfl hown1 ⟨X0.heap.size, 0, none⟩ 1 1 [.int .i64 m.kept, .string .empty, .string .empty] rfl rfl (World.news_of_block (cs := #[.int .i64 m.kept, .string .empty, .string .empty]) (t := 39) (fr := (0, 0)) hnew) (fun x hx => by simp at hx; rcases hx with rfl | rfl | rfl <;> rfl) (by unfold maxLen; omega) (by omega) hbX ?_
    intro v3 w3 hown3 hg3 hv3
    have hA := MkB.add (x := ⟨m.kept, .empty, .empty⟩) HM.out U1 hown3 hg3 hv3
    have T3 := MkB.keptS (MkB.below HM.out U1) hg3
    have n3 := T3.1
    have k3 := n3.frozen 0
    have k0 : w3.cell? ⟨B, 0, none⟩ = some vo := n3.cell 0
    obtain ⟨ov3, cv3, rfl, _⟩ := own_slice hown3
    have HA := Lib.hid hA
    clear hA hown3 hg3 hv3 n3 hown1 hnew T0 T1 U0 U1 hbX
    refine ⟨fun _ => T3, ?_⟩
    try simp only [Act.put, List.getElem_toArray, List.getElem_cons_zero, List.getElem_cons_succ, List.setIfInBounds_toArray, List.set_cons_zero, List.set_cons_succ]
    refine wpAnyG_all (rs := [12]) (by kernel_rfl) (by simp) ?_
    intro i hi
    simp only [List.mem_cons, List.not_mem_nil, or_false] at hi
    subst hi
    refine wpOp_now rfl rfl ?_
    go_simp
    refine ⟨fun _ => T3, ?_⟩
    try simp only [Act.put, List.getElem_toArray, List.getElem_cons_zero, List.getElem_cons_succ, List.setIfInBounds_toArray, List.set_cons_zero, List.set_cons_succ]
    refine wpAnyG_all (rs := [13]) (by kernel_rfl) (by simp) ?_
    intro i hi
    simp only [List.mem_cons, List.not_mem_nil, or_false] at hi
    subst hi
    refine wpOp_now rfl rfl ?_
    go_simp
    refine ⟨fun _ => T3, ?_⟩
    try simp only [Act.put, List.getElem_toArray, List.getElem_cons_zero, List.getElem_cons_succ, List.setIfInBounds_toArray, List.set_cons_zero, List.set_cons_succ]
    refine wpAnyG_all (rs := [14]) (by kernel_rfl) (by simp) ?_
    intro i hi
    simp only [List.mem_cons, List.not_mem_nil, or_false] at hi
    subst hi
    refine wpOp_now rfl rfl ?_
    go_simp
    refine ⟨fun h => (nomatch (show (false : Bool) = true from h)), ?_⟩
    refine wpAnyG_done (by kernel_rfl) ?_ _
    refine NoPanic.normal ?_
    have hA := HA.out
    obtain ⟨y0, y1, y2, y3⟩ := hA.1.cells
    have f1 := hA.1.blk.frozen 1
    clear hA k3 k0 c0 c1 c2 c3
    go_wp2
    refine bodyPost_end (results_none rfl _ _ _) rfl ?_
    try rw [hrow]
    exact ⟨rfl, _, HA.out.1.setK 0, HA.out.2.trans (KpM.set HA.out.1 1 _)⟩
  · have d1 : decide ((0 : Int) < (m.kept : Int)) = false := decide_eq_false (by omega)
    have hrow : rowM m = ⟨m.out, 0, m.put, m.drop⟩ := by unfold rowM; rw [if_neg hk, List.append_nil]
    have HM := Lib.hid h
    clear h hvo
    go_enter Tryd.func74, Tryd.ntmps74
    go_wp2
    refine bodyPost_end (results_none rfl _ _ _) rfl ?_
    try rw [hrow]
    exact ⟨rfl, _, HM.out.setK 0, KpM.set HM.out 1 _⟩
theorem MkB.setNil {W : World} {B b : Nat} {vo vp vd : Value} {m : Mk} (h : MkB W B b vo vp vd m) : MkB ((W.setCell ⟨B, 2, none⟩ (.slice none 0 0)).setCell ⟨B, 3, none⟩ (.slice none 0 0)) B b vo (.slice none 0 0) (.slice none 0 0) ⟨m.out, m.kept, .empty, .empty⟩ := by
  have b4 := (h.blk.set 2 (.slice none 0 0)).set 3 (.slice none 0 0)
  simp only [List.setIfInBounds_toArray, List.set_cons_zero, List.set_cons_succ] at b4
  exact ⟨b4, own_low (own_low h.ro h.bb 2 _) h.bb 3 _, World.ownsRow_nil _ _ _ _, World.ownsRow_nil _ _ _ _, .inl rfl, h.bb, by simpa using h.bw⟩
theorem MkB.kpNil {W : World} {B b : Nat} {vo vp vd : Value} {m : Mk} (h : MkB W B b vo vp vd m) : KpM B (vo, vp, vd) (vo, .slice none 0 0, .slice none 0 0) W ((W.setCell ⟨B, 2, none⟩ (.slice none 0 0)).setCell ⟨B, 3, none⟩ (.slice none 0 0)) :=
  ⟨rfl, rfl, rfl, by simp, fun q hq hB hn => ⟨(Below.heap_setCell _ _ _ _ (fun e => hB e)).trans (Below.heap_setCell _ _ _ _ (fun e => hB e)), hn.1, (fun e => by cases e), (fun e => by cases e)⟩⟩
set_option maxHeartbeats 8000000 in
theorem gap_any {W : World} {B b : Nat} {vo vp vd : Value} {m : Mk} (h : MkB W B b vo vp vd m) (hl : m.out.length ≤ 1000000000) (hp6 : m.put.size ≤ 1000000) (hd6 : m.drop.size ≤ 1000000) :
    Calls Tryd.prog 72 #[.pointer (some ⟨B, 0, none⟩)] W fun e W' => e = .returned (.tuple #[]) ∧ ∃ vo', MkB W' B b vo' (.slice none 0 0) (.slice none 0 0) (gapM m) ∧ KpM B (vo, vp, vd) (vo', .slice none 0 0, .slice none 0 0) W W' := by
  obtain ⟨j0, hj, hy0, hy1, hy2⟩ := info_parts infoStepA
  obtain ⟨c0, c1, c2, c3⟩ := h.cells
  obtain ⟨op, cp, rfl, _⟩ := own_slice h.rp
  obtain ⟨od, cd, rfl, _⟩ := own_slice h.rd
  obtain ⟨ov, cv, rfl, _⟩ := own_slice h.ro
  obtain ⟨vo, hvo⟩ : ∃ v, Value.slice ov m.out.length cv = v := ⟨_, rfl⟩
  by_cases hp : 0 < m.put.size
  · have d1 : decide ((0 : Int) < (m.put.size : Int)) = true := decide_eq_true (by omega)
    rw [hvo] at h c0 ⊢
    clear hvo
    have HM := Lib.hid h
    clear h
    go_enter Tryd.func72, Tryd.ntmps72
    go_wp2
    refine wp_region_noPanic ?_
    refine wp_region_g (S := untilG [15] (fun X => MkS X B b vo (.slice op m.put.size cp) (.slice od m.drop.size cd) m)) (by kernel_rfl) ?_
    obtain ⟨X0, hX0⟩ : ∃ Z, W.drew = Z := ⟨_, rfl⟩
    have U0 : Below W.heap.size W X0 := hX0 ▸ (Below.refl W.heap.size W).drew
    have T0 := (MkB.below HM.out U0).toS
    rw [hX0]
    clear hX0
    refine wpAnyG_take [0, 13, 14, 15] (i := 0) (v := (.pointer (some ⟨B, 0, none⟩))) rfl (by kernel_rfl) (by kernel_rfl) (by kernel_rfl) (by kernel_rfl) (by kernel_rfl) (by kernel_rfl) (by kernel_rfl) (by kernel_rfl) (fun _ _ _ h => h) (Or.inl ⟨by rfl, ?hy⟩) T0 ?_
    case hy =>
      intro X hX
      go_simp
    try simp only [Act.put, List.getElem_toArray, List.getElem_cons_zero, List.getElem_cons_succ, List.setIfInBounds_toArray, List.set_cons_zero, List.set_cons_succ]
    refine wpAnyG_take [1, 2, 3, 4, 12, 15] (i := 1) (v := (.pointer (some ⟨B, 0, none⟩))) rfl (by kernel_rfl) (by kernel_rfl) (by kernel_rfl) (by kernel_rfl) (by kernel_rfl) (by kernel_rfl) (by kernel_rfl) (by kernel_rfl) (fun _ _ _ h => h) (Or.inl ⟨by rfl, ?hy⟩) T0 ?_
    case hy =>
      intro X hX
      go_simp
    try simp only [Act.put, List.getElem_toArray, List.getElem_cons_zero, List.getElem_cons_succ, List.setIfInBounds_toArray, List.set_cons_zero, List.set_cons_succ]
    refine wpAnyG_take [2, 3, 4, 12, 15] (i := 2) (v := (.pointer (some ⟨B, 0, none⟩))) rfl (by kernel_rfl) (by kernel_rfl) (by kernel_rfl) (by kernel_rfl) (by kernel_rfl) (by kernel_rfl) (by kernel_rfl) (by kernel_rfl) (fun _ _ _ h => h) (Or.inl ⟨by rfl, ?hy⟩) T0 ?_
    case hy =>
      intro X hX
      go_simp
    try simp only [Act.put, List.getElem_toArray, List.getElem_cons_zero, List.getElem_cons_succ, List.setIfInBounds_toArray, List.set_cons_zero, List.set_cons_succ]
    refine wpAnyG_take [3, 4, 12, 15] (i := 3) (v := (.pointer (some ⟨B, 0, none⟩))) rfl (by kernel_rfl) (by kernel_rfl) (by kernel_rfl) (by kernel_rfl) (by kernel_rfl) (by kernel_rfl) (by kernel_rfl) (by kernel_rfl) (fun _ _ _ h => h) (Or.inl ⟨by rfl, ?hy⟩) T0 ?_
    case hy =>
      intro X hX
      go_simp
    try simp only [Act.put, List.getElem_toArray, List.getElem_cons_zero, List.getElem_cons_succ, List.setIfInBounds_toArray, List.set_cons_zero, List.set_cons_succ]
    refine wpAnyG_take [4, 12, 15] (i := 4) (v := vo) rfl (by kernel_rfl) (by kernel_rfl) (by kernel_rfl) (by kernel_rfl) (by kernel_rfl) (by kernel_rfl) (by kernel_rfl) (by kernel_rfl) (fun _ _ _ h => h) (Or.inl ⟨by rfl, ?hy⟩) T0 ?_
    case hy =>
      intro X hX
      have e0 := hX.cells.1
      go_simp
    try simp only [Act.put, List.getElem_toArray, List.getElem_cons_zero, List.getElem_cons_succ, List.setIfInBounds_toArray, List.set_cons_zero, List.set_cons_succ]
    refine wpAnyG_take [5, 6, 7, 8, 9, 10, 11, 12, 15] (i := 5) (v := (.pointer (some ⟨B, 0, none⟩))) rfl (by kernel_rfl) (by kernel_rfl) (by kernel_rfl) (by kernel_rfl) (by kernel_rfl) (by kernel_rfl) (by kernel_rfl) (by kernel_rfl) (fun _ _ _ h => h) (Or.inl ⟨by rfl, ?hy⟩) T0 ?_
    case hy =>
      intro X hX
      go_simp
    try simp only [Act.put, List.getElem_toArray, List.getElem_cons_zero, List.getElem_cons_succ, List.setIfInBounds_toArray, List.set_cons_zero, List.set_cons_succ]
    refine wpAnyG_take [6, 7, 8, 9, 10, 11, 12, 15] (i := 6) (v := (.pointer (some ⟨B, 0, none⟩))) rfl (by kernel_rfl) (by kernel_rfl) (by kernel_rfl) (by kernel_rfl) (by kernel_rfl) (by kernel_rfl) (by kernel_rfl) (by kernel_rfl) (fun _ _ _ h => h) (Or.inl ⟨by rfl, ?hy⟩) T0 ?_
    case hy =>
      intro X hX
      go_simp
    try simp only [Act.put, List.getElem_toArray, List.getElem_cons_zero, List.getElem_cons_succ, List.setIfInBounds_toArray, List.set_cons_zero, List.set_cons_succ]
    refine wpAnyG_take [7, 8, 9, 10, 11, 12, 15] (i := 7) (v := (.pointer (some ⟨B, 2, none⟩))) rfl (by kernel_rfl) (by kernel_rfl) (by kernel_rfl) (by kernel_rfl) (by kernel_rfl) (by kernel_rfl) (by kernel_rfl) (by kernel_rfl) (fun _ _ _ h => h) (Or.inl ⟨by rfl, ?hy⟩) T0 ?_
    case hy =>
      intro X hX
      go_simp
    try simp only [Act.put, List.getElem_toArray, List.getElem_cons_zero, List.getElem_cons_succ, List.setIfInBounds_toArray, List.set_cons_zero, List.set_cons_succ]
    refine wpAnyG_take [8, 9, 10, 11, 12, 15] (i := 8) (v := (.slice op m.put.size cp)) rfl (by kernel_rfl) (by kernel_rfl) (by kernel_rfl) (by kernel_rfl) (by kernel_rfl) (by kernel_rfl) (by kernel_rfl) (by kernel_rfl) (fun _ _ _ h => h) (Or.inl ⟨by rfl, ?hy⟩) T0 ?_
    case hy =>
      intro X hX
      have e0 := hX.cells.2.2.1
      go_simp
    try simp only [Act.put, List.getElem_toArray, List.getElem_cons_zero, List.getElem_cons_succ, List.setIfInBounds_toArray, List.set_cons_zero, List.set_cons_succ]
    refine wpAnyG_take [9, 10, 11, 12, 15] (i := 9) (v := (.string m.put)) rfl (by kernel_rfl) (by kernel_rfl) (by kernel_rfl) (by kernel_rfl) (by kernel_rfl) (by kernel_rfl) (by kernel_rfl) (by kernel_rfl) (fun _ _ _ h => h) (Or.inl ⟨by rfl, ?hy⟩) T0 ?_
    case hy =>
      intro X hX
      have ec := conv_own rfl hX.2.1
      go_simp
    try simp only [Act.put, List.getElem_toArray, List.getElem_cons_zero, List.getElem_cons_succ, List.setIfInBounds_toArray, List.set_cons_zero, List.set_cons_succ]
    refine wpAnyG_take [10, 11, 12, 15] (i := 10) (v := (.agg #[.int .i64 0, .string .empty, .string m.put])) rfl (by kernel_rfl) (by kernel_rfl) (by kernel_rfl) (by kernel_rfl) (by kernel_rfl) (by kernel_rfl) (by kernel_rfl) (by kernel_rfl) (fun _ _ _ h => h) (Or.inl ⟨by rfl, ?hy⟩) T0 ?_
    case hy =>
      intro X hX
      (go_simp; try rfl)
    try simp only [Act.put, List.getElem_toArray, List.getElem_cons_zero, List.getElem_cons_succ, List.setIfInBounds_toArray, List.set_cons_zero, List.set_cons_succ]
    refine wpAnyG_all (rs := [11]) (by kernel_rfl) (by simp) ?_
    intro i hi
    simp only [List.mem_cons, List.not_mem_nil, or_false] at hi
    subst hi
    refine wpOp_now rfl rfl ?_
    go_simp
    have U1 := U0.alloc U0.size (.cells #[.int .i64 0, .string .empty, .string m.put] 39)
    have hown1 := own_below HM.out.ro U1
    have hnew := World.alloc_heap_new X0 (.cells #[.int .i64 0, .string .empty, .string m.put] 39)
    have hbX := Nat.le_trans HM.out.bw U1.size
    have T1 := (MkB.below HM.out U1).toS
    refine ⟨fun _ => T1, ?_⟩
    try simp only [Act.put, List.getElem_toArray, List.getElem_cons_zero, List.getElem_cons_succ, List.setIfInBounds_toArray, List.set_cons_zero, List.set_cons_succ]
    refine wpAnyG_all (rs := [12]) (by kernel_rfl) (by simp) ?_
    intro i hi
    simp only [List.mem_cons, List.not_mem_nil, or_false] at hi
    subst hi
    refine wpOp_now rfl rfl ?_
    refine opwp_append2 _ _ 22 rfl b 39 j0 (.agg #[.int .i64 0, .string .empty, .string .empty]) 3 40 Tryd.underlying22 hj hy0 hy1 hy2 rfl (by decide) _ _ _ rfl hown1 ⟨X0.heap.size, 0, none⟩ 1 1 [.int .i64 0, .string .empty, .string m.put] rfl rfl (World.news_of_block (cs := #[.int .i64 0, .string .empty, .string m.put]) (t := 39) (fr := (0, 0)) hnew) (fun x hx => by simp at hx; rcases hx with rfl | rfl | rfl <;> rfl) (by unfold maxLen; omega) (by omega) hbX ?_
    intro v3 w3 hown3 hg3 hv3
    have hA := MkB.add (x := ⟨0, .empty, m.put⟩) HM.out U1 hown3 hg3 hv3
    have T3 := MkB.keptS (MkB.below HM.out U1) hg3
    have n3 := T3.1
    have k3 := n3.frozen 0
    have k0 : w3.cell? ⟨B, 0, none⟩ = some vo := n3.cell 0
    obtain ⟨ov3, cv3, rfl, _⟩ := own_slice hown3
    have HA := Lib.hid hA
    clear hA hown3 hg3 hv3 n3 hown1 hnew T0 T1 U0 U1 hbX
    refine ⟨fun _ => T3, ?_⟩
    try simp only [Act.put, List.getElem_toArray, List.getElem_cons_zero, List.getElem_cons_succ, List.setIfInBounds_toArray, List.set_cons_zero, List.set_cons_succ]
    refine wpAnyG_all (rs := [13]) (by kernel_rfl) (by simp) ?_
    intro i hi
    simp only [List.mem_cons, List.not_mem_nil, or_false] at hi
    subst hi
    refine wpOp_now rfl rfl ?_
    go_simp
    refine ⟨fun _ => T3, ?_⟩
    try simp only [Act.put, List.getElem_toArray, List.getElem_cons_zero, List.getElem_cons_succ, List.setIfInBounds_toArray, List.set_cons_zero, List.set_cons_succ]
    refine wpAnyG_all (rs := [14]) (by kernel_rfl) (by simp) ?_
    intro i hi
    simp only [List.mem_cons, List.not_mem_nil, or_false] at hi
    subst hi
    refine wpOp_now rfl rfl ?_
    go_simp
    refine ⟨fun _ => T3, ?_⟩
    try simp only [Act.put, List.getElem_toArray, List.getElem_cons_zero, List.getElem_cons_succ, List.setIfInBounds_toArray, List.set_cons_zero, List.set_cons_succ]
    refine wpAnyG_all (rs := [15]) (by kernel_rfl) (by simp) ?_
    intro i hi
    simp only [List.mem_cons, List.not_mem_nil, or_false] at hi
    subst hi
    refine wpOp_now rfl rfl ?_
    go_simp
    refine ⟨fun h => (nomatch (show (false : Bool) = true from h)), ?_⟩
    refine wpAnyG_done (by kernel_rfl) ?_ _
    refine NoPanic.normal ?_
    have hA := HA.out
    obtain ⟨W2, hW2⟩ : ∃ W2, w3.setCell ⟨B, 0, none⟩ (.slice ov3 (m.out.length + 1) cv3) = W2 := ⟨_, rfl⟩
    obtain ⟨vo2, hvo2⟩ : ∃ v, Value.slice ov3 (m.out.length + 1) cv3 = v := ⟨_, rfl⟩
    rw [hW2] at hA ⊢
    rw [hvo2] at hA
    obtain ⟨y0, y1, y2, y3⟩ := hA.1.cells
    obtain ⟨m2, hm2⟩ : ∃ m2 : Mk, (⟨m.out ++ [⟨0, .empty, m.put⟩], m.kept, m.put, m.drop⟩ : Mk) = m2 := ⟨_, rfl⟩
    have hm2l : m2.out.length ≤ 1000000001 := by rw [← hm2]; simp; omega
    have HQ2 := Lib.hid hm2
    rw [hm2] at hA
    have H2 := Lib.hid hA.1
    have HK2 := Lib.hid hA.2
    clear hA HA k3 k0 c0 c1 c2 c3 hW2 hvo2 T3 hm2
    by_cases hd : 0 < m.drop.size
    · have d2 : decide ((0 : Int) < (m.drop.size : Int)) = true := decide_eq_true (by omega)
      have hgap : gapM m = ⟨m2.out ++ [⟨0, m2.drop, .empty⟩], m2.kept, .empty, .empty⟩ := by rw [← HQ2.out]; unfold gapM; rw [if_pos hp, if_pos hd]
      have HG := Lib.hid hgap
      clear hgap
      go_wp2
      refine wp_region_noPanic ?_
      refine wp_region_g (S := untilG [15] (fun X => MkS X B b vo2 (.slice op m.put.size cp) (.slice od m.drop.size cd) m2)) (by kernel_rfl) ?_
      obtain ⟨X0, hX0⟩ : ∃ Z, W2.drew = Z := ⟨_, rfl⟩
      have U0 : Below W2.heap.size W2 X0 := hX0 ▸ (Below.refl W2.heap.size W2).drew
      have T0 := (MkB.below H2.out U0).toS
      rw [hX0]
      clear hX0
      refine wpAnyG_take [0, 13, 14, 15] (i := 0) (v := (.pointer (some ⟨B, 0, none⟩))) rfl (by kernel_rfl) (by kernel_rfl) (by kernel_rfl) (by kernel_rfl) (by kernel_rfl) (by kernel_rfl) (by kernel_rfl) (by kernel_rfl) (fun _ _ _ h => h) (Or.inl ⟨by rfl, ?hy⟩) T0 ?_
      case hy =>
        intro X hX
        go_simp
      try simp only [Act.put, List.getElem_toArray, List.getElem_cons_zero, List.getElem_cons_succ, List.setIfInBounds_toArray, List.set_cons_zero, List.set_cons_succ]
      refine wpAnyG_take [1, 2, 3, 4, 12, 15] (i := 1) (v := (.pointer (some ⟨B, 0, none⟩))) rfl (by kernel_rfl) (by kernel_rfl) (by kernel_rfl) (by kernel_rfl) (by kernel_rfl) (by kernel_rfl) (by kernel_rfl) (by kernel_rfl) (fun _ _ _ h => h) (Or.inl ⟨by rfl, ?hy⟩) T0 ?_
      case hy =>
        intro X hX
        go_simp
      try simp only [Act.put, List.getElem_toArray, List.getElem_cons_zero, List.getElem_cons_succ, List.setIfInBounds_toArray, List.set_cons_zero, List.set_cons_succ]
      refine wpAnyG_take [2, 3, 4, 12, 15] (i := 2) (v := (.pointer (some ⟨B, 0, none⟩))) rfl (by kernel_rfl) (by kernel_rfl) (by kernel_rfl) (by kernel_rfl) (by kernel_rfl) (by kernel_rfl) (by kernel_rfl) (by kernel_rfl) (fun _ _ _ h => h) (Or.inl ⟨by rfl, ?hy⟩) T0 ?_
      case hy =>
        intro X hX
        go_simp
      try simp only [Act.put, List.getElem_toArray, List.getElem_cons_zero, List.getElem_cons_succ, List.setIfInBounds_toArray, List.set_cons_zero, List.set_cons_succ]
      refine wpAnyG_take [3, 4, 12, 15] (i := 3) (v := (.pointer (some ⟨B, 0, none⟩))) rfl (by kernel_rfl) (by kernel_rfl) (by kernel_rfl) (by kernel_rfl) (by kernel_rfl) (by kernel_rfl) (by kernel_rfl) (by kernel_rfl) (fun _ _ _ h => h) (Or.inl ⟨by rfl, ?hy⟩) T0 ?_
      case hy =>
        intro X hX
        go_simp
      try simp only [Act.put, List.getElem_toArray, List.getElem_cons_zero, List.getElem_cons_succ, List.setIfInBounds_toArray, List.set_cons_zero, List.set_cons_succ]
      refine wpAnyG_take [4, 12, 15] (i := 4) (v := vo2) rfl (by kernel_rfl) (by kernel_rfl) (by kernel_rfl) (by kernel_rfl) (by kernel_rfl) (by kernel_rfl) (by kernel_rfl) (by kernel_rfl) (fun _ _ _ h => h) (Or.inl ⟨by rfl, ?hy⟩) T0 ?_
      case hy =>
        intro X hX
        have e0 := hX.cells.1
        go_simp
      try simp only [Act.put, List.getElem_toArray, List.getElem_cons_zero, List.getElem_cons_succ, List.setIfInBounds_toArray, List.set_cons_zero, List.set_cons_succ]
      refine wpAnyG_take [5, 6, 7, 8, 9, 10, 11, 12, 15] (i := 5) (v := (.pointer (some ⟨B, 0, none⟩))) rfl (by kernel_rfl) (by kernel_rfl) (by kernel_rfl) (by kernel_rfl) (by kernel_rfl) (by kernel_rfl) (by kernel_rfl) (by kernel_rfl) (fun _ _ _ h => h) (Or.inl ⟨by rfl, ?hy⟩) T0 ?_
      case hy =>
        intro X hX
        go_simp
      try simp only [Act.put, List.getElem_toArray, List.getElem_cons_zero, List.getElem_cons_succ, List.setIfInBounds_toArray, List.set_cons_zero, List.set_cons_succ]
      refine wpAnyG_take [6, 7, 8, 9, 10, 11, 12, 15] (i := 6) (v := (.pointer (some ⟨B, 0, none⟩))) rfl (by kernel_rfl) (by kernel_rfl) (by kernel_rfl) (by kernel_rfl) (by kernel_rfl) (by kernel_rfl) (by kernel_rfl) (by kernel_rfl) (fun _ _ _ h => h) (Or.inl ⟨by rfl, ?hy⟩) T0 ?_
      case hy =>
        intro X hX
        go_simp
      try simp only [Act.put, List.getElem_toArray, List.getElem_cons_zero, List.getElem_cons_succ, List.setIfInBounds_toArray, List.set_cons_zero, List.set_cons_succ]
      refine wpAnyG_take [7, 8, 9, 10, 11, 12, 15] (i := 7) (v := (.pointer (some ⟨B, 3, none⟩))) rfl (by kernel_rfl) (by kernel_rfl) (by kernel_rfl) (by kernel_rfl) (by kernel_rfl) (by kernel_rfl) (by kernel_rfl) (by kernel_rfl) (fun _ _ _ h => h) (Or.inl ⟨by rfl, ?hy⟩) T0 ?_
      case hy =>
        intro X hX
        go_simp
      try simp only [Act.put, List.getElem_toArray, List.getElem_cons_zero, List.getElem_cons_succ, List.setIfInBounds_toArray, List.set_cons_zero, List.set_cons_succ]
      refine wpAnyG_take [8, 9, 10, 11, 12, 15] (i := 8) (v := (.slice od m.drop.size cd)) rfl (by kernel_rfl) (by kernel_rfl) (by kernel_rfl) (by kernel_rfl) (by kernel_rfl) (by kernel_rfl) (by kernel_rfl) (by kernel_rfl) (fun _ _ _ h => h) (Or.inl ⟨by rfl, ?hy⟩) T0 ?_
      case hy =>
        intro X hX
        have e0 := hX.cells.2.2.2
        go_simp
      try simp only [Act.put, List.getElem_toArray, List.getElem_cons_zero, List.getElem_cons_succ, List.setIfInBounds_toArray, List.set_cons_zero, List.set_cons_succ]
      refine wpAnyG_take [9, 10, 11, 12, 15] (i := 9) (v := (.string m2.drop)) rfl (by kernel_rfl) (by kernel_rfl) (by kernel_rfl) (by kernel_rfl) (by kernel_rfl) (by kernel_rfl) (by kernel_rfl) (by kernel_rfl) (fun _ _ _ h => h) (Or.inl ⟨by rfl, ?hy⟩) T0 ?_
      case hy =>
        intro X hX
        have ec := conv_own rfl hX.2.2
        go_simp
      try simp only [Act.put, List.getElem_toArray, List.getElem_cons_zero, List.getElem_cons_succ, List.setIfInBounds_toArray, List.set_cons_zero, List.set_cons_succ]
      refine wpAnyG_take [10, 11, 12, 15] (i := 10) (v := (.agg #[.int .i64 0, .string m2.drop, .string .empty])) rfl (by kernel_rfl) (by kernel_rfl) (by kernel_rfl) (by kernel_rfl) (by kernel_rfl) (by kernel_rfl) (by kernel_rfl) (by kernel_rfl) (fun _ _ _ h => h) (Or.inl ⟨by rfl, ?hy⟩) T0 ?_
      case hy =>
        intro X hX
        (go_simp; try rfl)
      try simp only [Act.put, List.getElem_toArray, List.getElem_cons_zero, List.getElem_cons_succ, List.setIfInBounds_toArray, List.set_cons_zero, List.set_cons_succ]
      refine wpAnyG_all (rs := [11]) (by kernel_rfl) (by simp) ?_
      intro i hi
      simp only [List.mem_cons, List.not_mem_nil, or_false] at hi
      subst hi
      refine wpOp_now rfl rfl ?_
      go_simp
      have U1 := U0.alloc U0.size (.cells #[.int .i64 0, .string m2.drop, .string .empty] 39)
      have hown1 := own_below H2.out.ro U1
      have hnew := World.alloc_heap_new X0 (.cells #[.int .i64 0, .string m2.drop, .string .empty] 39)
      have hbX := Nat.le_trans H2.out.bw U1.size
      have T1 := (MkB.below H2.out U1).toS
      refine ⟨fun _ => T1, ?_⟩
      try simp only [Act.put, List.getElem_toArray, List.getElem_cons_zero, List.getElem_cons_succ, List.setIfInBounds_toArray, List.set_cons_zero, List.set_cons_succ]
      refine wpAnyG_all (rs := [12]) (by kernel_rfl) (by simp) ?_
      intro i hi
      simp only [List.mem_cons, List.not_mem_nil, or_false] at hi
      subst hi
      refine wpOp_now rfl rfl ?_
      refine opwp_append2 _ _ 22 rfl b 39 j0 (.agg #[.int .i64 0, .string .empty, .string .empty]) 3 40 Tryd.underlying22 hj hy0 hy1 hy2 rfl (by decide) _ _ _ rfl hown1 ⟨X0.heap.size, 0, none⟩ 1 1 [.int .i64 0, .string m2.drop, .string .empty] rfl rfl (World.news_of_block (cs := #[.int .i64 0, .string m2.drop, .string .empty]) (t := 39) (fr := (0, 0)) hnew) (fun x hx => by simp at hx; rcases hx with rfl | rfl | rfl <;> rfl) (by unfold maxLen; omega) (by omega) hbX ?_
      intro v5 w5 hown3 hg3 hv5
      have hC := MkB.add (x := ⟨0, m2.drop, .empty⟩) H2.out U1 hown3 hg3 hv5
      have T9 := MkB.keptS (MkB.below H2.out U1) hg3
      have n3 := T9.1
      have k9 := n3.frozen 0
      have k8 : w5.cell? ⟨B, 0, none⟩ = some vo2 := n3.cell 0
      obtain ⟨ov4, cv4, rfl, _⟩ := own_slice hown3
      have HC := Lib.hid hC
      clear hC hown3 hg3 hv5 n3 hown1 hnew T0 T1 U0 U1 hbX
      refine ⟨fun _ => T9, ?_⟩
      try simp only [Act.put, List.getElem_toArray, List.getElem_cons_zero, List.getElem_cons_succ, List.setIfInBounds_toArray, List.set_cons_zero, List.set_cons_succ]
      refine wpAnyG_all (rs := [13]) (by kernel_rfl) (by simp) ?_
      intro i hi
      simp only [List.mem_cons, List.not_mem_nil, or_false] at hi
      subst hi
      refine wpOp_now rfl rfl ?_
      go_simp
      refine ⟨fun _ => T9, ?_⟩
      try simp only [Act.put, List.getElem_toArray, List.getElem_cons_zero, List.getElem_cons_succ, List.setIfInBounds_toArray, List.set_cons_zero, List.set_cons_succ]
      refine wpAnyG_all (rs := [14]) (by kernel_rfl) (by simp) ?_
      intro i hi
      simp only [List.mem_cons, List.not_mem_nil, or_false] at hi
      subst hi
      refine wpOp_now rfl rfl ?_
      go_simp
      refine ⟨fun _ => T9, ?_⟩
      try simp only [Act.put, List.getElem_toArray, List.getElem_cons_zero, List.getElem_cons_succ, List.setIfInBounds_toArray, List.set_cons_zero, List.set_cons_succ]
      refine wpAnyG_all (rs := [15]) (by kernel_rfl) (by simp) ?_
      intro i hi
      simp only [List.mem_cons, List.not_mem_nil, or_false] at hi
      subst hi
      refine wpOp_now rfl rfl ?_
      go_simp
      refine ⟨fun h => (nomatch (show (false : Bool) = true from h)), ?_⟩
      refine wpAnyG_done (by kernel_rfl) ?_ _
      refine NoPanic.normal ?_
      have hC := HC.out
      obtain ⟨x0, x1, x2, x3⟩ := hC.1.cells
      have f2 := hC.1.blk.frozen 2
      have f3 := hC.1.blk.frozen 3
      clear hC k9 k8 y0 y1 y2 y3 T9
      go_wp2
      refine bodyPost_end (results_none rfl _ _ _) rfl ?_
      rw [HG.out]
      exact ⟨rfl, _, HC.out.1.setNil, (HK2.out.trans HC.out.2).trans (MkB.kpNil HC.out.1)⟩
    · have d2 : decide ((0 : Int) < (m.drop.size : Int)) = false := decide_eq_false (by omega)
      have hgap : gapM m = ⟨m2.out, m2.kept, .empty, .empty⟩ := by rw [← HQ2.out]; unfold gapM; rw [if_pos hp, if_neg hd, List.append_nil]
      have HG := Lib.hid hgap
      have f2 := H2.out.blk.frozen 2
      have f3 := H2.out.blk.frozen 3
      clear hgap
      go_wp2
      refine bodyPost_end (results_none rfl _ _ _) rfl ?_
      rw [HG.out]
      exact ⟨rfl, _, H2.out.setNil, HK2.out.trans (MkB.kpNil H2.out)⟩
  · have d1 : decide ((0 : Int) < (m.put.size : Int)) = false := decide_eq_false (by omega)
    rw [hvo] at h c0 ⊢
    clear hvo
    have f2 := h.blk.frozen 2
    have f3 := h.blk.frozen 3
    have HM := Lib.hid h
    clear h
    by_cases hd : 0 < m.drop.size
    · have d2 : decide ((0 : Int) < (m.drop.size : Int)) = true := decide_eq_true (by omega)
      have hgap : gapM m = ⟨m.out ++ [⟨0, m.drop, .empty⟩], m.kept, .empty, .empty⟩ := by unfold gapM; rw [if_neg hp, if_pos hd, List.append_nil]
      have HG := Lib.hid hgap
      clear hgap f2 f3
      go_enter Tryd.func72, Tryd.ntmps72
      go_wp2
      refine wp_region_noPanic ?_
      refine wp_region_g (S := untilG [15] (fun X => MkS X B b vo (.slice op m.put.size cp) (.slice od m.drop.size cd) m)) (by kernel_rfl) ?_
      obtain ⟨X0, hX0⟩ : ∃ Z, W.drew = Z := ⟨_, rfl⟩
      have U0 : Below W.heap.size W X0 := hX0 ▸ (Below.refl W.heap.size W).drew
      have T0 := (MkB.below HM.out U0).toS
      rw [hX0]
      clear hX0
      refine wpAnyG_take [0, 13, 14, 15] (i := 0) (v := (.pointer (some ⟨B, 0, none⟩))) rfl (by kernel_rfl) (by kernel_rfl) (by kernel_rfl) (by kernel_rfl) (by kernel_rfl) (by kernel_rfl) (by kernel_rfl) (by kernel_rfl) (fun _ _ _ h => h) (Or.inl ⟨by rfl, ?hy⟩) T0 ?_
      case hy =>
        intro X hX
        go_simp
      try simp only [Act.put, List.getElem_toArray, List.getElem_cons_zero, List.getElem_cons_succ, List.setIfInBounds_toArray, List.set_cons_zero, List.set_cons_succ]
      refine wpAnyG_take [1, 2, 3, 4, 12, 15] (i := 1) (v := (.pointer (some ⟨B, 0, none⟩))) rfl (by kernel_rfl) (by kernel_rfl) (by kernel_rfl) (by kernel_rfl) (by kernel_rfl) (by kernel_rfl) (by kernel_rfl) (by kernel_rfl) (fun _ _ _ h => h) (Or.inl ⟨by rfl, ?hy⟩) T0 ?_
      case hy =>
        intro X hX
        go_simp
      try simp only [Act.put, List.getElem_toArray, List.getElem_cons_zero, List.getElem_cons_succ, List.setIfInBounds_toArray, List.set_cons_zero, List.set_cons_succ]
      refine wpAnyG_take [2, 3, 4, 12, 15] (i := 2) (v := (.pointer (some ⟨B, 0, none⟩))) rfl (by kernel_rfl) (by kernel_rfl) (by kernel_rfl) (by kernel_rfl) (by kernel_rfl) (by kernel_rfl) (by kernel_rfl) (by kernel_rfl) (fun _ _ _ h => h) (Or.inl ⟨by rfl, ?hy⟩) T0 ?_
      case hy =>
        intro X hX
        go_simp
      try simp only [Act.put, List.getElem_toArray, List.getElem_cons_zero, List.getElem_cons_succ, List.setIfInBounds_toArray, List.set_cons_zero, List.set_cons_succ]
      refine wpAnyG_take [3, 4, 12, 15] (i := 3) (v := (.pointer (some ⟨B, 0, none⟩))) rfl (by kernel_rfl) (by kernel_rfl) (by kernel_rfl) (by kernel_rfl) (by kernel_rfl) (by kernel_rfl) (by kernel_rfl) (by kernel_rfl) (fun _ _ _ h => h) (Or.inl ⟨by rfl, ?hy⟩) T0 ?_
      case hy =>
        intro X hX
        go_simp
      try simp only [Act.put, List.getElem_toArray, List.getElem_cons_zero, List.getElem_cons_succ, List.setIfInBounds_toArray, List.set_cons_zero, List.set_cons_succ]
      refine wpAnyG_take [4, 12, 15] (i := 4) (v := vo) rfl (by kernel_rfl) (by kernel_rfl) (by kernel_rfl) (by kernel_rfl) (by kernel_rfl) (by kernel_rfl) (by kernel_rfl) (by kernel_rfl) (fun _ _ _ h => h) (Or.inl ⟨by rfl, ?hy⟩) T0 ?_
      case hy =>
        intro X hX
        have e0 := hX.cells.1
        go_simp
      try simp only [Act.put, List.getElem_toArray, List.getElem_cons_zero, List.getElem_cons_succ, List.setIfInBounds_toArray, List.set_cons_zero, List.set_cons_succ]
      refine wpAnyG_take [5, 6, 7, 8, 9, 10, 11, 12, 15] (i := 5) (v := (.pointer (some ⟨B, 0, none⟩))) rfl (by kernel_rfl) (by kernel_rfl) (by kernel_rfl) (by kernel_rfl) (by kernel_rfl) (by kernel_rfl) (by kernel_rfl) (by kernel_rfl) (fun _ _ _ h => h) (Or.inl ⟨by rfl, ?hy⟩) T0 ?_
      case hy =>
        intro X hX
        go_simp
      try simp only [Act.put, List.getElem_toArray, List.getElem_cons_zero, List.getElem_cons_succ, List.setIfInBounds_toArray, List.set_cons_zero, List.set_cons_succ]
      refine wpAnyG_take [6, 7, 8, 9, 10, 11, 12, 15] (i := 6) (v := (.pointer (some ⟨B, 0, none⟩))) rfl (by kernel_rfl) (by kernel_rfl) (by kernel_rfl) (by kernel_rfl) (by kernel_rfl) (by kernel_rfl) (by kernel_rfl) (by kernel_rfl) (fun _ _ _ h => h) (Or.inl ⟨by rfl, ?hy⟩) T0 ?_
      case hy =>
        intro X hX
        go_simp
      try simp only [Act.put, List.getElem_toArray, List.getElem_cons_zero, List.getElem_cons_succ, List.setIfInBounds_toArray, List.set_cons_zero, List.set_cons_succ]
      refine wpAnyG_take [7, 8, 9, 10, 11, 12, 15] (i := 7) (v := (.pointer (some ⟨B, 3, none⟩))) rfl (by kernel_rfl) (by kernel_rfl) (by kernel_rfl) (by kernel_rfl) (by kernel_rfl) (by kernel_rfl) (by kernel_rfl) (by kernel_rfl) (fun _ _ _ h => h) (Or.inl ⟨by rfl, ?hy⟩) T0 ?_
      case hy =>
        intro X hX
        go_simp
      try simp only [Act.put, List.getElem_toArray, List.getElem_cons_zero, List.getElem_cons_succ, List.setIfInBounds_toArray, List.set_cons_zero, List.set_cons_succ]
      refine wpAnyG_take [8, 9, 10, 11, 12, 15] (i := 8) (v := (.slice od m.drop.size cd)) rfl (by kernel_rfl) (by kernel_rfl) (by kernel_rfl) (by kernel_rfl) (by kernel_rfl) (by kernel_rfl) (by kernel_rfl) (by kernel_rfl) (fun _ _ _ h => h) (Or.inl ⟨by rfl, ?hy⟩) T0 ?_
      case hy =>
        intro X hX
        have e0 := hX.cells.2.2.2
        go_simp
      try simp only [Act.put, List.getElem_toArray, List.getElem_cons_zero, List.getElem_cons_succ, List.setIfInBounds_toArray, List.set_cons_zero, List.set_cons_succ]
      refine wpAnyG_take [9, 10, 11, 12, 15] (i := 9) (v := (.string m.drop)) rfl (by kernel_rfl) (by kernel_rfl) (by kernel_rfl) (by kernel_rfl) (by kernel_rfl) (by kernel_rfl) (by kernel_rfl) (by kernel_rfl) (fun _ _ _ h => h) (Or.inl ⟨by rfl, ?hy⟩) T0 ?_
      case hy =>
        intro X hX
        have ec := conv_own rfl hX.2.2
        go_simp
      try simp only [Act.put, List.getElem_toArray, List.getElem_cons_zero, List.getElem_cons_succ, List.setIfInBounds_toArray, List.set_cons_zero, List.set_cons_succ]
      refine wpAnyG_take [10, 11, 12, 15] (i := 10) (v := (.agg #[.int .i64 0, .string m.drop, .string .empty])) rfl (by kernel_rfl) (by kernel_rfl) (by kernel_rfl) (by kernel_rfl) (by kernel_rfl) (by kernel_rfl) (by kernel_rfl) (by kernel_rfl) (fun _ _ _ h => h) (Or.inl ⟨by rfl, ?hy⟩) T0 ?_
      case hy =>
        intro X hX
        (go_simp; try rfl)
      try simp only [Act.put, List.getElem_toArray, List.getElem_cons_zero, List.getElem_cons_succ, List.setIfInBounds_toArray, List.set_cons_zero, List.set_cons_succ]
      refine wpAnyG_all (rs := [11]) (by kernel_rfl) (by simp) ?_
      intro i hi
      simp only [List.mem_cons, List.not_mem_nil, or_false] at hi
      subst hi
      refine wpOp_now rfl rfl ?_
      go_simp
      have U1 := U0.alloc U0.size (.cells #[.int .i64 0, .string m.drop, .string .empty] 39)
      have hown1 := own_below HM.out.ro U1
      have hnew := World.alloc_heap_new X0 (.cells #[.int .i64 0, .string m.drop, .string .empty] 39)
      have hbX := Nat.le_trans HM.out.bw U1.size
      have T1 := (MkB.below HM.out U1).toS
      refine ⟨fun _ => T1, ?_⟩
      try simp only [Act.put, List.getElem_toArray, List.getElem_cons_zero, List.getElem_cons_succ, List.setIfInBounds_toArray, List.set_cons_zero, List.set_cons_succ]
      refine wpAnyG_all (rs := [12]) (by kernel_rfl) (by simp) ?_
      intro i hi
      simp only [List.mem_cons, List.not_mem_nil, or_false] at hi
      subst hi
      refine wpOp_now rfl rfl ?_
      refine opwp_append2 _ _ 22 rfl b 39 j0 (.agg #[.int .i64 0, .string .empty, .string .empty]) 3 40 Tryd.underlying22 hj hy0 hy1 hy2 rfl (by decide) _ _ _ rfl hown1 ⟨X0.heap.size, 0, none⟩ 1 1 [.int .i64 0, .string m.drop, .string .empty] rfl rfl (World.news_of_block (cs := #[.int .i64 0, .string m.drop, .string .empty]) (t := 39) (fr := (0, 0)) hnew) (fun x hx => by simp at hx; rcases hx with rfl | rfl | rfl <;> rfl) (by unfold maxLen; omega) (by omega) hbX ?_
      intro v3 w3 hown3 hg3 hv3
      have hC := MkB.add (x := ⟨0, m.drop, .empty⟩) HM.out U1 hown3 hg3 hv3
      have T3 := MkB.keptS (MkB.below HM.out U1) hg3
      have n3 := T3.1
      have k3 := n3.frozen 0
      have k0 : w3.cell? ⟨B, 0, none⟩ = some vo := n3.cell 0
      obtain ⟨ov3, cv3, rfl, _⟩ := own_slice hown3
      have HC := Lib.hid hC
      clear hC hown3 hg3 hv3 n3 hown1 hnew T0 T1 U0 U1 hbX
      refine ⟨fun _ => T3, ?_⟩
      try simp only [Act.put, List.getElem_toArray, List.getElem_cons_zero, List.getElem_cons_succ, List.setIfInBounds_toArray, List.set_cons_zero, List.set_cons_succ]
      refine wpAnyG_all (rs := [13]) (by kernel_rfl) (by simp) ?_
      intro i hi
      simp only [List.mem_cons, List.not_mem_nil, or_false] at hi
      subst hi
      refine wpOp_now rfl rfl ?_
      go_simp
      refine ⟨fun _ => T3, ?_⟩
      try simp only [Act.put, List.getElem_toArray, List.getElem_cons_zero, List.getElem_cons_succ, List.setIfInBounds_toArray, List.set_cons_zero, List.set_cons_succ]
      refine wpAnyG_all (rs := [14]) (by kernel_rfl) (by simp) ?_
      intro i hi
      simp only [List.mem_cons, List.not_mem_nil, or_false] at hi
      subst hi
      refine wpOp_now rfl rfl ?_
      go_simp
      refine ⟨fun _ => T3, ?_⟩
      try simp only [Act.put, List.getElem_toArray, List.getElem_cons_zero, List.getElem_cons_succ, List.setIfInBounds_toArray, List.set_cons_zero, List.set_cons_succ]
      refine wpAnyG_all (rs := [15]) (by kernel_rfl) (by simp) ?_
      intro i hi
      simp only [List.mem_cons, List.not_mem_nil, or_false] at hi
      subst hi
      refine wpOp_now rfl rfl ?_
      go_simp
      refine ⟨fun h => (nomatch (show (false : Bool) = true from h)), ?_⟩
      refine wpAnyG_done (by kernel_rfl) ?_ _
      refine NoPanic.normal ?_
      have hC := HC.out
      obtain ⟨x0, x1, x2, x3⟩ := hC.1.cells
      have f2 := hC.1.blk.frozen 2
      have f3 := hC.1.blk.frozen 3
      clear hC k3 k0 c0 c1 c2 c3 T3
      go_wp2
      refine bodyPost_end (results_none rfl _ _ _) rfl ?_
      rw [HG.out]
      exact ⟨rfl, _, HC.out.1.setNil, HC.out.2.trans (MkB.kpNil HC.out.1)⟩
    · have d2 : decide ((0 : Int) < (m.drop.size : Int)) = false := decide_eq_false (by omega)
      have hgap : gapM m = ⟨m.out, m.kept, .empty, .empty⟩ := by unfold gapM; rw [if_neg hp, if_neg hd, List.append_nil, List.append_nil]
      have HG := Lib.hid hgap
      clear hgap
      go_enter Tryd.func72, Tryd.ntmps72
      go_wp2
      refine bodyPost_end (results_none rfl _ _ _) rfl ?_
      rw [HG.out]
      exact ⟨rfl, _, HM.out.setNil, MkB.kpNil HM.out⟩
end Go.Proofs.YtjccoiephdopkaaDoor
