/- Stage 27: the document's maker. -/
import Derived.Test.YtjccoiephdopkaaZ03
namespace Go.Proofs.Ytjccoiephdopkaa
set_option linter.unusedVariables false
set_option linter.unusedSimpArgs false
open Go Go.RowKit Go.Shelf
set_option maxRecDepth 100000

/-- The document's maker and its row. -/
structure DkB (W : World) (B b : Nat) (vL : Value) (L : List Sp) (pu dr : ByteArray) : Prop where
  blk : Blk W B #[vL, .string pu, .string dr] 56
  ro : W.ownsRow b 54 3 vL L.length (L.flatMap encS)
  bb : B < b
  bw : b ≤ W.heap.size
/-- What its work leaves as it was. -/
structure KpD (B : Nat) (v v' : Value) (W W' : World) : Prop where
  os : W'.os = W.os
  tape : W'.tape = W.tape
  output : W'.output = W.output
  size : W.heap.size ≤ W'.heap.size
  blk : ∀ q, q < W.heap.size → q ≠ B → some q ≠ v.ownBlock → W'.heap[q]? = W.heap[q]? ∧ some q ≠ v'.ownBlock
theorem KpD.refl (B : Nat) (v : Value) (W : World) : KpD B v v W W := ⟨rfl, rfl, rfl, Nat.le_refl _, fun _ _ _ h => ⟨rfl, h⟩⟩
theorem KpD.trans {B : Nat} {v1 v2 v3 : Value} {X Y Z : World} (h : KpD B v1 v2 X Y) (g : KpD B v2 v3 Y Z) : KpD B v1 v3 X Z :=
  ⟨g.os.trans h.os, g.tape.trans h.tape, g.output.trans h.output, Nat.le_trans h.size g.size, fun q hq hB hn => by
    obtain ⟨h1, h2⟩ := h.blk q hq hB hn
    obtain ⟨h3, h4⟩ := g.blk q (Nat.lt_of_lt_of_le hq h.size) hB h2
    exact ⟨h3.trans h1, h4⟩⟩
section
variable {W X w3 : World} {B b : Nat} {vL : Value} {L : List Sp} {pu dr : ByteArray}
theorem DkB.below (h : DkB W B b vL L pu dr) (hb : Below W.heap.size W X) : DkB X B b vL L pu dr := ⟨h.blk.below' hb, own_below h.ro hb, h.bb, Nat.le_trans h.bw hb.size⟩
theorem KpD.of_below (h : DkB W B b vL L pu dr) (hb : Below W.heap.size W X) : KpD B vL vL W X := ⟨hb.os, hb.tape, hb.output, hb.size, fun q hq _ hn => ⟨hb.block q hq, hn⟩⟩
theorem KpD.set (h : DkB W B b vL L pu dr) (o : Nat) (v : Value) : KpD B vL vL W (W.setCell ⟨B, o, none⟩ v) := ⟨rfl, rfl, rfl, by simp, fun q hq hB hn => ⟨Below.heap_setCell _ _ _ _ (fun e => hB e), hn⟩⟩
theorem DkB.setP (h : DkB W B b vL L pu dr) (s : ByteArray) : DkB (W.setCell ⟨B, 1, none⟩ (.string s)) B b vL L s dr := by
  have b4 := h.blk.set 1 (.string s)
  simp only [List.setIfInBounds_toArray, List.set_cons_zero, List.set_cons_succ] at b4
  exact ⟨b4, own_low h.ro h.bb 1 _, h.bb, by simpa using h.bw⟩
theorem DkB.setD (h : DkB W B b vL L pu dr) (s : ByteArray) : DkB (W.setCell ⟨B, 2, none⟩ (.string s)) B b vL L pu s := by
  have b4 := h.blk.set 2 (.string s)
  simp only [List.setIfInBounds_toArray, List.set_cons_zero, List.set_cons_succ] at b4
  exact ⟨b4, own_low h.ro h.bb 2 _, h.bb, by simpa using h.bw⟩
theorem DkB.cells (h : DkB W B b vL L pu dr) : W.cell? ⟨B, 0, none⟩ = some vL ∧ W.cell? ⟨B, 1, none⟩ = some (.string pu) ∧ W.cell? ⟨B, 2, none⟩ = some (.string dr) := ⟨h.blk.cell 0, h.blk.cell 1, h.blk.cell 2⟩
theorem DkB.add (h : DkB W B b vL L pu dr) {v3 : Value} {x : Sp} (hX : Below W.heap.size W X) (h3 : w3.ownsRow b 54 3 v3 (L.length + 1) (L.flatMap encS ++ encS x)) (hg : X.grownBy w3 vL.ownBlock)
    (hv : v3.ownBlock = vL.ownBlock ∨ v3.ownBlock = some X.heap.size) : DkB (w3.setCell ⟨B, 0, none⟩ v3) B b v3 (L ++ [x]) pu dr ∧ KpD B vL v3 W (w3.setCell ⟨B, 0, none⟩ v3) := by
  have hXm := h.below hX
  have b3 := Blk.kept hXm.blk hg (Blk.not_row hXm.blk (by decide) hXm.ro)
  have b4 := b3.set 0 v3
  simp only [List.setIfInBounds_toArray, List.set_cons_zero] at b4
  refine ⟨⟨b4, ?_, h.bb, by simp; exact Nat.le_trans hXm.bw hg.size⟩, ?_⟩
  · have h4 := own_low h3 h.bb 0 v3
    simpa using h4
  · refine ⟨(hg.os.trans hX.os), (hg.tape.trans hX.tape), (hg.output.trans hX.output), by simp; exact Nat.le_trans hX.size hg.size, fun q hq hB hn => ⟨?_, ?_⟩⟩
    · exact (Below.heap_setCell _ _ _ _ (fun e => hB e)).trans ((hg.block q (Nat.lt_of_lt_of_le hq hX.size) (fun e => hn e)).trans (hX.block q hq))
    · rcases hv with hv | hv
      · rw [hv]; exact hn
      · rw [hv]; intro e; cases e; have := hX.size; omega
end
/-- What is put and dropped, as steps. -/
def flD (pu dr : ByteArray) : List Sp := (if 0 < pu.size then [⟨0, .empty, pu⟩] else []) ++ (if 0 < dr.size then [⟨0, dr, .empty⟩] else [])
set_option maxHeartbeats 8000000 in
theorem dend_any {W : World} {B b : Nat} {vL : Value} {L : List Sp} {pu dr : ByteArray} (h : DkB W B b vL L pu dr) (hl : L.length ≤ 1000000000) :
    Calls Try.prog 24 #[.pointer (some ⟨B, 0, none⟩)] W fun e W' => e = .returned (.tuple #[]) ∧ ∃ v', DkB W' B b v' (L ++ flD pu dr) .empty .empty ∧ KpD B vL v' W W' := by
  obtain ⟨j0, hj, hy0, hy1, hy2⟩ := info_parts infoStep
  obtain ⟨c0, c1, c2⟩ := h.cells
  obtain ⟨ov, cv, rfl, _⟩ := own_slice h.ro
  obtain ⟨vo, hvo⟩ : ∃ v, Value.slice ov L.length cv = v := ⟨_, rfl⟩
  rw [hvo] at h c0 ⊢
  clear hvo
  rcases emp_or pu with rfl | ⟨p0, p1, p2, p3⟩
  · rcases emp_or dr with rfl | ⟨d0, d1, d2, d3⟩
    · have HM := Lib.hid h
      have f1 := h.blk.frozen 1
      have f2 := h.blk.frozen 2
      clear h
      go_enter Try.func24, Try.ntmps24
      go_wp2
      refine bodyPost_end (results_none rfl _ _ _) rfl ?_
      exact ⟨rfl, _, by rw [show flD .empty .empty = [] from rfl, List.append_nil]; exact (HM.out.setP .empty).setD .empty, (KpD.set HM.out 1 _).trans (KpD.set (HM.out.setP .empty) 2 _)⟩
    · have hfl : flD .empty dr = [⟨0, dr, .empty⟩] := by unfold flD; rw [if_neg (by decide), if_pos (by omega)]; rfl
      have HM := Lib.hid h
      have HF := Lib.hid hfl
      clear h hfl
      go_enter Try.func24, Try.ntmps24
      go_wp2
      refine wp_region_noPanic ?_
      refine wp_region_g (S := untilG [14] (fun X => Blk X B #[vo, .string .empty, .string dr] 56)) (by kernel_rfl) ?_
      obtain ⟨X0, hX0⟩ : ∃ Z, W.drew = Z := ⟨_, rfl⟩
      have U0 : Below W.heap.size W X0 := hX0 ▸ (Below.refl W.heap.size W).drew
      have T0 := HM.out.blk.below' U0
      rw [hX0]
      clear hX0
      refine wpAnyG_take [0, 12, 13, 14] (i := 0) (v := (.pointer (some ⟨B, 0, none⟩))) rfl (by kernel_rfl) (by kernel_rfl) (by kernel_rfl) (by kernel_rfl) (by kernel_rfl) (by kernel_rfl) (by kernel_rfl) (by kernel_rfl) (fun _ _ _ h => h) (Or.inl ⟨by rfl, ?hy⟩) T0 ?_
      case hy =>
        intro X hX
        go_simp
      try simp only [Act.put, List.getElem_toArray, List.getElem_cons_zero, List.getElem_cons_succ, List.setIfInBounds_toArray, List.set_cons_zero, List.set_cons_succ]
      refine wpAnyG_take [1, 2, 3, 4, 11, 14] (i := 1) (v := (.pointer (some ⟨B, 0, none⟩))) rfl (by kernel_rfl) (by kernel_rfl) (by kernel_rfl) (by kernel_rfl) (by kernel_rfl) (by kernel_rfl) (by kernel_rfl) (by kernel_rfl) (fun _ _ _ h => h) (Or.inl ⟨by rfl, ?hy⟩) T0 ?_
      case hy =>
        intro X hX
        go_simp
      try simp only [Act.put, List.getElem_toArray, List.getElem_cons_zero, List.getElem_cons_succ, List.setIfInBounds_toArray, List.set_cons_zero, List.set_cons_succ]
      refine wpAnyG_take [2, 3, 4, 11, 14] (i := 2) (v := (.pointer (some ⟨B, 0, none⟩))) rfl (by kernel_rfl) (by kernel_rfl) (by kernel_rfl) (by kernel_rfl) (by kernel_rfl) (by kernel_rfl) (by kernel_rfl) (by kernel_rfl) (fun _ _ _ h => h) (Or.inl ⟨by rfl, ?hy⟩) T0 ?_
      case hy =>
        intro X hX
        go_simp
      try simp only [Act.put, List.getElem_toArray, List.getElem_cons_zero, List.getElem_cons_succ, List.setIfInBounds_toArray, List.set_cons_zero, List.set_cons_succ]
      refine wpAnyG_take [3, 4, 11, 14] (i := 3) (v := (.pointer (some ⟨B, 0, none⟩))) rfl (by kernel_rfl) (by kernel_rfl) (by kernel_rfl) (by kernel_rfl) (by kernel_rfl) (by kernel_rfl) (by kernel_rfl) (by kernel_rfl) (fun _ _ _ h => h) (Or.inl ⟨by rfl, ?hy⟩) T0 ?_
      case hy =>
        intro X hX
        go_simp
      try simp only [Act.put, List.getElem_toArray, List.getElem_cons_zero, List.getElem_cons_succ, List.setIfInBounds_toArray, List.set_cons_zero, List.set_cons_succ]
      refine wpAnyG_take [4, 11, 14] (i := 4) (v := vo) rfl (by kernel_rfl) (by kernel_rfl) (by kernel_rfl) (by kernel_rfl) (by kernel_rfl) (by kernel_rfl) (by kernel_rfl) (by kernel_rfl) (fun _ _ _ h => h) (Or.inl ⟨by rfl, ?hy⟩) T0 ?_
      case hy =>
        intro X hX
        have e0 := Blk.cell hX 0
        simp only [List.getElem?_toArray, List.getElem?_cons_zero] at e0
        go_simp
      try simp only [Act.put, List.getElem_toArray, List.getElem_cons_zero, List.getElem_cons_succ, List.setIfInBounds_toArray, List.set_cons_zero, List.set_cons_succ]
      refine wpAnyG_take [5, 6, 7, 8, 9, 10, 11, 14] (i := 5) (v := (.pointer (some ⟨B, 0, none⟩))) rfl (by kernel_rfl) (by kernel_rfl) (by kernel_rfl) (by kernel_rfl) (by kernel_rfl) (by kernel_rfl) (by kernel_rfl) (by kernel_rfl) (fun _ _ _ h => h) (Or.inl ⟨by rfl, ?hy⟩) T0 ?_
      case hy =>
        intro X hX
        go_simp
      try simp only [Act.put, List.getElem_toArray, List.getElem_cons_zero, List.getElem_cons_succ, List.setIfInBounds_toArray, List.set_cons_zero, List.set_cons_succ]
      refine wpAnyG_take [6, 7, 8, 9, 10, 11, 14] (i := 6) (v := (.pointer (some ⟨B, 0, none⟩))) rfl (by kernel_rfl) (by kernel_rfl) (by kernel_rfl) (by kernel_rfl) (by kernel_rfl) (by kernel_rfl) (by kernel_rfl) (by kernel_rfl) (fun _ _ _ h => h) (Or.inl ⟨by rfl, ?hy⟩) T0 ?_
      case hy =>
        intro X hX
        go_simp
      try simp only [Act.put, List.getElem_toArray, List.getElem_cons_zero, List.getElem_cons_succ, List.setIfInBounds_toArray, List.set_cons_zero, List.set_cons_succ]
      refine wpAnyG_take [7, 8, 9, 10, 11, 14] (i := 7) (v := (.pointer (some ⟨B, 2, none⟩))) rfl (by kernel_rfl) (by kernel_rfl) (by kernel_rfl) (by kernel_rfl) (by kernel_rfl) (by kernel_rfl) (by kernel_rfl) (by kernel_rfl) (fun _ _ _ h => h) (Or.inl ⟨by rfl, ?hy⟩) T0 ?_
      case hy =>
        intro X hX
        go_simp
      try simp only [Act.put, List.getElem_toArray, List.getElem_cons_zero, List.getElem_cons_succ, List.setIfInBounds_toArray, List.set_cons_zero, List.set_cons_succ]
      refine wpAnyG_take [8, 9, 10, 11, 14] (i := 8) (v := (.string dr)) rfl (by kernel_rfl) (by kernel_rfl) (by kernel_rfl) (by kernel_rfl) (by kernel_rfl) (by kernel_rfl) (by kernel_rfl) (by kernel_rfl) (fun _ _ _ h => h) (Or.inl ⟨by rfl, ?hy⟩) T0 ?_
      case hy =>
        intro X hX
        have e0 := Blk.cell hX 2
        simp only [List.getElem?_toArray, List.getElem?_cons_zero, List.getElem?_cons_succ] at e0
        go_simp
      try simp only [Act.put, List.getElem_toArray, List.getElem_cons_zero, List.getElem_cons_succ, List.setIfInBounds_toArray, List.set_cons_zero, List.set_cons_succ]
      refine wpAnyG_take [9, 10, 11, 14] (i := 9) (v := (.agg #[.int .i64 0, .string dr, .string .empty])) rfl (by kernel_rfl) (by kernel_rfl) (by kernel_rfl) (by kernel_rfl) (by kernel_rfl) (by kernel_rfl) (by kernel_rfl) (by kernel_rfl) (fun _ _ _ h => h) (Or.inl ⟨by rfl, ?hy⟩) T0 ?_
      case hy =>
        intro X hX
        (go_simp; try rfl)
      try simp only [Act.put, List.getElem_toArray, List.getElem_cons_zero, List.getElem_cons_succ, List.setIfInBounds_toArray, List.set_cons_zero, List.set_cons_succ]
      refine wpAnyG_all (rs := [10]) (by kernel_rfl) (by simp) ?_
      intro i hi
      simp only [List.mem_cons, List.not_mem_nil, or_false] at hi
      subst hi
      refine wpOp_now rfl rfl ?_
      go_simp
      have U1 := U0.alloc U0.size (.cells #[.int .i64 0, .string dr, .string .empty] 54)
      have hown1 := own_below HM.out.ro U1
      have hnew := World.alloc_heap_new X0 (.cells #[.int .i64 0, .string dr, .string .empty] 54)
      have hbX := Nat.le_trans HM.out.bw U1.size
      have T1 := HM.out.blk.below' U1
      refine ⟨fun _ => T1, ?_⟩
      try simp only [Act.put, List.getElem_toArray, List.getElem_cons_zero, List.getElem_cons_succ, List.setIfInBounds_toArray, List.set_cons_zero, List.set_cons_succ]
      refine wpAnyG_all (rs := [11]) (by kernel_rfl) (by simp) ?_
      intro i hi
      simp only [List.mem_cons, List.not_mem_nil, or_false] at hi
      subst hi
      refine wpOp_now rfl rfl ?_
      refine opwp_append2 _ _ 30 rfl b 54 j0 (.agg #[.int .i64 0, .string .empty, .string .empty]) 3 40 Try.underlying30 hj hy0 hy1 hy2 rfl (by decide) _ _ _ rfl hown1 ⟨X0.heap.size, 0, none⟩ 1 1 [.int .i64 0, .string dr, .string .empty] rfl rfl (World.news_of_block (cs := #[.int .i64 0, .string dr, .string .empty]) (t := 54) (fr := (0, 0)) hnew) (fun x hx => by simp at hx; rcases hx with rfl | rfl | rfl <;> rfl) (by unfold maxLen; (try simp only [List.length_append, List.length_cons, List.length_nil]); omega) (by (try simp only [List.length_append, List.length_cons, List.length_nil]); omega) hbX ?_
      intro v3 w3 hown3 hg3 hv3
      have hA := DkB.add (x := ⟨0, dr, .empty⟩) HM.out U1 hown3 hg3 hv3
      have T3 := Blk.kept T1 hg3 (Blk.not_row T1 (by decide) hown1)
      have k3 := Blk.frozen T3 0
      have k0 : w3.cell? ⟨B, 0, none⟩ = some vo := Blk.cell T3 0
      obtain ⟨ov3, cv3, rfl, _⟩ := own_slice hown3
      have HA := Lib.hid hA
      clear hA hown3 hg3 hv3 hown1 hnew T0 T1 U0 U1 hbX
      refine ⟨fun _ => T3, ?_⟩
      try simp only [Act.put, List.getElem_toArray, List.getElem_cons_zero, List.getElem_cons_succ, List.setIfInBounds_toArray, List.set_cons_zero, List.set_cons_succ]
      refine wpAnyG_all (rs := [12]) (by kernel_rfl) (by simp) ?_
      intro i hi
      simp only [List.mem_cons, List.not_mem_nil, or_false] at hi
      subst hi
      refine wpOp_now rfl rfl ?_
      go_simp
      refine ⟨fun _ => T3, ?_⟩
      try simp only [Act.put, List.getElem_toArray, List.getElem_cons_zero, List.getElem_cons_succ, List.setIfInBounds_toArray, List.set_cons_zero, List.set_cons_succ]
      refine wpAnyG_all (rs := [13]) (by kernel_rfl) (by simp) ?_
      intro i hi
      simp only [List.mem_cons, List.not_mem_nil, or_false] at hi
      subst hi
      refine wpOp_now rfl rfl ?_
      go_simp
      refine ⟨fun _ => T3, ?_⟩
      try simp only [Act.put, List.getElem_toArray, List.getElem_cons_zero, List.getElem_cons_succ, List.setIfInBounds_toArray, List.set_cons_zero, List.set_cons_succ]
      refine wpAnyG_all (rs := [14]) (by kernel_rfl) (by simp) ?_
      intro i hi
      simp only [List.mem_cons, List.not_mem_nil, or_false] at hi
      subst hi
      refine wpOp_now rfl rfl ?_
      go_simp
      refine ⟨fun h => (nomatch (show (false : Bool) = true from h)), ?_⟩
      refine wpAnyG_done (by kernel_rfl) ?_ _
      refine NoPanic.normal ?_
      have hA := HA.out
      obtain ⟨y0, y1, y2⟩ := hA.1.cells
      have f1 := hA.1.blk.frozen 1
      have f2 := hA.1.blk.frozen 2
      clear hA k3 k0 c0 c1 c2
      go_wp2
      refine bodyPost_end (results_none rfl _ _ _) rfl ?_
      exact ⟨rfl, _, by rw [HF.out]; exact (HA.out.1.setP .empty).setD .empty, (HA.out.2.trans (KpD.set HA.out.1 1 _)).trans (KpD.set (HA.out.1.setP .empty) 2 _)⟩
  · rcases emp_or dr with rfl | ⟨d0, d1, d2, d3⟩
    · have hfl : flD pu .empty = [⟨0, .empty, pu⟩] := by unfold flD; rw [if_pos (by omega), if_neg (by decide)]; rfl
      have HM := Lib.hid h
      have HF := Lib.hid hfl
      clear h hfl
      go_enter Try.func24, Try.ntmps24
      go_wp2
      refine wp_region_noPanic ?_
      refine wp_region_g (S := untilG [14] (fun X => Blk X B #[vo, .string pu, .string .empty] 56)) (by kernel_rfl) ?_
      obtain ⟨X0, hX0⟩ : ∃ Z, W.drew = Z := ⟨_, rfl⟩
      have U0 : Below W.heap.size W X0 := hX0 ▸ (Below.refl W.heap.size W).drew
      have T0 := HM.out.blk.below' U0
      rw [hX0]
      clear hX0
      refine wpAnyG_take [0, 12, 13, 14] (i := 0) (v := (.pointer (some ⟨B, 0, none⟩))) rfl (by kernel_rfl) (by kernel_rfl) (by kernel_rfl) (by kernel_rfl) (by kernel_rfl) (by kernel_rfl) (by kernel_rfl) (by kernel_rfl) (fun _ _ _ h => h) (Or.inl ⟨by rfl, ?hy⟩) T0 ?_
      case hy =>
        intro X hX
        go_simp
      try simp only [Act.put, List.getElem_toArray, List.getElem_cons_zero, List.getElem_cons_succ, List.setIfInBounds_toArray, List.set_cons_zero, List.set_cons_succ]
      refine wpAnyG_take [1, 2, 3, 4, 11, 14] (i := 1) (v := (.pointer (some ⟨B, 0, none⟩))) rfl (by kernel_rfl) (by kernel_rfl) (by kernel_rfl) (by kernel_rfl) (by kernel_rfl) (by kernel_rfl) (by kernel_rfl) (by kernel_rfl) (fun _ _ _ h => h) (Or.inl ⟨by rfl, ?hy⟩) T0 ?_
      case hy =>
        intro X hX
        go_simp
      try simp only [Act.put, List.getElem_toArray, List.getElem_cons_zero, List.getElem_cons_succ, List.setIfInBounds_toArray, List.set_cons_zero, List.set_cons_succ]
      refine wpAnyG_take [2, 3, 4, 11, 14] (i := 2) (v := (.pointer (some ⟨B, 0, none⟩))) rfl (by kernel_rfl) (by kernel_rfl) (by kernel_rfl) (by kernel_rfl) (by kernel_rfl) (by kernel_rfl) (by kernel_rfl) (by kernel_rfl) (fun _ _ _ h => h) (Or.inl ⟨by rfl, ?hy⟩) T0 ?_
      case hy =>
        intro X hX
        go_simp
      try simp only [Act.put, List.getElem_toArray, List.getElem_cons_zero, List.getElem_cons_succ, List.setIfInBounds_toArray, List.set_cons_zero, List.set_cons_succ]
      refine wpAnyG_take [3, 4, 11, 14] (i := 3) (v := (.pointer (some ⟨B, 0, none⟩))) rfl (by kernel_rfl) (by kernel_rfl) (by kernel_rfl) (by kernel_rfl) (by kernel_rfl) (by kernel_rfl) (by kernel_rfl) (by kernel_rfl) (fun _ _ _ h => h) (Or.inl ⟨by rfl, ?hy⟩) T0 ?_
      case hy =>
        intro X hX
        go_simp
      try simp only [Act.put, List.getElem_toArray, List.getElem_cons_zero, List.getElem_cons_succ, List.setIfInBounds_toArray, List.set_cons_zero, List.set_cons_succ]
      refine wpAnyG_take [4, 11, 14] (i := 4) (v := vo) rfl (by kernel_rfl) (by kernel_rfl) (by kernel_rfl) (by kernel_rfl) (by kernel_rfl) (by kernel_rfl) (by kernel_rfl) (by kernel_rfl) (fun _ _ _ h => h) (Or.inl ⟨by rfl, ?hy⟩) T0 ?_
      case hy =>
        intro X hX
        have e0 := Blk.cell hX 0
        simp only [List.getElem?_toArray, List.getElem?_cons_zero] at e0
        go_simp
      try simp only [Act.put, List.getElem_toArray, List.getElem_cons_zero, List.getElem_cons_succ, List.setIfInBounds_toArray, List.set_cons_zero, List.set_cons_succ]
      refine wpAnyG_take [5, 6, 7, 8, 9, 10, 11, 14] (i := 5) (v := (.pointer (some ⟨B, 0, none⟩))) rfl (by kernel_rfl) (by kernel_rfl) (by kernel_rfl) (by kernel_rfl) (by kernel_rfl) (by kernel_rfl) (by kernel_rfl) (by kernel_rfl) (fun _ _ _ h => h) (Or.inl ⟨by rfl, ?hy⟩) T0 ?_
      case hy =>
        intro X hX
        go_simp
      try simp only [Act.put, List.getElem_toArray, List.getElem_cons_zero, List.getElem_cons_succ, List.setIfInBounds_toArray, List.set_cons_zero, List.set_cons_succ]
      refine wpAnyG_take [6, 7, 8, 9, 10, 11, 14] (i := 6) (v := (.pointer (some ⟨B, 0, none⟩))) rfl (by kernel_rfl) (by kernel_rfl) (by kernel_rfl) (by kernel_rfl) (by kernel_rfl) (by kernel_rfl) (by kernel_rfl) (by kernel_rfl) (fun _ _ _ h => h) (Or.inl ⟨by rfl, ?hy⟩) T0 ?_
      case hy =>
        intro X hX
        go_simp
      try simp only [Act.put, List.getElem_toArray, List.getElem_cons_zero, List.getElem_cons_succ, List.setIfInBounds_toArray, List.set_cons_zero, List.set_cons_succ]
      refine wpAnyG_take [7, 8, 9, 10, 11, 14] (i := 7) (v := (.pointer (some ⟨B, 1, none⟩))) rfl (by kernel_rfl) (by kernel_rfl) (by kernel_rfl) (by kernel_rfl) (by kernel_rfl) (by kernel_rfl) (by kernel_rfl) (by kernel_rfl) (fun _ _ _ h => h) (Or.inl ⟨by rfl, ?hy⟩) T0 ?_
      case hy =>
        intro X hX
        go_simp
      try simp only [Act.put, List.getElem_toArray, List.getElem_cons_zero, List.getElem_cons_succ, List.setIfInBounds_toArray, List.set_cons_zero, List.set_cons_succ]
      refine wpAnyG_take [8, 9, 10, 11, 14] (i := 8) (v := (.string pu)) rfl (by kernel_rfl) (by kernel_rfl) (by kernel_rfl) (by kernel_rfl) (by kernel_rfl) (by kernel_rfl) (by kernel_rfl) (by kernel_rfl) (fun _ _ _ h => h) (Or.inl ⟨by rfl, ?hy⟩) T0 ?_
      case hy =>
        intro X hX
        have e0 := Blk.cell hX 1
        simp only [List.getElem?_toArray, List.getElem?_cons_zero, List.getElem?_cons_succ] at e0
        go_simp
      try simp only [Act.put, List.getElem_toArray, List.getElem_cons_zero, List.getElem_cons_succ, List.setIfInBounds_toArray, List.set_cons_zero, List.set_cons_succ]
      refine wpAnyG_take [9, 10, 11, 14] (i := 9) (v := (.agg #[.int .i64 0, .string .empty, .string pu])) rfl (by kernel_rfl) (by kernel_rfl) (by kernel_rfl) (by kernel_rfl) (by kernel_rfl) (by kernel_rfl) (by kernel_rfl) (by kernel_rfl) (fun _ _ _ h => h) (Or.inl ⟨by rfl, ?hy⟩) T0 ?_
      case hy =>
        intro X hX
        (go_simp; try rfl)
      try simp only [Act.put, List.getElem_toArray, List.getElem_cons_zero, List.getElem_cons_succ, List.setIfInBounds_toArray, List.set_cons_zero, List.set_cons_succ]
      refine wpAnyG_all (rs := [10]) (by kernel_rfl) (by simp) ?_
      intro i hi
      simp only [List.mem_cons, List.not_mem_nil, or_false] at hi
      subst hi
      refine wpOp_now rfl rfl ?_
      go_simp
      have U1 := U0.alloc U0.size (.cells #[.int .i64 0, .string .empty, .string pu] 54)
      have hown1 := own_below HM.out.ro U1
      have hnew := World.alloc_heap_new X0 (.cells #[.int .i64 0, .string .empty, .string pu] 54)
      have hbX := Nat.le_trans HM.out.bw U1.size
      have T1 := HM.out.blk.below' U1
      refine ⟨fun _ => T1, ?_⟩
      try simp only [Act.put, List.getElem_toArray, List.getElem_cons_zero, List.getElem_cons_succ, List.setIfInBounds_toArray, List.set_cons_zero, List.set_cons_succ]
      refine wpAnyG_all (rs := [11]) (by kernel_rfl) (by simp) ?_
      intro i hi
      simp only [List.mem_cons, List.not_mem_nil, or_false] at hi
      subst hi
      refine wpOp_now rfl rfl ?_
      refine opwp_append2 _ _ 30 rfl b 54 j0 (.agg #[.int .i64 0, .string .empty, .string .empty]) 3 40 Try.underlying30 hj hy0 hy1 hy2 rfl (by decide) _ _ _ rfl hown1 ⟨X0.heap.size, 0, none⟩ 1 1 [.int .i64 0, .string .empty, .string pu] rfl rfl (World.news_of_block (cs := #[.int .i64 0, .string .empty, .string pu]) (t := 54) (fr := (0, 0)) hnew) (fun x hx => by simp at hx; rcases hx with rfl | rfl | rfl <;> rfl) (by unfold maxLen; (try simp only [List.length_append, List.length_cons, List.length_nil]); omega) (by (try simp only [List.length_append, List.length_cons, List.length_nil]); omega) hbX ?_
      intro v3 w3 hown3 hg3 hv3
      have hA := DkB.add (x := ⟨0, .empty, pu⟩) HM.out U1 hown3 hg3 hv3
      have T3 := Blk.kept T1 hg3 (Blk.not_row T1 (by decide) hown1)
      have k3 := Blk.frozen T3 0
      have k0 : w3.cell? ⟨B, 0, none⟩ = some vo := Blk.cell T3 0
      obtain ⟨ov3, cv3, rfl, _⟩ := own_slice hown3
      have HA := Lib.hid hA
      clear hA hown3 hg3 hv3 hown1 hnew T0 T1 U0 U1 hbX
      refine ⟨fun _ => T3, ?_⟩
      try simp only [Act.put, List.getElem_toArray, List.getElem_cons_zero, List.getElem_cons_succ, List.setIfInBounds_toArray, List.set_cons_zero, List.set_cons_succ]
      refine wpAnyG_all (rs := [12]) (by kernel_rfl) (by simp) ?_
      intro i hi
      simp only [List.mem_cons, List.not_mem_nil, or_false] at hi
      subst hi
      refine wpOp_now rfl rfl ?_
      go_simp
      refine ⟨fun _ => T3, ?_⟩
      try simp only [Act.put, List.getElem_toArray, List.getElem_cons_zero, List.getElem_cons_succ, List.setIfInBounds_toArray, List.set_cons_zero, List.set_cons_succ]
      refine wpAnyG_all (rs := [13]) (by kernel_rfl) (by simp) ?_
      intro i hi
      simp only [List.mem_cons, List.not_mem_nil, or_false] at hi
      subst hi
      refine wpOp_now rfl rfl ?_
      go_simp
      refine ⟨fun _ => T3, ?_⟩
      try simp only [Act.put, List.getElem_toArray, List.getElem_cons_zero, List.getElem_cons_succ, List.setIfInBounds_toArray, List.set_cons_zero, List.set_cons_succ]
      refine wpAnyG_all (rs := [14]) (by kernel_rfl) (by simp) ?_
      intro i hi
      simp only [List.mem_cons, List.not_mem_nil, or_false] at hi
      subst hi
      refine wpOp_now rfl rfl ?_
      go_simp
      refine ⟨fun h => (nomatch (show (false : Bool) = true from h)), ?_⟩
      refine wpAnyG_done (by kernel_rfl) ?_ _
      refine NoPanic.normal ?_
      have hA := HA.out
      obtain ⟨y0, y1, y2⟩ := hA.1.cells
      have f1 := hA.1.blk.frozen 1
      have f2 := hA.1.blk.frozen 2
      clear hA k3 k0 c0 c1 c2
      go_wp2
      refine bodyPost_end (results_none rfl _ _ _) rfl ?_
      exact ⟨rfl, _, by rw [HF.out]; exact (HA.out.1.setP .empty).setD .empty, (HA.out.2.trans (KpD.set HA.out.1 1 _)).trans (KpD.set (HA.out.1.setP .empty) 2 _)⟩
    · have hfl : flD pu dr = [⟨0, .empty, pu⟩] ++ [⟨0, dr, .empty⟩] := by unfold flD; rw [if_pos (by omega), if_pos (by omega)]
      have HM := Lib.hid h
      have HF := Lib.hid hfl
      clear h hfl
      go_enter Try.func24, Try.ntmps24
      go_wp2
      refine wp_region_noPanic ?_
      refine wp_region_g (S := untilG [14] (fun X => Blk X B #[vo, .string pu, .string dr] 56)) (by kernel_rfl) ?_
      obtain ⟨X0, hX0⟩ : ∃ Z, W.drew = Z := ⟨_, rfl⟩
      have U0 : Below W.heap.size W X0 := hX0 ▸ (Below.refl W.heap.size W).drew
      have T0 := HM.out.blk.below' U0
      rw [hX0]
      clear hX0
      refine wpAnyG_take [0, 12, 13, 14] (i := 0) (v := (.pointer (some ⟨B, 0, none⟩))) rfl (by kernel_rfl) (by kernel_rfl) (by kernel_rfl) (by kernel_rfl) (by kernel_rfl) (by kernel_rfl) (by kernel_rfl) (by kernel_rfl) (fun _ _ _ h => h) (Or.inl ⟨by rfl, ?hy⟩) T0 ?_
      case hy =>
        intro X hX
        go_simp
      try simp only [Act.put, List.getElem_toArray, List.getElem_cons_zero, List.getElem_cons_succ, List.setIfInBounds_toArray, List.set_cons_zero, List.set_cons_succ]
      refine wpAnyG_take [1, 2, 3, 4, 11, 14] (i := 1) (v := (.pointer (some ⟨B, 0, none⟩))) rfl (by kernel_rfl) (by kernel_rfl) (by kernel_rfl) (by kernel_rfl) (by kernel_rfl) (by kernel_rfl) (by kernel_rfl) (by kernel_rfl) (fun _ _ _ h => h) (Or.inl ⟨by rfl, ?hy⟩) T0 ?_
      case hy =>
        intro X hX
        go_simp
      try simp only [Act.put, List.getElem_toArray, List.getElem_cons_zero, List.getElem_cons_succ, List.setIfInBounds_toArray, List.set_cons_zero, List.set_cons_succ]
      refine wpAnyG_take [2, 3, 4, 11, 14] (i := 2) (v := (.pointer (some ⟨B, 0, none⟩))) rfl (by kernel_rfl) (by kernel_rfl) (by kernel_rfl) (by kernel_rfl) (by kernel_rfl) (by kernel_rfl) (by kernel_rfl) (by kernel_rfl) (fun _ _ _ h => h) (Or.inl ⟨by rfl, ?hy⟩) T0 ?_
      case hy =>
        intro X hX
        go_simp
      try simp only [Act.put, List.getElem_toArray, List.getElem_cons_zero, List.getElem_cons_succ, List.setIfInBounds_toArray, List.set_cons_zero, List.set_cons_succ]
      refine wpAnyG_take [3, 4, 11, 14] (i := 3) (v := (.pointer (some ⟨B, 0, none⟩))) rfl (by kernel_rfl) (by kernel_rfl) (by kernel_rfl) (by kernel_rfl) (by kernel_rfl) (by kernel_rfl) (by kernel_rfl) (by kernel_rfl) (fun _ _ _ h => h) (Or.inl ⟨by rfl, ?hy⟩) T0 ?_
      case hy =>
        intro X hX
        go_simp
      try simp only [Act.put, List.getElem_toArray, List.getElem_cons_zero, List.getElem_cons_succ, List.setIfInBounds_toArray, List.set_cons_zero, List.set_cons_succ]
      refine wpAnyG_take [4, 11, 14] (i := 4) (v := vo) rfl (by kernel_rfl) (by kernel_rfl) (by kernel_rfl) (by kernel_rfl) (by kernel_rfl) (by kernel_rfl) (by kernel_rfl) (by kernel_rfl) (fun _ _ _ h => h) (Or.inl ⟨by rfl, ?hy⟩) T0 ?_
      case hy =>
        intro X hX
        have e0 := Blk.cell hX 0
        simp only [List.getElem?_toArray, List.getElem?_cons_zero] at e0
        go_simp
      try simp only [Act.put, List.getElem_toArray, List.getElem_cons_zero, List.getElem_cons_succ, List.setIfInBounds_toArray, List.set_cons_zero, List.set_cons_succ]
      refine wpAnyG_take [5, 6, 7, 8, 9, 10, 11, 14] (i := 5) (v := (.pointer (some ⟨B, 0, none⟩))) rfl (by kernel_rfl) (by kernel_rfl) (by kernel_rfl) (by kernel_rfl) (by kernel_rfl) (by kernel_rfl) (by kernel_rfl) (by kernel_rfl) (fun _ _ _ h => h) (Or.inl ⟨by rfl, ?hy⟩) T0 ?_
      case hy =>
        intro X hX
        go_simp
      try simp only [Act.put, List.getElem_toArray, List.getElem_cons_zero, List.getElem_cons_succ, List.setIfInBounds_toArray, List.set_cons_zero, List.set_cons_succ]
      refine wpAnyG_take [6, 7, 8, 9, 10, 11, 14] (i := 6) (v := (.pointer (some ⟨B, 0, none⟩))) rfl (by kernel_rfl) (by kernel_rfl) (by kernel_rfl) (by kernel_rfl) (by kernel_rfl) (by kernel_rfl) (by kernel_rfl) (by kernel_rfl) (fun _ _ _ h => h) (Or.inl ⟨by rfl, ?hy⟩) T0 ?_
      case hy =>
        intro X hX
        go_simp
      try simp only [Act.put, List.getElem_toArray, List.getElem_cons_zero, List.getElem_cons_succ, List.setIfInBounds_toArray, List.set_cons_zero, List.set_cons_succ]
      refine wpAnyG_take [7, 8, 9, 10, 11, 14] (i := 7) (v := (.pointer (some ⟨B, 1, none⟩))) rfl (by kernel_rfl) (by kernel_rfl) (by kernel_rfl) (by kernel_rfl) (by kernel_rfl) (by kernel_rfl) (by kernel_rfl) (by kernel_rfl) (fun _ _ _ h => h) (Or.inl ⟨by rfl, ?hy⟩) T0 ?_
      case hy =>
        intro X hX
        go_simp
      try simp only [Act.put, List.getElem_toArray, List.getElem_cons_zero, List.getElem_cons_succ, List.setIfInBounds_toArray, List.set_cons_zero, List.set_cons_succ]
      refine wpAnyG_take [8, 9, 10, 11, 14] (i := 8) (v := (.string pu)) rfl (by kernel_rfl) (by kernel_rfl) (by kernel_rfl) (by kernel_rfl) (by kernel_rfl) (by kernel_rfl) (by kernel_rfl) (by kernel_rfl) (fun _ _ _ h => h) (Or.inl ⟨by rfl, ?hy⟩) T0 ?_
      case hy =>
        intro X hX
        have e0 := Blk.cell hX 1
        simp only [List.getElem?_toArray, List.getElem?_cons_zero, List.getElem?_cons_succ] at e0
        go_simp
      try simp only [Act.put, List.getElem_toArray, List.getElem_cons_zero, List.getElem_cons_succ, List.setIfInBounds_toArray, List.set_cons_zero, List.set_cons_succ]
      refine wpAnyG_take [9, 10, 11, 14] (i := 9) (v := (.agg #[.int .i64 0, .string .empty, .string pu])) rfl (by kernel_rfl) (by kernel_rfl) (by kernel_rfl) (by kernel_rfl) (by kernel_rfl) (by kernel_rfl) (by kernel_rfl) (by kernel_rfl) (fun _ _ _ h => h) (Or.inl ⟨by rfl, ?hy⟩) T0 ?_
      case hy =>
        intro X hX
        (go_simp; try rfl)
      try simp only [Act.put, List.getElem_toArray, List.getElem_cons_zero, List.getElem_cons_succ, List.setIfInBounds_toArray, List.set_cons_zero, List.set_cons_succ]
      refine wpAnyG_all (rs := [10]) (by kernel_rfl) (by simp) ?_
      intro i hi
      simp only [List.mem_cons, List.not_mem_nil, or_false] at hi
      subst hi
      refine wpOp_now rfl rfl ?_
      go_simp
      have U1 := U0.alloc U0.size (.cells #[.int .i64 0, .string .empty, .string pu] 54)
      have hown1 := own_below HM.out.ro U1
      have hnew := World.alloc_heap_new X0 (.cells #[.int .i64 0, .string .empty, .string pu] 54)
      have hbX := Nat.le_trans HM.out.bw U1.size
      have T1 := HM.out.blk.below' U1
      refine ⟨fun _ => T1, ?_⟩
      try simp only [Act.put, List.getElem_toArray, List.getElem_cons_zero, List.getElem_cons_succ, List.setIfInBounds_toArray, List.set_cons_zero, List.set_cons_succ]
      refine wpAnyG_all (rs := [11]) (by kernel_rfl) (by simp) ?_
      intro i hi
      simp only [List.mem_cons, List.not_mem_nil, or_false] at hi
      subst hi
      refine wpOp_now rfl rfl ?_
      refine opwp_append2 _ _ 30 rfl b 54 j0 (.agg #[.int .i64 0, .string .empty, .string .empty]) 3 40 Try.underlying30 hj hy0 hy1 hy2 rfl (by decide) _ _ _ rfl hown1 ⟨X0.heap.size, 0, none⟩ 1 1 [.int .i64 0, .string .empty, .string pu] rfl rfl (World.news_of_block (cs := #[.int .i64 0, .string .empty, .string pu]) (t := 54) (fr := (0, 0)) hnew) (fun x hx => by simp at hx; rcases hx with rfl | rfl | rfl <;> rfl) (by unfold maxLen; (try simp only [List.length_append, List.length_cons, List.length_nil]); omega) (by (try simp only [List.length_append, List.length_cons, List.length_nil]); omega) hbX ?_
      intro v3 w3 hown3 hg3 hv3
      have hA := DkB.add (x := ⟨0, .empty, pu⟩) HM.out U1 hown3 hg3 hv3
      have T3 := Blk.kept T1 hg3 (Blk.not_row T1 (by decide) hown1)
      have k3 := Blk.frozen T3 0
      have k0 : w3.cell? ⟨B, 0, none⟩ = some vo := Blk.cell T3 0
      obtain ⟨ov3, cv3, rfl, _⟩ := own_slice hown3
      have HA := Lib.hid hA
      clear hA hown3 hg3 hv3 hown1 hnew T0 T1 U0 U1 hbX
      refine ⟨fun _ => T3, ?_⟩
      try simp only [Act.put, List.getElem_toArray, List.getElem_cons_zero, List.getElem_cons_succ, List.setIfInBounds_toArray, List.set_cons_zero, List.set_cons_succ]
      refine wpAnyG_all (rs := [12]) (by kernel_rfl) (by simp) ?_
      intro i hi
      simp only [List.mem_cons, List.not_mem_nil, or_false] at hi
      subst hi
      refine wpOp_now rfl rfl ?_
      go_simp
      refine ⟨fun _ => T3, ?_⟩
      try simp only [Act.put, List.getElem_toArray, List.getElem_cons_zero, List.getElem_cons_succ, List.setIfInBounds_toArray, List.set_cons_zero, List.set_cons_succ]
      refine wpAnyG_all (rs := [13]) (by kernel_rfl) (by simp) ?_
      intro i hi
      simp only [List.mem_cons, List.not_mem_nil, or_false] at hi
      subst hi
      refine wpOp_now rfl rfl ?_
      go_simp
      refine ⟨fun _ => T3, ?_⟩
      try simp only [Act.put, List.getElem_toArray, List.getElem_cons_zero, List.getElem_cons_succ, List.setIfInBounds_toArray, List.set_cons_zero, List.set_cons_succ]
      refine wpAnyG_all (rs := [14]) (by kernel_rfl) (by simp) ?_
      intro i hi
      simp only [List.mem_cons, List.not_mem_nil, or_false] at hi
      subst hi
      refine wpOp_now rfl rfl ?_
      go_simp
      refine ⟨fun h => (nomatch (show (false : Bool) = true from h)), ?_⟩
      refine wpAnyG_done (by kernel_rfl) ?_ _
      refine NoPanic.normal ?_
      have hA := HA.out
      obtain ⟨y0, y1, y2⟩ := hA.1.cells
      clear hA k3 k0 c0 c1 c2 T3
      go_wp2
      have hA := HA.out
      obtain ⟨Y, hY⟩ : ∃ Y, w3.setCell ⟨B, 0, none⟩ (.slice ov3 (L.length + 1) cv3) = Y := ⟨_, rfl⟩
      rw [hY] at hA ⊢
      obtain ⟨v4, hv4⟩ : ∃ v, Value.slice ov3 (L.length + 1) cv3 = v := ⟨_, rfl⟩
      rw [hv4] at hA
      obtain ⟨L2, hL2⟩ : ∃ L2, L ++ [⟨0, .empty, pu⟩] = L2 := ⟨_, rfl⟩
      rw [hL2] at hA
      have hl2 : L2.length ≤ 1000000001 := by rw [← hL2]; simp; omega
      have HL2 := Lib.hid hL2
      clear hL2
      have HB := Lib.hid hA.1
      have HKB := Lib.hid hA.2
      clear hA HA hY hv4 y0 y1 y2
      refine wp_region_noPanic ?_
      refine wp_region_g (S := untilG [14] (fun X => Blk X B #[v4, .string pu, .string dr] 56)) (by kernel_rfl) ?_
      obtain ⟨X0, hX0⟩ : ∃ Z, Y.drew = Z := ⟨_, rfl⟩
      have U0 : Below Y.heap.size Y X0 := hX0 ▸ (Below.refl Y.heap.size Y).drew
      have T0 := HB.out.blk.below' U0
      rw [hX0]
      clear hX0
      refine wpAnyG_take [0, 12, 13, 14] (i := 0) (v := (.pointer (some ⟨B, 0, none⟩))) rfl (by kernel_rfl) (by kernel_rfl) (by kernel_rfl) (by kernel_rfl) (by kernel_rfl) (by kernel_rfl) (by kernel_rfl) (by kernel_rfl) (fun _ _ _ h => h) (Or.inl ⟨by rfl, ?hy⟩) T0 ?_
      case hy =>
        intro X hX
        go_simp
      try simp only [Act.put, List.getElem_toArray, List.getElem_cons_zero, List.getElem_cons_succ, List.setIfInBounds_toArray, List.set_cons_zero, List.set_cons_succ]
      refine wpAnyG_take [1, 2, 3, 4, 11, 14] (i := 1) (v := (.pointer (some ⟨B, 0, none⟩))) rfl (by kernel_rfl) (by kernel_rfl) (by kernel_rfl) (by kernel_rfl) (by kernel_rfl) (by kernel_rfl) (by kernel_rfl) (by kernel_rfl) (fun _ _ _ h => h) (Or.inl ⟨by rfl, ?hy⟩) T0 ?_
      case hy =>
        intro X hX
        go_simp
      try simp only [Act.put, List.getElem_toArray, List.getElem_cons_zero, List.getElem_cons_succ, List.setIfInBounds_toArray, List.set_cons_zero, List.set_cons_succ]
      refine wpAnyG_take [2, 3, 4, 11, 14] (i := 2) (v := (.pointer (some ⟨B, 0, none⟩))) rfl (by kernel_rfl) (by kernel_rfl) (by kernel_rfl) (by kernel_rfl) (by kernel_rfl) (by kernel_rfl) (by kernel_rfl) (by kernel_rfl) (fun _ _ _ h => h) (Or.inl ⟨by rfl, ?hy⟩) T0 ?_
      case hy =>
        intro X hX
        go_simp
      try simp only [Act.put, List.getElem_toArray, List.getElem_cons_zero, List.getElem_cons_succ, List.setIfInBounds_toArray, List.set_cons_zero, List.set_cons_succ]
      refine wpAnyG_take [3, 4, 11, 14] (i := 3) (v := (.pointer (some ⟨B, 0, none⟩))) rfl (by kernel_rfl) (by kernel_rfl) (by kernel_rfl) (by kernel_rfl) (by kernel_rfl) (by kernel_rfl) (by kernel_rfl) (by kernel_rfl) (fun _ _ _ h => h) (Or.inl ⟨by rfl, ?hy⟩) T0 ?_
      case hy =>
        intro X hX
        go_simp
      try simp only [Act.put, List.getElem_toArray, List.getElem_cons_zero, List.getElem_cons_succ, List.setIfInBounds_toArray, List.set_cons_zero, List.set_cons_succ]
      refine wpAnyG_take [4, 11, 14] (i := 4) (v := v4) rfl (by kernel_rfl) (by kernel_rfl) (by kernel_rfl) (by kernel_rfl) (by kernel_rfl) (by kernel_rfl) (by kernel_rfl) (by kernel_rfl) (fun _ _ _ h => h) (Or.inl ⟨by rfl, ?hy⟩) T0 ?_
      case hy =>
        intro X hX
        have e0 := Blk.cell hX 0
        simp only [List.getElem?_toArray, List.getElem?_cons_zero] at e0
        go_simp
      try simp only [Act.put, List.getElem_toArray, List.getElem_cons_zero, List.getElem_cons_succ, List.setIfInBounds_toArray, List.set_cons_zero, List.set_cons_succ]
      refine wpAnyG_take [5, 6, 7, 8, 9, 10, 11, 14] (i := 5) (v := (.pointer (some ⟨B, 0, none⟩))) rfl (by kernel_rfl) (by kernel_rfl) (by kernel_rfl) (by kernel_rfl) (by kernel_rfl) (by kernel_rfl) (by kernel_rfl) (by kernel_rfl) (fun _ _ _ h => h) (Or.inl ⟨by rfl, ?hy⟩) T0 ?_
      case hy =>
        intro X hX
        go_simp
      try simp only [Act.put, List.getElem_toArray, List.getElem_cons_zero, List.getElem_cons_succ, List.setIfInBounds_toArray, List.set_cons_zero, List.set_cons_succ]
      refine wpAnyG_take [6, 7, 8, 9, 10, 11, 14] (i := 6) (v := (.pointer (some ⟨B, 0, none⟩))) rfl (by kernel_rfl) (by kernel_rfl) (by kernel_rfl) (by kernel_rfl) (by kernel_rfl) (by kernel_rfl) (by kernel_rfl) (by kernel_rfl) (fun _ _ _ h => h) (Or.inl ⟨by rfl, ?hy⟩) T0 ?_
      case hy =>
        intro X hX
        go_simp
      try simp only [Act.put, List.getElem_toArray, List.getElem_cons_zero, List.getElem_cons_succ, List.setIfInBounds_toArray, List.set_cons_zero, List.set_cons_succ]
      refine wpAnyG_take [7, 8, 9, 10, 11, 14] (i := 7) (v := (.pointer (some ⟨B, 2, none⟩))) rfl (by kernel_rfl) (by kernel_rfl) (by kernel_rfl) (by kernel_rfl) (by kernel_rfl) (by kernel_rfl) (by kernel_rfl) (by kernel_rfl) (fun _ _ _ h => h) (Or.inl ⟨by rfl, ?hy⟩) T0 ?_
      case hy =>
        intro X hX
        go_simp
      try simp only [Act.put, List.getElem_toArray, List.getElem_cons_zero, List.getElem_cons_succ, List.setIfInBounds_toArray, List.set_cons_zero, List.set_cons_succ]
      refine wpAnyG_take [8, 9, 10, 11, 14] (i := 8) (v := (.string dr)) rfl (by kernel_rfl) (by kernel_rfl) (by kernel_rfl) (by kernel_rfl) (by kernel_rfl) (by kernel_rfl) (by kernel_rfl) (by kernel_rfl) (fun _ _ _ h => h) (Or.inl ⟨by rfl, ?hy⟩) T0 ?_
      case hy =>
        intro X hX
        have e0 := Blk.cell hX 2
        simp only [List.getElem?_toArray, List.getElem?_cons_zero, List.getElem?_cons_succ] at e0
        go_simp
      try simp only [Act.put, List.getElem_toArray, List.getElem_cons_zero, List.getElem_cons_succ, List.setIfInBounds_toArray, List.set_cons_zero, List.set_cons_succ]
      refine wpAnyG_take [9, 10, 11, 14] (i := 9) (v := (.agg #[.int .i64 0, .string dr, .string .empty])) rfl (by kernel_rfl) (by kernel_rfl) (by kernel_rfl) (by kernel_rfl) (by kernel_rfl) (by kernel_rfl) (by kernel_rfl) (by kernel_rfl) (fun _ _ _ h => h) (Or.inl ⟨by rfl, ?hy⟩) T0 ?_
      case hy =>
        intro X hX
        (go_simp; try rfl)
      try simp only [Act.put, List.getElem_toArray, List.getElem_cons_zero, List.getElem_cons_succ, List.setIfInBounds_toArray, List.set_cons_zero, List.set_cons_succ]
      refine wpAnyG_all (rs := [10]) (by kernel_rfl) (by simp) ?_
      intro i hi
      simp only [List.mem_cons, List.not_mem_nil, or_false] at hi
      subst hi
      refine wpOp_now rfl rfl ?_
      go_simp
      have U1 := U0.alloc U0.size (.cells #[.int .i64 0, .string dr, .string .empty] 54)
      have hown1 := own_below HB.out.ro U1
      have hnew := World.alloc_heap_new X0 (.cells #[.int .i64 0, .string dr, .string .empty] 54)
      have hbX := Nat.le_trans HB.out.bw U1.size
      have T1 := HB.out.blk.below' U1
      refine ⟨fun _ => T1, ?_⟩
      try simp only [Act.put, List.getElem_toArray, List.getElem_cons_zero, List.getElem_cons_succ, List.setIfInBounds_toArray, List.set_cons_zero, List.set_cons_succ]
      refine wpAnyG_all (rs := [11]) (by kernel_rfl) (by simp) ?_
      intro i hi
      simp only [List.mem_cons, List.not_mem_nil, or_false] at hi
      subst hi
      refine wpOp_now rfl rfl ?_
      refine opwp_append2 _ _ 30 rfl b 54 j0 (.agg #[.int .i64 0, .string .empty, .string .empty]) 3 40 Try.underlying30 hj hy0 hy1 hy2 rfl (by decide) _ _ _ rfl hown1 ⟨X0.heap.size, 0, none⟩ 1 1 [.int .i64 0, .string dr, .string .empty] rfl rfl (World.news_of_block (cs := #[.int .i64 0, .string dr, .string .empty]) (t := 54) (fr := (0, 0)) hnew) (fun x hx => by simp at hx; rcases hx with rfl | rfl | rfl <;> rfl) (by unfold maxLen; (try simp only [List.length_append, List.length_cons, List.length_nil]); omega) (by (try simp only [List.length_append, List.length_cons, List.length_nil]); omega) hbX ?_
      intro v3 w3 hown3 hg3 hv3
      have hA := DkB.add (x := ⟨0, dr, .empty⟩) HB.out U1 hown3 hg3 hv3
      have T3 := Blk.kept T1 hg3 (Blk.not_row T1 (by decide) hown1)
      have k3 := Blk.frozen T3 0
      have k0 : w3.cell? ⟨B, 0, none⟩ = some v4 := Blk.cell T3 0
      obtain ⟨ov3, cv3, rfl, _⟩ := own_slice hown3
      have HA := Lib.hid hA
      clear hA hown3 hg3 hv3 hown1 hnew T0 T1 U0 U1 hbX
      refine ⟨fun _ => T3, ?_⟩
      try simp only [Act.put, List.getElem_toArray, List.getElem_cons_zero, List.getElem_cons_succ, List.setIfInBounds_toArray, List.set_cons_zero, List.set_cons_succ]
      refine wpAnyG_all (rs := [12]) (by kernel_rfl) (by simp) ?_
      intro i hi
      simp only [List.mem_cons, List.not_mem_nil, or_false] at hi
      subst hi
      refine wpOp_now rfl rfl ?_
      go_simp
      refine ⟨fun _ => T3, ?_⟩
      try simp only [Act.put, List.getElem_toArray, List.getElem_cons_zero, List.getElem_cons_succ, List.setIfInBounds_toArray, List.set_cons_zero, List.set_cons_succ]
      refine wpAnyG_all (rs := [13]) (by kernel_rfl) (by simp) ?_
      intro i hi
      simp only [List.mem_cons, List.not_mem_nil, or_false] at hi
      subst hi
      refine wpOp_now rfl rfl ?_
      go_simp
      refine ⟨fun _ => T3, ?_⟩
      try simp only [Act.put, List.getElem_toArray, List.getElem_cons_zero, List.getElem_cons_succ, List.setIfInBounds_toArray, List.set_cons_zero, List.set_cons_succ]
      refine wpAnyG_all (rs := [14]) (by kernel_rfl) (by simp) ?_
      intro i hi
      simp only [List.mem_cons, List.not_mem_nil, or_false] at hi
      subst hi
      refine wpOp_now rfl rfl ?_
      go_simp
      refine ⟨fun h => (nomatch (show (false : Bool) = true from h)), ?_⟩
      refine wpAnyG_done (by kernel_rfl) ?_ _
      refine NoPanic.normal ?_
      have hA := HA.out
      obtain ⟨y0, y1, y2⟩ := hA.1.cells
      have f1 := hA.1.blk.frozen 1
      have f2 := hA.1.blk.frozen 2
      clear hA k3 k0
      go_wp2
      refine bodyPost_end (results_none rfl _ _ _) rfl ?_
      exact ⟨rfl, _, by rw [HF.out, ← List.append_assoc, HL2.out]; exact (HA.out.1.setP .empty).setD .empty, ((HKB.out.trans HA.out.2).trans (KpD.set HA.out.1 1 _)).trans (KpD.set (HA.out.1.setP .empty) 2 _)⟩
end Go.Proofs.Ytjccoiephdopkaa
