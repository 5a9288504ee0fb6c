/- Several texts in one. -/
import Derived.Test.YtepbplmggladfaaJt
import Derived.Test.YtepbplmggladfaaHq
import Derived.Test.YtepbplmggladfaaJm
import Derived.Test.YtepbplmggladfaaJ1
import Derived.Test.YtepbplmggladfaaJq
/- Stage 27: the document's maker. -/
namespace Go.Proofs.Ytepbplmggladfaa
set_option linter.unusedVariables false
set_option linter.unusedSimpArgs false
open Go Go.RowKit Go.Shelf
set_option maxRecDepth 100000

/-- The document's maker and its row. -/
structure DkB (W : World) (B b : Nat) (vL : Value) (L : List Sp) (pu dr : ByteArray) : Prop where
  blk : Blk W B #[vL, .string pu, .string dr] 70
  ro : W.ownsRow b 64 3 vL L.length (L.flatMap encS)
  bb : B < b
  bw : b ≤ W.heap.size
/-- What its work leaves as it was. -/
structure KpD (B : Nat) (v v' : Value) (W W' : World) : Prop where
  os : W'.os = W.os
  tape : W'.tape = W.tape
  output : W'.output = W.output
  size : W.heap.size ≤ W'.heap.size
  blk : ∀ q, q < W.heap.size → q ≠ B → some q ≠ v.ownBlock → W'.heap[q]? = W.heap[q]? ∧ some q ≠ v'.ownBlock
theorem KpD.refl (B : Nat) (v : Value) (W : World) : KpD B v v W W := ⟨rfl, rfl, rfl, Nat.le_refl _, fun _ _ _ h => ⟨rfl, h⟩⟩
theorem KpD.trans {B : Nat} {v1 v2 v3 : Value} {X Y Z : World} (h : KpD B v1 v2 X Y) (g : KpD B v2 v3 Y Z) : KpD B v1 v3 X Z :=
  ⟨g.os.trans h.os, g.tape.trans h.tape, g.output.trans h.output, Nat.le_trans h.size g.size, fun q hq hB hn => by
    obtain ⟨h1, h2⟩ := h.blk q hq hB hn
    obtain ⟨h3, h4⟩ := g.blk q (Nat.lt_of_lt_of_le hq h.size) hB h2
    exact ⟨h3.trans h1, h4⟩⟩
section
variable {W X w3 : World} {B b : Nat} {vL : Value} {L : List Sp} {pu dr : ByteArray}
theorem DkB.below (h : DkB W B b vL L pu dr) (hb : Below W.heap.size W X) : DkB X B b vL L pu dr := ⟨h.blk.below' hb, own_below h.ro hb, h.bb, Nat.le_trans h.bw hb.size⟩
theorem KpD.of_below (h : DkB W B b vL L pu dr) (hb : Below W.heap.size W X) : KpD B vL vL W X := ⟨hb.os, hb.tape, hb.output, hb.size, fun q hq _ hn => ⟨hb.block q hq, hn⟩⟩
theorem KpD.set (h : DkB W B b vL L pu dr) (o : Nat) (v : Value) : KpD B vL vL W (W.setCell ⟨B, o, none⟩ v) := ⟨rfl, rfl, rfl, by simp, fun q hq hB hn => ⟨Below.heap_setCell _ _ _ _ (fun e => hB e), hn⟩⟩
theorem DkB.setP (h : DkB W B b vL L pu dr) (s : ByteArray) : DkB (W.setCell ⟨B, 1, none⟩ (.string s)) B b vL L s dr := by
  have b4 := h.blk.set 1 (.string s)
  simp only [List.setIfInBounds_toArray, List.set_cons_zero, List.set_cons_succ] at b4
  exact ⟨b4, own_low h.ro h.bb 1 _, h.bb, by simpa using h.bw⟩
theorem DkB.setD (h : DkB W B b vL L pu dr) (s : ByteArray) : DkB (W.setCell ⟨B, 2, none⟩ (.string s)) B b vL L pu s := by
  have b4 := h.blk.set 2 (.string s)
  simp only [List.setIfInBounds_toArray, List.set_cons_zero, List.set_cons_succ] at b4
  exact ⟨b4, own_low h.ro h.bb 2 _, h.bb, by simpa using h.bw⟩
theorem DkB.cells (h : DkB W B b vL L pu dr) : W.cell? ⟨B, 0, none⟩ = some vL ∧ W.cell? ⟨B, 1, none⟩ = some (.string pu) ∧ W.cell? ⟨B, 2, none⟩ = some (.string dr) := ⟨h.blk.cell 0, h.blk.cell 1, h.blk.cell 2⟩
theorem DkB.add (h : DkB W B b vL L pu dr) {v3 : Value} {x : Sp} (hX : Below W.heap.size W X) (h3 : w3.ownsRow b 64 3 v3 (L.length + 1) (L.flatMap encS ++ encS x)) (hg : X.grownBy w3 vL.ownBlock)
    (hv : v3.ownBlock = vL.ownBlock ∨ v3.ownBlock = some X.heap.size) : DkB (w3.setCell ⟨B, 0, none⟩ v3) B b v3 (L ++ [x]) pu dr ∧ KpD B vL v3 W (w3.setCell ⟨B, 0, none⟩ v3) := by
  have hXm := h.below hX
  have b3 := Blk.kept hXm.blk hg (Blk.not_row hXm.blk (by decide) hXm.ro)
  have b4 := b3.set 0 v3
  simp only [List.setIfInBounds_toArray, List.set_cons_zero] at b4
  refine ⟨⟨b4, ?_, h.bb, by simp; exact Nat.le_trans hXm.bw hg.size⟩, ?_⟩
  · have h4 := own_low h3 h.bb 0 v3
    simpa using h4
  · refine ⟨(hg.os.trans hX.os), (hg.tape.trans hX.tape), (hg.output.trans hX.output), by simp; exact Nat.le_trans hX.size hg.size, fun q hq hB hn => ⟨?_, ?_⟩⟩
    · exact (Below.heap_setCell _ _ _ _ (fun e => hB e)).trans ((hg.block q (Nat.lt_of_lt_of_le hq hX.size) (fun e => hn e)).trans (hX.block q hq))
    · rcases hv with hv | hv
      · rw [hv]; exact hn
      · rw [hv]; intro e; cases e; have := hX.size; omega
end
/-- What is put and dropped, as steps. -/
def flD (pu dr : ByteArray) : List Sp := (if 0 < pu.size then [⟨0, .empty, pu⟩] else []) ++ (if 0 < dr.size then [⟨0, dr, .empty⟩] else [])
set_option maxHeartbeats 8000000 in
theorem dend_any {W : World} {B b : Nat} {vL : Value} {L : List Sp} {pu dr : ByteArray} (h : DkB W B b vL L pu dr) (hl : L.length ≤ 1000000000) :
    Calls Try.prog 34 #[.pointer (some ⟨B, 0, none⟩)] W fun e W' => e = .returned (.tuple #[]) ∧ ∃ v', DkB W' B b v' (L ++ flD pu dr) .empty .empty ∧ KpD B vL v' W W' := by
  obtain ⟨j0, hj, hy0, hy1, hy2⟩ := info_parts infoStep
  obtain ⟨c0, c1, c2⟩ := h.cells
  obtain ⟨ov, cv, rfl, _⟩ := own_slice h.ro
  obtain ⟨vo, hvo⟩ : ∃ v, Value.slice ov L.length cv = v := ⟨_, rfl⟩
  rw [hvo] at h c0 ⊢
  clear hvo
  rcases emp_or pu with rfl | ⟨p0, p1, p2, p3⟩
  · rcases emp_or dr with rfl | ⟨d0, d1, d2, d3⟩
    · have HM := Lib.hid h
      have f1 := h.blk.frozen 1
      have f2 := h.blk.frozen 2
      clear h
      go_enter Try.func34, Try.ntmps34
      go_wp2
      refine bodyPost_end (results_none rfl _ _ _) rfl ?_
      exact ⟨rfl, _, by rw [show flD .empty .empty = [] from rfl, List.append_nil]; exact (HM.out.setP .empty).setD .empty, (KpD.set HM.out 1 _).trans (KpD.set (HM.out.setP .empty) 2 _)⟩
    · have hfl : flD .empty dr = [⟨0, dr, .empty⟩] := by unfold flD; rw [if_neg (by decide), if_pos (by omega)]; rfl
      have HM := Lib.hid h
      have HF := Lib.hid hfl
      clear h hfl
      go_enter Try.func34, Try.ntmps34
      go_wp2
      refine wp_region_noPanic ?_
      refine wp_region_g (S := untilG [14] (fun X => Blk X B #[vo, .string .empty, .string dr] 70)) (by kernel_rfl) ?_
      obtain ⟨X0, hX0⟩ : ∃ Z, W.drew = Z := ⟨_, rfl⟩
      have U0 : Below W.heap.size W X0 := hX0 ▸ (Below.refl W.heap.size W).drew
      have T0 := HM.out.blk.below' U0
      rw [hX0]
      clear hX0
      refine wpAnyG_take [0, 12, 13, 14] (i := 0) (v := (.pointer (some ⟨B, 0, none⟩))) rfl (by kernel_rfl) (by kernel_rfl) (by kernel_rfl) (by kernel_rfl) (by kernel_rfl) (by kernel_rfl) (by kernel_rfl) (by kernel_rfl) (fun _ _ _ h => h) (Or.inl ⟨by rfl, ?hy⟩) T0 ?_
      case hy =>
        intro X hX
        go_simp
      try simp only [Act.put, List.getElem_toArray, List.getElem_cons_zero, List.getElem_cons_succ, List.setIfInBounds_toArray, List.set_cons_zero, List.set_cons_succ]
      refine wpAnyG_take [1, 2, 3, 4, 11, 14] (i := 1) (v := (.pointer (some ⟨B, 0, none⟩))) rfl (by kernel_rfl) (by kernel_rfl) (by kernel_rfl) (by kernel_rfl) (by kernel_rfl) (by kernel_rfl) (by kernel_rfl) (by kernel_rfl) (fun _ _ _ h => h) (Or.inl ⟨by rfl, ?hy⟩) T0 ?_
      case hy =>
        intro X hX
        go_simp
      try simp only [Act.put, List.getElem_toArray, List.getElem_cons_zero, List.getElem_cons_succ, List.setIfInBounds_toArray, List.set_cons_zero, List.set_cons_succ]
      refine wpAnyG_take [2, 3, 4, 11, 14] (i := 2) (v := (.pointer (some ⟨B, 0, none⟩))) rfl (by kernel_rfl) (by kernel_rfl) (by kernel_rfl) (by kernel_rfl) (by kernel_rfl) (by kernel_rfl) (by kernel_rfl) (by kernel_rfl) (fun _ _ _ h => h) (Or.inl ⟨by rfl, ?hy⟩) T0 ?_
      case hy =>
        intro X hX
        go_simp
      try simp only [Act.put, List.getElem_toArray, List.getElem_cons_zero, List.getElem_cons_succ, List.setIfInBounds_toArray, List.set_cons_zero, List.set_cons_succ]
      refine wpAnyG_take [3, 4, 11, 14] (i := 3) (v := (.pointer (some ⟨B, 0, none⟩))) rfl (by kernel_rfl) (by kernel_rfl) (by kernel_rfl) (by kernel_rfl) (by kernel_rfl) (by kernel_rfl) (by kernel_rfl) (by kernel_rfl) (fun _ _ _ h => h) (Or.inl ⟨by rfl, ?hy⟩) T0 ?_
      case hy =>
        intro X hX
        go_simp
      try simp only [Act.put, List.getElem_toArray, List.getElem_cons_zero, List.getElem_cons_succ, List.setIfInBounds_toArray, List.set_cons_zero, List.set_cons_succ]
      refine wpAnyG_take [4, 11, 14] (i := 4) (v := vo) rfl (by kernel_rfl) (by kernel_rfl) (by kernel_rfl) (by kernel_rfl) (by kernel_rfl) (by kernel_rfl) (by kernel_rfl) (by kernel_rfl) (fun _ _ _ h => h) (Or.inl ⟨by rfl, ?hy⟩) T0 ?_
      case hy =>
        intro X hX
        have e0 := Blk.cell hX 0
        simp only [List.getElem?_toArray, List.getElem?_cons_zero] at e0
        go_simp
      try simp only [Act.put, List.getElem_toArray, List.getElem_cons_zero, List.getElem_cons_succ, List.setIfInBounds_toArray, List.set_cons_zero, List.set_cons_succ]
      refine wpAnyG_take [5, 6, 7, 8, 9, 10, 11, 14] (i := 5) (v := (.pointer (some ⟨B, 0, none⟩))) rfl (by kernel_rfl) (by kernel_rfl) (by kernel_rfl) (by kernel_rfl) (by kernel_rfl) (by kernel_rfl) (by kernel_rfl) (by kernel_rfl) (fun _ _ _ h => h) (Or.inl ⟨by rfl, ?hy⟩) T0 ?_
      case hy =>
        intro X hX
        go_simp
      try simp only [Act.put, List.getElem_toArray, List.getElem_cons_zero, List.getElem_cons_succ, List.setIfInBounds_toArray, List.set_cons_zero, List.set_cons_succ]
      refine wpAnyG_take [6, 7, 8, 9, 10, 11, 14] (i := 6) (v := (.pointer (some ⟨B, 0, none⟩))) rfl (by kernel_rfl) (by kernel_rfl) (by kernel_rfl) (by kernel_rfl) (by kernel_rfl) (by kernel_rfl) (by kernel_rfl) (by kernel_rfl) (fun _ _ _ h => h) (Or.inl ⟨by rfl, ?hy⟩) T0 ?_
      case hy =>
        intro X hX
        go_simp
      try simp only [Act.put, List.getElem_toArray, List.getElem_cons_zero, List.getElem_cons_succ, List.setIfInBounds_toArray, List.set_cons_zero, List.set_cons_succ]
      refine wpAnyG_take [7, 8, 9, 10, 11, 14] (i := 7) (v := (.pointer (some ⟨B, 2, none⟩))) rfl (by kernel_rfl) (by kernel_rfl) (by kernel_rfl) (by kernel_rfl) (by kernel_rfl) (by kernel_rfl) (by kernel_rfl) (by kernel_rfl) (fun _ _ _ h => h) (Or.inl ⟨by rfl, ?hy⟩) T0 ?_
      case hy =>
        intro X hX
        go_simp
      try simp only [Act.put, List.getElem_toArray, List.getElem_cons_zero, List.getElem_cons_succ, List.setIfInBounds_toArray, List.set_cons_zero, List.set_cons_succ]
      refine wpAnyG_take [8, 9, 10, 11, 14] (i := 8) (v := (.string dr)) rfl (by kernel_rfl) (by kernel_rfl) (by kernel_rfl) (by kernel_rfl) (by kernel_rfl) (by kernel_rfl) (by kernel_rfl) (by kernel_rfl) (fun _ _ _ h => h) (Or.inl ⟨by rfl, ?hy⟩) T0 ?_
      case hy =>
        intro X hX
        have e0 := Blk.cell hX 2
        simp only [List.getElem?_toArray, List.getElem?_cons_zero, List.getElem?_cons_succ] at e0
        go_simp
      try simp only [Act.put, List.getElem_toArray, List.getElem_cons_zero, List.getElem_cons_succ, List.setIfInBounds_toArray, List.set_cons_zero, List.set_cons_succ]
      refine wpAnyG_take [9, 10, 11, 14] (i := 9) (v := (.agg #[.int .i64 0, .string dr, .string .empty])) rfl (by kernel_rfl) (by kernel_rfl) (by kernel_rfl) (by kernel_rfl) (by kernel_rfl) (by kernel_rfl) (by kernel_rfl) (by kernel_rfl) (fun _ _ _ h => h) (Or.inl ⟨by rfl, ?hy⟩) T0 ?_
      case hy =>
        intro X hX
        (go_simp; try rfl)
      try simp only [Act.put, List.getElem_toArray, List.getElem_cons_zero, List.getElem_cons_succ, List.setIfInBounds_toArray, List.set_cons_zero, List.set_cons_succ]
      refine wpAnyG_all (rs := [10]) (by kernel_rfl) (by simp) ?_
      intro i hi
      simp only [List.mem_cons, List.not_mem_nil, or_false] at hi
      subst hi
      refine wpOp_now rfl rfl ?_
      go_simp
      have U1 := U0.alloc U0.size (.cells #[.int .i64 0, .string dr, .string .empty] 64)
      have hown1 := own_below HM.out.ro U1
      have hnew := World.alloc_heap_new X0 (.cells #[.int .i64 0, .string dr, .string .empty] 64)
      have hbX := Nat.le_trans HM.out.bw U1.size
      have T1 := HM.out.blk.below' U1
      refine ⟨fun _ => T1, ?_⟩
      try simp only [Act.put, List.getElem_toArray, List.getElem_cons_zero, List.getElem_cons_succ, List.setIfInBounds_toArray, List.set_cons_zero, List.set_cons_succ]
      refine wpAnyG_all (rs := [11]) (by kernel_rfl) (by simp) ?_
      intro i hi
      simp only [List.mem_cons, List.not_mem_nil, or_false] at hi
      subst hi
      refine wpOp_now rfl rfl ?_
      refine opwp_append2 _ _ 29 rfl b 64 j0 (.agg #[.int .i64 0, .string .empty, .string .empty]) 3 40 Try.underlying29 hj hy0 hy1 hy2 rfl (by decide) _ _ _ rfl hown1 ⟨X0.heap.size, 0, none⟩ 1 1 [.int .i64 0, .string dr, .string .empty] rfl rfl (World.news_of_block (cs := #[.int .i64 0, .string dr, .string .empty]) (t := 64) (fr := (0, 0)) hnew) (fun x hx => by simp at hx; rcases hx with rfl | rfl | rfl <;> rfl) (by unfold maxLen; (try simp only [List.length_append, List.length_cons, List.length_nil]); omega) (by (try simp only [List.length_append, List.length_cons, List.length_nil]); omega) hbX ?_
      intro v3 w3 hown3 hg3 hv3
      have hA := DkB.add (x := ⟨0, dr, .empty⟩) HM.out U1 hown3 hg3 hv3
      have T3 := Blk.kept T1 hg3 (Blk.not_row T1 (by decide) hown1)
      have k3 := Blk.frozen T3 0
      have k0 : w3.cell? ⟨B, 0, none⟩ = some vo := Blk.cell T3 0
      obtain ⟨ov3, cv3, rfl, _⟩ := own_slice hown3
      have HA := Lib.hid hA
      clear hA hown3 hg3 hv3 hown1 hnew T0 T1 U0 U1 hbX
      refine ⟨fun _ => T3, ?_⟩
      try simp only [Act.put, List.getElem_toArray, List.getElem_cons_zero, List.getElem_cons_succ, List.setIfInBounds_toArray, List.set_cons_zero, List.set_cons_succ]
      refine wpAnyG_all (rs := [12]) (by kernel_rfl) (by simp) ?_
      intro i hi
      simp only [List.mem_cons, List.not_mem_nil, or_false] at hi
      subst hi
      refine wpOp_now rfl rfl ?_
      go_simp
      refine ⟨fun _ => T3, ?_⟩
      try simp only [Act.put, List.getElem_toArray, List.getElem_cons_zero, List.getElem_cons_succ, List.setIfInBounds_toArray, List.set_cons_zero, List.set_cons_succ]
      refine wpAnyG_all (rs := [13]) (by kernel_rfl) (by simp) ?_
      intro i hi
      simp only [List.mem_cons, List.not_mem_nil, or_false] at hi
      subst hi
      refine wpOp_now rfl rfl ?_
      go_simp
      refine ⟨fun _ => T3, ?_⟩
      try simp only [Act.put, List.getElem_toArray, List.getElem_cons_zero, List.getElem_cons_succ, List.setIfInBounds_toArray, List.set_cons_zero, List.set_cons_succ]
      refine wpAnyG_all (rs := [14]) (by kernel_rfl) (by simp) ?_
      intro i hi
      simp only [List.mem_cons, List.not_mem_nil, or_false] at hi
      subst hi
      refine wpOp_now rfl rfl ?_
      go_simp
      refine ⟨fun h => (nomatch (show (false : Bool) = true from h)), ?_⟩
      refine wpAnyG_done (by kernel_rfl) ?_ _
      refine NoPanic.normal ?_
      have hA := HA.out
      obtain ⟨y0, y1, y2⟩ := hA.1.cells
      have f1 := hA.1.blk.frozen 1
      have f2 := hA.1.blk.frozen 2
      clear hA k3 k0 c0 c1 c2
      go_wp2
      refine bodyPost_end (results_none rfl _ _ _) rfl ?_
      exact ⟨rfl, _, by rw [HF.out]; exact (HA.out.1.setP .empty).setD .empty, (HA.out.2.trans (KpD.set HA.out.1 1 _)).trans (KpD.set (HA.out.1.setP .empty) 2 _)⟩
  · rcases emp_or dr with rfl | ⟨d0, d1, d2, d3⟩
    · have hfl : flD pu .empty = [⟨0, .empty, pu⟩] := by unfold flD; rw [if_pos (by omega), if_neg (by decide)]; rfl
      have HM := Lib.hid h
      have HF := Lib.hid hfl
      clear h hfl
      go_enter Try.func34, Try.ntmps34
      go_wp2
      refine wp_region_noPanic ?_
      refine wp_region_g (S := untilG [14] (fun X => Blk X B #[vo, .string pu, .string .empty] 70)) (by kernel_rfl) ?_
      obtain ⟨X0, hX0⟩ : ∃ Z, W.drew = Z := ⟨_, rfl⟩
      have U0 : Below W.heap.size W X0 := hX0 ▸ (Below.refl W.heap.size W).drew
      have T0 := HM.out.blk.below' U0
      rw [hX0]
      clear hX0
      refine wpAnyG_take [0, 12, 13, 14] (i := 0) (v := (.pointer (some ⟨B, 0, none⟩))) rfl (by kernel_rfl) (by kernel_rfl) (by kernel_rfl) (by kernel_rfl) (by kernel_rfl) (by kernel_rfl) (by kernel_rfl) (by kernel_rfl) (fun _ _ _ h => h) (Or.inl ⟨by rfl, ?hy⟩) T0 ?_
      case hy =>
        intro X hX
        go_simp
      try simp only [Act.put, List.getElem_toArray, List.getElem_cons_zero, List.getElem_cons_succ, List.setIfInBounds_toArray, List.set_cons_zero, List.set_cons_succ]
      refine wpAnyG_take [1, 2, 3, 4, 11, 14] (i := 1) (v := (.pointer (some ⟨B, 0, none⟩))) rfl (by kernel_rfl) (by kernel_rfl) (by kernel_rfl) (by kernel_rfl) (by kernel_rfl) (by kernel_rfl) (by kernel_rfl) (by kernel_rfl) (fun _ _ _ h => h) (Or.inl ⟨by rfl, ?hy⟩) T0 ?_
      case hy =>
        intro X hX
        go_simp
      try simp only [Act.put, List.getElem_toArray, List.getElem_cons_zero, List.getElem_cons_succ, List.setIfInBounds_toArray, List.set_cons_zero, List.set_cons_succ]
      refine wpAnyG_take [2, 3, 4, 11, 14] (i := 2) (v := (.pointer (some ⟨B, 0, none⟩))) rfl (by kernel_rfl) (by kernel_rfl) (by kernel_rfl) (by kernel_rfl) (by kernel_rfl) (by kernel_rfl) (by kernel_rfl) (by kernel_rfl) (fun _ _ _ h => h) (Or.inl ⟨by rfl, ?hy⟩) T0 ?_
      case hy =>
        intro X hX
        go_simp
      try simp only [Act.put, List.getElem_toArray, List.getElem_cons_zero, List.getElem_cons_succ, List.setIfInBounds_toArray, List.set_cons_zero, List.set_cons_succ]
      refine wpAnyG_take [3, 4, 11, 14] (i := 3) (v := (.pointer (some ⟨B, 0, none⟩))) rfl (by kernel_rfl) (by kernel_rfl) (by kernel_rfl) (by kernel_rfl) (by kernel_rfl) (by kernel_rfl) (by kernel_rfl) (by kernel_rfl) (fun _ _ _ h => h) (Or.inl ⟨by rfl, ?hy⟩) T0 ?_
      case hy =>
        intro X hX
        go_simp
      try simp only [Act.put, List.getElem_toArray, List.getElem_cons_zero, List.getElem_cons_succ, List.setIfInBounds_toArray, List.set_cons_zero, List.set_cons_succ]
      refine wpAnyG_take [4, 11, 14] (i := 4) (v := vo) rfl (by kernel_rfl) (by kernel_rfl) (by kernel_rfl) (by kernel_rfl) (by kernel_rfl) (by kernel_rfl) (by kernel_rfl) (by kernel_rfl) (fun _ _ _ h => h) (Or.inl ⟨by rfl, ?hy⟩) T0 ?_
      case hy =>
        intro X hX
        have e0 := Blk.cell hX 0
        simp only [List.getElem?_toArray, List.getElem?_cons_zero] at e0
        go_simp
      try simp only [Act.put, List.getElem_toArray, List.getElem_cons_zero, List.getElem_cons_succ, List.setIfInBounds_toArray, List.set_cons_zero, List.set_cons_succ]
      refine wpAnyG_take [5, 6, 7, 8, 9, 10, 11, 14] (i := 5) (v := (.pointer (some ⟨B, 0, none⟩))) rfl (by kernel_rfl) (by kernel_rfl) (by kernel_rfl) (by kernel_rfl) (by kernel_rfl) (by kernel_rfl) (by kernel_rfl) (by kernel_rfl) (fun _ _ _ h => h) (Or.inl ⟨by rfl, ?hy⟩) T0 ?_
      case hy =>
        intro X hX
        go_simp
      try simp only [Act.put, List.getElem_toArray, List.getElem_cons_zero, List.getElem_cons_succ, List.setIfInBounds_toArray, List.set_cons_zero, List.set_cons_succ]
      refine wpAnyG_take [6, 7, 8, 9, 10, 11, 14] (i := 6) (v := (.pointer (some ⟨B, 0, none⟩))) rfl (by kernel_rfl) (by kernel_rfl) (by kernel_rfl) (by kernel_rfl) (by kernel_rfl) (by kernel_rfl) (by kernel_rfl) (by kernel_rfl) (fun _ _ _ h => h) (Or.inl ⟨by rfl, ?hy⟩) T0 ?_
      case hy =>
        intro X hX
        go_simp
      try simp only [Act.put, List.getElem_toArray, List.getElem_cons_zero, List.getElem_cons_succ, List.setIfInBounds_toArray, List.set_cons_zero, List.set_cons_succ]
      refine wpAnyG_take [7, 8, 9, 10, 11, 14] (i := 7) (v := (.pointer (some ⟨B, 1, none⟩))) rfl (by kernel_rfl) (by kernel_rfl) (by kernel_rfl) (by kernel_rfl) (by kernel_rfl) (by kernel_rfl) (by kernel_rfl) (by kernel_rfl) (fun _ _ _ h => h) (Or.inl ⟨by rfl, ?hy⟩) T0 ?_
      case hy =>
        intro X hX
        go_simp
      try simp only [Act.put, List.getElem_toArray, List.getElem_cons_zero, List.getElem_cons_succ, List.setIfInBounds_toArray, List.set_cons_zero, List.set_cons_succ]
      refine wpAnyG_take [8, 9, 10, 11, 14] (i := 8) (v := (.string pu)) rfl (by kernel_rfl) (by kernel_rfl) (by kernel_rfl) (by kernel_rfl) (by kernel_rfl) (by kernel_rfl) (by kernel_rfl) (by kernel_rfl) (fun _ _ _ h => h) (Or.inl ⟨by rfl, ?hy⟩) T0 ?_
      case hy =>
        intro X hX
        have e0 := Blk.cell hX 1
        simp only [List.getElem?_toArray, List.getElem?_cons_zero, List.getElem?_cons_succ] at e0
        go_simp
      try simp only [Act.put, List.getElem_toArray, List.getElem_cons_zero, List.getElem_cons_succ, List.setIfInBounds_toArray, List.set_cons_zero, List.set_cons_succ]
      refine wpAnyG_take [9, 10, 11, 14] (i := 9) (v := (.agg #[.int .i64 0, .string .empty, .string pu])) rfl (by kernel_rfl) (by kernel_rfl) (by kernel_rfl) (by kernel_rfl) (by kernel_rfl) (by kernel_rfl) (by kernel_rfl) (by kernel_rfl) (fun _ _ _ h => h) (Or.inl ⟨by rfl, ?hy⟩) T0 ?_
      case hy =>
        intro X hX
        (go_simp; try rfl)
      try simp only [Act.put, List.getElem_toArray, List.getElem_cons_zero, List.getElem_cons_succ, List.setIfInBounds_toArray, List.set_cons_zero, List.set_cons_succ]
      refine wpAnyG_all (rs := [10]) (by kernel_rfl) (by simp) ?_
      intro i hi
      simp only [List.mem_cons, List.not_mem_nil, or_false] at hi
      subst hi
      refine wpOp_now rfl rfl ?_
      go_simp
      have U1 := U0.alloc U0.size (.cells #[.int .i64 0, .string .empty, .string pu] 64)
      have hown1 := own_below HM.out.ro U1
      have hnew := World.alloc_heap_new X0 (.cells #[.int .i64 0, .string .empty, .string pu] 64)
      have hbX := Nat.le_trans HM.out.bw U1.size
      have T1 := HM.out.blk.below' U1
      refine ⟨fun _ => T1, ?_⟩
      try simp only [Act.put, List.getElem_toArray, List.getElem_cons_zero, List.getElem_cons_succ, List.setIfInBounds_toArray, List.set_cons_zero, List.set_cons_succ]
      refine wpAnyG_all (rs := [11]) (by kernel_rfl) (by simp) ?_
      intro i hi
      simp only [List.mem_cons, List.not_mem_nil, or_false] at hi
      subst hi
      refine wpOp_now rfl rfl ?_
      refine opwp_append2 _ _ 29 rfl b 64 j0 (.agg #[.int .i64 0, .string .empty, .string .empty]) 3 40 Try.underlying29 hj hy0 hy1 hy2 rfl (by decide) _ _ _ rfl hown1 ⟨X0.heap.size, 0, none⟩ 1 1 [.int .i64 0, .string .empty, .string pu] rfl rfl (World.news_of_block (cs := #[.int .i64 0, .string .empty, .string pu]) (t := 64) (fr := (0, 0)) hnew) (fun x hx => by simp at hx; rcases hx with rfl | rfl | rfl <;> rfl) (by unfold maxLen; (try simp only [List.length_append, List.length_cons, List.length_nil]); omega) (by (try simp only [List.length_append, List.length_cons, List.length_nil]); omega) hbX ?_
      intro v3 w3 hown3 hg3 hv3
      have hA := DkB.add (x := ⟨0, .empty, pu⟩) HM.out U1 hown3 hg3 hv3
      have T3 := Blk.kept T1 hg3 (Blk.not_row T1 (by decide) hown1)
      have k3 := Blk.frozen T3 0
      have k0 : w3.cell? ⟨B, 0, none⟩ = some vo := Blk.cell T3 0
      obtain ⟨ov3, cv3, rfl, _⟩ := own_slice hown3
      have HA := Lib.hid hA
      clear hA hown3 hg3 hv3 hown1 hnew T0 T1 U0 U1 hbX
      refine ⟨fun _ => T3, ?_⟩
      try simp only [Act.put, List.getElem_toArray, List.getElem_cons_zero, List.getElem_cons_succ, List.setIfInBounds_toArray, List.set_cons_zero, List.set_cons_succ]
      refine wpAnyG_all (rs := [12]) (by kernel_rfl) (by simp) ?_
      intro i hi
      simp only [List.mem_cons, List.not_mem_nil, or_false] at hi
      subst hi
      refine wpOp_now rfl rfl ?_
      go_simp
      refine ⟨fun _ => T3, ?_⟩
      try simp only [Act.put, List.getElem_toArray, List.getElem_cons_zero, List.getElem_cons_succ, List.setIfInBounds_toArray, List.set_cons_zero, List.set_cons_succ]
      refine wpAnyG_all (rs := [13]) (by kernel_rfl) (by simp) ?_
      intro i hi
      simp only [List.mem_cons, List.not_mem_nil, or_false] at hi
      subst hi
      refine wpOp_now rfl rfl ?_
      go_simp
      refine ⟨fun _ => T3, ?_⟩
      try simp only [Act.put, List.getElem_toArray, List.getElem_cons_zero, List.getElem_cons_succ, List.setIfInBounds_toArray, List.set_cons_zero, List.set_cons_succ]
      refine wpAnyG_all (rs := [14]) (by kernel_rfl) (by simp) ?_
      intro i hi
      simp only [List.mem_cons, List.not_mem_nil, or_false] at hi
      subst hi
      refine wpOp_now rfl rfl ?_
      go_simp
      refine ⟨fun h => (nomatch (show (false : Bool) = true from h)), ?_⟩
      refine wpAnyG_done (by kernel_rfl) ?_ _
      refine NoPanic.normal ?_
      have hA := HA.out
      obtain ⟨y0, y1, y2⟩ := hA.1.cells
      have f1 := hA.1.blk.frozen 1
      have f2 := hA.1.blk.frozen 2
      clear hA k3 k0 c0 c1 c2
      go_wp2
      refine bodyPost_end (results_none rfl _ _ _) rfl ?_
      exact ⟨rfl, _, by rw [HF.out]; exact (HA.out.1.setP .empty).setD .empty, (HA.out.2.trans (KpD.set HA.out.1 1 _)).trans (KpD.set (HA.out.1.setP .empty) 2 _)⟩
    · have hfl : flD pu dr = [⟨0, .empty, pu⟩] ++ [⟨0, dr, .empty⟩] := by unfold flD; rw [if_pos (by omega), if_pos (by omega)]
      have HM := Lib.hid h
      have HF := Lib.hid hfl
      clear h hfl
      go_enter Try.func34, Try.ntmps34
      go_wp2
      refine wp_region_noPanic ?_
      refine wp_region_g (S := untilG [14] (fun X => Blk X B #[vo, .string pu, .string dr] 70)) (by kernel_rfl) ?_
      obtain ⟨X0, hX0⟩ : ∃ Z, W.drew = Z := ⟨_, rfl⟩
      have U0 : Below W.heap.size W X0 := hX0 ▸ (Below.refl W.heap.size W).drew
      have T0 := HM.out.blk.below' U0
      rw [hX0]
      clear hX0
      refine wpAnyG_take [0, 12, 13, 14] (i := 0) (v := (.pointer (some ⟨B, 0, none⟩))) rfl (by kernel_rfl) (by kernel_rfl) (by kernel_rfl) (by kernel_rfl) (by kernel_rfl) (by kernel_rfl) (by kernel_rfl) (by kernel_rfl) (fun _ _ _ h => h) (Or.inl ⟨by rfl, ?hy⟩) T0 ?_
      case hy =>
        intro X hX
        go_simp
      try simp only [Act.put, List.getElem_toArray, List.getElem_cons_zero, List.getElem_cons_succ, List.setIfInBounds_toArray, List.set_cons_zero, List.set_cons_succ]
      refine wpAnyG_take [1, 2, 3, 4, 11, 14] (i := 1) (v := (.pointer (some ⟨B, 0, none⟩))) rfl (by kernel_rfl) (by kernel_rfl) (by kernel_rfl) (by kernel_rfl) (by kernel_rfl) (by kernel_rfl) (by kernel_rfl) (by kernel_rfl) (fun _ _ _ h => h) (Or.inl ⟨by rfl, ?hy⟩) T0 ?_
      case hy =>
        intro X hX
        go_simp
      try simp only [Act.put, List.getElem_toArray, List.getElem_cons_zero, List.getElem_cons_succ, List.setIfInBounds_toArray, List.set_cons_zero, List.set_cons_succ]
      refine wpAnyG_take [2, 3, 4, 11, 14] (i := 2) (v := (.pointer (some ⟨B, 0, none⟩))) rfl (by kernel_rfl) (by kernel_rfl) (by kernel_rfl) (by kernel_rfl) (by kernel_rfl) (by kernel_rfl) (by kernel_rfl) (by kernel_rfl) (fun _ _ _ h => h) (Or.inl ⟨by rfl, ?hy⟩) T0 ?_
      case hy =>
        intro X hX
        go_simp
      try simp only [Act.put, List.getElem_toArray, List.getElem_cons_zero, List.getElem_cons_succ, List.setIfInBounds_toArray, List.set_cons_zero, List.set_cons_succ]
      refine wpAnyG_take [3, 4, 11, 14] (i := 3) (v := (.pointer (some ⟨B, 0, none⟩))) rfl (by kernel_rfl) (by kernel_rfl) (by kernel_rfl) (by kernel_rfl) (by kernel_rfl) (by kernel_rfl) (by kernel_rfl) (by kernel_rfl) (fun _ _ _ h => h) (Or.inl ⟨by rfl, ?hy⟩) T0 ?_
      case hy =>
        intro X hX
        go_simp
      try simp only [Act.put, List.getElem_toArray, List.getElem_cons_zero, List.getElem_cons_succ, List.setIfInBounds_toArray, List.set_cons_zero, List.set_cons_succ]
      refine wpAnyG_take [4, 11, 14] (i := 4) (v := vo) rfl (by kernel_rfl) (by kernel_rfl) (by kernel_rfl) (by kernel_rfl) (by kernel_rfl) (by kernel_rfl) (by kernel_rfl) (by kernel_rfl) (fun _ _ _ h => h) (Or.inl ⟨by rfl, ?hy⟩) T0 ?_
      case hy =>
        intro X hX
        have e0 := Blk.cell hX 0
        simp only [List.getElem?_toArray, List.getElem?_cons_zero] at e0
        go_simp
      try simp only [Act.put, List.getElem_toArray, List.getElem_cons_zero, List.getElem_cons_succ, List.setIfInBounds_toArray, List.set_cons_zero, List.set_cons_succ]
      refine wpAnyG_take [5, 6, 7, 8, 9, 10, 11, 14] (i := 5) (v := (.pointer (some ⟨B, 0, none⟩))) rfl (by kernel_rfl) (by kernel_rfl) (by kernel_rfl) (by kernel_rfl) (by kernel_rfl) (by kernel_rfl) (by kernel_rfl) (by kernel_rfl) (fun _ _ _ h => h) (Or.inl ⟨by rfl, ?hy⟩) T0 ?_
      case hy =>
        intro X hX
        go_simp
      try simp only [Act.put, List.getElem_toArray, List.getElem_cons_zero, List.getElem_cons_succ, List.setIfInBounds_toArray, List.set_cons_zero, List.set_cons_succ]
      refine wpAnyG_take [6, 7, 8, 9, 10, 11, 14] (i := 6) (v := (.pointer (some ⟨B, 0, none⟩))) rfl (by kernel_rfl) (by kernel_rfl) (by kernel_rfl) (by kernel_rfl) (by kernel_rfl) (by kernel_rfl) (by kernel_rfl) (by kernel_rfl) (fun _ _ _ h => h) (Or.inl ⟨by rfl, ?hy⟩) T0 ?_
      case hy =>
        intro X hX
        go_simp
      try simp only [Act.put, List.getElem_toArray, List.getElem_cons_zero, List.getElem_cons_succ, List.setIfInBounds_toArray, List.set_cons_zero, List.set_cons_succ]
      refine wpAnyG_take [7, 8, 9, 10, 11, 14] (i := 7) (v := (.pointer (some ⟨B, 1, none⟩))) rfl (by kernel_rfl) (by kernel_rfl) (by kernel_rfl) (by kernel_rfl) (by kernel_rfl) (by kernel_rfl) (by kernel_rfl) (by kernel_rfl) (fun _ _ _ h => h) (Or.inl ⟨by rfl, ?hy⟩) T0 ?_
      case hy =>
        intro X hX
        go_simp
      try simp only [Act.put, List.getElem_toArray, List.getElem_cons_zero, List.getElem_cons_succ, List.setIfInBounds_toArray, List.set_cons_zero, List.set_cons_succ]
      refine wpAnyG_take [8, 9, 10, 11, 14] (i := 8) (v := (.string pu)) rfl (by kernel_rfl) (by kernel_rfl) (by kernel_rfl) (by kernel_rfl) (by kernel_rfl) (by kernel_rfl) (by kernel_rfl) (by kernel_rfl) (fun _ _ _ h => h) (Or.inl ⟨by rfl, ?hy⟩) T0 ?_
      case hy =>
        intro X hX
        have e0 := Blk.cell hX 1
        simp only [List.getElem?_toArray, List.getElem?_cons_zero, List.getElem?_cons_succ] at e0
        go_simp
      try simp only [Act.put, List.getElem_toArray, List.getElem_cons_zero, List.getElem_cons_succ, List.setIfInBounds_toArray, List.set_cons_zero, List.set_cons_succ]
      refine wpAnyG_take [9, 10, 11, 14] (i := 9) (v := (.agg #[.int .i64 0, .string .empty, .string pu])) rfl (by kernel_rfl) (by kernel_rfl) (by kernel_rfl) (by kernel_rfl) (by kernel_rfl) (by kernel_rfl) (by kernel_rfl) (by kernel_rfl) (fun _ _ _ h => h) (Or.inl ⟨by rfl, ?hy⟩) T0 ?_
      case hy =>
        intro X hX
        (go_simp; try rfl)
      try simp only [Act.put, List.getElem_toArray, List.getElem_cons_zero, List.getElem_cons_succ, List.setIfInBounds_toArray, List.set_cons_zero, List.set_cons_succ]
      refine wpAnyG_all (rs := [10]) (by kernel_rfl) (by simp) ?_
      intro i hi
      simp only [List.mem_cons, List.not_mem_nil, or_false] at hi
      subst hi
      refine wpOp_now rfl rfl ?_
      go_simp
      have U1 := U0.alloc U0.size (.cells #[.int .i64 0, .string .empty, .string pu] 64)
      have hown1 := own_below HM.out.ro U1
      have hnew := World.alloc_heap_new X0 (.cells #[.int .i64 0, .string .empty, .string pu] 64)
      have hbX := Nat.le_trans HM.out.bw U1.size
      have T1 := HM.out.blk.below' U1
      refine ⟨fun _ => T1, ?_⟩
      try simp only [Act.put, List.getElem_toArray, List.getElem_cons_zero, List.getElem_cons_succ, List.setIfInBounds_toArray, List.set_cons_zero, List.set_cons_succ]
      refine wpAnyG_all (rs := [11]) (by kernel_rfl) (by simp) ?_
      intro i hi
      simp only [List.mem_cons, List.not_mem_nil, or_false] at hi
      subst hi
      refine wpOp_now rfl rfl ?_
      refine opwp_append2 _ _ 29 rfl b 64 j0 (.agg #[.int .i64 0, .string .empty, .string .empty]) 3 40 Try.underlying29 hj hy0 hy1 hy2 rfl (by decide) _ _ _ rfl hown1 ⟨X0.heap.size, 0, none⟩ 1 1 [.int .i64 0, .string .empty, .string pu] rfl rfl (World.news_of_block (cs := #[.int .i64 0, .string .empty, .string pu]) (t := 64) (fr := (0, 0)) hnew) (fun x hx => by simp at hx; rcases hx with rfl | rfl | rfl <;> rfl) (by unfold maxLen; (try simp only [List.length_append, List.length_cons, List.length_nil]); omega) (by (try simp only [List.length_append, List.length_cons, List.length_nil]); omega) hbX ?_
      intro v3 w3 hown3 hg3 hv3
      have hA := DkB.add (x := ⟨0, .empty, pu⟩) HM.out U1 hown3 hg3 hv3
      have T3 := Blk.kept T1 hg3 (Blk.not_row T1 (by decide) hown1)
      have k3 := Blk.frozen T3 0
      have k0 : w3.cell? ⟨B, 0, none⟩ = some vo := Blk.cell T3 0
      obtain ⟨ov3, cv3, rfl, _⟩ := own_slice hown3
      have HA := Lib.hid hA
      clear hA hown3 hg3 hv3 hown1 hnew T0 T1 U0 U1 hbX
      refine ⟨fun _ => T3, ?_⟩
      try simp only [Act.put, List.getElem_toArray, List.getElem_cons_zero, List.getElem_cons_succ, List.setIfInBounds_toArray, List.set_cons_zero, List.set_cons_succ]
      refine wpAnyG_all (rs := [12]) (by kernel_rfl) (by simp) ?_
      intro i hi
      simp only [List.mem_cons, List.not_mem_nil, or_false] at hi
      subst hi
      refine wpOp_now rfl rfl ?_
      go_simp
      refine ⟨fun _ => T3, ?_⟩
      try simp only [Act.put, List.getElem_toArray, List.getElem_cons_zero, List.getElem_cons_succ, List.setIfInBounds_toArray, List.set_cons_zero, List.set_cons_succ]
      refine wpAnyG_all (rs := [13]) (by kernel_rfl) (by simp) ?_
      intro i hi
      simp only [List.mem_cons, List.not_mem_nil, or_false] at hi
      subst hi
      refine wpOp_now rfl rfl ?_
      go_simp
      refine ⟨fun _ => T3, ?_⟩
      try simp only [Act.put, List.getElem_toArray, List.getElem_cons_zero, List.getElem_cons_succ, List.setIfInBounds_toArray, List.set_cons_zero, List.set_cons_succ]
      refine wpAnyG_all (rs := [14]) (by kernel_rfl) (by simp) ?_
      intro i hi
      simp only [List.mem_cons, List.not_mem_nil, or_false] at hi
      subst hi
      refine wpOp_now rfl rfl ?_
      go_simp
      refine ⟨fun h => (nomatch (show (false : Bool) = true from h)), ?_⟩
      refine wpAnyG_done (by kernel_rfl) ?_ _
      refine NoPanic.normal ?_
      have hA := HA.out
      obtain ⟨y0, y1, y2⟩ := hA.1.cells
      clear hA k3 k0 c0 c1 c2 T3
      go_wp2
      have hA := HA.out
      obtain ⟨Y, hY⟩ : ∃ Y, w3.setCell ⟨B, 0, none⟩ (.slice ov3 (L.length + 1) cv3) = Y := ⟨_, rfl⟩
      rw [hY] at hA ⊢
      obtain ⟨v4, hv4⟩ : ∃ v, Value.slice ov3 (L.length + 1) cv3 = v := ⟨_, rfl⟩
      rw [hv4] at hA
      obtain ⟨L2, hL2⟩ : ∃ L2, L ++ [⟨0, .empty, pu⟩] = L2 := ⟨_, rfl⟩
      rw [hL2] at hA
      have hl2 : L2.length ≤ 1000000001 := by rw [← hL2]; simp; omega
      have HL2 := Lib.hid hL2
      clear hL2
      have HB := Lib.hid hA.1
      have HKB := Lib.hid hA.2
      clear hA HA hY hv4 y0 y1 y2
      refine wp_region_noPanic ?_
      refine wp_region_g (S := untilG [14] (fun X => Blk X B #[v4, .string pu, .string dr] 70)) (by kernel_rfl) ?_
      obtain ⟨X0, hX0⟩ : ∃ Z, Y.drew = Z := ⟨_, rfl⟩
      have U0 : Below Y.heap.size Y X0 := hX0 ▸ (Below.refl Y.heap.size Y).drew
      have T0 := HB.out.blk.below' U0
      rw [hX0]
      clear hX0
      refine wpAnyG_take [0, 12, 13, 14] (i := 0) (v := (.pointer (some ⟨B, 0, none⟩))) rfl (by kernel_rfl) (by kernel_rfl) (by kernel_rfl) (by kernel_rfl) (by kernel_rfl) (by kernel_rfl) (by kernel_rfl) (by kernel_rfl) (fun _ _ _ h => h) (Or.inl ⟨by rfl, ?hy⟩) T0 ?_
      case hy =>
        intro X hX
        go_simp
      try simp only [Act.put, List.getElem_toArray, List.getElem_cons_zero, List.getElem_cons_succ, List.setIfInBounds_toArray, List.set_cons_zero, List.set_cons_succ]
      refine wpAnyG_take [1, 2, 3, 4, 11, 14] (i := 1) (v := (.pointer (some ⟨B, 0, none⟩))) rfl (by kernel_rfl) (by kernel_rfl) (by kernel_rfl) (by kernel_rfl) (by kernel_rfl) (by kernel_rfl) (by kernel_rfl) (by kernel_rfl) (fun _ _ _ h => h) (Or.inl ⟨by rfl, ?hy⟩) T0 ?_
      case hy =>
        intro X hX
        go_simp
      try simp only [Act.put, List.getElem_toArray, List.getElem_cons_zero, List.getElem_cons_succ, List.setIfInBounds_toArray, List.set_cons_zero, List.set_cons_succ]
      refine wpAnyG_take [2, 3, 4, 11, 14] (i := 2) (v := (.pointer (some ⟨B, 0, none⟩))) rfl (by kernel_rfl) (by kernel_rfl) (by kernel_rfl) (by kernel_rfl) (by kernel_rfl) (by kernel_rfl) (by kernel_rfl) (by kernel_rfl) (fun _ _ _ h => h) (Or.inl ⟨by rfl, ?hy⟩) T0 ?_
      case hy =>
        intro X hX
        go_simp
      try simp only [Act.put, List.getElem_toArray, List.getElem_cons_zero, List.getElem_cons_succ, List.setIfInBounds_toArray, List.set_cons_zero, List.set_cons_succ]
      refine wpAnyG_take [3, 4, 11, 14] (i := 3) (v := (.pointer (some ⟨B, 0, none⟩))) rfl (by kernel_rfl) (by kernel_rfl) (by kernel_rfl) (by kernel_rfl) (by kernel_rfl) (by kernel_rfl) (by kernel_rfl) (by kernel_rfl) (fun _ _ _ h => h) (Or.inl ⟨by rfl, ?hy⟩) T0 ?_
      case hy =>
        intro X hX
        go_simp
      try simp only [Act.put, List.getElem_toArray, List.getElem_cons_zero, List.getElem_cons_succ, List.setIfInBounds_toArray, List.set_cons_zero, List.set_cons_succ]
      refine wpAnyG_take [4, 11, 14] (i := 4) (v := v4) rfl (by kernel_rfl) (by kernel_rfl) (by kernel_rfl) (by kernel_rfl) (by kernel_rfl) (by kernel_rfl) (by kernel_rfl) (by kernel_rfl) (fun _ _ _ h => h) (Or.inl ⟨by rfl, ?hy⟩) T0 ?_
      case hy =>
        intro X hX
        have e0 := Blk.cell hX 0
        simp only [List.getElem?_toArray, List.getElem?_cons_zero] at e0
        go_simp
      try simp only [Act.put, List.getElem_toArray, List.getElem_cons_zero, List.getElem_cons_succ, List.setIfInBounds_toArray, List.set_cons_zero, List.set_cons_succ]
      refine wpAnyG_take [5, 6, 7, 8, 9, 10, 11, 14] (i := 5) (v := (.pointer (some ⟨B, 0, none⟩))) rfl (by kernel_rfl) (by kernel_rfl) (by kernel_rfl) (by kernel_rfl) (by kernel_rfl) (by kernel_rfl) (by kernel_rfl) (by kernel_rfl) (fun _ _ _ h => h) (Or.inl ⟨by rfl, ?hy⟩) T0 ?_
      case hy =>
        intro X hX
        go_simp
      try simp only [Act.put, List.getElem_toArray, List.getElem_cons_zero, List.getElem_cons_succ, List.setIfInBounds_toArray, List.set_cons_zero, List.set_cons_succ]
      refine wpAnyG_take [6, 7, 8, 9, 10, 11, 14] (i := 6) (v := (.pointer (some ⟨B, 0, none⟩))) rfl (by kernel_rfl) (by kernel_rfl) (by kernel_rfl) (by kernel_rfl) (by kernel_rfl) (by kernel_rfl) (by kernel_rfl) (by kernel_rfl) (fun _ _ _ h => h) (Or.inl ⟨by rfl, ?hy⟩) T0 ?_
      case hy =>
        intro X hX
        go_simp
      try simp only [Act.put, List.getElem_toArray, List.getElem_cons_zero, List.getElem_cons_succ, List.setIfInBounds_toArray, List.set_cons_zero, List.set_cons_succ]
      refine wpAnyG_take [7, 8, 9, 10, 11, 14] (i := 7) (v := (.pointer (some ⟨B, 2, none⟩))) rfl (by kernel_rfl) (by kernel_rfl) (by kernel_rfl) (by kernel_rfl) (by kernel_rfl) (by kernel_rfl) (by kernel_rfl) (by kernel_rfl) (fun _ _ _ h => h) (Or.inl ⟨by rfl, ?hy⟩) T0 ?_
      case hy =>
        intro X hX
        go_simp
      try simp only [Act.put, List.getElem_toArray, List.getElem_cons_zero, List.getElem_cons_succ, List.setIfInBounds_toArray, List.set_cons_zero, List.set_cons_succ]
      refine wpAnyG_take [8, 9, 10, 11, 14] (i := 8) (v := (.string dr)) rfl (by kernel_rfl) (by kernel_rfl) (by kernel_rfl) (by kernel_rfl) (by kernel_rfl) (by kernel_rfl) (by kernel_rfl) (by kernel_rfl) (fun _ _ _ h => h) (Or.inl ⟨by rfl, ?hy⟩) T0 ?_
      case hy =>
        intro X hX
        have e0 := Blk.cell hX 2
        simp only [List.getElem?_toArray, List.getElem?_cons_zero, List.getElem?_cons_succ] at e0
        go_simp
      try simp only [Act.put, List.getElem_toArray, List.getElem_cons_zero, List.getElem_cons_succ, List.setIfInBounds_toArray, List.set_cons_zero, List.set_cons_succ]
      refine wpAnyG_take [9, 10, 11, 14] (i := 9) (v := (.agg #[.int .i64 0, .string dr, .string .empty])) rfl (by kernel_rfl) (by kernel_rfl) (by kernel_rfl) (by kernel_rfl) (by kernel_rfl) (by kernel_rfl) (by kernel_rfl) (by kernel_rfl) (fun _ _ _ h => h) (Or.inl ⟨by rfl, ?hy⟩) T0 ?_
      case hy =>
        intro X hX
        (go_simp; try rfl)
      try simp only [Act.put, List.getElem_toArray, List.getElem_cons_zero, List.getElem_cons_succ, List.setIfInBounds_toArray, List.set_cons_zero, List.set_cons_succ]
      refine wpAnyG_all (rs := [10]) (by kernel_rfl) (by simp) ?_
      intro i hi
      simp only [List.mem_cons, List.not_mem_nil, or_false] at hi
      subst hi
      refine wpOp_now rfl rfl ?_
      go_simp
      have U1 := U0.alloc U0.size (.cells #[.int .i64 0, .string dr, .string .empty] 64)
      have hown1 := own_below HB.out.ro U1
      have hnew := World.alloc_heap_new X0 (.cells #[.int .i64 0, .string dr, .string .empty] 64)
      have hbX := Nat.le_trans HB.out.bw U1.size
      have T1 := HB.out.blk.below' U1
      refine ⟨fun _ => T1, ?_⟩
      try simp only [Act.put, List.getElem_toArray, List.getElem_cons_zero, List.getElem_cons_succ, List.setIfInBounds_toArray, List.set_cons_zero, List.set_cons_succ]
      refine wpAnyG_all (rs := [11]) (by kernel_rfl) (by simp) ?_
      intro i hi
      simp only [List.mem_cons, List.not_mem_nil, or_false] at hi
      subst hi
      refine wpOp_now rfl rfl ?_
      refine opwp_append2 _ _ 29 rfl b 64 j0 (.agg #[.int .i64 0, .string .empty, .string .empty]) 3 40 Try.underlying29 hj hy0 hy1 hy2 rfl (by decide) _ _ _ rfl hown1 ⟨X0.heap.size, 0, none⟩ 1 1 [.int .i64 0, .string dr, .string .empty] rfl rfl (World.news_of_block (cs := #[.int .i64 0, .string dr, .string .empty]) (t := 64) (fr := (0, 0)) hnew) (fun x hx => by simp at hx; rcases hx with rfl | rfl | rfl <;> rfl) (by unfold maxLen; (try simp only [List.length_append, List.length_cons, List.length_nil]); omega) (by (try simp only [List.length_append, List.length_cons, List.length_nil]); omega) hbX ?_
      intro v3 w3 hown3 hg3 hv3
      have hA := DkB.add (x := ⟨0, dr, .empty⟩) HB.out U1 hown3 hg3 hv3
      have T3 := Blk.kept T1 hg3 (Blk.not_row T1 (by decide) hown1)
      have k3 := Blk.frozen T3 0
      have k0 : w3.cell? ⟨B, 0, none⟩ = some v4 := Blk.cell T3 0
      obtain ⟨ov3, cv3, rfl, _⟩ := own_slice hown3
      have HA := Lib.hid hA
      clear hA hown3 hg3 hv3 hown1 hnew T0 T1 U0 U1 hbX
      refine ⟨fun _ => T3, ?_⟩
      try simp only [Act.put, List.getElem_toArray, List.getElem_cons_zero, List.getElem_cons_succ, List.setIfInBounds_toArray, List.set_cons_zero, List.set_cons_succ]
      refine wpAnyG_all (rs := [12]) (by kernel_rfl) (by simp) ?_
      intro i hi
      simp only [List.mem_cons, List.not_mem_nil, or_false] at hi
      subst hi
      refine wpOp_now rfl rfl ?_
      go_simp
      refine ⟨fun _ => T3, ?_⟩
      try simp only [Act.put, List.getElem_toArray, List.getElem_cons_zero, List.getElem_cons_succ, List.setIfInBounds_toArray, List.set_cons_zero, List.set_cons_succ]
      refine wpAnyG_all (rs := [13]) (by kernel_rfl) (by simp) ?_
      intro i hi
      simp only [List.mem_cons, List.not_mem_nil, or_false] at hi
      subst hi
      refine wpOp_now rfl rfl ?_
      go_simp
      refine ⟨fun _ => T3, ?_⟩
      try simp only [Act.put, List.getElem_toArray, List.getElem_cons_zero, List.getElem_cons_succ, List.setIfInBounds_toArray, List.set_cons_zero, List.set_cons_succ]
      refine wpAnyG_all (rs := [14]) (by kernel_rfl) (by simp) ?_
      intro i hi
      simp only [List.mem_cons, List.not_mem_nil, or_false] at hi
      subst hi
      refine wpOp_now rfl rfl ?_
      go_simp
      refine ⟨fun h => (nomatch (show (false : Bool) = true from h)), ?_⟩
      refine wpAnyG_done (by kernel_rfl) ?_ _
      refine NoPanic.normal ?_
      have hA := HA.out
      obtain ⟨y0, y1, y2⟩ := hA.1.cells
      have f1 := hA.1.blk.frozen 1
      have f2 := hA.1.blk.frozen 2
      clear hA k3 k0
      go_wp2
      refine bodyPost_end (results_none rfl _ _ _) rfl ?_
      exact ⟨rfl, _, by rw [HF.out, ← List.append_assoc, HL2.out]; exact (HA.out.1.setP .empty).setD .empty, ((HKB.out.trans HA.out.2).trans (KpD.set HA.out.1 1 _)).trans (KpD.set (HA.out.1.setP .empty) 2 _)⟩
end Go.Proofs.Ytepbplmggladfaa

/- Stage 27: the document's maker: drop, keep. -/
namespace Go.Proofs.Ytepbplmggladfaa
set_option linter.unusedVariables false
set_option linter.unusedSimpArgs false
open Go Go.RowKit Go.Shelf
set_option maxRecDepth 100000

theorem row_one (X : World) (b : Nat) (c : UInt8) (hb : b ≤ X.heap.size) : (X.alloc (.cells #[.int .u8 c.toNat] 5)).ownsRow b 5 1 (.slice (some ⟨X.heap.size, 0, none⟩) 1 1) 1 (Lib.strCells ⟨#[c]⟩) :=
  World.ownsRow_lit (base := b) (e := 5) (size := 1) X #[.int .u8 c.toNat] 1 hb (by unfold maxLen; omega) rfl
set_option maxHeartbeats 4000000 in
theorem ddrop_any {W : World} {B b : Nat} {vL : Value} {L : List Sp} {pu dr : ByteArray} (h : DkB W B b vL L pu dr) (c : UInt8) (hd : dr.size ≤ 1000000) :
    Calls Try.prog 36 #[.pointer (some ⟨B, 0, none⟩), .int .u8 c.toNat] W fun e W' => e = .returned (.tuple #[]) ∧ DkB W' B b vL L pu (dr ++ ⟨#[c]⟩) ∧ KpD B vL vL W W' := by
  have hsz : (9223372036854775807 < dr.size + 1) = False := eq_false (by omega)
  have HM := Lib.hid h
  clear h
  go_enter Try.func36, Try.ntmps36
  go_wp2
  refine wp_region_noPanic ?_
  refine wp_region_g (S := untilG [11] (fun X => Blk X B #[vL, .string pu, .string dr] 70)) (by kernel_rfl) ?_
  obtain ⟨X0, hX0⟩ : ∃ Z, W.drew = Z := ⟨_, rfl⟩
  have U0 : Below W.heap.size W X0 := hX0 ▸ (Below.refl W.heap.size W).drew
  have T0 := HM.out.blk.below' U0
  rw [hX0]
  clear hX0
  refine wpAnyG_take [0, 9, 10, 11] (i := 0) (v := (.pointer (some ⟨B, 0, none⟩))) rfl (by kernel_rfl) (by kernel_rfl) (by kernel_rfl) (by kernel_rfl) (by kernel_rfl) (by kernel_rfl) (by kernel_rfl) (by kernel_rfl) (fun _ _ _ h => h) (Or.inl ⟨by rfl, ?hy⟩) T0 ?_
  case hy =>
    intro X hX
    go_simp
  try simp only [Act.put, List.getElem_toArray, List.getElem_cons_zero, List.getElem_cons_succ, List.setIfInBounds_toArray, List.set_cons_zero, List.set_cons_succ]
  refine wpAnyG_take [1, 2, 3, 4, 8, 11] (i := 1) (v := (.pointer (some ⟨B, 0, none⟩))) rfl (by kernel_rfl) (by kernel_rfl) (by kernel_rfl) (by kernel_rfl) (by kernel_rfl) (by kernel_rfl) (by kernel_rfl) (by kernel_rfl) (fun _ _ _ h => h) (Or.inl ⟨by rfl, ?hy⟩) T0 ?_
  case hy =>
    intro X hX
    go_simp
  try simp only [Act.put, List.getElem_toArray, List.getElem_cons_zero, List.getElem_cons_succ, List.setIfInBounds_toArray, List.set_cons_zero, List.set_cons_succ]
  refine wpAnyG_take [2, 3, 4, 8, 11] (i := 2) (v := (.pointer (some ⟨B, 0, none⟩))) rfl (by kernel_rfl) (by kernel_rfl) (by kernel_rfl) (by kernel_rfl) (by kernel_rfl) (by kernel_rfl) (by kernel_rfl) (by kernel_rfl) (fun _ _ _ h => h) (Or.inl ⟨by rfl, ?hy⟩) T0 ?_
  case hy =>
    intro X hX
    go_simp
  try simp only [Act.put, List.getElem_toArray, List.getElem_cons_zero, List.getElem_cons_succ, List.setIfInBounds_toArray, List.set_cons_zero, List.set_cons_succ]
  refine wpAnyG_take [3, 4, 8, 11] (i := 3) (v := (.pointer (some ⟨B, 2, none⟩))) rfl (by kernel_rfl) (by kernel_rfl) (by kernel_rfl) (by kernel_rfl) (by kernel_rfl) (by kernel_rfl) (by kernel_rfl) (by kernel_rfl) (fun _ _ _ h => h) (Or.inl ⟨by rfl, ?hy⟩) T0 ?_
  case hy =>
    intro X hX
    go_simp
  try simp only [Act.put, List.getElem_toArray, List.getElem_cons_zero, List.getElem_cons_succ, List.setIfInBounds_toArray, List.set_cons_zero, List.set_cons_succ]
  refine wpAnyG_take [4, 8, 11] (i := 4) (v := (.string dr)) rfl (by kernel_rfl) (by kernel_rfl) (by kernel_rfl) (by kernel_rfl) (by kernel_rfl) (by kernel_rfl) (by kernel_rfl) (by kernel_rfl) (fun _ _ _ h => h) (Or.inl ⟨by rfl, ?hy⟩) T0 ?_
  case hy =>
    intro X hX
    have e0 := Blk.cell hX 2
    simp only [List.getElem?_toArray, List.getElem?_cons_zero, List.getElem?_cons_succ] at e0
    go_simp
  try simp only [Act.put, List.getElem_toArray, List.getElem_cons_zero, List.getElem_cons_succ, List.setIfInBounds_toArray, List.set_cons_zero, List.set_cons_succ]
  refine wpAnyG_take [5, 6, 7, 8, 11] (i := 5) (v := (.int .u8 c.toNat)) rfl (by kernel_rfl) (by kernel_rfl) (by kernel_rfl) (by kernel_rfl) (by kernel_rfl) (by kernel_rfl) (by kernel_rfl) (by kernel_rfl) (fun _ _ _ h => h) (Or.inl ⟨by rfl, ?hy⟩) T0 ?_
  case hy =>
    intro X hX
    go_simp
  try simp only [Act.put, List.getElem_toArray, List.getElem_cons_zero, List.getElem_cons_succ, List.setIfInBounds_toArray, List.set_cons_zero, List.set_cons_succ]
  refine wpAnyG_all (rs := [6]) (by kernel_rfl) (by simp) ?_
  intro i hi
  simp only [List.mem_cons, List.not_mem_nil, or_false] at hi
  subst hi
  refine wpOp_now rfl rfl ?_
  go_simp
  have U1 := U0.alloc U0.size (.cells #[.int .u8 c.toNat] 5)
  have hrow := row_one X0 W.heap.size c U0.size
  have T1 := HM.out.blk.below' U1
  refine ⟨fun _ => T1, ?_⟩
  try simp only [Act.put, List.getElem_toArray, List.getElem_cons_zero, List.getElem_cons_succ, List.setIfInBounds_toArray, List.set_cons_zero, List.set_cons_succ]
  have ec := conv_own rfl hrow
  refine wpAnyG_all (rs := [7]) (by kernel_rfl) (by simp) ?_
  intro i hi
  simp only [List.mem_cons, List.not_mem_nil, or_false] at hi
  subst hi
  refine wpOp_now rfl rfl ?_
  go_simp
  refine ⟨fun _ => T1, ?_⟩
  try simp only [Act.put, List.getElem_toArray, List.getElem_cons_zero, List.getElem_cons_succ, List.setIfInBounds_toArray, List.set_cons_zero, List.set_cons_succ]
  refine wpAnyG_all (rs := [8]) (by kernel_rfl) (by simp) ?_
  intro i hi
  simp only [List.mem_cons, List.not_mem_nil, or_false] at hi
  subst hi
  refine wpOp_now rfl rfl ?_
  go_simp
  refine ⟨fun _ => T1, ?_⟩
  try simp only [Act.put, List.getElem_toArray, List.getElem_cons_zero, List.getElem_cons_succ, List.setIfInBounds_toArray, List.set_cons_zero, List.set_cons_succ]
  refine wpAnyG_all (rs := [9]) (by kernel_rfl) (by simp) ?_
  intro i hi
  simp only [List.mem_cons, List.not_mem_nil, or_false] at hi
  subst hi
  refine wpOp_now rfl rfl ?_
  go_simp
  refine ⟨fun _ => T1, ?_⟩
  try simp only [Act.put, List.getElem_toArray, List.getElem_cons_zero, List.getElem_cons_succ, List.setIfInBounds_toArray, List.set_cons_zero, List.set_cons_succ]
  refine wpAnyG_all (rs := [10]) (by kernel_rfl) (by simp) ?_
  intro i hi
  simp only [List.mem_cons, List.not_mem_nil, or_false] at hi
  subst hi
  refine wpOp_now rfl rfl ?_
  go_simp
  refine ⟨fun _ => T1, ?_⟩
  try simp only [Act.put, List.getElem_toArray, List.getElem_cons_zero, List.getElem_cons_succ, List.setIfInBounds_toArray, List.set_cons_zero, List.set_cons_succ]
  have k2 := Blk.cell T1 2
  have f2 := Blk.frozen T1 2
  simp only [List.getElem?_toArray, List.getElem?_cons_zero, List.getElem?_cons_succ] at k2
  refine wpAnyG_all (rs := [11]) (by kernel_rfl) (by simp) ?_
  intro i hi
  simp only [List.mem_cons, List.not_mem_nil, or_false] at hi
  subst hi
  refine wpOp_now rfl rfl ?_
  go_simp
  refine ⟨fun h => (nomatch (show (false : Bool) = true from h)), ?_⟩
  refine wpAnyG_done (by kernel_rfl) ?_ _
  refine NoPanic.normal ?_
  have HA := Lib.hid (And.intro ((HM.out.below U1).setD (dr ++ ⟨#[c]⟩)) ((KpD.of_below HM.out U1).trans (KpD.set (HM.out.below U1) 2 (.string (dr ++ ⟨#[c]⟩)))))
  clear T0 T1 U0 U1 hrow ec k2 f2
  go_wp2
  refine bodyPost_end (results_none rfl _ _ _) rfl ?_
  exact ⟨rfl, HA.out.1, HA.out.2⟩
/-- The last row that is kept grows, or a new one begins. -/
def kpD (n : Nat) (L : List Sp) : List Sp :=
  match L.getLast? with
  | some x => if 0 < x.k then L.dropLast ++ [⟨x.k + n, x.d, x.p⟩] else L ++ [⟨n, .empty, .empty⟩]
  | none => L ++ [⟨n, .empty, .empty⟩]
theorem DkB.setL {W : World} {B b g c : Nat} {L : List Sp} {pu dr : ByteArray} (h : DkB W B b (.slice (some ⟨g, 0, none⟩) L.length c) L pu dr) {i : Nat} {x : Sp} (hx : L[i]? = some x) (n : Int) :
    DkB (W.setCell ⟨g, i * 3, none⟩ (.int .i64 n)) B b (.slice (some ⟨g, 0, none⟩) L.length c) (L.set i ⟨n, x.d, x.p⟩) pu dr ∧ KpD B (.slice (some ⟨g, 0, none⟩) L.length c) (.slice (some ⟨g, 0, none⟩) L.length c) W (W.setCell ⟨g, i * 3, none⟩ (.int .i64 n)) := by
  have hi := (List.getElem?_eq_some_iff.1 hx).1
  have e1 : g ≠ B := fun e => Blk.not_row h.blk (by decide) h.ro (by rw [← e]; rfl)
  have r2 := own_setK h.ro (o := i * 3) (by omega) (.int .i64 n)
  have h9 := fl_set (enc := encS) (k := 3) encS_len hx (j := 0) (y := ⟨n, x.d, x.p⟩) (v := .int .i64 n) (by decide) rfl
  rw [Nat.add_zero] at h9
  rw [h9] at r2
  refine ⟨⟨h.blk.other (fun e => e1 e.symm) _ _, by rw [List.length_set]; exact r2, h.bb, by simpa using h.bw⟩, ⟨rfl, rfl, rfl, by simp, fun q hq hB hn => ⟨Below.heap_setCell _ _ _ _ (fun e => hn (by rw [e]; rfl)), hn⟩⟩⟩
set_option maxHeartbeats 16000000 in
theorem dkeep_any {W : World} {B b : Nat} {vL : Value} {L : List Sp} {pu dr : ByteArray} (h : DkB W B b vL L pu dr) (n : Nat) (hn : n ≤ 1000000) (hl : L.length ≤ 100000000) (hk : ∀ x ∈ L, x.k ≤ 1000000 ∧ -1000000 ≤ x.k) :
    Calls Try.prog 33 #[.pointer (some ⟨B, 0, none⟩), .int .i64 n] W fun e W' => e = .returned (.tuple #[]) ∧ ((n = 0 ∧ DkB W' B b vL L pu dr ∧ KpD B vL vL W W') ∨ (0 < n ∧ ∃ v', DkB W' B b v' (kpD n (L ++ flD pu dr)) .empty .empty ∧ KpD B vL v' W W')) := by
  obtain ⟨j0, hj, hy0, hy1, hy2⟩ := info_parts infoStep
  by_cases h0 : n = 0
  · subst h0
    have HM := Lib.hid h
    clear h
    go_enter Try.func33, Try.ntmps33
    go_wp2
    refine bodyPost_ret (results_none rfl _ _ _) rfl ?_
    exact ⟨by first | rfl | trivial, .inl ⟨by first | rfl | trivial, HM.out, KpD.refl _ _ _⟩⟩
  · have n1 : ((n : Int) == 0) = false := by rw [beq_eq_false_iff_ne]; omega
    have n2 : (n == 0) = false := by rw [beq_eq_false_iff_ne]; omega
    have hfl : (flD pu dr).length ≤ 2 ∧ ∀ x ∈ flD pu dr, x.k = 0 := by
      unfold flD
      refine ⟨by split <;> split <;> simp, fun x hx => ?_⟩
      rcases List.mem_append.1 hx with hx | hx
      · split at hx
        · simp only [List.mem_singleton] at hx; subst hx; rfl
        · cases hx
      · split at hx
        · simp only [List.mem_singleton] at hx; subst hx; rfl
        · cases hx
    have cE := dend_any h (by omega)
    have hl2 : (L ++ flD pu dr).length ≤ 100000002 := by rw [List.length_append]; omega
    have hk2 : ∀ x ∈ L ++ flD pu dr, x.k ≤ 1000000 ∧ -1000000 ≤ x.k := fun x hx => by
      rcases List.mem_append.1 hx with hx | hx
      · exact hk x hx
      · have := hfl.2 x hx; omega
    obtain ⟨M, hM⟩ : ∃ M, L ++ flD pu dr = M := ⟨_, rfl⟩
    rw [hM] at cE hl2 hk2 ⊢
    have H0 := Lib.hid h0
    clear h hfl hM h0 hl hk
    go_enter Try.func33, Try.ntmps33
    go_wp2_with (fail)
    refine cE.mono ?_
    rintro e V ⟨rfl, v1, hV, hKV⟩
    clear cE
    obtain ⟨c0, c1, c2⟩ := hV.cells
    obtain ⟨ov, cv, rfl, hgo⟩ := own_slice hV.ro
    rcases List.eq_nil_or_concat M with hM | ⟨M0, x, hM⟩
    · subst hM
      have HV := Lib.hid (And.intro hV hKV)
      have HB := Lib.hid (Blk.new V #[.int .i64 n, .string .empty, .string .empty] 64)
      have jw : IntKind.i64.wrap ((0 : Int) - 1) = -1 := by rfl
      clear hV hKV hgo
      simp only [List.length_nil] at c0
      go_wp2_with (at_builtin; refine wpList_append_own_at _ rfl _ _ 29 rfl b 64 j0 (.agg #[.int .i64 0, .string .empty, .string .empty]) 3 40 Try.underlying29 hj hy0 hy1 hy2 rfl (by decide) _ _ _ rfl (own_below HV.out.1.ro ((Below.refl V.heap.size V).alloc (Nat.le_refl _) (.cells #[.int .i64 n, .string .empty, .string .empty] 64))) ⟨V.heap.size, 0, none⟩ 1 1 [.int .i64 n, .string .empty, .string .empty] rfl rfl (World.news_of_block (cs := #[.int .i64 n, .string .empty, .string .empty]) (t := 64) (fr := (0, 0)) HB.out) (fun x hx => by simp at hx; rcases hx with rfl | rfl | rfl <;> rfl) (by unfold maxLen; (try simp only [List.length_nil]); omega) (by (try simp only [List.length_nil]); omega) (by simp; have := HV.out.1.bw; omega) ?_; intro v3 w3 hown3 hg3 _ hv3; have T3 := Blk.kept (HV.out.1.blk.below' ((Below.refl V.heap.size V).alloc (Nat.le_refl _) (.cells #[.int .i64 n, .string .empty, .string .empty] 64))) hg3 (Blk.not_row (HV.out.1.blk.below' ((Below.refl V.heap.size V).alloc (Nat.le_refl _) (.cells #[.int .i64 n, .string .empty, .string .empty] 64))) (by decide) (own_below HV.out.1.ro ((Below.refl V.heap.size V).alloc (Nat.le_refl _) (.cells #[.int .i64 n, .string .empty, .string .empty] 64)))); have k3 := Blk.frozen T3 0; have k0 := Blk.cell T3 0; simp only [List.getElem?_toArray, List.getElem?_cons_zero] at k0; obtain ⟨ov3, cv3, rfl, _⟩ := own_slice hown3; have HA := Lib.hid (DkB.add (x := ⟨n, .empty, .empty⟩) HV.out.1 ((Below.refl V.heap.size V).alloc (Nat.le_refl _) (.cells #[.int .i64 n, .string .empty, .string .empty] 64)) hown3 hg3 hv3); clear hown3 hg3 hv3 T3)
      refine bodyPost_end (results_none rfl _ _ _) rfl ?_
      exact ⟨rfl, .inr ⟨by have := H0.out; omega, _, HA.out.1, HV.out.2.trans HA.out.2⟩⟩
    · have hM' : M = M0 ++ [x] := by rw [hM, List.concat_eq_append]
      have hlen : M.length = M0.length + 1 := by rw [hM']; simp
      have hx : M[M0.length]? = some x := by rw [hM']; simp
      have hxb := hk2 x (by rw [hM']; simp)
      obtain ⟨g, rfl⟩ := hgo (by omega)
      have hcell : V.cell? ⟨g, M0.length * 3, none⟩ = some (.int .i64 x.k) := by
        obtain ⟨g', o', e', hc⟩ := RowAt.of_own encS_len hV.ro rfl M0.length x hx
        cases e'
        have := hc 0 (by decide)
        simpa [encS] using this
      obtain ⟨N, hN⟩ : ∃ N, M0.length = N := ⟨_, rfl⟩
      rw [hN] at hcell hx hlen
      have jw : IntKind.i64.wrap ((M.length : Int) - 1) = (N : Int) := by rw [IntWalk.i64_in _ (by omega)]; omega
      have jk : ((N : Int) < (M.length : Int)) := by omega
      have jN : (0 : Int) ≤ (N : Int) := by omega
      have dN : decide ((0 : Int) ≤ (N : Int)) = true := decide_eq_true jN
      by_cases hx0 : 0 < x.k
      · have dx : decide ((0 : Int) < x.k) = true := decide_eq_true hx0
        have js : IntKind.i64.wrap (x.k + (n : Int)) = x.k + (n : Int) := IntWalk.i64_in _ (by omega)
        have hkp : kpD n M = M.set N ⟨x.k + n, x.d, x.p⟩ := by
          unfold kpD
          rw [hM', List.getLast?_append, List.getLast?_singleton]
          simp only [Option.some_or]
          rw [if_pos hx0, List.dropLast_concat, ← hN, List.set_append_right _ _ (Nat.le_refl _)]
          simp
        have HV := Lib.hid (And.intro hV (And.intro hKV (And.intro hx hkp)))
        clear hV hKV hM hM' hx hkp hlen hN
        go_wp2
        refine wp_region_noPanic ?_
        refine wp_region_g (S := untilG [17] (fun X => Below V.heap.size V X)) (by kernel_rfl) ?_
        obtain ⟨X0, hX0⟩ : ∃ Z, V.drew = Z := ⟨_, rfl⟩
        have T0 : Below V.heap.size V X0 := hX0 ▸ (Below.refl V.heap.size V).drew
        rw [hX0]
        clear hX0
        refine wpAnyG_take [0, 1, 2, 3, 15, 16, 17] (i := 0) (v := (.pointer (some ⟨B, 0, none⟩))) rfl (by kernel_rfl) (by kernel_rfl) (by kernel_rfl) (by kernel_rfl) (by kernel_rfl) (by kernel_rfl) (by kernel_rfl) (by kernel_rfl) (fun _ _ _ h => h) (Or.inl ⟨by rfl, ?hy⟩) T0 ?_
        case hy =>
          intro X hX
          go_simp
        try simp only [Act.put, List.getElem_toArray, List.getElem_cons_zero, List.getElem_cons_succ, List.setIfInBounds_toArray, List.set_cons_zero, List.set_cons_succ]
        refine wpAnyG_take [1, 2, 3, 15, 16, 17] (i := 1) (v := (.pointer (some ⟨B, 0, none⟩))) rfl (by kernel_rfl) (by kernel_rfl) (by kernel_rfl) (by kernel_rfl) (by kernel_rfl) (by kernel_rfl) (by kernel_rfl) (by kernel_rfl) (fun _ _ _ h => h) (Or.inl ⟨by rfl, ?hy⟩) T0 ?_
        case hy =>
          intro X hX
          go_simp
        try simp only [Act.put, List.getElem_toArray, List.getElem_cons_zero, List.getElem_cons_succ, List.setIfInBounds_toArray, List.set_cons_zero, List.set_cons_succ]
        refine wpAnyG_take [2, 3, 15, 16, 17] (i := 2) (v := (.pointer (some ⟨B, 0, none⟩))) rfl (by kernel_rfl) (by kernel_rfl) (by kernel_rfl) (by kernel_rfl) (by kernel_rfl) (by kernel_rfl) (by kernel_rfl) (by kernel_rfl) (fun _ _ _ h => h) (Or.inl ⟨by rfl, ?hy⟩) T0 ?_
        case hy =>
          intro X hX
          go_simp
        try simp only [Act.put, List.getElem_toArray, List.getElem_cons_zero, List.getElem_cons_succ, List.setIfInBounds_toArray, List.set_cons_zero, List.set_cons_succ]
        refine wpAnyG_take [3, 15, 16, 17] (i := 3) (v := (.slice (some ⟨g, 0, none⟩) M.length cv)) rfl (by kernel_rfl) (by kernel_rfl) (by kernel_rfl) (by kernel_rfl) (by kernel_rfl) (by kernel_rfl) (by kernel_rfl) (by kernel_rfl) (fun _ _ _ h => h) (Or.inl ⟨by rfl, ?hy⟩) T0 ?_
        case hy =>
          intro X hX
          have e0 := at_below c0 hX
          go_simp
        try simp only [Act.put, List.getElem_toArray, List.getElem_cons_zero, List.getElem_cons_succ, List.setIfInBounds_toArray, List.set_cons_zero, List.set_cons_succ]
        refine wpAnyG_take [4, 15, 16, 17] (i := 4) (v := (.int .i64 N)) rfl (by kernel_rfl) (by kernel_rfl) (by kernel_rfl) (by kernel_rfl) (by kernel_rfl) (by kernel_rfl) (by kernel_rfl) (by kernel_rfl) (fun _ _ _ h => h) (Or.inl ⟨by rfl, ?hy⟩) T0 ?_
        case hy =>
          intro X hX
          go_simp
        try simp only [Act.put, List.getElem_toArray, List.getElem_cons_zero, List.getElem_cons_succ, List.setIfInBounds_toArray, List.set_cons_zero, List.set_cons_succ]
        refine wpAnyG_take [5, 6, 7, 8, 10, 11, 12, 14, 17] (i := 5) (v := (.pointer (some ⟨B, 0, none⟩))) rfl (by kernel_rfl) (by kernel_rfl) (by kernel_rfl) (by kernel_rfl) (by kernel_rfl) (by kernel_rfl) (by kernel_rfl) (by kernel_rfl) (fun _ _ _ h => h) (Or.inl ⟨by rfl, ?hy⟩) T0 ?_
        case hy =>
          intro X hX
          go_simp
        try simp only [Act.put, List.getElem_toArray, List.getElem_cons_zero, List.getElem_cons_succ, List.setIfInBounds_toArray, List.set_cons_zero, List.set_cons_succ]
        refine wpAnyG_take [6, 7, 8, 10, 11, 12, 14, 17] (i := 6) (v := (.pointer (some ⟨B, 0, none⟩))) rfl (by kernel_rfl) (by kernel_rfl) (by kernel_rfl) (by kernel_rfl) (by kernel_rfl) (by kernel_rfl) (by kernel_rfl) (by kernel_rfl) (fun _ _ _ h => h) (Or.inl ⟨by rfl, ?hy⟩) T0 ?_
        case hy =>
          intro X hX
          go_simp
        try simp only [Act.put, List.getElem_toArray, List.getElem_cons_zero, List.getElem_cons_succ, List.setIfInBounds_toArray, List.set_cons_zero, List.set_cons_succ]
        refine wpAnyG_take [7, 8, 10, 11, 12, 14, 17] (i := 7) (v := (.pointer (some ⟨B, 0, none⟩))) rfl (by kernel_rfl) (by kernel_rfl) (by kernel_rfl) (by kernel_rfl) (by kernel_rfl) (by kernel_rfl) (by kernel_rfl) (by kernel_rfl) (fun _ _ _ h => h) (Or.inl ⟨by rfl, ?hy⟩) T0 ?_
        case hy =>
          intro X hX
          go_simp
        try simp only [Act.put, List.getElem_toArray, List.getElem_cons_zero, List.getElem_cons_succ, List.setIfInBounds_toArray, List.set_cons_zero, List.set_cons_succ]
        refine wpAnyG_take [8, 10, 11, 12, 14, 17] (i := 8) (v := (.slice (some ⟨g, 0, none⟩) M.length cv)) rfl (by kernel_rfl) (by kernel_rfl) (by kernel_rfl) (by kernel_rfl) (by kernel_rfl) (by kernel_rfl) (by kernel_rfl) (by kernel_rfl) (fun _ _ _ h => h) (Or.inl ⟨by rfl, ?hy⟩) T0 ?_
        case hy =>
          intro X hX
          have e0 := at_below c0 hX
          go_simp
        try simp only [Act.put, List.getElem_toArray, List.getElem_cons_zero, List.getElem_cons_succ, List.setIfInBounds_toArray, List.set_cons_zero, List.set_cons_succ]
        refine wpAnyG_take [9, 10, 11, 12, 14, 17] (i := 9) (v := (.int .i64 N)) rfl (by kernel_rfl) (by kernel_rfl) (by kernel_rfl) (by kernel_rfl) (by kernel_rfl) (by kernel_rfl) (by kernel_rfl) (by kernel_rfl) (fun _ _ _ h => h) (Or.inl ⟨by rfl, ?hy⟩) T0 ?_
        case hy =>
          intro X hX
          go_simp
        try simp only [Act.put, List.getElem_toArray, List.getElem_cons_zero, List.getElem_cons_succ, List.setIfInBounds_toArray, List.set_cons_zero, List.set_cons_succ]
        refine wpAnyG_take [10, 11, 12, 14, 17] (i := 10) (v := (.pointer (some ⟨g, N * 3, none⟩))) rfl (by kernel_rfl) (by kernel_rfl) (by kernel_rfl) (by kernel_rfl) (by kernel_rfl) (by kernel_rfl) (by kernel_rfl) (by kernel_rfl) (fun _ _ _ h => h) (Or.inl ⟨by rfl, ?hy⟩) T0 ?_
        case hy =>
          intro X hX
          (go_simp; try rfl)
        try simp only [Act.put, List.getElem_toArray, List.getElem_cons_zero, List.getElem_cons_succ, List.setIfInBounds_toArray, List.set_cons_zero, List.set_cons_succ]
        refine wpAnyG_take [11, 12, 14, 17] (i := 11) (v := (.pointer (some ⟨g, N * 3, none⟩))) rfl (by kernel_rfl) (by kernel_rfl) (by kernel_rfl) (by kernel_rfl) (by kernel_rfl) (by kernel_rfl) (by kernel_rfl) (by kernel_rfl) (fun _ _ _ h => h) (Or.inl ⟨by rfl, ?hy⟩) T0 ?_
        case hy =>
          intro X hX
          (go_simp; try rfl)
        try simp only [Act.put, List.getElem_toArray, List.getElem_cons_zero, List.getElem_cons_succ, List.setIfInBounds_toArray, List.set_cons_zero, List.set_cons_succ]
        refine wpAnyG_take [12, 14, 17] (i := 12) (v := (.int .i64 x.k)) rfl (by kernel_rfl) (by kernel_rfl) (by kernel_rfl) (by kernel_rfl) (by kernel_rfl) (by kernel_rfl) (by kernel_rfl) (by kernel_rfl) (fun _ _ _ h => h) (Or.inl ⟨by rfl, ?hy⟩) T0 ?_
        case hy =>
          intro X hX
          have e0 := at_below hcell hX
          go_simp
        try simp only [Act.put, List.getElem_toArray, List.getElem_cons_zero, List.getElem_cons_succ, List.setIfInBounds_toArray, List.set_cons_zero, List.set_cons_succ]
        refine wpAnyG_take [13, 14, 17] (i := 13) (v := (.int .i64 n)) rfl (by kernel_rfl) (by kernel_rfl) (by kernel_rfl) (by kernel_rfl) (by kernel_rfl) (by kernel_rfl) (by kernel_rfl) (by kernel_rfl) (fun _ _ _ h => h) (Or.inl ⟨by rfl, ?hy⟩) T0 ?_
        case hy =>
          intro X hX
          go_simp
        try simp only [Act.put, List.getElem_toArray, List.getElem_cons_zero, List.getElem_cons_succ, List.setIfInBounds_toArray, List.set_cons_zero, List.set_cons_succ]
        refine wpAnyG_take [14, 17] (i := 14) (v := (.int .i64 (x.k + n))) rfl (by kernel_rfl) (by kernel_rfl) (by kernel_rfl) (by kernel_rfl) (by kernel_rfl) (by kernel_rfl) (by kernel_rfl) (by kernel_rfl) (fun _ _ _ h => h) (Or.inl ⟨by rfl, ?hy⟩) T0 ?_
        case hy =>
          intro X hX
          go_simp
        try simp only [Act.put, List.getElem_toArray, List.getElem_cons_zero, List.getElem_cons_succ, List.setIfInBounds_toArray, List.set_cons_zero, List.set_cons_succ]
        have HX := Lib.hid ((HV.out.1.below T0).setL HV.out.2.2.1 (x.k + n))
        have fX := own_freeK (HV.out.1.below T0).ro (N * 3)
        have cX := at_below hcell T0
        refine wpAnyG_all (rs := [15]) (by kernel_rfl) (by simp) ?_
        intro i hi
        simp only [List.mem_cons, List.not_mem_nil, or_false] at hi
        subst hi
        refine wpOp_now rfl rfl ?_
        go_simp
        refine ⟨fun _ => T0, ?_⟩
        try simp only [Act.put, List.getElem_toArray, List.getElem_cons_zero, List.getElem_cons_succ, List.setIfInBounds_toArray, List.set_cons_zero, List.set_cons_succ]
        refine wpAnyG_all (rs := [16]) (by kernel_rfl) (by simp) ?_
        intro i hi
        simp only [List.mem_cons, List.not_mem_nil, or_false] at hi
        subst hi
        refine wpOp_now rfl rfl ?_
        go_simp
        refine ⟨fun _ => T0, ?_⟩
        try simp only [Act.put, List.getElem_toArray, List.getElem_cons_zero, List.getElem_cons_succ, List.setIfInBounds_toArray, List.set_cons_zero, List.set_cons_succ]
        refine wpAnyG_all (rs := [17]) (by kernel_rfl) (by simp) ?_
        intro i hi
        simp only [List.mem_cons, List.not_mem_nil, or_false] at hi
        subst hi
        refine wpOp_now rfl rfl ?_
        go_simp
        refine ⟨fun h => (nomatch (show (false : Bool) = true from h)), ?_⟩
        refine wpAnyG_done (by kernel_rfl) ?_ _
        refine NoPanic.normal ?_
        have HK := Lib.hid (KpD.of_below HV.out.1 T0)
        clear T0 fX cX hcell c0 c1 c2
        go_wp2
        refine bodyPost_ret (results_none rfl _ _ _) rfl ?_
        exact ⟨rfl, .inr ⟨by have := H0.out; omega, _, by rw [HV.out.2.2.2]; exact HX.out.1, (HV.out.2.1.trans HK.out).trans HX.out.2⟩⟩
      · have dx : decide ((0 : Int) < x.k) = false := decide_eq_false hx0
        have hkp : kpD n M = M ++ [⟨n, .empty, .empty⟩] := by
          unfold kpD
          rw [hM', List.getLast?_append, List.getLast?_singleton]
          simp only [Option.some_or]
          rw [if_neg hx0]
        have HV := Lib.hid (And.intro hV (And.intro hKV hkp))
        have HB := Lib.hid (Blk.new V #[.int .i64 n, .string .empty, .string .empty] 64)
        clear hV hKV hM hM' hx hkp hlen hN
        go_wp2_with (at_builtin; refine wpList_append_own_at _ rfl _ _ 29 rfl b 64 j0 (.agg #[.int .i64 0, .string .empty, .string .empty]) 3 40 Try.underlying29 hj hy0 hy1 hy2 rfl (by decide) _ _ _ rfl (own_below HV.out.1.ro ((Below.refl V.heap.size V).alloc (Nat.le_refl _) (.cells #[.int .i64 n, .string .empty, .string .empty] 64))) ⟨V.heap.size, 0, none⟩ 1 1 [.int .i64 n, .string .empty, .string .empty] rfl rfl (World.news_of_block (cs := #[.int .i64 n, .string .empty, .string .empty]) (t := 64) (fr := (0, 0)) HB.out) (fun x hx => by simp at hx; rcases hx with rfl | rfl | rfl <;> rfl) (by unfold maxLen; (try simp only [List.length_nil]); omega) (by (try simp only [List.length_nil]); omega) (by simp; have := HV.out.1.bw; omega) ?_; intro v3 w3 hown3 hg3 _ hv3; have T3 := Blk.kept (HV.out.1.blk.below' ((Below.refl V.heap.size V).alloc (Nat.le_refl _) (.cells #[.int .i64 n, .string .empty, .string .empty] 64))) hg3 (Blk.not_row (HV.out.1.blk.below' ((Below.refl V.heap.size V).alloc (Nat.le_refl _) (.cells #[.int .i64 n, .string .empty, .string .empty] 64))) (by decide) (own_below HV.out.1.ro ((Below.refl V.heap.size V).alloc (Nat.le_refl _) (.cells #[.int .i64 n, .string .empty, .string .empty] 64)))); have k3 := Blk.frozen T3 0; have k0 := Blk.cell T3 0; simp only [List.getElem?_toArray, List.getElem?_cons_zero] at k0; obtain ⟨ov3, cv3, rfl, _⟩ := own_slice hown3; have HA := Lib.hid (DkB.add (x := ⟨n, .empty, .empty⟩) HV.out.1 ((Below.refl V.heap.size V).alloc (Nat.le_refl _) (.cells #[.int .i64 n, .string .empty, .string .empty] 64)) hown3 hg3 hv3); clear hown3 hg3 hv3 T3)
        refine bodyPost_end (results_none rfl _ _ _) rfl ?_
        exact ⟨rfl, .inr ⟨by have := H0.out; omega, _, by rw [HV.out.2.2]; exact HA.out.1, HV.out.2.1.trans HA.out.2⟩⟩
end Go.Proofs.Ytepbplmggladfaa

/- Stage 27: the document's maker, byte by byte; two of them side by side. -/
namespace Go.Proofs.Ytepbplmggladfaa
set_option linter.unusedVariables false
set_option linter.unusedSimpArgs false
open Go Go.RowKit Go.Shelf
set_option maxRecDepth 100000

/-- A maker that holds nothing has made nothing. -/
def InvK (m : Mk) : Prop := m.kept = 0 → m.put.size = 0 → m.drop.size = 0 → m.out = []
theorem invK_fdL (A : List Atm) : InvK (fdL A mk0) := by
  rcases List.eq_nil_or_concat A with rfl | ⟨A, a, rfl⟩
  · exact fun _ _ _ => rfl
  · rw [List.concat_eq_append, fdL_app]
    show InvK (fd (fdL A mk0) a)
    generalize fdL A mk0 = m
    cases a with
    | K =>
      intro h1
      have : (keepM 1 m).kept = 0 := h1
      by_cases h : 0 < m.put.size + m.drop.size
      · rw [keepM_yes (by decide) h] at this; simp at this
      · rw [keepM_no h] at this; simp at this
    | P c =>
      intro _ h2
      have : (putsM ⟨#[c]⟩ m).put.size = 0 := h2
      rw [putsM_one] at this
      simp only [ByteArray.size_append] at this
      have h3 : (⟨#[c]⟩ : ByteArray).size = 1 := rfl
      omega
    | D c =>
      intro _ _ h2
      have : (dropsM ⟨#[c]⟩ m).drop.size = 0 := h2
      rw [dropsM_one] at this
      simp only [ByteArray.size_append] at this
      have h3 : (⟨#[c]⟩ : ByteArray).size = 1 := rfl
      omega
/-- The document's maker that has been told these bytes. -/
def DkA (W : World) (B b : Nat) (vL : Value) (A : List Atm) : Prop := DkB W B b vL (rowM (fdL A mk0)).out (fdL A mk0).put (fdL A mk0).drop
theorem row_put (s : ByteArray) (m : Mk) : (rowM (putsM s m)).out = (rowM m).out ∧ (putsM s m).put = m.put ++ s ∧ (putsM s m).drop = m.drop := by
  unfold putsM
  split
  · refine ⟨?_, rfl, rfl⟩
    show (rowM (⟨(rowM m).out, (rowM m).kept, _, _⟩ : Mk)).out = _
    rw [row_zero (m := ⟨(rowM m).out, (rowM m).kept, (rowM m).put ++ s, (rowM m).drop⟩) rfl]
  · exact ⟨rfl, rfl, rfl⟩
theorem row_drop (s : ByteArray) (m : Mk) : (rowM (dropsM s m)).out = (rowM m).out ∧ (dropsM s m).put = m.put ∧ (dropsM s m).drop = m.drop ++ s := by
  unfold dropsM
  split
  · refine ⟨?_, rfl, rfl⟩
    show (rowM (⟨(rowM m).out, (rowM m).kept, _, _⟩ : Mk)).out = _
    rw [row_zero (m := ⟨(rowM m).out, (rowM m).kept, (rowM m).put, (rowM m).drop ++ s⟩) rfl]
  · exact ⟨rfl, rfl, rfl⟩
theorem kpD_nil (n : Nat) : kpD n [] = [⟨n, .empty, .empty⟩] := rfl
theorem kpD_app (n : Nat) (L : List Sp) (x : Sp) : kpD n (L ++ [x]) = if 0 < x.k then L ++ [⟨x.k + n, x.d, x.p⟩] else L ++ [x] ++ [⟨n, .empty, .empty⟩] := by
  unfold kpD
  rw [List.getLast?_append, List.getLast?_singleton]
  simp only [Option.some_or]
  split
  · rw [List.dropLast_concat]
  · rfl
theorem row_keep {n : Nat} {m : Mk} (hn : 0 < n) (h : OkM m) (hi : InvK m) : kpD n ((rowM m).out ++ flD m.put m.drop) = (rowM (keepM n m)).out ∧ (keepM n m).put = .empty ∧ (keepM n m).drop = .empty := by
  have emp : ∀ s : ByteArray, s.size = 0 → s = .empty := fun s hs => (emp_or s).resolve_right (fun hh => hh.1 hs)
  by_cases h0 : 0 < m.put.size + m.drop.size
  · have hk : m.kept = 0 := by
      by_cases hk : 0 < m.kept
      · have := h.alt hk; omega
      · omega
    rw [keepM_yes hn h0, row_zero hk]
    refine ⟨?_, rfl, rfl⟩
    have e3 : (gapM m).kept = 0 := hk
    have e1 : (rowM ⟨(gapM m).out, (gapM m).kept + n, .empty, .empty⟩).out = m.out ++ flD m.put m.drop ++ [⟨n, .empty, .empty⟩] := by
      unfold rowM flD
      simp only [e3, Nat.zero_add]
      rw [if_pos hn]
      unfold gapM
      simp
    rw [e1]
    by_cases hd : 0 < m.drop.size
    · have e : m.out ++ flD m.put m.drop = (m.out ++ (if 0 < m.put.size then [⟨0, .empty, m.put⟩] else [])) ++ [⟨0, m.drop, .empty⟩] := by
        unfold flD; rw [if_pos hd, List.append_assoc]
      rw [e, kpD_app, if_neg (by simp)]
    · have e : m.out ++ flD m.put m.drop = m.out ++ [⟨0, .empty, m.put⟩] := by
        unfold flD; rw [if_pos (by omega), if_neg hd, List.append_nil]
      rw [e, kpD_app, if_neg (by simp)]
  · have e1 : m.put = .empty := emp _ (by omega)
    have e2 : m.drop = .empty := emp _ (by omega)
    have e3 : flD m.put m.drop = [] := by rw [e1, e2]; rfl
    rw [keepM_no h0, e3, List.append_nil]
    refine ⟨?_, e1, e2⟩
    by_cases hk : 0 < m.kept
    · have e4 : (rowM m).out = m.out ++ [⟨m.kept, .empty, .empty⟩] := by unfold rowM; rw [if_pos hk]
      rw [e4, kpD_app, if_pos (by simp only; omega)]
      unfold rowM
      rw [if_pos (by simp only; omega)]
      simp
    · have hk0 : m.kept = 0 := by omega
      have e5 := hi hk0 (by rw [e1]; rfl) (by rw [e2]; rfl)
      rw [row_zero hk0, e5, kpD_nil]
      unfold rowM
      simp only [hk0, Nat.zero_add]
      rw [if_pos hn]; rfl
theorem row_end {m : Mk} (h : OkM m) : (rowM m).out ++ flD m.put m.drop = endM m := by
  have emp : ∀ s : ByteArray, s.size = 0 → s = .empty := fun s hs => (emp_or s).resolve_right (fun hh => hh.1 hs)
  by_cases hk : 0 < m.kept
  · obtain ⟨h1, h2⟩ := h.alt hk
    rw [emp _ h1, emp _ h2]
    show (rowM m).out ++ [] = _
    rw [List.append_nil]
    unfold endM gapM rowM
    simp [h1, h2]
  · have hk0 : m.kept = 0 := by omega
    rw [row_zero hk0]
    unfold endM
    rw [row_zero (m := gapM m) hk0]
    unfold gapM flD
    simp
theorem dk_bd (A : List Atm) : (rowM (fdL A mk0)).out.length ≤ A.length + 1 ∧ (fdL A mk0).put.size ≤ A.length ∧ (fdL A mk0).drop.size ≤ A.length ∧ ∀ x ∈ (rowM (fdL A mk0)).out, 0 ≤ x.k ∧ x.k ≤ A.length := by
  have h1 := fd_bd A
  have h2 := row_len (fdL A mk0)
  obtain ⟨h3, h4⟩ := den_fdL A OkM.new
  have h5 := h4.len
  have e : denM mk0 = [] := rfl
  rw [e, List.nil_append, ← den_row] at h5
  unfold denM at h5
  simp only [List.length_append, List.length_replicate, List.length_map, bL_len] at h5
  refine ⟨by omega, by omega, by omega, fun x hx => ?_⟩
  have h6 := mem_bd hx
  have h7 := kind_pos (h3.row.nz x hx)
  have h8 : inA (atL (rowM (fdL A mk0)).out) ≤ (atL (rowM (fdL A mk0)).out).length := by
    generalize atL (rowM (fdL A mk0)).out = Z
    induction Z with
    | nil => exact Nat.le_refl _
    | cons a Z ih => cases a <;> simp only [inA, List.length_cons] <;> omega
  omega
section
variable {W X : World} {B b : Nat} {vL : Value} {A : List Atm}
theorem dka_keep (h : DkA W B b vL A) (n : Nat) (hn : n ≤ 1000000) (hA : A.length ≤ 900000) :
    Calls Try.prog 33 #[.pointer (some ⟨B, 0, none⟩), .int .i64 n] W fun e W' => e = .returned (.tuple #[]) ∧ ∃ v', DkA W' B b v' (A ++ List.replicate n .K) ∧ KpD B vL v' W W' := by
  have hb := dk_bd A
  refine (dkeep_any h n hn (by omega) (fun x hx => by have := hb.2.2.2 x hx; omega)).mono ?_
  rintro e W' ⟨rfl, h1⟩
  refine ⟨rfl, ?_⟩
  rcases h1 with ⟨rfl, g1, g2⟩ | ⟨h0, v', g1, g2⟩
  · exact ⟨vL, by rw [List.replicate_zero, List.append_nil]; exact g1, g2⟩
  · refine ⟨v', ?_, g2⟩
    obtain ⟨e1, e2, e3⟩ := row_keep h0 (den_fdL A OkM.new).1 (invK_fdL A)
    rw [e1, keep_fd, ← fdL_app] at g1
    rw [keep_fd, ← fdL_app] at e2 e3
    unfold DkA
    rw [e2, e3]
    exact g1
theorem dka_drop (h : DkA W B b vL A) (c : UInt8) (hA : A.length ≤ 900000) :
    Calls Try.prog 36 #[.pointer (some ⟨B, 0, none⟩), .int .u8 c.toNat] W fun e W' => e = .returned (.tuple #[]) ∧ ∃ v', DkA W' B b v' (A ++ [.D c]) ∧ KpD B vL v' W W' := by
  have hb := dk_bd A
  refine (ddrop_any h c (by omega)).mono ?_
  rintro e W' ⟨rfl, g1, g2⟩
  refine ⟨rfl, vL, ?_, g2⟩
  obtain ⟨e1, e2, e3⟩ := row_drop ⟨#[c]⟩ (fdL A mk0)
  rw [drops_fd, ← fdL_app] at e1 e2 e3
  unfold DkA
  have e4 : (bL ⟨#[c]⟩).map Atm.D = [.D c] := rfl
  rw [e4] at e1 e2 e3
  rw [e1, e2, e3]
  exact g1
theorem dka_end (h : DkA W B b vL A) (hA : A.length ≤ 900000) :
    Calls Try.prog 34 #[.pointer (some ⟨B, 0, none⟩)] W fun e W' => e = .returned (.tuple #[]) ∧ ∃ v', DkB W' B b v' (nfA A) .empty .empty ∧ KpD B vL v' W W' := by
  have hb := dk_bd A
  refine (dend_any h (by omega)).mono ?_
  rintro e W' ⟨rfl, v', g1, g2⟩
  rw [row_end (den_fdL A OkM.new).1] at g1
  exact ⟨rfl, v', g1, g2⟩
theorem DkA.below (h : DkA W B b vL A) (hb : Below W.heap.size W X) : DkA X B b vL A := DkB.below h hb
theorem DkA.put (h : DkA W B b vL A) (s : ByteArray) : DkA (W.setCell ⟨B, 1, none⟩ (.string ((fdL A mk0).put ++ s))) B b vL (A ++ (bL s).map .P) := by
  obtain ⟨e1, e2, e3⟩ := row_put s (fdL A mk0)
  rw [puts_fd, ← fdL_app] at e1 e2 e3
  unfold DkA
  rw [e1, e2, e3]
  exact DkB.setP h _
theorem KpD.low {vL' v' : Value} {L : List Sp} {pu dr : ByteArray} (k : KpD B vL v' W X) (h : DkB W B b vL L pu dr) {q : Nat} (hq : q < b) (hn : q ≠ B) : X.heap[q]? = W.heap[q]? :=
  (k.blk q (Nat.lt_of_lt_of_le hq h.bw) hn (fun e => by have := (h.ro.lt q e.symm).1; omega)).1
theorem KpD.belowK {v' : Value} {L : List Sp} {pu dr : ByteArray} (k : KpD B vL v' W X) (h : DkB W B b vL L pu dr) {c : Nat} {w0 : World} (hc : c ≤ B) (h0 : Below c w0 W) : Below c w0 X :=
  ⟨k.os.trans h0.os, k.tape.trans h0.tape, k.output.trans h0.output, Nat.le_trans h0.size k.size, fun i hi => (k.low (vL' := vL) h (by have := h.bb; omega) (by omega)).trans (h0.block i hi)⟩
end
/-- No block is in both rows. -/
def ApD (v s : Value) : Prop := ∀ q, some q ≠ v.ownBlock ∨ some q ≠ s.ownBlock
theorem ApD.symm {v s : Value} (h : ApD v s) : ApD s v := fun q => (h q).symm
theorem DkB.keptD {W X : World} {B B2 b : Nat} {v v2 v' : Value} {L L2 : List Sp} {pu dr pu2 dr2 : ByteArray} (h2 : DkB W B2 b v2 L2 pu2 dr2) (h : DkB W B b v L pu dr) (hk : KpD B v v' W X) (hne : B ≠ B2) (hap : ApD v v2) : DkB X B2 b v2 L2 pu2 dr2 ∧ ApD v' v2 := by
  have hB := h.bb
  have kb : ∀ q, some q = v2.ownBlock → X.heap[q]? = W.heap[q]? ∧ some q ≠ v'.ownBlock := fun q e => by
    have := h2.ro.lt q e.symm
    exact hk.blk q (by omega) (by omega) ((hap q).resolve_right (fun hn => hn e))
  refine ⟨⟨(hk.low (vL' := v) h h2.bb (fun e => hne e.symm)).trans h2.blk, own_keptQ h2.ro fun q e => (kb q e.symm).1, h2.bb, Nat.le_trans h2.bw hk.size⟩, fun q => ?_⟩
  by_cases e : some q = v2.ownBlock
  · exact .inl (kb q e).2
  · exact .inr e
/-- Two makers of the document's. -/
def D2 (w0 : World) (B1 B2 b : Nat) (W : World) (U V : List Atm) : Prop :=
  ∃ v1 v2, DkA W B1 b v1 U ∧ DkA W B2 b v2 V ∧ ApD v1 v2 ∧ B1 < B2 ∧ w0.heap.size ≤ B1 ∧ Below w0.heap.size w0 W
section
variable {w0 W X : World} {B1 B2 b : Nat} {U V : List Atm}
theorem D2.below (h : D2 w0 B1 B2 b W U V) (hb : Below W.heap.size W X) : D2 w0 B1 B2 b X U V := by
  obtain ⟨v1, v2, h1, h2, h3, h4, h5, h6⟩ := h
  exact ⟨v1, v2, h1.below hb, h2.below hb, h3, h4, h5, h6.trans (hb.mono h6.size)⟩
theorem D2.low (h : D2 w0 B1 B2 b W U V) : Below w0.heap.size w0 W := by
  obtain ⟨v1, v2, h1, h2, h3, h4, h5, h6⟩ := h
  exact h6
theorem d2_keep1 (h : D2 w0 B1 B2 b W U V) (n : Nat) (hn : n ≤ 1000000) (hU : U.length ≤ 900000) :
    Calls Try.prog 33 #[.pointer (some ⟨B1, 0, none⟩), .int .i64 n] W fun e W' => e = .returned (.tuple #[]) ∧ D2 w0 B1 B2 b W' (U ++ List.replicate n .K) V := by
  obtain ⟨v1, v2, h1, h2, h3, h4, h5, h6⟩ := h
  refine (dka_keep h1 n hn hU).mono ?_
  rintro e W' ⟨rfl, v', g1, g2⟩
  obtain ⟨k1, k2⟩ := DkB.keptD h2 h1 g2 (by omega) h3
  exact ⟨rfl, v', v2, g1, k1, k2, h4, h5, g2.belowK h1 h5 h6⟩
theorem d2_keep2 (h : D2 w0 B1 B2 b W U V) (n : Nat) (hn : n ≤ 1000000) (hV : V.length ≤ 900000) :
    Calls Try.prog 33 #[.pointer (some ⟨B2, 0, none⟩), .int .i64 n] W fun e W' => e = .returned (.tuple #[]) ∧ D2 w0 B1 B2 b W' U (V ++ List.replicate n .K) := by
  obtain ⟨v1, v2, h1, h2, h3, h4, h5, h6⟩ := h
  refine (dka_keep h2 n hn hV).mono ?_
  rintro e W' ⟨rfl, v', g1, g2⟩
  obtain ⟨k1, k2⟩ := DkB.keptD h1 h2 g2 (by omega) h3.symm
  exact ⟨rfl, v1, v', k1, g1, k2.symm, h4, h5, g2.belowK h2 (by omega) h6⟩
theorem d2_drop1 (h : D2 w0 B1 B2 b W U V) (c : UInt8) (hU : U.length ≤ 900000) :
    Calls Try.prog 36 #[.pointer (some ⟨B1, 0, none⟩), .int .u8 c.toNat] W fun e W' => e = .returned (.tuple #[]) ∧ D2 w0 B1 B2 b W' (U ++ [.D c]) V := by
  obtain ⟨v1, v2, h1, h2, h3, h4, h5, h6⟩ := h
  refine (dka_drop h1 c hU).mono ?_
  rintro e W' ⟨rfl, v', g1, g2⟩
  obtain ⟨k1, k2⟩ := DkB.keptD h2 h1 g2 (by omega) h3
  exact ⟨rfl, v', v2, g1, k1, k2, h4, h5, g2.belowK h1 h5 h6⟩
theorem d2_drop2 (h : D2 w0 B1 B2 b W U V) (c : UInt8) (hV : V.length ≤ 900000) :
    Calls Try.prog 36 #[.pointer (some ⟨B2, 0, none⟩), .int .u8 c.toNat] W fun e W' => e = .returned (.tuple #[]) ∧ D2 w0 B1 B2 b W' U (V ++ [.D c]) := by
  obtain ⟨v1, v2, h1, h2, h3, h4, h5, h6⟩ := h
  refine (dka_drop h2 c hV).mono ?_
  rintro e W' ⟨rfl, v', g1, g2⟩
  obtain ⟨k1, k2⟩ := DkB.keptD h1 h2 g2 (by omega) h3.symm
  exact ⟨rfl, v1, v', k1, g1, k2.symm, h4, h5, g2.belowK h2 (by omega) h6⟩
theorem D2.put1 (h : D2 w0 B1 B2 b W U V) (s : ByteArray) : D2 w0 B1 B2 b (W.setCell ⟨B1, 1, none⟩ (.string ((fdL U mk0).put ++ s))) (U ++ (bL s).map .P) V := by
  obtain ⟨v1, v2, h1, h2, h3, h4, h5, h6⟩ := h
  obtain ⟨k1, k2⟩ := DkB.keptD h2 h1 (KpD.set h1 1 (.string ((fdL U mk0).put ++ s))) (by omega) h3
  exact ⟨v1, v2, h1.put s, k1, k2, h4, h5, (KpD.set h1 1 (.string ((fdL U mk0).put ++ s))).belowK h1 h5 h6⟩
theorem D2.put2 (h : D2 w0 B1 B2 b W U V) (s : ByteArray) : D2 w0 B1 B2 b (W.setCell ⟨B2, 1, none⟩ (.string ((fdL V mk0).put ++ s))) U (V ++ (bL s).map .P) := by
  obtain ⟨v1, v2, h1, h2, h3, h4, h5, h6⟩ := h
  obtain ⟨k1, k2⟩ := DkB.keptD h1 h2 (KpD.set h2 1 (.string ((fdL V mk0).put ++ s))) (by omega) h3.symm
  exact ⟨v1, v2, k1, h2.put s, k2.symm, h4, h5, (KpD.set h2 1 (.string ((fdL V mk0).put ++ s))).belowK h2 (by omega) h6⟩
theorem D2.cell1 (h : D2 w0 B1 B2 b W U V) : W.cell? ⟨B1, 1, none⟩ = some (.string (fdL U mk0).put) ∧ W.frozen? ⟨B1, 1, none⟩ = false := by
  obtain ⟨v1, v2, h1, h2, _⟩ := h
  exact ⟨(DkB.cells h1).2.1, DkB.blk h1 |>.frozen 1⟩
theorem D2.cell2 (h : D2 w0 B1 B2 b W U V) : W.cell? ⟨B2, 1, none⟩ = some (.string (fdL V mk0).put) ∧ W.frozen? ⟨B2, 1, none⟩ = false := by
  obtain ⟨v1, v2, h1, h2, _⟩ := h
  exact ⟨(DkB.cells h2).2.1, DkB.blk h2 |>.frozen 1⟩
/-- Both ends. -/
def D2E (w0 : World) (B1 B2 b : Nat) (W : World) (v1 v2 : Value) (L1 L2 : List Sp) (pu dr : ByteArray) : Prop :=
  DkB W B1 b v1 L1 .empty .empty ∧ DkB W B2 b v2 L2 pu dr ∧ ApD v1 v2 ∧ B1 < B2 ∧ w0.heap.size ≤ B1 ∧ Below w0.heap.size w0 W
theorem d2_end1 (h : D2 w0 B1 B2 b W U V) (hU : U.length ≤ 900000) :
    Calls Try.prog 34 #[.pointer (some ⟨B1, 0, none⟩)] W fun e W' => e = .returned (.tuple #[]) ∧ ∃ v1 v2, D2E w0 B1 B2 b W' v1 v2 (nfA U) (rowM (fdL V mk0)).out (fdL V mk0).put (fdL V mk0).drop := by
  obtain ⟨v1, v2, h1, h2, h3, h4, h5, h6⟩ := h
  refine (dka_end h1 hU).mono ?_
  rintro e W' ⟨rfl, v', g1, g2⟩
  obtain ⟨k1, k2⟩ := DkB.keptD h2 h1 g2 (by omega) h3
  exact ⟨rfl, v', v2, g1, k1, k2, h4, h5, g2.belowK h1 h5 h6⟩
theorem d2_end2 {v1 v2 : Value} {L1 : List Sp} (h : D2E w0 B1 B2 b W v1 v2 L1 (rowM (fdL V mk0)).out (fdL V mk0).put (fdL V mk0).drop) (hV : V.length ≤ 900000) :
    Calls Try.prog 34 #[.pointer (some ⟨B2, 0, none⟩)] W fun e W' => e = .returned (.tuple #[]) ∧ ∃ v2', D2E w0 B1 B2 b W' v1 v2' L1 (nfA V) .empty .empty := by
  obtain ⟨h1, h2, h3, h4, h5, h6⟩ := h
  refine (dka_end h2 hV).mono ?_
  rintro e W' ⟨rfl, v', g1, g2⟩
  obtain ⟨k1, k2⟩ := DkB.keptD h1 h2 g2 (by omega) h3.symm
  exact ⟨rfl, v', k1, g1, k2.symm, h4, h5, g2.belowK h2 (by omega) h6⟩
end
end Go.Proofs.Ytepbplmggladfaa
