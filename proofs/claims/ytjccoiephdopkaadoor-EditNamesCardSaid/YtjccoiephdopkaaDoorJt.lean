/- Stage 27: the maker, as it lies in memory. -/
import Derived.Test.YtjccoiephdopkaaDoorHr
import Derived.Test.YtjccoiephdopkaaDoorJa
namespace Go.Proofs.YtjccoiephdopkaaDoor
set_option linter.unusedVariables false
set_option linter.unusedSimpArgs false
open Go Go.RowKit Go.Shelf
set_option maxRecDepth 100000

/-- 'append' as one operation of a region; the row is the old one or a new one. -/
theorem opwp_append2 {P : Program} {o : Oper} {K : Act → World → Prop} {Q : Exit → Act → World → Prop} {a : Act} {w : World} (s x : Operand) (t : TypeId)
    (ho : o.op = .call { callee := .builtin .append, args := #[s, x], argTypes := #[t, t] })
    (base : Nat) (e : TypeId) (i : TypeInfo) (z : Value) (size bytes : Nat) (ht : P.underlying t = some (.slice e)) (hi : P.info? e = some i) (hz : i.zero = some z)
    (hsize : i.size = size) (hby : i.bytes = bytes) (hzs : z.cells.size = size) (hsz : 0 < size)
    (v : Value) (n : Nat) (xs : List Value) (hs : a.eval s = v) (hown : w.ownsRow base e size v n xs)
    (ad : Addr) (m c : Nat) (news : List Value) (hx : a.eval x = .slice (some ad) m c) (hl : news.length = m * size) (hnews : ∀ j u, news[j]? = some u → w.cell? (ad.add j) = some u) (h1 : ∀ u ∈ news, u.oneCell' = true)
    (h63 : n + m ≤ maxLen) (hbytes : (n + m) * bytes ≤ 140737488355328) (hbase : base ≤ w.heap.size)
    (h : ∀ v' w', w'.ownsRow base e size v' (n + m) (xs ++ news) → w.grownBy w' v.ownBlock → (v'.ownBlock = v.ownBlock ∨ v'.ownBlock = some w.heap.size) → K (a.put o.dst v') w') : o.wp P a w K Q := by
  obtain ⟨v', w', hr, h2, h3, _, h5⟩ := run_append_own_at (P := P) w base t o.type e i z size bytes ht hi hz hsize hby hzs hsz v n xs hown ad m c news hl hnews h1 h63 hbytes hbase
  unfold Oper.wp execOp
  simp only [ho, resolve, invoke, builtin, Sem.run_bind, Sem.run_pure, Result.andThen_ok, List.map_toArray, List.map_cons, List.map_nil, hs, hx, hr]
  exact h v' w' h2 h3 h5
/-- A maker and its rows. -/
structure MkB (W : World) (B b : Nat) (vo vp vd : Value) (m : Mk) : Prop where
  blk : Blk W B #[vo, .int .i64 m.kept, vp, vd] 96
  ro : W.ownsRow b 39 3 vo m.out.length (m.out.flatMap encS)
  rp : W.ownsRow b 5 1 vp m.put.size (Lib.strCells m.put)
  rd : W.ownsRow b 5 1 vd m.drop.size (Lib.strCells m.drop)
  ap : vp.ownBlock = none ∨ vp.ownBlock ≠ vd.ownBlock
  bb : B < b
  bw : b ≤ W.heap.size
/-- A block that is none of a maker's rows. -/
def N3 (t : Value × Value × Value) (q : Nat) : Prop := some q ≠ t.1.ownBlock ∧ some q ≠ t.2.1.ownBlock ∧ some q ≠ t.2.2.ownBlock
/-- What a maker's work leaves as it was. -/
structure KpM (B : Nat) (t t' : Value × Value × Value) (W W' : World) : Prop where
  os : W'.os = W.os
  tape : W'.tape = W.tape
  output : W'.output = W.output
  size : W.heap.size ≤ W'.heap.size
  blk : ∀ q, q < W.heap.size → q ≠ B → N3 t q → W'.heap[q]? = W.heap[q]? ∧ N3 t' q
theorem KpM.refl (B : Nat) (t : Value × Value × Value) (W : World) : KpM B t t W W := ⟨rfl, rfl, rfl, Nat.le_refl _, fun _ _ _ h => ⟨rfl, h⟩⟩
theorem KpM.trans {B : Nat} {v1 v2 v3 : Value × Value × Value} {X Y Z : World} (h : KpM B v1 v2 X Y) (g : KpM B v2 v3 Y Z) : KpM B v1 v3 X Z :=
  ⟨g.os.trans h.os, g.tape.trans h.tape, g.output.trans h.output, Nat.le_trans h.size g.size, fun q hq hB hn => by
    obtain ⟨h1, h2⟩ := h.blk q hq hB hn
    obtain ⟨h3, h4⟩ := g.blk q (Nat.lt_of_lt_of_le hq h.size) hB h2
    exact ⟨h3.trans h1, h4⟩⟩
section
variable {W X w3 : World} {B b : Nat} {vo vp vd : Value} {m : Mk}
theorem MkB.below (h : MkB W B b vo vp vd m) (hb : Below W.heap.size W X) : MkB X B b vo vp vd m :=
  ⟨h.blk.below' hb, own_below h.ro hb, own_below h.rp hb, own_below h.rd hb, h.ap, h.bb, Nat.le_trans h.bw hb.size⟩
theorem KpM.of_below (h : MkB W B b vo vp vd m) (hb : Below W.heap.size W X) : KpM B (vo, vp, vd) (vo, vp, vd) W X :=
  ⟨hb.os, hb.tape, hb.output, hb.size, fun q hq _ hn => ⟨hb.block q hq, hn⟩⟩
/-- A field of the maker is written. -/
theorem KpM.set (h : MkB W B b vo vp vd m) (o : Nat) (v : Value) : KpM B (vo, vp, vd) (vo, vp, vd) W (W.setCell ⟨B, o, none⟩ v) :=
  ⟨rfl, rfl, rfl, by simp, fun q hq hB hn => ⟨Below.heap_setCell _ _ _ _ (fun e => hB e), hn⟩⟩
/-- What lies below the rows is none of them. -/
theorem MkB.n3 (h : MkB W B b vo vp vd m) {q : Nat} (hq : q < b) : N3 (vo, vp, vd) q :=
  ⟨fun e => by have := (h.ro.lt q e.symm).1; omega, fun e => by have := (h.rp.lt q e.symm).1; omega, fun e => by have := (h.rd.lt q e.symm).1; omega⟩
/-- What did not lie there yet is none of them. -/
theorem MkB.n3_new (h : MkB W B b vo vp vd m) {q : Nat} (hq : W.heap.size ≤ q) : N3 (vo, vp, vd) q :=
  ⟨fun e => by have := (h.ro.lt q e.symm).2; omega, fun e => by have := (h.rp.lt q e.symm).2; omega, fun e => by have := (h.rd.lt q e.symm).2; omega⟩
theorem KpM.low {t : Value × Value × Value} (k : KpM B (vo, vp, vd) t W X) (h : MkB W B b vo vp vd m) {q : Nat} (hq : q < b) (hn : q ≠ B) : X.heap[q]? = W.heap[q]? :=
  (k.blk q (Nat.lt_of_lt_of_le hq h.bw) hn (h.n3 hq)).1
theorem KpM.below {t : Value × Value × Value} (k : KpM B (vo, vp, vd) t W X) (h : MkB W B b vo vp vd m) {c : Nat} {w0 : World} (hc : c ≤ B) (h0 : Below c w0 W) : Below c w0 X :=
  ⟨k.os.trans h0.os, k.tape.trans h0.tape, k.output.trans h0.output, Nat.le_trans h0.size k.size, fun i hi => (k.low h (by have := h.bb; omega) (by omega)).trans (h0.block i hi)⟩
/-- A step is put behind the others. -/
theorem MkB.add (h : MkB W B b vo vp vd m) {v3 : Value} {x : Sp} (hX : Below W.heap.size W X) (h3 : w3.ownsRow b 39 3 v3 (m.out.length + 1) (m.out.flatMap encS ++ encS x)) (hg : X.grownBy w3 vo.ownBlock)
    (hv : v3.ownBlock = vo.ownBlock ∨ v3.ownBlock = some X.heap.size) : MkB (w3.setCell ⟨B, 0, none⟩ v3) B b v3 vp vd ⟨m.out ++ [x], m.kept, m.put, m.drop⟩ ∧ KpM B (vo, vp, vd) (v3, vp, vd) W (w3.setCell ⟨B, 0, none⟩ v3) := by
  have hXm := h.below hX
  have b3 := Blk.kept hXm.blk hg (Blk.not_row hXm.blk (by decide) hXm.ro)
  have p3 := hXm.rp.kept hg (rows_apart hXm.rp hXm.ro (by decide))
  have d3 := hXm.rd.kept hg (rows_apart hXm.rd hXm.ro (by decide))
  have b4 := b3.set 0 v3
  simp only [List.setIfInBounds_toArray, List.set_cons_zero] at b4
  refine ⟨⟨b4, ?_, own_low p3 h.bb 0 v3, own_low d3 h.bb 0 v3, h.ap, h.bb, by simp; exact Nat.le_trans hXm.bw hg.size⟩, ?_⟩
  · have h4 := own_low h3 h.bb 0 v3
    simpa using h4
  · refine ⟨(hg.os.trans hX.os), (hg.tape.trans hX.tape), (hg.output.trans hX.output), by simp; exact Nat.le_trans hX.size hg.size, fun q hq hB hn => ⟨?_, ?_, hn.2.1, hn.2.2⟩⟩
    · exact (Below.heap_setCell _ _ _ _ (fun e => hB e)).trans ((hg.block q (Nat.lt_of_lt_of_le hq hX.size) (fun e => hn.1 e)).trans (hX.block q hq))
    · show some q ≠ v3.ownBlock
      rcases hv with hv | hv
      · rw [hv]; exact hn.1
      · rw [hv]; intro e; cases e; have := hX.size; omega
end
end Go.Proofs.YtjccoiephdopkaaDoor
