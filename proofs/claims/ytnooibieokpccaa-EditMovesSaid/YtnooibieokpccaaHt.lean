/- Stage 27: the maker, as it lies in memory. -/
import Derived.Test.YtnooibieokpccaaHr
import Derived.Test.YtnooibieokpccaaHn
namespace Go.Proofs.Ytnooibieokpccaa
set_option linter.unusedVariables false
set_option linter.unusedSimpArgs false
open Go Go.RowKit Go.Shelf
set_option maxRecDepth 100000

/-- 'append' as one operation of a region; the row is the old one or a new one. -/
theorem opwp_append2 {P : Program} {o : Oper} {K : Act → World → Prop} {Q : Exit → Act → World → Prop} {a : Act} {w : World} (s x : Operand) (t : TypeId)
    (ho : o.op = .call { callee := .builtin .append, args := #[s, x], argTypes := #[t, t] })
    (base : Nat) (e : TypeId) (i : TypeInfo) (z : Value) (size bytes : Nat) (ht : P.underlying t = some (.slice e)) (hi : P.info? e = some i) (hz : i.zero = some z)
    (hsize : i.size = size) (hby : i.bytes = bytes) (hzs : z.cells.size = size) (hsz : 0 < size)
    (v : Value) (n : Nat) (xs : List Value) (hs : a.eval s = v) (hown : w.ownsRow base e size v n xs)
    (ad : Addr) (m c : Nat) (news : List Value) (hx : a.eval x = .slice (some ad) m c) (hl : news.length = m * size) (hnews : ∀ j u, news[j]? = some u → w.cell? (ad.add j) = some u) (h1 : ∀ u ∈ news, u.oneCell' = true)
    (h63 : n + m ≤ maxLen) (hbytes : (n + m) * bytes ≤ 140737488355328) (hbase : base ≤ w.heap.size)
    (h : ∀ v' w', w'.ownsRow base e size v' (n + m) (xs ++ news) → w.grownBy w' v.ownBlock → (v'.ownBlock = v.ownBlock ∨ v'.ownBlock = some w.heap.size) → K (a.put o.dst v') w') : o.wp P a w K Q := by
  obtain ⟨v', w', hr, h2, h3, _, h5⟩ := run_append_own_at (P := P) w base t o.type e i z size bytes ht hi hz hsize hby hzs hsz v n xs hown ad m c news hl hnews h1 h63 hbytes hbase
  unfold Oper.wp execOp
  simp only [ho, resolve, invoke, builtin, Sem.run_bind, Sem.run_pure, Result.andThen_ok, List.map_toArray, List.map_cons, List.map_nil, hs, hx, hr]
  exact h v' w' h2 h3 h5
/-- A maker and its rows. -/
structure MkB (W : World) (B b : Nat) (vo vp vd : Value) (m : Mk) : Prop where
  blk : Blk W B #[vo, .int .i64 m.kept, vp, vd] 50
  ro : W.ownsRow b 37 3 vo m.out.length (m.out.flatMap encS)
  rp : W.ownsRow b 5 1 vp m.put.size (Lib.strCells m.put)
  rd : W.ownsRow b 5 1 vd m.drop.size (Lib.strCells m.drop)
  ap : vp.ownBlock = none ∨ vp.ownBlock ≠ vd.ownBlock
  bb : B < b
  bw : b ≤ W.heap.size
/-- What a maker's work leaves as it was. -/
structure KpM (B b : Nat) (vo vo' : Value) (W W' : World) : Prop where
  os : W'.os = W.os
  tape : W'.tape = W.tape
  output : W'.output = W.output
  size : W.heap.size ≤ W'.heap.size
  low : ∀ k, k < b → k ≠ B → W'.heap[k]? = W.heap[k]?
  box : ∀ q cs, W.heap[q]? = some (.cells cs 37 (0, 0)) → some q ≠ vo.ownBlock → W'.heap[q]? = W.heap[q]? ∧ some q ≠ vo'.ownBlock
theorem KpM.refl (B b : Nat) (vo : Value) (W : World) : KpM B b vo vo W W := ⟨rfl, rfl, rfl, Nat.le_refl _, fun _ _ _ => rfl, fun _ _ _ h => ⟨rfl, h⟩⟩
theorem KpM.trans {B b : Nat} {v1 v2 v3 : Value} {X Y Z : World} (h : KpM B b v1 v2 X Y) (g : KpM B b v2 v3 Y Z) : KpM B b v1 v3 X Z :=
  ⟨g.os.trans h.os, g.tape.trans h.tape, g.output.trans h.output, Nat.le_trans h.size g.size, fun k hk hn => (g.low k hk hn).trans (h.low k hk hn), fun q cs hq hn => by
    obtain ⟨h1, h2⟩ := h.box q cs hq hn
    obtain ⟨h3, h4⟩ := g.box q cs (h1.trans hq) h2
    exact ⟨h3.trans h1, h4⟩⟩
section
variable {W X w3 : World} {B b : Nat} {vo vp vd : Value} {m : Mk}
theorem MkB.below (h : MkB W B b vo vp vd m) (hb : Below W.heap.size W X) : MkB X B b vo vp vd m :=
  ⟨h.blk.below' hb, own_below h.ro hb, own_below h.rp hb, own_below h.rd hb, h.ap, h.bb, Nat.le_trans h.bw hb.size⟩
theorem KpM.of_below (h : MkB W B b vo vp vd m) (hb : Below W.heap.size W X) : KpM B b vo vo W X :=
  ⟨hb.os, hb.tape, hb.output, hb.size, fun k hk _ => hb.block k (Nat.lt_of_lt_of_le hk h.bw), fun q cs hq hn => ⟨hb.block q (Array.getElem?_eq_some_iff.1 hq).1, hn⟩⟩
/-- A field of the maker is written. -/
theorem KpM.set (h : MkB W B b vo vp vd m) (o : Nat) (v : Value) : KpM B b vo vo W (W.setCell ⟨B, o, none⟩ v) := by
  refine ⟨rfl, rfl, rfl, by simp, fun k _ hn => Below.heap_setCell _ _ _ _ (fun e => hn e), fun q cs hq hn => ⟨Below.heap_setCell _ _ _ _ (fun e => ?_), hn⟩⟩
  have h1 : W.heap[B]? = _ := h.blk
  rw [show q = B from e] at hq
  rw [hq] at h1
  have h2 := congrArg (fun o : Option Obj => o.map fun | .cells _ t _ => t | _ => 0) h1
  simp at h2
/-- A step is put behind the others. -/
theorem MkB.add (h : MkB W B b vo vp vd m) {v3 : Value} {x : Sp} (hX : Below W.heap.size W X) (h3 : w3.ownsRow b 37 3 v3 (m.out.length + 1) (m.out.flatMap encS ++ encS x)) (hg : X.grownBy w3 vo.ownBlock)
    (hv : v3.ownBlock = vo.ownBlock ∨ v3.ownBlock = some X.heap.size) : MkB (w3.setCell ⟨B, 0, none⟩ v3) B b v3 vp vd ⟨m.out ++ [x], m.kept, m.put, m.drop⟩ ∧ KpM B b vo v3 W (w3.setCell ⟨B, 0, none⟩ v3) := by
  have hXm := h.below hX
  have b3 := Blk.kept hXm.blk hg (Blk.not_row hXm.blk (by decide) hXm.ro)
  have p3 := hXm.rp.kept hg (rows_apart hXm.rp hXm.ro (by decide))
  have d3 := hXm.rd.kept hg (rows_apart hXm.rd hXm.ro (by decide))
  have b4 := b3.set 0 v3
  simp only [List.setIfInBounds_toArray, List.set_cons_zero] at b4
  refine ⟨⟨b4, ?_, own_low p3 h.bb 0 v3, own_low d3 h.bb 0 v3, h.ap, h.bb, by simp; exact Nat.le_trans hXm.bw hg.size⟩, ?_⟩
  · have h4 := own_low h3 h.bb 0 v3
    simpa using h4
  · refine ⟨(hg.os.trans hX.os), (hg.tape.trans hX.tape), (hg.output.trans hX.output), by simp; exact Nat.le_trans hX.size hg.size, fun k hk hn => ?_, fun q cs hq hn => ⟨?_, ?_⟩⟩
    · refine (Below.heap_setCell _ _ _ _ (fun e => hn e)).trans ((hg.block k (by have := hXm.bw; omega) (fun e => ?_)).trans (hX.block k (by have := h.bw; omega)))
      have := (hXm.ro.lt k e.symm).1
      omega
    · have hlt := (Array.getElem?_eq_some_iff.1 hq).1
      have hqB : q ≠ B := fun e => by
        subst e
        have h1 : W.heap[q]? = _ := h.blk
        rw [hq] at h1
        have h2 := congrArg (fun o : Option Obj => o.map fun | .cells _ t _ => t | _ => 0) h1
        simp at h2
      exact (Below.heap_setCell _ _ _ _ (fun e => hqB e)).trans ((hg.block q (Nat.lt_of_lt_of_le hlt hX.size) (fun e => hn e)).trans (hX.block q hlt))
    · have hlt := (Array.getElem?_eq_some_iff.1 hq).1
      rcases hv with hv | hv
      · rw [hv]; exact hn
      · rw [hv]; intro e; cases e; have := hX.size; omega
end
end Go.Proofs.Ytnooibieokpccaa
