/- RunesGo: the first of its loops, as Go's own range goes. -/
import Derived.Test.YtgpnheaefagfiaaWh
import Derived.Test.YtgpnheaefagfiaaGn
import Derived.Test.YtgpnheaefagfiaaTo
import Derived.Test.YtgpnheaefagfiaaEnds
namespace Go.Proofs.Ytgpnheaefagfiaa
set_option linter.unusedVariables false
set_option linter.unusedSimpArgs false
open Go Go.RowKit Go.Shelf
set_option maxRecDepth 100000

/-- Where the two lists, their variables, the text's own and the range's place lie. -/
def GS (s : ByteArray) (w : World) (N pos : Nat) (xa xb : Value) (va : Value) (na : Nat) (la : List Value) (vb : Value) (nb : Nat) (lb : List Value) (X : World) : Prop :=
  ((((((Boxed X w.heap.size 9 (.string s) ∧ Boxed X (w.heap.size + 1) 4 (.bool false)) ∧ Boxed X N 39 xa) ∧ Boxed X (N + 1) 55 xb) ∧ X.heap[N + 2]? = some (.stringIter s pos)) ∧ X.ownsRow w.heap.size 3 1 va na la) ∧ X.ownsRow w.heap.size 21 1 vb nb lb) ∧ Below w.heap.size w X

theorem iter_not_row' {W : World} {k : Nat} {t : ByteArray} {p : Nat} (h : W.heap[k]? = some (.stringIter t p)) {base size n : Nat} {e : TypeId} {v : Value} {xs : List Value} (hr : W.ownsRow base e size v n xs) : some k ≠ v.ownBlock := by
  rcases hr.2 with ⟨rfl, _⟩ | ⟨g, cap, cur, rfl, _, hgb, _⟩
  · simp [Value.ownBlock]
  · intro e'
    obtain rfl : k = g := by simpa [Value.ownBlock] using e'
    rw [h] at hgb; cases hgb
theorem iter_not_box {W : World} {k : Nat} {t : ByteArray} {p : Nat} (h : W.heap[k]? = some (.stringIter t p)) {B : Nat} {T : TypeId} {v : Value} (hb : Boxed W B T v) : k ≠ B := by
  intro e
  rw [e, show W.heap[B]? = _ from hb] at h; cases h
theorem gs_alloc {s : ByteArray} {w : World} {N pos : Nat} {xa xb va : Value} {na : Nat} {la : List Value} {vb : Value} {nb : Nat} {lb : List Value} {X : World} (h : GS s w N pos xa xb va na la vb nb lb X) (o : Obj) : GS s w N pos xa xb va na la vb nb lb (X.alloc o) := by
  obtain ⟨⟨⟨⟨⟨⟨⟨h0, h1⟩, h2⟩, h3⟩, h4⟩, h5⟩, h6⟩, hB⟩ := h
  exact ⟨⟨⟨⟨⟨⟨⟨h0.alloc _, h1.alloc _⟩, h2.alloc _⟩, h3.alloc _⟩, (Below.heap_alloc X _ _ (Array.getElem?_eq_some_iff.1 h4).1).trans h4⟩, h5.alloc _⟩, h6.alloc _⟩, hB.alloc hB.size _⟩
theorem gs_a {s : ByteArray} {w : World} {N pos : Nat} {xa xb va : Value} {na : Nat} {la : List Value} {vb : Value} {nb : Nat} {lb : List Value} {X Y : World} {va' : Value} {na' : Nat} {la' : List Value} (h : GS s w N pos xa xb va na la vb nb lb X)
    (hg : X.grownBy Y va.ownBlock) (hr : Y.ownsRow w.heap.size 3 1 va' na' la') : GS s w N pos xa xb va' na' la' vb nb lb Y := by
  obtain ⟨⟨⟨⟨⟨⟨⟨h0, h1⟩, h2⟩, h3⟩, h4⟩, h5⟩, h6⟩, hB⟩ := h
  exact ⟨⟨⟨⟨⟨⟨⟨h0.kept hg (fun e => boxed_not_row h0 (by decide) h5 e.symm), h1.kept hg (fun e => boxed_not_row h1 (by decide) h5 e.symm)⟩, h2.kept hg (fun e => boxed_not_row h2 (by decide) h5 e.symm)⟩, h3.kept hg (fun e => boxed_not_row h3 (by decide) h5 e.symm)⟩,
    (hg.block _ (Array.getElem?_eq_some_iff.1 h4).1 (iter_not_row' h4 h5)).trans h4⟩, hr⟩, h6.kept hg (rows_apart h6 h5 (by decide))⟩, hB.grown hg hB.size (fun j hj => (h5.lt j hj).1)⟩
theorem gs_b {s : ByteArray} {w : World} {N pos : Nat} {xa xb va : Value} {na : Nat} {la : List Value} {vb : Value} {nb : Nat} {lb : List Value} {X Y : World} {vb' : Value} {nb' : Nat} {lb' : List Value} (h : GS s w N pos xa xb va na la vb nb lb X)
    (hg : X.grownBy Y vb.ownBlock) (hr : Y.ownsRow w.heap.size 21 1 vb' nb' lb') : GS s w N pos xa xb va na la vb' nb' lb' Y := by
  obtain ⟨⟨⟨⟨⟨⟨⟨h0, h1⟩, h2⟩, h3⟩, h4⟩, h5⟩, h6⟩, hB⟩ := h
  exact ⟨⟨⟨⟨⟨⟨⟨h0.kept hg (fun e => boxed_not_row h0 (by decide) h6 e.symm), h1.kept hg (fun e => boxed_not_row h1 (by decide) h6 e.symm)⟩, h2.kept hg (fun e => boxed_not_row h2 (by decide) h6 e.symm)⟩, h3.kept hg (fun e => boxed_not_row h3 (by decide) h6 e.symm)⟩,
    (hg.block _ (Array.getElem?_eq_some_iff.1 h4).1 (iter_not_row' h4 h6)).trans h4⟩, h5.kept hg (rows_apart h5 h6 (by decide))⟩, hr⟩, hB.grown hg hB.size (fun j hj => (h6.lt j hj).1)⟩
theorem gs_sa {s : ByteArray} {w : World} {N pos : Nat} {xa xb va : Value} {na : Nat} {la : List Value} {vb : Value} {nb : Nat} {lb : List Value} {X : World} (h : GS s w N pos xa xb va na la vb nb lb X) (hN : w.heap.size + 1 < N) (u : Value) :
    GS s w N pos u xb va na la vb nb lb (X.setCell ⟨N, 0, none⟩ u) := by
  obtain ⟨⟨⟨⟨⟨⟨⟨h0, h1⟩, h2⟩, h3⟩, h4⟩, h5⟩, h6⟩, hB⟩ := h
  exact ⟨⟨⟨⟨⟨⟨⟨h0.other (by omega) _, h1.other (by omega) _⟩, h2.set _⟩, h3.other (by omega) _⟩, (Below.heap_setCell _ _ _ _ (by dsimp only; omega)).trans h4⟩, h5.kept (grownBy_setCell X N 0 u) (.inr (fun e => boxed_not_row h2 (by decide) h5 e))⟩, h6.kept (grownBy_setCell X N 0 u) (.inr (fun e => boxed_not_row h2 (by decide) h6 e))⟩, hB.setCell (p := ⟨N, 0, none⟩) (by dsimp only; omega) _⟩
theorem gs_sb {s : ByteArray} {w : World} {N pos : Nat} {xa xb va : Value} {na : Nat} {la : List Value} {vb : Value} {nb : Nat} {lb : List Value} {X : World} (h : GS s w N pos xa xb va na la vb nb lb X) (hN : w.heap.size + 1 < N) (u : Value) :
    GS s w N pos xa u va na la vb nb lb (X.setCell ⟨N + 1, 0, none⟩ u) := by
  obtain ⟨⟨⟨⟨⟨⟨⟨h0, h1⟩, h2⟩, h3⟩, h4⟩, h5⟩, h6⟩, hB⟩ := h
  exact ⟨⟨⟨⟨⟨⟨⟨h0.other (by omega) _, h1.other (by omega) _⟩, h2.other (by omega) _⟩, h3.set _⟩, (Below.heap_setCell _ _ _ _ (by dsimp only; omega)).trans h4⟩, h5.kept (grownBy_setCell X (N + 1) 0 u) (.inr (fun e => boxed_not_row h3 (by decide) h5 e))⟩, h6.kept (grownBy_setCell X (N + 1) 0 u) (.inr (fun e => boxed_not_row h3 (by decide) h6 e))⟩, hB.setCell (p := ⟨N + 1, 0, none⟩) (by dsimp only; omega) _⟩
theorem gs_iter {s : ByteArray} {w : World} {N pos : Nat} {xa xb va : Value} {na : Nat} {la : List Value} {vb : Value} {nb : Nat} {lb : List Value} {X : World} (h : GS s w N pos xa xb va na la vb nb lb X) (hN : w.heap.size + 1 < N) (p' : Nat) :
    GS s w N p' xa xb va na la vb nb lb (X.iterAt (N + 2) s p') := by
  obtain ⟨⟨⟨⟨⟨⟨⟨h0, h1⟩, h2⟩, h3⟩, h4⟩, h5⟩, h6⟩, hB⟩ := h
  have hg := grown_iterAt X (N + 2) s p'
  exact ⟨⟨⟨⟨⟨⟨⟨h0.kept hg (fun e => iter_not_box h4 h0 (Option.some.inj e).symm), h1.kept hg (fun e => iter_not_box h4 h1 (Option.some.inj e).symm)⟩, h2.kept hg (fun e => iter_not_box h4 h2 (Option.some.inj e).symm)⟩, h3.kept hg (fun e => iter_not_box h4 h3 (Option.some.inj e).symm)⟩, Lib.iterAt_heap X (N + 2) s pos p' h4⟩, h5.kept hg (own_iter h5 h4)⟩, h6.kept hg (own_iter h6 h4)⟩, Lib.below_iterAt hB (by omega) s _⟩

theorem gs_drew {s : ByteArray} {w : World} {N pos : Nat} {xa xb va : Value} {na : Nat} {la : List Value} {vb : Value} {nb : Nat} {lb : List Value} {X : World} (h : GS s w N pos xa xb va na la vb nb lb X) : GS s w N pos xa xb va na la vb nb lb X.drew := ⟨h.1, h.2.drew⟩

def GoRel (s : ByteArray) (w : World) (N : Nat) (wr : World) : Prop :=
  ∃ (pre : List Nat) (pos : Nat) (va vb : Value), posns s = pre ++ posG s pos ∧ GS s w N pos va vb va pre.length (ints pre) vb pre.length (rns s pre) wr

/-- Between two turns of the range. -/
def GoI (s : ByteArray) (w : World) (N L n : Nat) (pre : List (Pos s)) (W : World) : Prop :=
  ((((((Boxed W w.heap.size 9 (.string s) ∧ Boxed W (w.heap.size + 1) 4 (.bool false)) ∧ BoxRow W N 39 w.heap.size 3 1 (n + 1) (ints (posns s ++ [s.size]))) ∧ BoxRow W (N + 1) 55 w.heap.size 21 1 n (rns s (posns s))) ∧ Boxed W L 3 (.int .i64 (pre.length : Nat))) ∧ Boxed W (L + 1) 9 (.string s)) ∧ Below w.heap.size w W)

/-- A turn's end: the number goes on. -/
theorem go_end {s : ByteArray} {w : World} {N L n k m : Nat} {pre : List (Pos s)} (x : Pos s) {W : World} {vA vB : Value} (hz : w.heap.size + 1 < N) (l3 : N + 1 < L) (hkl : pre.length = k)
    (h0 : Boxed W w.heap.size 9 (.string s)) (h1 : Boxed W (w.heap.size + 1) 4 (.bool false)) (h2 : Boxed W N 39 vA) (hrA : W.ownsRow w.heap.size 3 1 vA (n + 1) (ints (posns s ++ [s.size])))
    (h3 : Boxed W (N + 1) 55 vB) (hrB : W.ownsRow w.heap.size 21 1 vB n (rns s (posns s))) (h4 : Boxed W L 3 (.int .i64 k)) (h5 : Boxed W (L + 1) 9 (.string s)) (hB : Below w.heap.size w W)
    (hapart : vA.ownBlock ≠ some L) :
    KeepsOthers W ((W.drewN m).setCell ⟨L, 0, none⟩ (.int .i64 ((k : Int) + 1))) ∧ ((W.drewN m).setCell ⟨L, 0, none⟩ (.int .i64 ((k : Int) + 1))).heap[L + 1]? = W.heap[L + 1]? ∧
      GoI s w N L n (pre ++ [x]) ((W.drewN m).setCell ⟨L, 0, none⟩ (.int .i64 ((k : Int) + 1))) := by
  have d0 : Boxed (W.drewN m) w.heap.size 9 (.string s) := h0
  have d1 : Boxed (W.drewN m) (w.heap.size + 1) 4 (.bool false) := h1
  have d2 : Boxed (W.drewN m) N 39 vA := h2
  have d3 : Boxed (W.drewN m) (N + 1) 55 vB := h3
  have d4 : Boxed (W.drewN m) L 3 (.int .i64 k) := h4
  have d5 : Boxed (W.drewN m) (L + 1) 9 (.string s) := h5
  have dA : (W.drewN m).ownsRow w.heap.size 3 1 vA (n + 1) (ints (posns s ++ [s.size])) := hrA
  have dB : (W.drewN m).ownsRow w.heap.size 21 1 vB n (rns s (posns s)) := hrB
  have e5 := d5.other (B' := L) (by omega) (.int .i64 ((k : Int) + 1))
  refine ⟨(⟨Nat.le_refl _, fun _ _ h _ => h⟩ : KeepsOthers W (W.drewN m)).trans (KeepsOthers.setCell _ _ _), (show _ = _ from e5).trans (show _ = _ from h5).symm, ?_⟩
  refine ⟨⟨⟨⟨⟨⟨d0.other (by omega) _, d1.other (by omega) _⟩, ⟨vA, d2.other (by omega) _, dA.kept (grownBy_setCell _ L 0 _) (.inr hapart)⟩⟩, ⟨vB, d3.other (by omega) _, dB.kept (grownBy_setCell _ L 0 _) (.inr (fun e => boxed_not_row d4 (by decide) dB e))⟩⟩, ?_⟩, e5⟩, (hB.trans ⟨rfl, rfl, rfl, Nat.le_refl _, fun _ _ => rfl⟩ : Below w.heap.size w (W.drewN m)).setCell (p := ⟨L, 0, none⟩) (by dsimp only; omega) _⟩
  rw [List.length_append, hkl]
  exact d4.set _

/-- What the piece number k is, beside the two lists. -/
theorem go_next (s : ByteArray) (k y : Nat) (h : (posns s)[k]? = some y) : (posns s ++ [s.size])[k + 1]? = some (y + wd s y) := by
  have h1 := List.getElem?_eq_some_iff.1 h
  obtain ⟨hk, hy⟩ := h1
  have hd : posns s = (posns s).take k ++ y :: (posns s).drop (k + 1) := by
    rw [← hy, List.getElem_cons_drop, List.take_append_drop]
  have h2 : posG s 0 = (posns s).take k ++ y :: (posns s).drop (k + 1) := by rw [← posns_G]; exact hd
  have h3 := (posG_tail s 0 _ _ _ h2).2.1
  have hyl := (posG_ge s 0 y (by rw [h2]; simp)).2
  have hwf := wd_fits s y hyl
  by_cases hlt : y + wd s y < s.size
  · rw [posG_cons s _ hlt] at h3
    have hk1 : k + 1 < (posns s).length := by
      rcases Nat.lt_or_ge (k + 1) (posns s).length with h | h
      · exact h
      · rw [List.drop_eq_nil_of_le h] at h3; cases h3
    rw [List.getElem?_append_left hk1]
    have h4 : (posns s).drop (k + 1) = (posns s)[k + 1] :: (posns s).drop (k + 1 + 1) := (List.getElem_cons_drop (h := hk1)).symm
    rw [h4] at h3
    rw [List.getElem?_eq_getElem hk1, (List.cons.inj h3).1]
  · rw [posG_end s _ (by omega)] at h3
    have hlen : (posns s).length = k + 1 := by
      have := congrArg List.length h3
      rw [List.length_drop] at this
      simp at this; omega
    rw [List.getElem?_append_right (by omega), hlen, Nat.sub_self]
    simp; omega

theorem go_at {s : ByteArray} {pre : List (Pos s)} {x : Pos s} (h : List.map (fun (x : Pos s) => (x.1 : Nat)) (pre ++ [x]) <+: posns s) : pre.length < (posns s).length ∧ (posns s)[pre.length]? = some x.1 := by
  have hl := h.length_le
  simp at hl
  obtain ⟨r, hr⟩ := h
  refine ⟨by omega, ?_⟩
  rw [← hr, List.map_append, List.append_assoc, List.getElem?_append_right (by simp)]
  simp

end Go.Proofs.Ytgpnheaefagfiaa
