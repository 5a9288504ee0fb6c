/- RunesFeeds: what was told is spoilt, place by place. -/
import Derived.Test.YtgpnheaefagfiaaFd7
namespace Go.Proofs.Ytgpnheaefagfiaa
set_option linter.unusedVariables false
set_option linter.unusedSimpArgs false
open Go Go.RowKit
set_option maxRecDepth 100000

/-- Between two places: what is still to be looked at stands as it was told. -/
def FaSt (n F b0 b1 : Nat) (X0 : ByteArray) (a0 : Nat) (X1 : ByteArray) (a1 : Nat) (w : World) (told want : Value) (l : List Tw) (k : Nat) (A : List Value) (W : World) : Prop :=
  ((W.ownsRow (F + 2) 29 1 told n (A ++ (l.drop k).map (fun x => x.1)) ∧ W.ownsRow (F + 2) 29 1 want n (l.map (fun x => x.2.1)) ∧ Twos W (F + 2) (l.drop k)) ∧ Feeds W F (F + 1) b0 b1 X0 a0 X1 a1) ∧ F + 2 ≤ W.heap.size ∧ Below w.heap.size w W
/-- At a place: v stands there, a row of its own. -/
def FtSt (n F b0 b1 : Nat) (X0 : ByteArray) (a0 : Nat) (X1 : ByteArray) (a1 : Nat) (w : World) (told want : Value) (l : List Tw) (k : Nat) (A : List Value) (v : Value) (m : Nat) (W : World) : Prop :=
  ((W.ownsRow (F + 2) 29 1 told n (A ++ v :: (l.drop (k + 1)).map (fun x => x.1)) ∧ W.ownsRow (F + 2) 29 1 want n (l.map (fun x => x.2.1)) ∧ Twos W (F + 2) (l.drop (k + 1)) ∧ (∃ xs, W.ownsRow (F + 2) 24 4 v m xs) ∧ (∀ y ∈ l.drop (k + 1), Ap v y.1 ∧ Ap v y.2.1)) ∧ Feeds W F (F + 1) b0 b1 X0 a0 X1 a1) ∧ F + 2 ≤ W.heap.size ∧ Below w.heap.size w W

section
variable {n F b0 b1 a0 a1 k m : Nat} {X0 X1 : ByteArray} {w W W' : World} {told want v : Value} {l : List Tw} {A : List Value}
theorem FaSt.below (h : FaSt n F b0 b1 X0 a0 X1 a1 w told want l k A W) (hb : Below W.heap.size W W') : FaSt n F b0 b1 X0 a0 X1 a1 w told want l k A W' :=
  ⟨⟨⟨own_below h.1.1.1 hb, own_below h.1.1.2.1 hb, h.1.1.2.2.below hb⟩, h.1.2.below hb⟩, Nat.le_trans h.2.1 hb.size, h.2.2.trans (hb.mono h.2.2.size)⟩
theorem FtSt.below (h : FtSt n F b0 b1 X0 a0 X1 a1 w told want l k A v m W) (hb : Below W.heap.size W W') : FtSt n F b0 b1 X0 a0 X1 a1 w told want l k A v m W' := by
  obtain ⟨xs, hx⟩ := h.1.1.2.2.2.1
  exact ⟨⟨⟨own_below h.1.1.1 hb, own_below h.1.1.2.1 hb, h.1.1.2.2.1.below hb, ⟨xs, own_below hx hb⟩, h.1.1.2.2.2.2⟩, h.1.2.below hb⟩, Nat.le_trans h.2.1 hb.size, h.2.2.trans (hb.mono h.2.2.size)⟩
theorem FaSt.here (h : FaSt n F b0 b1 X0 a0 X1 a1 w told want l k A W) {x : Tw} (hx : l.drop k = x :: l.drop (k + 1)) : FtSt n F b0 b1 X0 a0 X1 a1 w told want l k A x.1 x.2.2.length W := by
  obtain ⟨⟨⟨h1, h2, h3⟩, h4⟩, h5, h6⟩ := h
  rw [hx] at h1 h3
  exact ⟨⟨⟨h1, h2, ⟨fun y hy => h3.1 y (List.mem_cons_of_mem _ hy), (List.pairwise_cons.1 h3.2).2⟩, ⟨_, (h3.1 x (by simp)).1⟩, (List.pairwise_cons.1 h3.2).1⟩, h4⟩, h5, h6⟩
theorem FtSt.on (h : FtSt n F b0 b1 X0 a0 X1 a1 w told want l k A v m W) : FaSt n F b0 b1 X0 a0 X1 a1 w told want l (k + 1) (A ++ [v]) W := by
  obtain ⟨⟨⟨h1, h2, h3, _, _⟩, h4⟩, h5, h6⟩ := h
  exact ⟨⟨⟨by rw [List.append_assoc]; exact h1, h2, h3⟩, h4⟩, h5, h6⟩
/-- v's row is written, or grows. -/
theorem FtSt.next (h : FtSt n F b0 b1 X0 a0 X1 a1 w told want l k A v m W) (hw : w.heap.size ≤ F + 2) (hg : W.grownBy W' v.ownBlock) {m' : Nat} {xs' : List Value} (hv : W'.ownsRow (F + 2) 24 4 v m' xs') :
    FtSt n F b0 b1 X0 a0 X1 a1 w told want l k A v m' W' := by
  obtain ⟨⟨⟨h1, h2, h3, ⟨xs, hx⟩, h5⟩, h4⟩, h6, h7⟩ := h
  exact ⟨⟨⟨h1.kept hg (rows_apart h1 hx (by decide)), h2.kept hg (rows_apart h2 hx (by decide)), h3.kept hg (fun y hy => ⟨(h5 y hy).1.ne, (h5 y hy).2.ne⟩), ⟨xs', hv⟩, h5⟩, h4.row hx (.inl rfl) hg⟩, Nat.le_trans h6 hg.size, h7.grown hg h7.size (fun j hj => Nat.le_trans hw (hx.lt j hj).1)⟩
theorem FtSt.set4 {g c p : Nat} (h : FtSt n F b0 b1 X0 a0 X1 a1 w told want l k A (.slice (some ⟨g, 0, none⟩) m c) m W) (hw : w.heap.size ≤ F + 2) (u0 u1 u2 u3 : Value) :
    FtSt n F b0 b1 X0 a0 X1 a1 w told want l k A (.slice (some ⟨g, 0, none⟩) m c) m ((((W.setCell ⟨g, p * 4, none⟩ u0).setCell ⟨g, p * 4 + 1, none⟩ u1).setCell ⟨g, p * 4 + 2, none⟩ u2).setCell ⟨g, p * 4 + 3, none⟩ u3) := by
  obtain ⟨xs, hx⟩ := h.1.1.2.2.2.1
  obtain ⟨r0, g0⟩ := hx.stored (p * 4) u0
  obtain ⟨r1, g1⟩ := r0.stored (p * 4 + 1) u1
  obtain ⟨r2, g2⟩ := r1.stored (p * 4 + 2) u2
  obtain ⟨r3, g3⟩ := r2.stored (p * 4 + 3) u3
  exact h.next hw (((g0.trans g1).trans g2).trans g3) r3
/-- told[k] is laid anew. -/
theorem FtSt.lay {gt tc m' g c N : Nat} {xs' : List Value} {o : Obj} (h : FtSt n F b0 b1 X0 a0 X1 a1 w (.slice (some ⟨gt, 0, none⟩) n tc) want l k A v m W) (hw : w.heap.size ≤ F + 2) (hap : Ap (.slice (some ⟨gt, 0, none⟩) n tc) want) (hA : A.length = k)
    (hg : (W.alloc o).grownBy W' v.ownBlock) (hv : W'.ownsRow (F + 2) 24 4 (.slice (some ⟨g, 0, none⟩) m' c) m' xs') (hat : v.ownBlock = some g ∨ g = N) (hN : W.heap.size ≤ N) :
    FtSt n F b0 b1 X0 a0 X1 a1 w (.slice (some ⟨gt, 0, none⟩) n tc) want l k A (.slice (some ⟨g, 0, none⟩) m' c) m' (W'.setCell ⟨gt, k, none⟩ (.slice (some ⟨g, 0, none⟩) m' c)) := by
  have hal := h.below ((Below.refl _ W).alloc (Nat.le_refl _) o)
  obtain ⟨⟨⟨h1, h2, h3, ⟨xs, hx⟩, h5⟩, h4⟩, h6, h7⟩ := hal
  have k1 := h1.kept hg (rows_apart h1 hx (by decide))
  have k2 := h2.kept hg (rows_apart h2 hx (by decide))
  have k3 := h3.kept hg (fun y hy => ⟨(h5 y hy).1.ne, (h5 y hy).2.ne⟩)
  have k4 := h4.row hx (.inl rfl) hg
  have k7 := h7.grown hg h7.size (fun j hj => Nat.le_trans hw (hx.lt j hj).1)
  obtain ⟨r0, g0⟩ := k1.stored k (.slice (some ⟨g, 0, none⟩) m' c)
  have g1 : W'.grownBy (W'.setCell ⟨gt, k, none⟩ (.slice (some ⟨g, 0, none⟩) m' c)) (Value.slice (some ⟨gt, 0, none⟩) n tc).ownBlock := g0
  rw [show (A ++ v :: (l.drop (k + 1)).map (fun x => x.1)).set k (.slice (some ⟨g, 0, none⟩) m' c) = A ++ (.slice (some ⟨g, 0, none⟩) m' c) :: (l.drop (k + 1)).map (fun x => x.1) by
    rw [List.set_append, if_neg (by omega), hA, Nat.sub_self]; rfl] at r0
  refine ⟨⟨⟨r0, k2.kept g1 hap.ne, k3.kept g1 (fun y hy => ⟨rows_apart (k3.1 y hy).1 k1 (by decide), rows_apart (k3.1 y hy).2.1 k1 (by decide)⟩), ⟨xs', hv.kept g1 (rows_apart hv k1 (by decide))⟩, fun y hy => ?_⟩, k4.row k1 (.inr rfl) g1⟩, Nat.le_trans (Nat.le_trans h6 hg.size) g1.size, k7.grown g1 k7.size (fun j hj => Nat.le_trans hw (k1.lt j hj).1)⟩
  have hq := h.1.1.2.2.1.1 y hy
  exact ⟨ap_new hat (h5 y hy).1 (fun j hj => by have := (hq.1.lt j hj).2; omega), ap_new hat (h5 y hy).2 (fun j hj => by have := (hq.2.1.lt j hj).2; omega)⟩
end
end Go.Proofs.Ytgpnheaefagfiaa
