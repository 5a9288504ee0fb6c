/- PlaceGo: its first loop, as Go's own range goes; between two turns of its second. -/
import Derived.Test.YtjlfdoonhfkabaaOneA
import Derived.Test.YtjlfdoonhfkabaaEr
import Derived.Laws.IdiomStrings
namespace Go.Proofs.Ytjlfdoonhfkabaa
set_option linter.unusedVariables false
set_option linter.unusedSimpArgs false
open Go Go.RowKit Go.Shelf
set_option maxRecDepth 100000

theorem infoNum : (Try.prog.info? 3).map (fun i => (i.zero, i.size, i.bytes)) = some (some (.int .i64 0), 1, 8) := by kernel_rfl
theorem gp_own_iter {w : World} {b : Nat} {e : TypeId} {sz n : Nat} {v : Value} {xs : List Value} (h : w.ownsRow b e sz v n xs) {it : Nat} {s : ByteArray} {pos : Nat} (hi : w.heap[it]? = some (.stringIter s pos)) : v.ownBlock = none ∨ v.ownBlock ≠ some it := by
  rcases h.2 with ⟨rfl, _⟩ | ⟨g, cap, cur, rfl, _, hg, _⟩
  · exact .inl rfl
  · right
    intro e'
    obtain rfl : g = it := by simpa [Value.ownBlock] using e'
    rw [hi] at hg; cases hg
theorem gp_iter_not_row {W : World} {k : Nat} {t : ByteArray} {p : Nat} (h : W.heap[k]? = some (.stringIter t p)) {base size n : Nat} {e : TypeId} {v : Value} {xs : List Value} (hr : W.ownsRow base e size v n xs) : some k ≠ v.ownBlock := by
  rcases hr.2 with ⟨rfl, _⟩ | ⟨g, cap, cur, rfl, _, hgb, _⟩
  · simp [Value.ownBlock]
  · intro e'
    obtain rfl : k = g := by simpa [Value.ownBlock] using e'
    rw [h] at hgb; cases hgb
/-- The bytes at which the first k pieces begin. -/
def bsP (s : ByteArray) (k : Nat) : List Nat := (List.range k).map fun i => (pK s i).b
theorem bsP_succ (s : ByteArray) (k : Nat) : bsP s (k + 1) = bsP s k ++ [(pK s k).b] := by simp [bsP, List.range_succ]
theorem bsP_len (s : ByteArray) (k : Nat) : (bsP s k).length = k := by simp [bsP]
theorem bsP_get (s : ByteArray) {k x : Nat} (h : x < k) : (bsP s k)[x]? = some (pK s x).b := by simp [bsP, h]

def GpR (s : ByteArray) (w2 : World) (N : Nat) (k : Nat) (va : Value) (X : World) : Prop :=
  ((Boxed X N 69 va ∧ X.heap[N + 1]? = some (.stringIter s (pK s k).b)) ∧ X.ownsRow N 3 1 va k (ints (bsP s k))) ∧ Below N w2 X
def GpRel (s : ByteArray) (w2 : World) (N : Nat) (u : Value) (wr : World) : Prop := ∃ (k : Nat) (va : Value), u = .int .i64 (pK s k).u ∧ k ≤ nP s ∧ GpR s w2 N k va wr

/-- The range goes on by one piece. -/
theorem gp_iter {s : ByteArray} {w2 X : World} {N k : Nat} {va : Value} (h : GpR s w2 N k va X) (p' : Nat) :
    Boxed (X.iterAt (N + 1) s p') N 69 va ∧ (X.iterAt (N + 1) s p').heap[N + 1]? = some (.stringIter s p') ∧ (X.iterAt (N + 1) s p').ownsRow N 3 1 va k (ints (bsP s k)) ∧ Below N w2 (X.iterAt (N + 1) s p') := by
  obtain ⟨⟨⟨h0, h1⟩, h2⟩, hB⟩ := h
  have hg := grown_iterAt X (N + 1) s p'
  exact ⟨h0.kept hg (fun e => by have := Option.some.inj e; omega), Lib.iterAt_heap X (N + 1) s _ p' h1, h2.kept hg (gp_own_iter h2 h1), Lib.below_iterAt hB (by omega) s _⟩

/-- The list has grown by one place. -/
theorem gp_next {s : ByteArray} {w2 P Y : World} {N k : Nat} {va v' : Value} (h0 : Boxed P N 69 va) (h1 : P.heap[N + 1]? = some (.stringIter s ((pK s k).b + wd s (pK s k).b))) (h2 : P.ownsRow N 3 1 va k (ints (bsP s k))) (hB : Below N w2 P) (hN : N ≤ P.heap.size)
    (hg : (P.alloc (.cells #[.int .i64 (pK s k).b] 3)).grownBy Y va.ownBlock) (hr : Y.ownsRow N 3 1 v' (k + 1) (ints (bsP s k) ++ [.int .i64 (pK s k).b])) : GpR s w2 N (k + 1) v' (Y.setCell ⟨N, 0, none⟩ v') := by
  obtain ⟨q1, ⟨v2, q2, q3⟩, _, q4⟩ := row_step (W := P.alloc (.cells #[.int .i64 (pK s k).b] 3)) (T := 69) (e := 3) (by decide) (h0.alloc _) (h2.alloc _) hg hr
  have hc := q2.cell
  have e1 := (show Boxed Y N 69 va from (h0.alloc _).kept hg (fun e' => boxed_not_row (h0.alloc (.cells #[.int .i64 (pK s k).b] 3)) (by decide) (h2.alloc _) e'.symm)).set v'
  have hh1 : (P.alloc (.cells #[.int .i64 (pK s k).b] 3)).heap[N + 1]? = some (.stringIter s ((pK s k).b + wd s (pK s k).b)) := (Below.heap_alloc P _ _ (Array.getElem?_eq_some_iff.1 h1).1).trans h1
  refine ⟨⟨⟨e1, (Below.heap_setCell _ _ _ _ (by dsimp only; omega)).trans ((hg.block _ (Array.getElem?_eq_some_iff.1 hh1).1 (gp_iter_not_row hh1 (h2.alloc _))).trans hh1)⟩, ?_⟩, q4 _ _ (hB.alloc hN _) (Nat.le_refl _) (Nat.le_refl _) (by simp; omega)⟩
  rw [bsP_succ, ints_snoc]
  exact hr.kept (grownBy_setCell Y N 0 v') (.inr (fun e => boxed_not_row ((h0.alloc (.cells #[.int .i64 (pK s k).b] 3)).kept hg (fun e' => boxed_not_row (h0.alloc (.cells #[.int .i64 (pK s k).b] 3)) (by decide) (h2.alloc _) e'.symm)) (by decide) hr e))

/-- []rune(s): as many as there are pieces. -/
theorem conv_len (s : ByteArray) (hs : s.size ≤ 65536) (w : World) : ∃ o c w', (convert 9 70 (.string s)).run Try.prog w = .ok (.slice o (nP s) c) w' ∧ Below w.heap.size w w' := by
  have hr : ∀ (b i : Nat) (acc : Array Value), s.size - i ≤ b → (Conv.runesFrom s b i acc).size = acc.size + (posG s i).length := by
    intro b
    induction b with
    | zero =>
      intro i acc h
      rw [posG_end s i (by omega)]
      simp [Conv.runesFrom]
    | succ b ih =>
      intro i acc h
      unfold Conv.runesFrom
      by_cases hi : i < s.size
      · have h1 := wd_pos s i
        rw [if_pos hi, posG_cons s i hi, dec_eq s i hi]
        show (Conv.runesFrom s b (i + wd s i) (acc.push (.int .i32 (Int.ofNat (rn s i))))).size = _
        rw [ih (i + wd s i) _ (by omega)]
        simp; omega
      · rw [if_neg hi, posG_end s i (by omega)]
        simp
  have hn : (Conv.runesFrom s s.size 0 #[]).size = nP s := by rw [hr s.size 0 #[] (by omega)]; simp [nP, posns_G]
  have hpl := nP_le s
  have h := run_runes_of_string (P := Try.prog) w 9 70 21 s Try.underlying9 Try.underlying70 Try.underlying21 (by rw [hn]; omega)
  rw [hn] at h
  exact ⟨_, _, _, h, (Below.refl _ _).drew.alloc (Nat.le_refl _) _⟩

/-- Between two turns of the second loop. -/
def PgI (w w1 : World) (L : Nat) (pre : List Nat) (W : World) : Prop :=
  (Blk W L #[.int .i64 pre.length] 3 ∧ Same L w1 W) ∧ Below w.heap.size w W
theorem pg_x {w w1 : World} {L base : Nat} (h1 : w1.heap.size = L) (hb : L ≤ base) (hw : w.heap.size ≤ L) : AbX base FrE (PgI w w1 L) :=
  AbX.and (AbX.and (blk_x _ _ (fun (pre : List Nat) => #[.int .i64 pre.length]) _) (fun _ X Y row h hg hr k hk => by
    have h1 := h k hk
    have h2 : k < X.heap.size := by
      rw [show w1.heap[k]? = some (w1.heap[k]'(by omega)) from Array.getElem?_eq_getElem _] at h1
      exact (Array.getElem?_eq_some_iff.1 h1).1
    exact (hg.block k h2 (fun e => by have := (hr k e.symm).1; omega)).trans h1))
    (fun _ X Y row h hg hr => h.grown hg h.size (fun k hk => by have := (hr k hk).1; omega))
theorem pg_next {w w1 W X : World} {L x base B : Nat} {z : Int} (h : PgI w w1 L (List.range x) W) (hX : Below W.heap.size W X) (hz : z = (x : Int) + 1) (hw : w.heap.size ≤ L) (hBL : B ≠ L) (hBW : B < W.heap.size) :
    KeepsFrom base W (X.setCell ⟨L, 0, none⟩ (.int .i64 z)) ∧ KpE B L W (X.setCell ⟨L, 0, none⟩ (.int .i64 z)) ∧ PgI w w1 L (List.range x ++ [x]) (X.setCell ⟨L, 0, none⟩ (.int .i64 z)) := by
  obtain ⟨⟨h1, h2⟩, h3⟩ := h
  have hL : L < W.heap.size := h1.lt
  have hk : ∀ k, k < W.heap.size → k ≠ L → (X.setCell ⟨L, 0, none⟩ (.int .i64 z)).heap[k]? = W.heap[k]? := fun k hk hn => (Below.heap_setCell X _ _ _ (by dsimp only; omega)).trans (hX.block _ hk)
  have K : KeepsOthers W (X.setCell ⟨L, 0, none⟩ (.int .i64 z)) := (KeepsOthers.of_grownBy (grown_none hX) (fun j o hj => by cases hj)).trans (KeepsOthers.setCell X _ _)
  refine ⟨K.from _, ⟨⟨K.walks, hk _ hBW hBL⟩, fun k hk' => hk k (by omega) (by omega)⟩, ⟨?_, fun k hk' => (hk k (by omega) (by omega)).trans (h2 k hk')⟩, (h3.trans (hX.mono h3.size)).setCell (p := ⟨L, 0, none⟩) (by dsimp only; omega) _⟩
  have := (h1.below' hX).set 0 (.int .i64 z)
  simp only [List.length_append, List.length_range, List.length_singleton]
  subst hz
  simpa using this
end Go.Proofs.Ytjlfdoonhfkabaa
