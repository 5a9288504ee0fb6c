/- Generic small facts on blocks, rows, loops and ranges over functions: what the walks of every layer lean on. -/
import Derived.Test.YtjccoiephdopkaaDoorRows
import Derived.Test.YtjccoiephdopkaaDoorRg
import Derived.Test.YtjccoiephdopkaaDoorGn
import Derived.RangeFuncNested
import Derived.RangeFuncBound
import Derived.RangeFuncCalls
import Derived.RangeFuncLeaves
import Derived.RangeFuncBox
import Derived.Shelf.Abstract
import Derived.Shelf.RegionOpen
import Derived.OwnWalkIn
import Derived.TacticsInMore
import Derived.LoopNIn
import Derived.LoopIn
import Derived.Lib.OthersKept
import Derived.Deep.AppendLies
import Derived.Handy
import Derived.Maps.AppendAt
import Derived.BigQuiet
import Derived.Deep.QuietTactic
namespace Go.Proofs.YtjccoiephdopkaaDoor
set_option linter.unusedVariables false
set_option linter.unusedSimpArgs false
open Go Go.RowKit Go.Shelf
set_option maxRecDepth 100000

theorem bcellK {W w1 : World} (hb : Below W.heap.size W w1) : (∀ b o, b < W.heap.size → w1.cell? ⟨b, o, none⟩ = W.cell? ⟨b, o, none⟩) ∧ (∀ b o, b < W.heap.size → w1.frozen? ⟨b, o, none⟩ = W.frozen? ⟨b, o, none⟩) :=
  ⟨fun b o h => hb.cell (p := ⟨b, o, none⟩) h, fun b o h => hb.frozen (p := ⟨b, o, none⟩) h⟩

theorem grown_none {w w' : World} (h : Below w.heap.size w w') : w.grownBy w' none :=
  ⟨h.os, h.tape, h.output, h.size, fun k hk _ => h.block k hk⟩

theorem grown_iterAt (w : World) (k : Nat) (s : ByteArray) (pos : Nat) : w.grownBy (w.iterAt k s pos) (some k) :=
  ⟨rfl, rfl, rfl, by rw [Lib.iterAt_size]; exact Nat.le_refl _, fun i _ h => Lib.iterAt_other w k i s pos (fun e => h (by rw [e]))⟩

/-- What the body of a round keeps for the iterator over a text's pieces: the walk's own object, and the variable that holds the text. -/
def KpB (B : Nat) (W W' : World) : Prop := KeepsWalks W W' ∧ W'.heap[B]? = W.heap[B]?

theorem kpB_t {B : Nat} {X Y Z : World} (h : KpB B X Y) (k : KpB B Y Z) : KpB B X Z := ⟨h.1.trans k.1, k.2.trans h.2⟩
theorem kpB_b {B : Nat} {w : World} (hB : B < w.heap.size) (W : World) (l : Nat) (o o' : Obj) (hl : w.heap.size ≤ l) (h : W.heap[l]? = some o) (_ : o.isCells = false) (hw : o.isWalk = false) : KpB B W (W.putObj l o') :=
  ⟨KeepsWalks.putObj _ h hw, World.putObj_heap_other (by omega)⟩

theorem own_below {w w1 : World} {base : Nat} {e : TypeId} {size n : Nat} {v : Value} {xs : List Value} (h : w.ownsRow base e size v n xs) (hb : Below w.heap.size w w1) : w1.ownsRow base e size v n xs :=
  h.kept (grown_none hb) (by cases v.ownBlock <;> simp)

theorem own_other {w w1 : World} {base : Nat} {e : TypeId} {size n : Nat} {v : Value} {xs : List Value} (h : w.ownsRow base e size v n xs) {k : Nat} (hk : w.heap.size ≤ k) (hw : w.heap.size ≤ w1.heap.size) : some k ≠ v.ownBlock := by
  intro e1
  have := h.lt k e1.symm
  omega

theorem rows_apart {w : World} {b1 b2 : Nat} {e1 e2 : TypeId} {s1 s2 n1 n2 : Nat} {v1 v2 : Value} {x1 x2 : List Value} (h1 : w.ownsRow b1 e1 s1 v1 n1 x1) (h2 : w.ownsRow b2 e2 s2 v2 n2 x2) (he : e1 ≠ e2) : v1.ownBlock = none ∨ v1.ownBlock ≠ v2.ownBlock := by
  rcases h1.2 with ⟨rfl, _⟩ | ⟨g1, c1, cur1, rfl, _, hg1, _⟩
  · exact .inl rfl
  · rcases h2.2 with ⟨rfl, _⟩ | ⟨g2, c2, cur2, rfl, _, hg2, _⟩
    · right; simp [Value.ownBlock]
    · right
      simp only [Value.ownBlock, ne_eq, Option.some.injEq]
      intro e
      rw [e, hg2] at hg1
      cases hg1
      exact he rfl

theorem own_slice {w : World} {b : Nat} {e : TypeId} {sz n : Nat} {v : Value} {xs : List Value} (h : w.ownsRow b e sz v n xs) : ∃ o cap, v = .slice o n cap ∧ (0 < n → ∃ g, o = some ⟨g, 0, none⟩) := by
  rcases h.2 with ⟨rfl, rfl⟩ | ⟨g, cap, cur, rfl, _⟩
  · exact ⟨none, 0, rfl, fun h => by omega⟩
  · exact ⟨_, cap, rfl, fun _ => ⟨g, rfl⟩⟩

/-- Numbers, as values. -/
def ints (l : List Nat) : List Value := l.map fun (i : Nat) => Value.int .i64 i
theorem ints_snoc (l : List Nat) (i : Nat) : ints (l ++ [i]) = ints l ++ [.int .i64 i] := by simp [ints]

/-- Number k of a list of numbers, where it lies. -/
theorem nth_int {l : List Nat} {e : TypeId} {base g cap n : Nat} {w : World} (h : w.ownsRow base e 1 (.slice (some ⟨g, 0, none⟩) n cap) n (ints l)) (hn : l.length = n) (k : Nat) (hk : k < n) (p : Nat) (hp : l[k]? = some p) :
    w.cell? ⟨g, k, none⟩ = some (.int .i64 p) := by
  rw [h.cellAt k (by omega)]
  simp [ints, hp]

/-- Block B holds the cells cs of type t, none of them frozen. -/
def Blk (W : World) (B : Nat) (cs : Array Value) (t : TypeId) : Prop := W.heap[B]? = some (.cells cs t (0, 0))

theorem Blk.lt {W : World} {B : Nat} {cs : Array Value} {t : TypeId} (h : Blk W B cs t) : B < W.heap.size := (Array.getElem?_eq_some_iff.1 h).1
theorem Blk.cell {W : World} {B : Nat} {cs : Array Value} {t : TypeId} (h : Blk W B cs t) (o : Nat) : W.cell? ⟨B, o, none⟩ = cs[o]? := by
  simp only [World.cell?, show W.heap[B]? = _ from h]; rfl
theorem Blk.frozen {W : World} {B : Nat} {cs : Array Value} {t : TypeId} (h : Blk W B cs t) (o : Nat) : W.frozen? ⟨B, o, none⟩ = false := by simp [World.frozen?, show W.heap[B]? = _ from h]
theorem Blk.new (W : World) (cs : Array Value) (t : TypeId) : Blk (W.alloc (.cells cs t)) W.heap.size cs t := World.alloc_heap_new W _
theorem Blk.kept {W W' : World} {row : Option Nat} {B : Nat} {cs : Array Value} {t : TypeId} (h : Blk W B cs t) (hg : W.grownBy W' row) (hne : some B ≠ row) : Blk W' B cs t := (hg.block B h.lt hne).trans h
theorem Blk.alloc {W : World} {B : Nat} {cs : Array Value} {t : TypeId} (h : Blk W B cs t) (o : Obj) : Blk (W.alloc o) B cs t := h.kept (World.grownBy_alloc W o none) (by simp)
theorem Blk.below {W W' : World} {B n : Nat} {cs : Array Value} {t : TypeId} (h : Blk W B cs t) (hb : Below n W W') (hn : B < n) : Blk W' B cs t := (hb.block B hn).trans h
theorem Blk.below' {W W' : World} {B : Nat} {cs : Array Value} {t : TypeId} (h : Blk W B cs t) (hb : Below W.heap.size W W') : Blk W' B cs t := h.below hb h.lt
theorem Blk.drew {W : World} {B : Nat} {cs : Array Value} {t : TypeId} (h : Blk W B cs t) : Blk W.drew B cs t := h

theorem Blk.set {W : World} {B : Nat} {cs : Array Value} {t : TypeId} (h : Blk W B cs t) (o : Nat) (v : Value) : Blk (W.setCell ⟨B, o, none⟩ v) B (cs.setIfInBounds o v) t := by
  obtain ⟨hlt, hk⟩ := Array.getElem?_eq_some_iff.1 h
  show (W.heap.modify B _)[B]? = _
  rw [Array.getElem?_eq_getElem (by rw [Array.size_modify]; exact hlt), Array.getElem_modify_self, hk]
  rfl
theorem grownBy_setCell (W : World) (b o : Nat) (v : Value) : W.grownBy (W.setCell ⟨b, o, none⟩ v) (some b) :=
  ⟨rfl, rfl, rfl, (by show W.heap.size ≤ (W.heap.modify _ _).size; rw [Array.size_modify]; exact Nat.le_refl _), fun k _ hk => Below.heap_setCell _ _ _ k (fun e => hk (by rw [e]))⟩
theorem Blk.other {W : World} {B B' : Nat} {cs : Array Value} {t : TypeId} (h : Blk W B cs t) (hne : B ≠ B') (o : Nat) (u : Value) : Blk (W.setCell ⟨B', o, none⟩ u) B cs t := h.kept (grownBy_setCell W B' o u) (fun e => hne (by cases e; rfl))
theorem Blk.not_row {W : World} {B : Nat} {cs : Array Value} {t e : TypeId} (h : Blk W B cs t) (hte : t ≠ e) {base size k : Nat} {v : Value} {xs : List Value} (hr : W.ownsRow base e size v k xs) : some B ≠ v.ownBlock := by
  rcases hr.2 with ⟨rfl, _⟩ | ⟨g, cap, cur, rfl, _, hgb, _⟩
  · simp [Value.ownBlock]
  · intro e'
    obtain rfl : B = g := by simpa [Value.ownBlock] using e'
    have := (show W.heap[B]? = _ from h).symm.trans hgb
    simp at this
    exact hte this.2
/-- A row of another type stands when a cell of B is written. -/
theorem row_other {W : World} {B : Nat} {cs : Array Value} {t e : TypeId} (h : Blk W B cs t) (hte : t ≠ e) {base size k : Nat} {v : Value} {xs : List Value} (hr : W.ownsRow base e size v k xs) (o : Nat) (u : Value) : (W.setCell ⟨B, o, none⟩ u).ownsRow base e size v k xs :=
  hr.kept (grownBy_setCell W B o u) (.inr (fun e1 => h.not_row hte hr e1.symm))
theorem drew_row {W : World} {base : Nat} {e : TypeId} {size k : Nat} {v : Value} {xs : List Value} (hr : W.ownsRow base e size v k xs) : W.drew.ownsRow base e size v k xs := hr
theorem take_next {l : List Nat} {k p : Nat} (h : l[k]? = some p) : l.take (k + 1) = l.take k ++ [p] := by
  rw [List.take_add_one, h]; rfl
/-- A variable that holds a row of bytes of one's own. -/
def BoxRow (W : World) (B : Nat) (T : TypeId) (base : Nat) (e : TypeId) (sz n : Nat) (xs : List Value) : Prop := ∃ v, Boxed W B T v ∧ W.ownsRow base e sz v n xs
theorem boxRow_own {β : Type} (B : Nat) (T : TypeId) (base : Nat) (e : TypeId) (sz : Nat) (n : β → Nat) (xs : β → List Value) : Own (fun s W => BoxRow W B T base e sz (n s) (xs s)) := by
  rintro s X Y row ⟨v, hb, hr⟩ hg hrow
  refine ⟨v, hb.kept hg (fun e' => ?_), hr.kept hg ?_⟩
  · obtain ⟨o, ho, hc⟩ := hrow B e'.symm
    rw [show X.heap[B]? = _ from hb] at ho; cases ho; cases hc
  · rcases hr.2 with ⟨rfl, _⟩ | ⟨g, cap, cur, rfl, _, hgb, _⟩
    · exact .inl rfl
    · right
      intro e'
      obtain ⟨o, ho, hc⟩ := hrow g (by rw [← e']; rfl)
      rw [hgb] at ho; cases ho; cases hc

/-- A box of another type stands apart from a row. -/
theorem boxed_not_row {W : World} {B : Nat} {T e : TypeId} {u v : Value} {base sz n : Nat} {xs : List Value} (h : Boxed W B T u) (hte : T ≠ e) (hr : W.ownsRow base e sz v n xs) : v.ownBlock ≠ some B := by
  rcases hr.2 with ⟨rfl, _⟩ | ⟨g, cap, cur, rfl, _, hgb, _⟩
  · simp [Value.ownBlock]
  · intro e'
    obtain rfl : g = B := by simpa [Value.ownBlock] using e'
    have := (show W.heap[g]? = _ from h).symm.trans hgb
    simp at this
    exact hte this.2

/-- A row that has grown is laid back into its variable. -/
theorem row_step {W w2 : World} {T e : TypeId} {B base n m sz : Nat} {v v' : Value} {xs xs' : List Value} (hT : T ≠ e) (hb : Boxed W B T v) (hr : W.ownsRow base e sz v n xs) (hg : W.grownBy w2 v.ownBlock) (hr' : w2.ownsRow base e sz v' m xs') :
    KeepsOthers W (w2.setCell ⟨B, 0, none⟩ v') ∧ BoxRow (w2.setCell ⟨B, 0, none⟩ v') B T base e sz m xs' ∧
      (∀ (B' : Nat) (T' : TypeId) (u : Value), T' ≠ e → B' ≠ B → Boxed W B' T' u → Boxed (w2.setCell ⟨B, 0, none⟩ v') B' T' u) ∧
      (∀ (n0 : Nat) (w0 : World), Below n0 w0 W → n0 ≤ B → n0 ≤ base → n0 ≤ W.heap.size → Below n0 w0 (w2.setCell ⟨B, 0, none⟩ v')) := by
  have k2 : Boxed w2 B T v := hb.kept hg (fun e' => boxed_not_row hb hT hr e'.symm)
  refine ⟨(KeepsOthers.of_grownBy hg (fun j o hj ho => ?_)).trans (KeepsOthers.setCell _ _ _), ⟨v', k2.set v', ?_⟩, fun B' T' u hT' hne h => ?_, fun n0 w0 h h1 h2 h3 => ?_⟩
  · rcases hr.2 with ⟨rfl, _⟩ | ⟨g, cap, cur, rfl, _, hgb, _⟩
    · cases hj
    · obtain rfl : g = j := by simpa [Value.ownBlock] using hj
      rw [hgb] at ho; cases ho; rfl
  · refine hr'.kept (grownBy_setCell w2 B 0 v') (.inr (fun e1 => boxed_not_row k2 hT hr' e1))
  · exact (h.kept hg (fun e' => boxed_not_row h hT' hr e'.symm)).other hne v'
  · exact (h.grown hg h3 (fun j hj => Nat.le_trans h2 (hr.lt j hj).1)).setCell (p := ⟨B, 0, none⟩) h1 _

theorem blk_own {β : Type} (B : Nat) (t : TypeId) (f : β → Array Value) : Own (fun s W => Blk W B (f s) t) := fun s X Y row hs hg hrow =>
  hs.kept hg (fun e' => by
    obtain ⟨o, ho, hc⟩ := hrow B e'.symm
    rw [show X.heap[B]? = _ from hs] at ho; cases ho; cases hc)

theorem lt_cell {w : World} {b off : Nat} {v : Value} (h : w.cell? ⟨b, off, none⟩ = some v) : b < w.heap.size := by
  rcases Nat.lt_or_ge b w.heap.size with h' | h'
  · exact h'
  · simp [World.cell?, Array.getElem?_eq_none h'] at h
theorem ret_intK {k : IntKind} {a b : Int} (h : a = b) : Ending.returned (.int k a) = .returned (.int k b) := by rw [h]
theorem at_below {X Y : World} {b i : Nat} {v : Value} (h : X.cell? ⟨b, i, none⟩ = some v) (hb : Below X.heap.size X Y) : Y.cell? ⟨b, i, none⟩ = some v := (hb.cell (p := ⟨b, i, none⟩) (lt_cell h)).trans h
/-- A region that draws its order, in a round, under a condition that may hang on what has come up. -/
theorem round_g {l nn : Nat} {P : Program} {id : Nat} {Q : Exit → Act → World → Prop} {a : Act} {w : World} {ops : List Oper} {S : Array Bool → World → Prop} (hm : P.follows .mixedOrders = true) (hnd : noDefer ops = true) (hQ : ¬ LetsOut Q)
    (h : wpAnyG P .any ops.toArray Q S ops.toArray.size (Array.replicate ops.toArray.size false) a w.drew) : (Code.region id ops.toArray true).wpIn (Fence.wide.inRound l) nn P Q a w :=
  wpIn_region_any hm (wpAny_round hnd hQ _ _ _ _ (wpAny_of_g _ _ _ _ h))

section
/-- J stands when at most a free block turns, one from B on. -/
def AbX {β : Type} (B : Nat) (Fr : World → Nat → Prop) (J : β → World → Prop) : Prop :=
  ∀ s X Y row, J s X → X.grownBy Y row → (∀ r, row = some r → B ≤ r ∧ Fr X r) → J s Y
theorem AbX.and {β : Type} {B : Nat} {Fr : World → Nat → Prop} {J J' : β → World → Prop} (h : AbX B Fr J) (h' : AbX B Fr J') : AbX B Fr (fun s W => J s W ∧ J' s W) := fun s X Y row hs hg hr => ⟨h s X Y row hs.1 hg hr, h' s X Y row hs.2 hg hr⟩
theorem AbX.alloc {β : Type} {B : Nat} {Fr : World → Nat → Prop} {J : β → World → Prop} (h : AbX B Fr J) {s : β} {W : World} (o : Obj) (hs : J s W) : J s (W.alloc o) := h s W _ none hs (World.grownBy_alloc W o none) (fun r e => by cases e)

theorem keepsFrom_up {B B' : Nat} {X Y : World} (h : KeepsFrom B X Y) (hB : B ≤ B') : KeepsFrom B' X Y := ⟨h.size, fun k o hk => h.same k o (Nat.le_trans hB hk)⟩
theorem keepsFrom_put {B l : Nat} (X : World) (o : Obj) (h : l < B) : KeepsFrom B X (X.putObj l o) := KeepsFrom.of_grownBy (grownBy_putObj' X l o) (fun j e => by cases e; exact h)

/-- What such an iterator promises. -/
def SeqY {α : Type} (F : Fence) (n : Nat) (P : Program) (g : Nat) (lb : Array Value) (encs : α → Array Value) (Kp : World → World → Prop) (Fr : World → Nat → Prop) (S Sp : List α → Prop) (N : Nat) (w : World) : Prop :=
  ∀ (l : Nat) (J Jx : List α → World → Prop) (W : World), Below w.heap.size w W → W.heap.size = w.heap.size + 2 → AbX W.heap.size Fr J → AbX W.heap.size Fr Jx →
    (∀ pre x X, J pre X → pre.length < N → YieldAt F (n - 1) P l (encs x) X fun e Y => (e = .returned (.bool true) ∧ J (pre ++ [x]) Y ∧ Kp X Y) ∨ (e = .returned (.bool false) ∧ Jx (pre ++ [x]) Y ∧ KeepsFrom W.heap.size X Y)) →
    J [] W → CallsIn F n P g (#[.func (.yield l) #[] #[]] ++ lb) W fun e Y => (∃ v, e = .returned v) ∧ ((∃ xs, S xs ∧ J xs Y) ∨ (∃ pre, Sp pre ∧ Jx pre Y))

variable {F : Fence} {n : Nat} {P : Program} {w : World}

theorem wpIn_range_y {α : Type} {g : Operand} {ps : Array Tmp} {assign body : Code} {Q : Exit → Act → World → Prop} {a : Act} (hro : F.round = none) (h1 : 1 ≤ n) {gf : Nat} {lb : Array Value} (hg : a.eval g = .func (.func gf) #[] lb) (hFg : F.fn gf)
    (eg : ∀ args w, (callFunc gf args).run P w = .ok (.enter gf args) w) {encs : α → Array Value} {Kp : World → World → Prop} {Fr : World → Nat → Prop} {S Sp : List α → Prop} {N : Nat} (hseq : SeqY F (n - 1) P gf lb encs Kp Fr S Sp N w)
    (hFr : ∀ W r o, W.heap[r]? = some o → o.isCells = false → Fr W r) (hKt : ∀ {A B C : World}, Kp A B → Kp B C → Kp A C)
    (hKb : ∀ (W : World) (o o' : Obj), W.heap[w.heap.size + 1]? = some o → o.isCells = false → o.isWalk = false → Kp W (W.putObj (w.heap.size + 1) o')) (hps : ∀ x, (encs x).size = ps.size)
    (I : List α → World → Prop) (Ix : Code → List α → World → Prop) (hI : AbX w.heap.size Fr I) (hIx : ∀ c, AbX w.heap.size Fr (Ix c)) (h0 : I [] w) (A : α → Act → World → Prop) (hA : ∀ x a', OwnFrom w.heap.size (fun (_ : Unit) W => A x a' W))
    (hassign : ∀ (l : Nat) (pre : List α) (x : α) (W : World) (K : Act → World → Prop), I pre W → (∀ a' W', KeepsFrom w.heap.size W W' → Kp W W' → I pre W' → A x a' W' → K a' W') →
      assign.wpIn (F.inRound l) (n - 1 - 1) P (Exit.then K (fun _ _ _ => False)) { tmps := (ps.zip (encs x)).foldl (fun t (p, v) => t.setIfInBounds p v) a.tmps, defers := [] } W)
    (hbody : ∀ (l : Nat) (pre : List α) (x : α) (a' : Act) (W : World), w.heap.size ≤ l → I pre W → A x a' W → pre.length < N → body.wpIn (F.inRound l) (n - 1 - 1) P (ownPostG w.heap.size Kp I Ix (pre ++ [x]) W) a' W)
    (hdone : ∀ (D : Nat) (xs : List α) (W : World), w.heap.size ≤ D → S xs → I xs W → W.heap[D]? = some (.deferred (some [])) → Q .normal { a with defers := { target := .collected D, args := #[] } :: a.defers } W)
    (hstop : ∀ (D : Nat) (c : Code) (pre : List α) (W : World), w.heap.size ≤ D → Sp pre → Ix c pre W → W.heap[D]? = some (.deferred (some [])) → c.wpIn F n P Q { a with defers := { target := .collected D, args := #[] } :: a.defers } W) :
    (Code.rangeFunc g ps assign body).wpIn F n P Q a w := by
  refine wpIn_rangeFunc fun fn hfn => ?_
  rw [hro]
  obtain ⟨D, hD⟩ : ∃ D, w.heap.size = D := ⟨_, rfl⟩
  obtain ⟨rec, hrec⟩ : ∃ rec : LoopState → Option Code → Loop, rec = fun st pe => { state := st, pending := pe, fn, tmps := a.tmps, params := ps, assign, body, defers := D } := ⟨_, rfl⟩
  obtain ⟨V, hV⟩ : ∃ V, (w.alloc (.deferred (some []))).alloc (.loop (rec .ready none)) = V := ⟨_, rfl⟩
  have hVs : V.heap.size = D + 2 := by rw [← hV]; simp [hD]
  have hVl : V.heap[D + 1]? = some (.loop (rec .ready none)) := by
    have h := World.alloc_heap_new (w.alloc (.deferred (some []))) (.loop (rec .ready none))
    rw [World.size_alloc, hD, hV] at h; exact h
  have hVd : V.heap[D]? = some (.deferred (some [])) := by
    have h := World.alloc_heap_new w (.deferred (some []))
    rw [hD] at h
    rw [← hV]; exact (Below.heap_alloc _ _ _ (by simp [hD])).trans h
  have hVI : I [] V := hV ▸ hI.alloc _ (hI.alloc _ h0)
  have hVb : Below w.heap.size w V := hV ▸ ((Below.refl _ w).alloc (Nat.le_refl _) _).alloc (by simp) _
  rw [hD] at hI hIx hA hassign hbody hdone hstop hKb
  refine ⟨D + 1, [{ target := .collected D, args := #[] }], V, { target := .fn (.func gf) lb, args := #[.func (.yield (D + 1)) #[] #[]] }, V, gf, #[.func (.yield (D + 1)) #[] #[]] ++ lb, V, ?_, ?_, ?_, ?_, fun _ => h1, ?_⟩
  · rw [← hV, hrec, ← hD]; exact run_enterLoop_outer _ _ _ _ _
  · simp only [resolve, hg]
    simp [go_sem]
  · intro f' hf'; simp [Target.leads] at hf'; subst hf'; exact hFg
  · simp [invoke, go_sem, eg]
  -- the two blocks that the law itself lays stand below the iterator's
  have two : ∀ {X Y : World} {row : Option Nat} {o : Obj} {d : Nat}, X.grownBy Y row → (∀ r, row = some r → V.heap.size ≤ r ∧ Fr X r) → d ≤ D + 1 → X.heap[d]? = some o → Y.heap[d]? = some o := fun hgr hr hd ho =>
    (hgr.block _ (Array.getElem?_eq_some_iff.1 ho).1 (fun e => by have := (hr _ e.symm).1; omega)).trans ho
  have up : ∀ {X : World} {row : Option Nat}, (∀ r, row = some r → V.heap.size ≤ r ∧ Fr X r) → (∀ r, row = some r → D ≤ r ∧ Fr X r) := fun hr r e => ⟨by have := (hr r e).1; omega, (hr r e).2⟩
  have put : ∀ {β : Type} {J : β → World → Prop} {s : β} {X : World} {o : Obj} (o' : Obj), AbX D Fr J → J s X → X.heap[D + 1]? = some o → o.isCells = false → J s (X.putObj (D + 1) o') := fun o' hJ hs ho hc =>
    hJ _ _ _ (some (D + 1)) hs (grownBy_putObj' _ _ _) (fun r e => by cases e; exact ⟨by omega, hFr _ _ _ ho hc⟩)
  refine (hseq (D + 1) (fun pre W => I pre W ∧ W.heap[D + 1]? = some (.loop (rec .ready none)) ∧ W.heap[D]? = some (.deferred (some [])))
    (fun pre W => ∃ c, Ix c pre W ∧ W.heap[D + 1]? = some (.loop (rec .done (some c))) ∧ W.heap[D]? = some (.deferred (some []))) V hVb (by rw [hVs, hD])
    (fun s X Y row hs hgr hr => ⟨hI s X Y row hs.1 hgr (up hr), two hgr hr (Nat.le_refl _) hs.2.1, two hgr hr (by omega) hs.2.2⟩)
    (fun s X Y row ⟨c, h2, h3, h4⟩ hgr hr => ⟨c, hIx c s X Y row h2 hgr (up hr), two hgr hr (Nat.le_refl _) h3, two hgr hr (by omega) h4⟩) ?_ ⟨hVI, hVl, hVd⟩).mono ?_
  · rintro pre x X ⟨hi, hl, hk⟩ hlen
    have hy := run_yield (P := P) (args := encs x) hl (by rw [hrec]; exact hps x)
    rw [hrec] at hy
    refine ⟨fn, _, assign, body, hy, roundIn_of_wpIn hfn (hassign _ pre x X _ hi fun a' Y hky hpy hiy hay => ?_)⟩
    clear hy
    have hl1 := hky.same _ _ (by omega) hl rfl
    have hk1 := hky.same _ _ (Nat.le_refl _) hk rfl
    have hlt : D + 1 < Y.heap.size := (Array.getElem?_eq_some_iff.1 hl1).1
    refine ⟨_, run_beginRound hl1 (by rw [hrec]), ?_⟩
    obtain ⟨bz, hbz⟩ : ∃ bz : Loop, { rec .ready none with state := .busy } = bz := ⟨_, rfl⟩
    rw [hbz]
    have hl2 : (Y.putObj (D + 1) (.loop bz)).heap[D + 1]? = some (.loop bz) := World.putObj_heap_same hlt
    have hk2 : (Y.putObj (D + 1) (.loop bz)).heap[D]? = some (.deferred (some [])) := (World.putObj_heap_other (by omega)).trans hk1
    have hp2 := hKb Y _ (.loop bz) hl1 rfl rfl
    refine wpIn_mono (hbody _ pre x a' _ (by omega) (put _ hI hiy hl1 rfl) ((hA x a').putObj (s := ()) _ hay (by omega) hl1 rfl) hlen) ?_
    have fin : ∀ (jump : Option Code) (Z : World), KeepsFrom D (Y.putObj (D + 1) (.loop bz)) Z → ∃ nx : Loop, nx = rec (if jump.isNone then .ready else .done) jump ∧ (Instr.endRound (D + 1) jump).run P Z = .ok (.bool jump.isNone) (Z.putObj (D + 1) (.loop nx)) ∧
        Z.heap[D + 1]? = some (.loop bz) ∧ (Z.putObj (D + 1) (.loop nx)).heap[D + 1]? = some (.loop nx) ∧ (Z.putObj (D + 1) (.loop nx)).heap[D]? = some (.deferred (some [])) := fun jump Z hz => by
      have hl3 := hz.same _ _ (by omega) hl2 rfl
      have hr := run_endRound (P := P) jump hl3
      refine ⟨_, rfl, ?_, hl3, World.putObj_heap_same (Array.getElem?_eq_some_iff.1 hl3).1, (World.putObj_heap_other (by omega)).trans (hz.same _ _ (Nat.le_refl _) hk2 rfl)⟩
      rw [← hbz, hrec] at hr
      rw [hrec]; exact hr
    have out : ∀ (c : Code) (Z : World), KeepsFrom D (Y.putObj (D + 1) (.loop bz)) Z → Ix c (pre ++ [x]) Z → ∃ b Z', (Instr.endRound (D + 1) (some c)).run P Z = .ok b Z' ∧ b = .bool false ∧ (∃ c, Ix c (pre ++ [x]) Z' ∧ Z'.heap[D + 1]? = some (.loop (rec .done (some c))) ∧ Z'.heap[D]? = some (.deferred (some []))) ∧ KeepsFrom V.heap.size X Z' := fun c Z hz hi3 => by
      obtain ⟨nx, rfl, hr, hl3, hl4, hk4⟩ := fin (some c) Z hz
      exact ⟨_, _, hr, rfl, ⟨c, put _ (hIx c) hi3 hl3 rfl, hl4, hk4⟩, (keepsFrom_up hky (by omega)).trans ((keepsFrom_put _ _ (by omega)).trans ((keepsFrom_up hz (by omega)).trans (keepsFrom_put _ _ (by omega))))⟩
    rintro e a3 Z hp
    cases e with
    | normal =>
      obtain ⟨hz, hp3, hi3⟩ := hp
      obtain ⟨nx, rfl, hr, hl3, hl4, hk4⟩ := fin none Z hz
      exact ⟨_, _, hr, .inl ⟨rfl, ⟨put _ hI hi3 hl3 rfl, hl4, hk4⟩, hKt hpy (hKt (hKt hp2 hp3) (hKb _ _ _ hl3 rfl rfl))⟩⟩
    | ret => obtain ⟨b, Z', hr, rfl, hx, hkk⟩ := out .ret Z hp.1 hp.2; exact ⟨_, _, hr, .inr ⟨rfl, hx, hkk⟩⟩
    | exit id => obtain ⟨b, Z', hr, rfl, hx, hkk⟩ := out (.exit id) Z hp.1 hp.2; exact ⟨_, _, hr, .inr ⟨rfl, hx, hkk⟩⟩
    | goto t => obtain ⟨b, Z', hr, rfl, hx, hkk⟩ := out (.goto t) Z hp.1 hp.2; exact ⟨_, _, hr, .inr ⟨rfl, hx, hkk⟩⟩
    | panic ch => exact hp.elim
    | outgrown => exact hp.elim
  · rintro e Z ⟨⟨v, rfl⟩, (⟨xs, hS, hi, hl, hk⟩ | ⟨pre, hSp, c, hi, hl, hk⟩)⟩
    · have hr := run_endLoop (P := P) hl (by rw [hrec]; simp)
      rw [hrec] at hr
      exact ⟨none, _, hr, hdone _ xs _ (Nat.le_refl _) hS (put _ hI hi hl rfl) ((World.putObj_heap_other (by omega)).trans hk)⟩
    · have hr := run_endLoop (P := P) hl (by rw [hrec]; simp)
      rw [hrec] at hr
      exact ⟨some c, _, hr, hstop _ c pre _ (Nat.le_refl _) hSp (put _ (hIx c) hi hl rfl) ((World.putObj_heap_other (by omega)).trans hk)⟩

end
def FrT (_ : World) (_ : Nat) : Prop := True
/-- What the body of a round keeps for the iterator: what is its own. -/
def KpR (b : Nat) (X Y : World) : Prop := KeepsWalks X Y ∧ ∀ k, b ≤ k → k < X.heap.size → Y.heap[k]? = X.heap[k]?
theorem kpR_t {b : Nat} {X Y Z : World} (h : KpR b X Y) (g : KpR b Y Z) : KpR b X Z :=
  ⟨h.1.trans g.1, fun k hk hl => (g.2 k hk (Nat.lt_of_lt_of_le hl h.1.size)).trans (h.2 k hk hl)⟩
theorem kpR_from {b B : Nat} {X Y : World} (h : KpR b X Y) (hb : b ≤ B) : KeepsFrom B X Y :=
  ⟨h.1.size, fun k o hk ho _ => (h.2 k (Nat.le_trans hb hk) (Array.getElem?_eq_some_iff.1 ho).1).trans ho⟩
theorem kpR_B {b B : Nat} {X Y : World} (h : KpR b X Y) (hb : b ≤ B) (hB : B < X.heap.size) : KpB B X Y := ⟨h.1, h.2 B hb hB⟩
theorem kpR_blk {b B : Nat} {X Y : World} {cs : Array Value} {t : TypeId} (h : KpR b X Y) (hb : b ≤ B) (hB : Blk X B cs t) : Blk Y B cs t := (h.2 B hb hB.lt).trans hB
/-- A call of yield goes into a round as it is. -/
theorem yield_in {m m' l l' : Nat} {P : Program} {args : Array Value} {W : World} {R : Ending → World → Prop} (h : YieldAt Fence.wide m P l args W R) : YieldAt (Fence.wide.inRound l') m' P l args W R := by
  obtain ⟨fn, tmps, assign, body, hy, h1, h2⟩ := h
  exact ⟨fn, tmps, assign, body, hy, h1, fun c cs _ => h2 c cs (room_wide _)⟩
theorem yield_wide {m m' l : Nat} {P : Program} {args : Array Value} {W : World} {R : Ending → World → Prop} (h : YieldAt Fence.wide m P l args W R) : YieldAt Fence.wide m' P l args W R := by
  obtain ⟨fn, tmps, assign, body, hy, h1, h2⟩ := h
  exact ⟨fn, tmps, assign, body, hy, h1, fun c cs _ => h2 c cs (room_wide _)⟩

theorem wpIn_loop_m {F : Fence} {n : Nat} {P : Program} {Q : Exit → Act → World → Prop} {a : Act} {w : World} {c : Code} (Inv : Nat → Act → World → Prop) (m : Nat) (h0 : Inv m a w)
    (hs : ∀ m a w, Inv m a w → c.wpIn F n P (Exit.then (fun a' w' => ∃ m', m' < m ∧ Inv m' a' w') Q) a w) : (Code.loop c).wpIn F n P Q a w := by
  intro b k cs hro hb hr
  have key : ∀ j a w, Inv j a w → ∃ e a' w', Q e a' w' ∧ ArrivesIn (Machine.fenced P F) P (lone (b.atR a (.code c :: .inLoop c :: k)) cs w) b k cs e a' w' := by
    intro j
    induction j using Nat.strongRecOn with
    | _ j ih =>
      intro a w hI
      obtain ⟨e, a₁, w₁, hq, harr⟩ := hs j a w hI b (.inLoop c :: k) cs hro hb hr
      cases e with
      | normal =>
        obtain ⟨m', hm, hI'⟩ := hq
        obtain ⟨e₂, a₂, w₂, hq₂, harr₂⟩ := ih m' hm a₁ w₁ hI'
        exact ⟨e₂, a₂, w₂, hq₂, .of_steps (StepsIn.trans harr (.one (fenced_calm hb hr rfl) stepR_inLoop)) harr₂⟩
      | exit id => exact ⟨_, a₁, w₁, hq, .pass (x := .inLoop c) rfl (fun _ _ => .inl (by simp)) harr⟩
      | goto l => exact ⟨_, a₁, w₁, hq, .pass (x := .inLoop c) rfl (fun _ _ => .inl (by simp)) harr⟩
      | ret => exact ⟨_, a₁, w₁, hq, .pass (x := .inLoop c) rfl (fun _ _ => .inl (by simp)) harr⟩
      | panic ch => exact ⟨_, a₁, w₁, hq, .pass (x := .inLoop c) rfl (fun _ _ => .inl (by simp)) harr⟩
      | outgrown => exact ⟨_, a₁, w₁, hq, .pass (x := .inLoop c) rfl (fun _ _ => .inl (by simp)) harr⟩
  obtain ⟨e, a', w', hq, harr⟩ := key m a w h0
  exact ⟨e, a', w', hq, .of_steps (.one (fenced_calm hb hr rfl) stepR_loop) harr⟩

/-- As at the start below B, but for one block. -/
def SmR (B ib : Nat) (w W : World) : Prop := B ≤ W.heap.size ∧ ∀ b, b < B → b ≠ ib → W.heap[b]? = w.heap[b]?

/-- Reads alone, in a round. -/
theorem round_quiet {l' nn : Nat} {P : Program} {id : Nat} {Q : Exit → Act → World → Prop} {a : Act} {w : World} {l : List Oper} (hm : P.follows .mixedOrders = true) (hB : Region.lexB .any l.toArray = true) (hnd : noDefer l = true) (hQ : ¬ LetsOut Q)
    (h : wpQuiet P l.toArray (fun w' => ∃ n, w' = w.drewN n) (fun a' => ∀ w', (∃ n, w' = w.drewN n) → Q .normal a' w') l a) : (Code.region id l.toArray true).wpIn (Fence.wide.inRound l') nn P Q a w := by
  simp only [Region.lexB, Bool.and_eq_true] at hB
  refine wpIn_region_any hm (wpAny_round hnd hQ _ _ _ _ (wpAny_of_quiet (C := fun w' => ∃ n, w' = w.drewN n) (Q := fun a' => ∀ w', (∃ n, w' = w.drewN n) → Q .normal a' w') (fun _ w' hw' h => h w' hw') _ _ _ _ ⟨1, rfl⟩ ?_))
  have := wpAnyQ_lex (C := fun w' => ∃ n, w' = w.drewN n) (md := .any) hB.1 l 0 (Array.replicate l.toArray.size false) a (by simp) (by simpa using hB.2) h
  simpa using this
/-- A row stands where its block does. -/
theorem own_same {V W : World} {base size n : Nat} {e : TypeId} {v : Value} {xs : List Value} (h : V.ownsRow base e size v n xs) (hs : ∀ g, v.ownBlock = some g → W.heap[g]? = V.heap[g]?) : W.ownsRow base e size v n xs := by
  refine ⟨h.1, h.2.imp id ?_⟩
  rintro ⟨g, cap, cur, rfl, hb, hg, rest⟩
  exact ⟨g, cap, cur, rfl, hb, (hs g rfl).trans hg, rest⟩
theorem smR_grown {ib B : Nat} {V X Y : World} {row : Option Nat} (h : SmR (ib + 1) ib V X) (hg : X.grownBy Y row) (hB : ib + 1 ≤ B) (hr : ∀ r, row = some r → B ≤ r) : SmR (ib + 1) ib V Y :=
  ⟨Nat.le_trans h.1 hg.size, fun b hb hn => (hg.block b (Nat.lt_of_lt_of_le hb h.1) (fun e => by have := hr b e.symm; omega)).trans (h.2 b hb hn)⟩
theorem boxed_grown {ib B : Nat} {X Y : World} {row : Option Nat} {T : TypeId} {v : Value} (h : Boxed X ib T v) (hg : X.grownBy Y row) (hB : ib + 1 ≤ B) (hr : ∀ r, row = some r → B ≤ r) : Boxed Y ib T v :=
  Blk.kept (show Blk X ib _ _ from h) hg (fun e => by have := hr ib e.symm; omega)
end Go.Proofs.YtjccoiephdopkaaDoor
