/- RunesPieces: laws for loops over runes.Pieces and runes.Back that only read; a loop within a round. -/
import Derived.Test.YtgpnheaefagfiaaSeqD
import Derived.Test.YtgpnheaefagfiaaNt
import Derived.Test.YtgpnheaefagfiaaWk
namespace Go.Proofs.Ytgpnheaefagfiaa
set_option linter.unusedVariables false
set_option linter.unusedSimpArgs false
open Go Go.RowKit Go.Shelf
set_option maxRecDepth 100000
attribute [local go_sem] Oper.semAt_some

/-- As V below V's end but for block ib; as w0 below w0's end. -/
def SmA (ib : Nat) (w0 V X : World) : Prop := (V.heap.size ≤ X.heap.size ∧ ∀ b, b < V.heap.size → b ≠ ib → X.heap[b]? = V.heap[b]?) ∧ Below w0.heap.size w0 X
theorem SmA.start {ib : Nat} {w0 V : World} (h : Below w0.heap.size w0 V) : SmA ib w0 V V := ⟨⟨Nat.le_refl _, fun _ _ _ => rfl⟩, h⟩
theorem SmA.size {ib : Nat} {w0 V X : World} (h : SmA ib w0 V X) : V.heap.size ≤ X.heap.size := h.1.1
theorem SmA.grown {ib : Nat} {w0 V X Y : World} {row : Option Nat} (h : SmA ib w0 V X) (hg : X.grownBy Y row) (h0 : w0.heap.size ≤ V.heap.size) (hr : ∀ r, row = some r → V.heap.size ≤ r) : SmA ib w0 V Y :=
  ⟨⟨Nat.le_trans h.1.1 hg.size, fun b hb hn => (hg.block b (Nat.lt_of_lt_of_le hb h.1.1) (fun e => by have := hr b e.symm; omega)).trans (h.1.2 b hb hn)⟩,
    h.2.grown hg (Nat.le_trans h0 h.1.1) (fun r e => Nat.le_trans h0 (hr r e))⟩
theorem SmA.below {ib : Nat} {w0 V X Y : World} (h : SmA ib w0 V X) (hb : Below X.heap.size X Y) (h0 : w0.heap.size ≤ V.heap.size) : SmA ib w0 V Y := h.grown (grown_none hb) h0 (fun r e => by cases e)
theorem SmA.set {ib : Nat} {w0 V X : World} (h : SmA ib w0 V X) (hi : w0.heap.size ≤ ib) (o : Nat) (v : Value) : SmA ib w0 V (X.setCell ⟨ib, o, none⟩ v) :=
  ⟨⟨by simpa using h.1.1, fun b hb hn => ((grownBy_setCell X ib o v).block b (Nat.lt_of_lt_of_le hb h.1.1) (fun e => hn (by simpa using e))).trans (h.1.2 b hb hn)⟩, h.2.setCell (p := ⟨ib, o, none⟩) hi v⟩
theorem SmA.obj {ib b : Nat} {w0 V X : World} {o : Obj} (h : SmA ib w0 V X) (hb : V.heap[b]? = some o) (hn : b ≠ ib) : X.heap[b]? = some o := (h.1.2 b (Array.getElem?_eq_some_iff.1 hb).1 hn).trans hb
theorem SmA.box {ib b : Nat} {w0 V X : World} {T : TypeId} {v : Value} (h : SmA ib w0 V X) (hb : Boxed V b T v) (hn : b ≠ ib) : Boxed X b T v := SmA.obj h hb hn
theorem SmA.cell {ib b o : Nat} {w0 V X : World} {v : Value} (h : SmA ib w0 V X) (hb : V.cell? ⟨b, o, none⟩ = some v) (hn : b ≠ ib) : X.cell? ⟨b, o, none⟩ = some v := (World.cell?_of_block (w := V) (h.1.2 b (lt_cell hb) hn)).trans hb
theorem smA_own {α : Type} {ib : Nat} {w0 V : World} {T : TypeId} {f : List α → Value} {p : List α → Prop} (hi : ib < V.heap.size) (h0 : w0.heap.size ≤ V.heap.size) :
    OwnFrom V.heap.size (fun (pre : List α) X => SmA ib w0 V X ∧ Boxed X ib T (f pre) ∧ p pre) := fun s X Y row h hg hr =>
  ⟨h.1.grown hg h0 (fun r e => (hr r e).1), h.2.1.kept hg (fun e => by have := (hr ib e.symm).1; omega), h.2.2⟩
theorem yield_wide {m m' l : Nat} {P : Program} {args : Array Value} {W : World} {R : Ending → World → Prop} (h : YieldAt Fence.wide m P l args W R) : YieldAt Fence.wide m' P l args W R := by
  obtain ⟨fn, tmps, assign, body, hy, h1, h2⟩ := h
  exact ⟨fn, tmps, assign, body, hy, h1, fun c cs _ => h2 c cs (room_wide _)⟩

/-- A loop 'for p := range runes.Pieces(s)' whose body is told of its loop's record. -/
theorem range_all {g : Operand} {q : Tmp} {assign body : Code} {Q : Exit → Act → World → Prop} {a : Act} {w : World} (v : Nat) (s : ByteArray) (hs : s.size ≤ 9223372036854775807) (B : Nat)
    (hB : Boxed w B 9 (.string s)) (hg : a.eval g = .func (.func 70) #[] #[.pointer (some ⟨B, 0, none⟩)])
    (I : List (Pos s) → World → Prop) (Ix : Code → List (Pos s) → World → Prop) (hI : OwnFrom w.heap.size I) (hIx : ∀ c, OwnFrom w.heap.size (Ix c)) (h0 : I [] w)
    (hassign : ∀ (l : Nat) (x : Pos s) (W : World) (K : Act → World → Prop),
      K { tmps := (a.tmps.setIfInBounds q (.agg (pcC s x.1))).setIfInBounds v (.pointer (some ⟨W.heap.size, 0, none⟩)), defers := [] } (W.alloc (.cells (pcC s x.1) 24)) →
      assign.wpIn (Fence.wide.inRound l) 9 Try.prog (Exit.then K (fun _ _ _ => False)) { tmps := a.tmps.setIfInBounds q (.agg (pcC s x.1)), defers := [] } W)
    (hbody : ∀ (l : Nat) (pre : List (Pos s)) (x : Pos s) (Bx : Nat) (W : World), (∃ r, W.heap[l]? = some (.loop r)) → I pre W → w.heap.size ≤ Bx → W.heap[Bx]? = some (.cells (pcC s x.1) 24) → pre.length < s.size →
      body.wpIn (Fence.wide.inRound l) 9 Try.prog (ownPostG w.heap.size (KpB B) I Ix (pre ++ [x]) W) { tmps := (a.tmps.setIfInBounds q (.agg (pcC s x.1))).setIfInBounds v (.pointer (some ⟨Bx, 0, none⟩)), defers := [] } W)
    (hdone : ∀ (D : Nat) (xs : List (Pos s)) (W : World), w.heap.size ≤ D → xs.map (·.1) = posns s → I xs W → W.heap[D]? = some (.deferred (some [])) → Q .normal { a with defers := { target := .collected D, args := #[] } :: a.defers } W)
    (hstop : ∀ (D : Nat) (c : Code) (pre : List (Pos s)) (W : World), w.heap.size ≤ D → pre.map (·.1) <+: posns s → Ix c pre W → W.heap[D]? = some (.deferred (some [])) → c.wpIn Fence.wide 11 Try.prog Q { a with defers := { target := .collected D, args := #[] } :: a.defers } W) :
    (Code.rangeFunc g #[q] assign body).wpIn Fence.wide 11 Try.prog Q a w := by
  have hown : OwnFrom w.heap.size (fun (_ : List (Pos s)) W => w.heap.size ≤ W.heap.size) := fun _ _ _ _ hs hg _ => Nat.le_trans hs hg.size
  refine wpIn_rangeFunc_ownH (n := 11) rfl (by omega) (gf := 70) (lb := #[.pointer (some ⟨B, 0, none⟩)]) hg trivial (enters_of Try.func70 (by kernel_rfl) rfl)
    (pieces_stops s hs B w hB) kpB_t (kpB_b hB.lt) (Below.refl _ _) (fun _ => rfl) (fun pre W => I pre W ∧ w.heap.size ≤ W.heap.size) Ix (hI.and hown) hIx ⟨h0, Nat.le_refl _⟩
    (fun x a' W => ∃ Bx, w.heap.size ≤ Bx ∧ W.heap[Bx]? = some (.cells (pcC s x.1) 24) ∧ a' = { tmps := (a.tmps.setIfInBounds q (.agg (pcC s x.1))).setIfInBounds v (.pointer (some ⟨Bx, 0, none⟩)), defers := [] })
    (fun x a' => ?_) ?_ ?_ (fun D xs W hD hS hi => hdone D xs W hD hS hi.1) hstop
  · rintro _ W W' row ⟨Bx, h1, h2, h3⟩ hg hr
    refine ⟨Bx, h1, (hg.block Bx (Array.getElem?_eq_some_iff.1 h2).1 ?_).trans h2, h3⟩
    intro e
    obtain ⟨_, o, ho, hc⟩ := hr Bx e.symm
    rw [h2] at ho; cases ho; cases hc
  · rintro l pre x W K ⟨hi, hsz⟩ hK
    have e0 : ((#[q].zip (pcA s x.1)).foldl (fun t (p, v) => t.setIfInBounds p v) a.tmps) = a.tmps.setIfInBounds q (.agg (pcC s x.1)) := by simp [pcA, pcC]
    rw [e0]
    refine hassign l x W K (hK _ _ ((KeepsOthers.alloc _ _).from _) ⟨KeepsWalks.alloc _ _, ?_⟩ ⟨hI.alloc _ hi, by simp; omega⟩ ⟨W.heap.size, hsz, World.alloc_heap_new W _, rfl⟩)
    exact Below.heap_alloc W _ _ (Nat.lt_of_lt_of_le hB.lt hsz)
  · rintro l pre x a' W _ hrec ⟨hi, hsz⟩ ⟨Bx, h1, h2, rfl⟩ hlen
    refine wpIn_mono (hbody l pre x Bx W hrec hi h1 h2 hlen) ?_
    rintro e a3 W3 hp
    cases e with
    | normal => exact ⟨hp.1, hp.2.1, hp.2.2, Nat.le_trans hsz hp.1.size⟩
    | ret => exact hp
    | exit id => exact hp
    | goto t => exact hp
    | panic ch => exact hp
    | outgrown => exact hp

/-- A loop 'for range runes.Pieces(s)'. -/
theorem range_all0 {g : Operand} {q : Tmp} {assign body : Code} {Q : Exit → Act → World → Prop} {a : Act} {w : World} (s : ByteArray) (hs : s.size ≤ 9223372036854775807) (B : Nat)
    (hB : Boxed w B 9 (.string s)) (hg : a.eval g = .func (.func 70) #[] #[.pointer (some ⟨B, 0, none⟩)])
    (I : List (Pos s) → World → Prop) (Ix : Code → List (Pos s) → World → Prop) (hI : OwnFrom w.heap.size I) (hIx : ∀ c, OwnFrom w.heap.size (Ix c)) (h0 : I [] w)
    (hassign : ∀ (l : Nat) (x : Pos s) (W : World) (K : Act → World → Prop), K { tmps := a.tmps.setIfInBounds q (.agg (pcC s x.1)), defers := [] } W →
      assign.wpIn (Fence.wide.inRound l) 9 Try.prog (Exit.then K (fun _ _ _ => False)) { tmps := a.tmps.setIfInBounds q (.agg (pcC s x.1)), defers := [] } W)
    (hbody : ∀ (l : Nat) (pre : List (Pos s)) (x : Pos s) (W : World), I pre W →
      body.wpIn (Fence.wide.inRound l) 9 Try.prog (ownPostG w.heap.size (KpB B) I Ix (pre ++ [x]) W) { tmps := a.tmps.setIfInBounds q (.agg (pcC s x.1)), defers := [] } W)
    (hdone : ∀ (D : Nat) (xs : List (Pos s)) (W : World), w.heap.size ≤ D → I xs W → W.heap[D]? = some (.deferred (some [])) → Q .normal { a with defers := { target := .collected D, args := #[] } :: a.defers } W)
    (hstop : ∀ (D : Nat) (c : Code) (pre : List (Pos s)) (W : World), w.heap.size ≤ D → Ix c pre W → W.heap[D]? = some (.deferred (some [])) → c.wpIn Fence.wide 11 Try.prog Q { a with defers := { target := .collected D, args := #[] } :: a.defers } W) :
    (Code.rangeFunc g #[q] assign body).wpIn Fence.wide 11 Try.prog Q a w := by
  refine wpIn_rangeFunc_ownH (n := 11) rfl (by omega) (gf := 70) (lb := #[.pointer (some ⟨B, 0, none⟩)]) hg trivial (enters_of Try.func70 (by kernel_rfl) rfl)
    (pieces_stops s hs B w hB) kpB_t (kpB_b hB.lt) (Below.refl _ _) (fun _ => rfl) I Ix hI hIx h0
    (fun x a' W => a' = { tmps := a.tmps.setIfInBounds q (.agg (pcC s x.1)), defers := [] })
    (fun x a' _ _ _ _ h _ _ => h) ?_ ?_ (fun D xs W hD _ hi => hdone D xs W hD hi) (fun D c pre W hD _ hi => hstop D c pre W hD hi)
  · rintro l pre x W K hi hK
    have e0 : ((#[q].zip (pcA s x.1)).foldl (fun t (p, v) => t.setIfInBounds p v) a.tmps) = a.tmps.setIfInBounds q (.agg (pcC s x.1)) := by simp [pcA, pcC]
    rw [e0]
    exact hassign l x W K (hK _ _ (KeepsFrom.refl _ _) ⟨KeepsWalks.refl _, rfl⟩ hi rfl)
  · rintro l pre x a' W _ _ hi rfl _
    exact hbody l pre x W hi

/-- A loop 'for range runes.Back(s)'. -/
theorem range_back0 {g : Operand} {q : Tmp} {assign body : Code} {Q : Exit → Act → World → Prop} {a : Act} {w : World} (s : ByteArray) (hs : s.size ≤ 281474976710656) (B : Nat)
    (hB : Boxed w B 9 (.string s)) (hg : a.eval g = .func (.func 73) #[] #[.pointer (some ⟨B, 0, none⟩)])
    (I : List (Pos s) → World → Prop) (Ix : Code → List (Pos s) → World → Prop) (hI : OwnFrom w.heap.size I) (hIx : ∀ c, OwnFrom w.heap.size (Ix c)) (h0 : I [] w)
    (hassign : ∀ (l : Nat) (x : Pos s) (W : World) (K : Act → World → Prop), K { tmps := a.tmps.setIfInBounds q (.agg (pcC s x.1)), defers := [] } W →
      assign.wpIn (Fence.wide.inRound l) 9 Try.prog (Exit.then K (fun _ _ _ => False)) { tmps := a.tmps.setIfInBounds q (.agg (pcC s x.1)), defers := [] } W)
    (hbody : ∀ (l : Nat) (pre : List (Pos s)) (x : Pos s) (W : World), I pre W →
      body.wpIn (Fence.wide.inRound l) 9 Try.prog (ownPostG w.heap.size (KpC B) I Ix (pre ++ [x]) W) { tmps := a.tmps.setIfInBounds q (.agg (pcC s x.1)), defers := [] } W)
    (hdone : ∀ (D : Nat) (xs : List (Pos s)) (W : World), w.heap.size ≤ D → I xs W → W.heap[D]? = some (.deferred (some [])) → Q .normal { a with defers := { target := .collected D, args := #[] } :: a.defers } W)
    (hstop : ∀ (D : Nat) (c : Code) (pre : List (Pos s)) (W : World), w.heap.size ≤ D → Ix c pre W → W.heap[D]? = some (.deferred (some [])) → c.wpIn Fence.wide 11 Try.prog Q { a with defers := { target := .collected D, args := #[] } :: a.defers } W) :
    (Code.rangeFunc g #[q] assign body).wpIn Fence.wide 11 Try.prog Q a w := by
  refine wpIn_rangeFunc_ownH (n := 11) rfl (by omega) (gf := 73) (lb := #[.pointer (some ⟨B, 0, none⟩)]) hg trivial (enters_of Try.func73 (by kernel_rfl) rfl)
    (back_stops s hs B w hB) kpC_t (kpC_b hB.lt) (Below.refl _ _) (fun _ => rfl) I Ix hI hIx h0
    (fun x a' W => a' = { tmps := a.tmps.setIfInBounds q (.agg (pcC s x.1)), defers := [] })
    (fun x a' _ _ _ _ h _ _ => h) ?_ ?_ (fun D xs W hD _ hi => hdone D xs W hD hi) (fun D c pre W hD _ hi => hstop D c pre W hD hi)
  · rintro l pre x W K hi hK
    have e0 : ((#[q].zip (pcA s x.1)).foldl (fun t (p, v) => t.setIfInBounds p v) a.tmps) = a.tmps.setIfInBounds q (.agg (pcC s x.1)) := by simp [pcA, pcC]
    rw [e0]
    exact hassign l x W K (hK _ _ (KeepsFrom.refl _ _) ⟨⟨KeepsWalks.refl _, rfl⟩, fun _ _ h => h⟩ hi rfl)
  · rintro l pre x a' W _ _ hi rfl _
    exact hbody l pre x W hi

theorem back_stops8 (s : ByteArray) (hs : s.size ≤ 281474976710656) (B : Nat) (w : World) (hB : Boxed w B 9 (.string s)) :
    SeqStopsK Fence.wide 8 Try.prog 73 #[.pointer (some ⟨B, 0, none⟩)] (fun x : Pos s => pcA s x.1) (KpC B) (fun xs => xs.map (·.1) = (posns s).reverse) (fun pre => pre.map (·.1) <+: (posns s).reverse) s.size w :=
  fun l J Jx W hW hJ hJx hY h0 => callsIn_wide.2 (callsIn_wide.1 (back_stops s hs B w hB l J Jx W hW hJ hJx (fun pre x W1 h h2 => yield_wide (hY pre x W1 h h2)) h0))

/-- A loop 'for q := range runes.Back(s)' within a round of another loop. -/
theorem range_back_in {l₀ : Nat} {r₀ : Loop} {g : Operand} {q : Tmp} {assign body : Code} {Q : Exit → Act → World → Prop} {a : Act} {w : World} (v : Nat) (hl₀ : w.heap[l₀]? = some (.loop r₀)) (s : ByteArray) (hs : s.size ≤ 281474976710656) (B : Nat)
    (hB : Boxed w B 9 (.string s)) (hg : a.eval g = .func (.func 73) #[] #[.pointer (some ⟨B, 0, none⟩)])
    (I : List (Pos s) → World → Prop) (Ix : Code → List (Pos s) → World → Prop) (hI : OwnFrom w.heap.size I) (hIx : ∀ c, OwnFrom w.heap.size (Ix c)) (h0 : I [] w)
    (hassign : ∀ (l : Nat) (x : Pos s) (W : World) (K : Act → World → Prop),
      K { tmps := (a.tmps.setIfInBounds q (.agg (pcC s x.1))).setIfInBounds v (.pointer (some ⟨W.heap.size, 0, none⟩)), defers := [] } (W.alloc (.cells (pcC s x.1) 24)) →
      assign.wpIn (Fence.wide.inRound l) 7 Try.prog (Exit.then K (fun _ _ _ => False)) { tmps := a.tmps.setIfInBounds q (.agg (pcC s x.1)), defers := [] } W)
    (hbody : ∀ (l : Nat) (pre : List (Pos s)) (x : Pos s) (Bx : Nat) (W : World), I pre W → w.heap.size ≤ Bx → W.heap[Bx]? = some (.cells (pcC s x.1) 24) →
      body.wpIn (Fence.wide.inRound l) 7 Try.prog (ownPostG w.heap.size (KpC B) I Ix (pre ++ [x]) W) { tmps := (a.tmps.setIfInBounds q (.agg (pcC s x.1))).setIfInBounds v (.pointer (some ⟨Bx, 0, none⟩)), defers := [] } W)
    (hdone : ∀ (xs : List (Pos s)) (W : World), I xs W → Q .normal a W)
    (hstop : ∀ (c : Code) (pre : List (Pos s)) (W : World), Ix c pre W → c.wpIn (Fence.wide.inRound l₀) 9 Try.prog Q a W) :
    (Code.rangeFunc g #[q] assign body).wpIn (Fence.wide.inRound l₀) 9 Try.prog Q a w := by
  have hown : OwnFrom w.heap.size (fun (_ : List (Pos s)) W => w.heap.size ≤ W.heap.size) := fun _ _ _ _ hs hg _ => Nat.le_trans hs hg.size
  refine wpIn_rangeFunc_ownN (n := 9) (l₀ := l₀) (r₀ := r₀) rfl hl₀ (by omega) (gf := 73) (lb := #[.pointer (some ⟨B, 0, none⟩)]) hg trivial (enters_of Try.func73 (by kernel_rfl) rfl)
    ((back_stops8 s hs B w hB).inRound l₀) kpC_t (kpC_b hB.lt) (Below.refl _ _) (fun _ => rfl) (fun pre W => I pre W ∧ w.heap.size ≤ W.heap.size) Ix (hI.and hown) hIx ⟨h0, Nat.le_refl _⟩
    (fun x a' W => ∃ Bx, w.heap.size ≤ Bx ∧ W.heap[Bx]? = some (.cells (pcC s x.1) 24) ∧ a' = { tmps := (a.tmps.setIfInBounds q (.agg (pcC s x.1))).setIfInBounds v (.pointer (some ⟨Bx, 0, none⟩)), defers := [] })
    (fun x a' => ?_) ?_ ?_ (fun xs W _ hi => hdone xs W hi.1) (fun c pre W _ hi => hstop c pre W hi)
  · rintro _ W W' row ⟨Bx, h1, h2, h3⟩ hg hr
    refine ⟨Bx, h1, (hg.block Bx (Array.getElem?_eq_some_iff.1 h2).1 ?_).trans h2, h3⟩
    intro e
    obtain ⟨_, o, ho, hc⟩ := hr Bx e.symm
    rw [h2] at ho; cases ho; cases hc
  · rintro l pre x W K ⟨hi, hsz⟩ hK
    have e0 : ((#[q].zip (pcA s x.1)).foldl (fun t (p, v) => t.setIfInBounds p v) a.tmps) = a.tmps.setIfInBounds q (.agg (pcC s x.1)) := by simp [pcA, pcC]
    rw [e0]
    refine hassign l x W K (hK _ _ ((KeepsOthers.alloc _ _).from _) ⟨⟨KeepsWalks.alloc _ _, ?_⟩, fun b cs hb => (Below.heap_alloc W _ _ (Array.getElem?_eq_some_iff.1 hb).1).trans hb⟩ ⟨hI.alloc _ hi, by simp; omega⟩ ⟨W.heap.size, hsz, World.alloc_heap_new W _, rfl⟩)
    exact Below.heap_alloc W _ _ (Nat.lt_of_lt_of_le hB.lt hsz)
  · rintro l pre x a' W _ _ ⟨hi, hsz⟩ ⟨Bx, h1, h2, rfl⟩ hlen
    refine wpIn_mono (hbody l pre x Bx W hi h1 h2) ?_
    rintro e a3 W3 hp
    cases e with
    | normal => exact ⟨hp.1, hp.2.1, hp.2.2, Nat.le_trans hsz hp.1.size⟩
    | ret => exact hp
    | exit id => exact hp
    | goto t => exact hp
    | panic ch => exact hp
    | outgrown => exact hp

/-- Nth at whatever number. -/
def nthZ (s : ByteArray) (k : Int) : Value := if k < 0 then .tuple #[.agg zP, .bool false] else nthR s k.toNat
theorem nthZ_any (s : ByteArray) (k : Int) (hs : s.size ≤ 9223372036854775807) (hk : k ≤ 9223372036854775807) (w : World) :
    Calls Try.prog 22 #[.string s, .int .i64 k] w fun e w' => e = .returned (nthZ s k) ∧ Below w.heap.size w w' := by
  unfold nthZ
  by_cases h : k < 0
  · rw [if_pos h]
    unfold zP
    have e1 : decide (k < 0) = true := decide_eq_true h
    go_enter Try.func22, Try.ntmps22
    go_wp2
    refine bodyPost_ret (v := .tuple #[.agg #[.int .i64 0, .int .i64 0, .int .i32 0, .bool false], .bool false]) (by simp [results, Try.f22, go_sem]) rfl ⟨rfl, ?_⟩
    exact (((Below.refl _ _).alloc (Nat.le_refl _) _).alloc (by simp) _).alloc (by simp; omega) _
  · rw [if_neg h]
    obtain ⟨n, rfl⟩ : ∃ n : Nat, k = (n : Int) := ⟨k.toNat, by omega⟩
    exact nth_any s n hs (by omega) w
end Go.Proofs.Ytgpnheaefagfiaa
