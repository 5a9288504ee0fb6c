/- A loop over a function whose body turns one variable of its caller's: small facts. -/
import Derived.Test.YtdcmkiggnmajgaaK0
namespace Go.Proofs.Ytdcmkiggnmajgaa
set_option linter.unusedVariables false
set_option linter.unusedSimpArgs false
open Go Go.RowKit Go.Shelf
set_option maxRecDepth 100000

/-- What the body of a round keeps for the iterator: what is its own, and a box. -/
def KpE (b B : Nat) (X Y : World) : Prop := KpR b X Y ∧ Y.heap[B]? = X.heap[B]?
theorem kpE_t {b B : Nat} {X Y Z : World} (h : KpE b B X Y) (g : KpE b B Y Z) : KpE b B X Z := ⟨kpR_t h.1 g.1, g.2.trans h.2⟩
theorem kpE_set {b B ib : Nat} {X : World} (h : ib < b) (hB : ib ≠ B) (o : Nat) (v : Value) : KpE b B X (X.setCell ⟨ib, o, none⟩ v) :=
  ⟨⟨(KeepsOthers.setCell _ _ _).walks, fun k hk _ => Below.heap_setCell _ _ _ _ (by dsimp only; omega)⟩, Below.heap_setCell _ _ _ _ (by dsimp only; omega)⟩
theorem keeps_below {W P : World} (hb : Below W.heap.size W P) : KeepsOthers W P := ⟨hb.size, fun k o h _ => (hb.block k (Array.getElem?_eq_some_iff.1 h).1).trans h⟩
theorem kpE_below {b B : Nat} {X Y : World} (hb : Below X.heap.size X Y) (hB : B < X.heap.size) : KpE b B X Y :=
  ⟨⟨(keeps_below hb).walks, fun k _ hl => hb.block k hl⟩, hb.block B hB⟩
theorem kpE_refl {b B : Nat} {X : World} : KpE b B X X := ⟨⟨KeepsWalks.refl _, fun _ _ _ => rfl⟩, rfl⟩
theorem kpE_drew {b B n : Nat} {X : World} : KpE b B X (X.drewN n) := ⟨⟨⟨Nat.le_refl _, fun _ _ h _ => h⟩, fun _ _ _ => rfl⟩, rfl⟩
theorem kf_set {C ib : Nat} {X : World} (o : Nat) (v : Value) : KeepsFrom C X (X.setCell ⟨ib, o, none⟩ v) := (KeepsOthers.setCell _ _ _).from _
theorem kf_below {C : Nat} {X Y : World} (hb : Below X.heap.size X Y) : KeepsFrom C X Y := (keeps_below hb).from _
theorem kf_drew {C n : Nat} {X : World} : KeepsFrom C X (X.drewN n) := ⟨Nat.le_refl _, fun _ _ _ h _ => h⟩

/-- All below V's end but one block is as in V; below w0's end all is as in w0. -/
def SmI (ib : Nat) (w0 V X : World) : Prop := SmR V.heap.size ib V X ∧ Below w0.heap.size w0 X
theorem SmI.start {ib : Nat} {w0 V : World} (h : Below w0.heap.size w0 V) : SmI ib w0 V V := ⟨⟨Nat.le_refl _, fun _ _ _ => rfl⟩, h⟩
theorem SmI.size {ib : Nat} {w0 V X : World} (h : SmI ib w0 V X) : V.heap.size ≤ X.heap.size := h.1.1
theorem SmI.grown {ib : Nat} {w0 V X Y : World} {row : Option Nat} (h : SmI ib w0 V X) (hg : X.grownBy Y row) (h0 : w0.heap.size ≤ V.heap.size) (hr : ∀ r, row = some r → V.heap.size ≤ r) : SmI ib w0 V Y :=
  ⟨⟨Nat.le_trans h.1.1 hg.size, fun b hb hn => (hg.block b (Nat.lt_of_lt_of_le hb h.1.1) (fun e => by have := hr b e.symm; omega)).trans (h.1.2 b hb hn)⟩,
    h.2.grown hg (Nat.le_trans h0 h.1.1) (fun r e => Nat.le_trans h0 (hr r e))⟩
theorem SmI.below {ib : Nat} {w0 V X Y : World} (h : SmI ib w0 V X) (hb : Below X.heap.size X Y) (h0 : w0.heap.size ≤ V.heap.size) : SmI ib w0 V Y := h.grown (grown_none hb) h0 (fun r e => by cases e)
theorem SmI.alloc {ib : Nat} {w0 V X : World} (h : SmI ib w0 V X) (h0 : w0.heap.size ≤ V.heap.size) (o : Obj) : SmI ib w0 V (X.alloc o) := h.grown (World.grownBy_alloc X o none) h0 (fun r e => by cases e)
theorem SmI.drewN {ib n : Nat} {w0 V X : World} (h : SmI ib w0 V X) : SmI ib w0 V (X.drewN n) := ⟨⟨h.1.1, h.1.2⟩, ⟨h.2.os, h.2.tape, h.2.output, h.2.size, h.2.block⟩⟩
theorem SmI.set {ib : Nat} {w0 V X : World} (h : SmI ib w0 V X) (hi : w0.heap.size ≤ ib) (o : Nat) (v : Value) : SmI ib w0 V (X.setCell ⟨ib, o, none⟩ v) :=
  ⟨⟨by simpa using h.1.1, fun b hb hn => (Below.heap_setCell _ _ _ _ (by dsimp only; omega)).trans (h.1.2 b hb hn)⟩, h.2.setCell (p := ⟨ib, o, none⟩) hi v⟩
theorem SmI.far {ib b : Nat} {w0 V X : World} (h : SmI ib w0 V X) (h0 : w0.heap.size ≤ V.heap.size) (hb : V.heap.size ≤ b) (o : Nat) (v : Value) : SmI ib w0 V (X.setCell ⟨b, o, none⟩ v) :=
  ⟨⟨by simpa using h.1.1, fun b' hb' hn => (Below.heap_setCell _ _ _ _ (by dsimp only; omega)).trans (h.1.2 b' hb' hn)⟩, h.2.setCell (p := ⟨b, o, none⟩) (by dsimp only; omega) v⟩
theorem SmI.blk {ib b : Nat} {w0 V X : World} {cs : Array Value} {T : TypeId} (h : SmI ib w0 V X) (hb : Blk V b cs T) (hn : b ≠ ib) : Blk X b cs T := (h.1.2 b hb.lt hn).trans hb
theorem SmI.box {ib b : Nat} {w0 V X : World} {T : TypeId} {v : Value} (h : SmI ib w0 V X) (hb : Boxed V b T v) (hn : b ≠ ib) : Boxed X b T v := (h.1.2 b (Blk.lt (show Blk _ _ _ _ from hb)) hn).trans hb
theorem SmI.obj {ib b : Nat} {w0 V X : World} {o : Obj} (h : SmI ib w0 V X) (hb : V.heap[b]? = some o) (hn : b ≠ ib) : X.heap[b]? = some o := (h.1.2 b (Array.getElem?_eq_some_iff.1 hb).1 hn).trans hb
theorem SmI.row {ib base size n : Nat} {w0 V X : World} {e : TypeId} {v : Value} {xs : List Value} (h : SmI ib w0 V X) (hr : V.ownsRow base e size v n xs) (hn : v.ownBlock ≠ some ib) : X.ownsRow base e size v n xs :=
  own_same hr (fun g hg => h.1.2 g (hr.lt g hg).2 (fun e2 => hn (by rw [hg, e2])))
/-- One variable (block ib) that hangs on what was met, and a word that speaks of no world. -/
theorem smI_ab {α : Type} {ib : Nat} {w0 V : World} {T : TypeId} {f : List α → Value} {p : List α → Prop} (hi : ib < V.heap.size) (h0 : w0.heap.size ≤ V.heap.size) :
    AbX V.heap.size FrT (fun (pre : List α) X => SmI ib w0 V X ∧ Boxed X ib T (f pre) ∧ p pre) := fun s X Y row h hg hr =>
  ⟨h.1.grown hg h0 (fun r e => (hr r e).1), (Blk.kept (show Blk X ib _ _ from h.2.1) hg (fun e => by have := (hr ib e.symm).1; omega)), h.2.2⟩
theorem ab_pure {α : Type} {B : Nat} {p : List α → Prop} : AbX B FrT (fun (pre : List α) _ => p pre) := fun _ _ _ _ h _ _ => h
theorem AbX.or {β : Type} {B : Nat} {Fr : World → Nat → Prop} {J J' : β → World → Prop} (h : AbX B Fr J) (h' : AbX B Fr J') : AbX B Fr (fun s W => J s W ∨ J' s W) := fun s X Y row hs hg hr => hs.imp (fun x => h s X Y row x hg hr) (fun x => h' s X Y row x hg hr)
theorem smI_ab0 {α : Type} {ib : Nat} {w0 V : World} (h0 : w0.heap.size ≤ V.heap.size) : AbX V.heap.size FrT (fun (_ : List α) X => SmI ib w0 V X) := fun s X Y row h hg hr => h.grown hg h0 (fun r e => (hr r e).1)
section
/-- What such an iterator promises. -/
def SeqZ {α : Type} (F : Fence) (n : Nat) (P : Program) (g : Nat) (lb : Array Value) (encs : α → Array Value) (Kp : World → World → Prop) (Fr : World → Nat → Prop) (S Sp : List α → Prop) (Due : List α → α → Prop) (N : Nat) (w : World) : Prop :=
  ∀ (l : Nat) (J Jx : List α → World → Prop) (W : World), Below w.heap.size w W → W.heap.size = w.heap.size + 2 → AbX W.heap.size Fr J → AbX W.heap.size Fr Jx →
    (∀ pre x X, J pre X → pre.length < N → Due pre x → YieldAt F (n - 1) P l (encs x) X fun e Y => (e = .returned (.bool true) ∧ J (pre ++ [x]) Y ∧ Kp X Y) ∨ (e = .returned (.bool false) ∧ Jx (pre ++ [x]) Y ∧ KeepsFrom W.heap.size X Y)) →
    J [] W → CallsIn F n P g (#[.func (.yield l) #[] #[]] ++ lb) W fun e Y => (∃ v, e = .returned v) ∧ ((∃ xs, S xs ∧ J xs Y) ∨ (∃ pre, Sp pre ∧ Jx pre Y))

variable {F : Fence} {n : Nat} {P : Program} {w : World}

theorem wpIn_range_z {α : Type} {g : Operand} {ps : Array Tmp} {assign body : Code} {Q : Exit → Act → World → Prop} {a : Act} (hro : F.round = none) (h1 : 1 ≤ n) {gf : Nat} {lb : Array Value} (hg : a.eval g = .func (.func gf) #[] lb) (hFg : F.fn gf)
    (eg : ∀ args w, (callFunc gf args).run P w = .ok (.enter gf args) w) {encs : α → Array Value} {Kp : World → World → Prop} {Fr : World → Nat → Prop} {S Sp : List α → Prop} {Due : List α → α → Prop} {N : Nat} (hseq : SeqZ F (n - 1) P gf lb encs Kp Fr S Sp Due N w)
    (hFr : ∀ W r o, W.heap[r]? = some o → o.isCells = false → Fr W r) (hKt : ∀ {A B C : World}, Kp A B → Kp B C → Kp A C)
    (hKb : ∀ (W : World) (o o' : Obj), W.heap[w.heap.size + 1]? = some o → o.isCells = false → o.isWalk = false → Kp W (W.putObj (w.heap.size + 1) o')) (hps : ∀ x, (encs x).size = ps.size)
    (I : List α → World → Prop) (Ix : Code → List α → World → Prop) (hI : AbX w.heap.size Fr I) (hIx : ∀ c, AbX w.heap.size Fr (Ix c)) (h0 : I [] w) (A : α → Act → World → Prop) (hA : ∀ x a', OwnFrom w.heap.size (fun (_ : Unit) W => A x a' W))
    (hassign : ∀ (l : Nat) (pre : List α) (x : α) (W : World) (K : Act → World → Prop), I pre W → (∀ a' W', KeepsFrom w.heap.size W W' → Kp W W' → I pre W' → A x a' W' → K a' W') →
      assign.wpIn (F.inRound l) (n - 1 - 1) P (Exit.then K (fun _ _ _ => False)) { tmps := (ps.zip (encs x)).foldl (fun t (p, v) => t.setIfInBounds p v) a.tmps, defers := [] } W)
    (hbody : ∀ (l : Nat) (pre : List α) (x : α) (a' : Act) (W : World), w.heap.size ≤ l → I pre W → A x a' W → pre.length < N → Due pre x → body.wpIn (F.inRound l) (n - 1 - 1) P (ownPostG w.heap.size Kp I Ix (pre ++ [x]) W) a' W)
    (hdone : ∀ (D : Nat) (xs : List α) (W : World), w.heap.size ≤ D → S xs → I xs W → W.heap[D]? = some (.deferred (some [])) → Q .normal { a with defers := { target := .collected D, args := #[] } :: a.defers } W)
    (hstop : ∀ (D : Nat) (c : Code) (pre : List α) (W : World), w.heap.size ≤ D → Sp pre → Ix c pre W → W.heap[D]? = some (.deferred (some [])) → c.wpIn F n P Q { a with defers := { target := .collected D, args := #[] } :: a.defers } W) :
    (Code.rangeFunc g ps assign body).wpIn F n P Q a w := by
  refine wpIn_rangeFunc fun fn hfn => ?_
  rw [hro]
  obtain ⟨D, hD⟩ : ∃ D, w.heap.size = D := ⟨_, rfl⟩
  obtain ⟨rec, hrec⟩ : ∃ rec : LoopState → Option Code → Loop, rec = fun st pe => { state := st, pending := pe, fn, tmps := a.tmps, params := ps, assign, body, defers := D } := ⟨_, rfl⟩
  obtain ⟨V, hV⟩ : ∃ V, (w.alloc (.deferred (some []))).alloc (.loop (rec .ready none)) = V := ⟨_, rfl⟩
  have hVs : V.heap.size = D + 2 := by rw [← hV]; simp [hD]
  have hVl : V.heap[D + 1]? = some (.loop (rec .ready none)) := by
    have h := World.alloc_heap_new (w.alloc (.deferred (some []))) (.loop (rec .ready none))
    rw [World.size_alloc, hD, hV] at h; exact h
  have hVd : V.heap[D]? = some (.deferred (some [])) := by
    have h := World.alloc_heap_new w (.deferred (some []))
    rw [hD] at h
    rw [← hV]; exact (Below.heap_alloc _ _ _ (by simp [hD])).trans h
  have hVI : I [] V := hV ▸ hI.alloc _ (hI.alloc _ h0)
  have hVb : Below w.heap.size w V := hV ▸ ((Below.refl _ w).alloc (Nat.le_refl _) _).alloc (by simp) _
  rw [hD] at hI hIx hA hassign hbody hdone hstop hKb
  refine ⟨D + 1, [{ target := .collected D, args := #[] }], V, { target := .fn (.func gf) lb, args := #[.func (.yield (D + 1)) #[] #[]] }, V, gf, #[.func (.yield (D + 1)) #[] #[]] ++ lb, V, ?_, ?_, ?_, ?_, fun _ => h1, ?_⟩
  · rw [← hV, hrec, ← hD]; exact run_enterLoop_outer _ _ _ _ _
  · simp only [resolve, hg]
    simp [go_sem]
  · intro f' hf'; simp [Target.leads] at hf'; subst hf'; exact hFg
  · simp [invoke, go_sem, eg]
  -- the two blocks that the law itself lays stand below the iterator's
  have two : ∀ {X Y : World} {row : Option Nat} {o : Obj} {d : Nat}, X.grownBy Y row → (∀ r, row = some r → V.heap.size ≤ r ∧ Fr X r) → d ≤ D + 1 → X.heap[d]? = some o → Y.heap[d]? = some o := fun hgr hr hd ho =>
    (hgr.block _ (Array.getElem?_eq_some_iff.1 ho).1 (fun e => by have := (hr _ e.symm).1; omega)).trans ho
  have up : ∀ {X : World} {row : Option Nat}, (∀ r, row = some r → V.heap.size ≤ r ∧ Fr X r) → (∀ r, row = some r → D ≤ r ∧ Fr X r) := fun hr r e => ⟨by have := (hr r e).1; omega, (hr r e).2⟩
  have put : ∀ {β : Type} {J : β → World → Prop} {s : β} {X : World} {o : Obj} (o' : Obj), AbX D Fr J → J s X → X.heap[D + 1]? = some o → o.isCells = false → J s (X.putObj (D + 1) o') := fun o' hJ hs ho hc =>
    hJ _ _ _ (some (D + 1)) hs (grownBy_putObj' _ _ _) (fun r e => by cases e; exact ⟨by omega, hFr _ _ _ ho hc⟩)
  refine (hseq (D + 1) (fun pre W => I pre W ∧ W.heap[D + 1]? = some (.loop (rec .ready none)) ∧ W.heap[D]? = some (.deferred (some [])))
    (fun pre W => ∃ c, Ix c pre W ∧ W.heap[D + 1]? = some (.loop (rec .done (some c))) ∧ W.heap[D]? = some (.deferred (some []))) V hVb (by rw [hVs, hD])
    (fun s X Y row hs hgr hr => ⟨hI s X Y row hs.1 hgr (up hr), two hgr hr (Nat.le_refl _) hs.2.1, two hgr hr (by omega) hs.2.2⟩)
    (fun s X Y row ⟨c, h2, h3, h4⟩ hgr hr => ⟨c, hIx c s X Y row h2 hgr (up hr), two hgr hr (Nat.le_refl _) h3, two hgr hr (by omega) h4⟩) ?_ ⟨hVI, hVl, hVd⟩).mono ?_
  · rintro pre x X ⟨hi, hl, hk⟩ hlen hdue
    have hy := run_yield (P := P) (args := encs x) hl (by rw [hrec]; exact hps x)
    rw [hrec] at hy
    refine ⟨fn, _, assign, body, hy, roundIn_of_wpIn hfn (hassign _ pre x X _ hi fun a' Y hky hpy hiy hay => ?_)⟩
    clear hy
    have hl1 := hky.same _ _ (by omega) hl rfl
    have hk1 := hky.same _ _ (Nat.le_refl _) hk rfl
    have hlt : D + 1 < Y.heap.size := (Array.getElem?_eq_some_iff.1 hl1).1
    refine ⟨_, run_beginRound hl1 (by rw [hrec]), ?_⟩
    obtain ⟨bz, hbz⟩ : ∃ bz : Loop, { rec .ready none with state := .busy } = bz := ⟨_, rfl⟩
    rw [hbz]
    have hl2 : (Y.putObj (D + 1) (.loop bz)).heap[D + 1]? = some (.loop bz) := World.putObj_heap_same hlt
    have hk2 : (Y.putObj (D + 1) (.loop bz)).heap[D]? = some (.deferred (some [])) := (World.putObj_heap_other (by omega)).trans hk1
    have hp2 := hKb Y _ (.loop bz) hl1 rfl rfl
    refine wpIn_mono (hbody _ pre x a' _ (by omega) (put _ hI hiy hl1 rfl) ((hA x a').putObj (s := ()) _ hay (by omega) hl1 rfl) hlen hdue) ?_
    have fin : ∀ (jump : Option Code) (Z : World), KeepsFrom D (Y.putObj (D + 1) (.loop bz)) Z → ∃ nx : Loop, nx = rec (if jump.isNone then .ready else .done) jump ∧ (Instr.endRound (D + 1) jump).run P Z = .ok (.bool jump.isNone) (Z.putObj (D + 1) (.loop nx)) ∧
        Z.heap[D + 1]? = some (.loop bz) ∧ (Z.putObj (D + 1) (.loop nx)).heap[D + 1]? = some (.loop nx) ∧ (Z.putObj (D + 1) (.loop nx)).heap[D]? = some (.deferred (some [])) := fun jump Z hz => by
      have hl3 := hz.same _ _ (by omega) hl2 rfl
      have hr := run_endRound (P := P) jump hl3
      refine ⟨_, rfl, ?_, hl3, World.putObj_heap_same (Array.getElem?_eq_some_iff.1 hl3).1, (World.putObj_heap_other (by omega)).trans (hz.same _ _ (Nat.le_refl _) hk2 rfl)⟩
      rw [← hbz, hrec] at hr
      rw [hrec]; exact hr
    have out : ∀ (c : Code) (Z : World), KeepsFrom D (Y.putObj (D + 1) (.loop bz)) Z → Ix c (pre ++ [x]) Z → ∃ b Z', (Instr.endRound (D + 1) (some c)).run P Z = .ok b Z' ∧ b = .bool false ∧ (∃ c, Ix c (pre ++ [x]) Z' ∧ Z'.heap[D + 1]? = some (.loop (rec .done (some c))) ∧ Z'.heap[D]? = some (.deferred (some []))) ∧ KeepsFrom V.heap.size X Z' := fun c Z hz hi3 => by
      obtain ⟨nx, rfl, hr, hl3, hl4, hk4⟩ := fin (some c) Z hz
      exact ⟨_, _, hr, rfl, ⟨c, put _ (hIx c) hi3 hl3 rfl, hl4, hk4⟩, (keepsFrom_up hky (by omega)).trans ((keepsFrom_put _ _ (by omega)).trans ((keepsFrom_up hz (by omega)).trans (keepsFrom_put _ _ (by omega))))⟩
    rintro e a3 Z hp
    cases e with
    | normal =>
      obtain ⟨hz, hp3, hi3⟩ := hp
      obtain ⟨nx, rfl, hr, hl3, hl4, hk4⟩ := fin none Z hz
      exact ⟨_, _, hr, .inl ⟨rfl, ⟨put _ hI hi3 hl3 rfl, hl4, hk4⟩, hKt hpy (hKt (hKt hp2 hp3) (hKb _ _ _ hl3 rfl rfl))⟩⟩
    | ret => obtain ⟨b, Z', hr, rfl, hx, hkk⟩ := out .ret Z hp.1 hp.2; exact ⟨_, _, hr, .inr ⟨rfl, hx, hkk⟩⟩
    | exit id => obtain ⟨b, Z', hr, rfl, hx, hkk⟩ := out (.exit id) Z hp.1 hp.2; exact ⟨_, _, hr, .inr ⟨rfl, hx, hkk⟩⟩
    | goto t => obtain ⟨b, Z', hr, rfl, hx, hkk⟩ := out (.goto t) Z hp.1 hp.2; exact ⟨_, _, hr, .inr ⟨rfl, hx, hkk⟩⟩
    | panic ch => exact hp.elim
    | outgrown => exact hp.elim
  · rintro e Z ⟨⟨v, rfl⟩, (⟨xs, hS, hi, hl, hk⟩ | ⟨pre, hSp, c, hi, hl, hk⟩)⟩
    · have hr := run_endLoop (P := P) hl (by rw [hrec]; simp)
      rw [hrec] at hr
      exact ⟨none, _, hr, hdone _ xs _ (Nat.le_refl _) hS (put _ hI hi hl rfl) ((World.putObj_heap_other (by omega)).trans hk)⟩
    · have hr := run_endLoop (P := P) hl (by rw [hrec]; simp)
      rw [hrec] at hr
      exact ⟨some c, _, hr, hstop _ c pre _ (Nat.le_refl _) hSp (put _ (hIx c) hi hl rfl) ((World.putObj_heap_other (by omega)).trans hk)⟩

end
end Go.Proofs.Ytdcmkiggnmajgaa
