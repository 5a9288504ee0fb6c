/- A range over a function, its body told what was made since it last ended: what the caller's word claims lies below a mark, the iterator's own above it. -/
import Derived.Test.YtnbhdgbhmcbeoaaK1
namespace Go.Proofs.Ytnbhdgbhmcbeoaa
set_option linter.unusedVariables false
set_option linter.unusedSimpArgs false
open Go Go.RowKit Go.Shelf
set_option maxRecDepth 100000

/-- What a round leaves, the mark moved up to its end. -/
def ownPostM {α : Type} (B : Nat) (Kp : World → World → Prop) (I : Nat → List α → World → Prop) (Ix : Code → List α → World → Prop) (xs : List α) (W : World) : Exit → Act → World → Prop
  | .normal, _, W' => KeepsFrom B W W' ∧ Kp W W' ∧ I W'.heap.size xs W'
  | .ret, _, W' => KeepsFrom B W W' ∧ Ix .ret xs W'
  | .exit id, _, W' => KeepsFrom B W W' ∧ Ix (.exit id) xs W'
  | .goto t, _, W' => KeepsFrom B W W' ∧ Ix (.goto t) xs W'
  | .panic _, _, _ => False
  | .outgrown, _, _ => False
/-- From the mark on nothing turns, nor does a box. -/
def KpM (B m : Nat) (X Y : World) : Prop := KeepsWalks X Y ∧ (∀ k, m ≤ k → k < X.heap.size → Y.heap[k]? = X.heap[k]?) ∧ Y.heap[B]? = X.heap[B]?
theorem kpM_t {B m : Nat} {X Y Z : World} (h : KpM B m X Y) (g : KpM B m Y Z) : KpM B m X Z :=
  ⟨h.1.trans g.1, fun k hk hl => (g.2.1 k hk (Nat.lt_of_lt_of_le hl h.1.size)).trans (h.2.1 k hk hl), g.2.2.trans h.2.2⟩
theorem kpM_refl {B m : Nat} {X : World} : KpM B m X X := ⟨KeepsWalks.refl _, fun _ _ _ => rfl, rfl⟩
theorem kpM_drew {B m n : Nat} {X : World} : KpM B m X (X.drewN n) := ⟨⟨Nat.le_refl _, fun _ _ h _ => h⟩, fun _ _ _ => rfl, rfl⟩
theorem kpM_set {B m ib : Nat} {X : World} (h : ib < m) (hB : ib ≠ B) (o : Nat) (v : Value) : KpM B m X (X.setCell ⟨ib, o, none⟩ v) :=
  ⟨(KeepsOthers.setCell _ _ _).walks, fun k hk _ => Below.heap_setCell _ _ _ _ (by dsimp only; omega), Below.heap_setCell _ _ _ _ (by dsimp only; omega)⟩
theorem kpM_below {B m : Nat} {X Y : World} (hb : Below X.heap.size X Y) (hB : B < X.heap.size) : KpM B m X Y := ⟨(keeps_below hb).walks, fun k _ hl => hb.block k hl, hb.block B hB⟩
theorem kpM_alloc {B m : Nat} {X : World} (hB : B < X.heap.size) (o : Obj) : KpM B m X (X.alloc o) := ⟨KeepsWalks.alloc _ _, fun k _ hl => Below.heap_alloc _ _ _ hl, Below.heap_alloc _ _ _ hB⟩
theorem kpM_grown {B m : Nat} {X Y : World} {row : Option Nat} (hg : X.grownBy Y row) (hr : ∀ r, row = some r → r < m ∧ r ≠ B ∧ ∃ cs t fz, X.heap[r]? = some (.cells cs t fz)) (hB : B < X.heap.size) : KpM B m X Y :=
  ⟨⟨hg.size, fun k o hk ho => (hg.block k (Array.getElem?_eq_some_iff.1 hk).1 (fun e => by obtain ⟨_, _, cs, t, fz, h⟩ := hr k e.symm; rw [h] at hk; cases hk; cases ho)).trans hk⟩,
    fun k hk hl => hg.block k hl (fun e => by have := (hr k e.symm).1; omega), hg.block B hB (fun e => (hr B e.symm).2.1 rfl)⟩
/-- A block that is no cells. -/
def FrO (W : World) (r : Nat) : Prop := ∃ o, W.heap[r]? = some o ∧ o.isCells = false
theorem own_abO {β : Type} {B : Nat} {J : β → World → Prop} (h : Own J) : AbX B FrO J := fun s X Y row hs hg hr => h s X Y row hs hg (fun r e => (hr r e).2)
theorem smI_abO {α : Type} {ib : Nat} {w0 V : World} {T : TypeId} {f : List α → Value} {p : List α → Prop} (hi : ib < V.heap.size) (h0 : w0.heap.size ≤ V.heap.size) :
    AbX V.heap.size FrO (fun (pre : List α) X => SmI ib w0 V X ∧ Boxed X ib T (f pre) ∧ p pre) := fun s X Y row h hg hr =>
  ⟨h.1.grown hg h0 (fun r e => (hr r e).1), (Blk.kept (show Blk X ib _ _ from h.2.1) hg (fun e => by have := (hr ib e.symm).1; omega)), h.2.2⟩
theorem below_abO {β : Type} {B : Nat} {w0 : World} (h0 : w0.heap.size ≤ B) : AbX B FrO (fun (_ : β) X => Below w0.heap.size w0 X ∧ B ≤ X.heap.size) := fun _ X Y row h hg hr =>
  ⟨h.1.grown hg (Nat.le_trans h0 h.2) (fun r e => Nat.le_trans h0 (hr r e).1), Nat.le_trans h.2 hg.size⟩

section
/-- What such an iterator promises. -/
def SeqM {α : Type} (F : Fence) (n : Nat) (P : Program) (g : Nat) (lb : Array Value) (encs : α → Array Value) (Kp : Nat → World → World → Prop) (Fr : World → Nat → Prop) (S Sp : List α → Prop) (Due : List α → α → Prop) (w : World) : Prop :=
  ∀ (l : Nat) (J : Nat → List α → World → Prop) (Jx : List α → World → Prop) (W : World), Below w.heap.size w W → W.heap.size = w.heap.size + 2 → (∀ m, AbX W.heap.size Fr (J m)) → AbX W.heap.size Fr Jx →
    (∀ m pre x X, J m pre X → W.heap.size ≤ m → m ≤ X.heap.size → Due pre x → YieldAt F (n - 1) P l (encs x) X fun e Y => (e = .returned (.bool true) ∧ J Y.heap.size (pre ++ [x]) Y ∧ Kp m X Y) ∨ (e = .returned (.bool false) ∧ Jx (pre ++ [x]) Y ∧ KeepsFrom W.heap.size X Y)) →
    J W.heap.size [] W → CallsIn F n P g (#[.func (.yield l) #[] #[]] ++ lb) W fun e Y => (∃ v, e = .returned v) ∧ ((∃ m xs, S xs ∧ J m xs Y ∧ m ≤ Y.heap.size) ∨ (∃ pre, Sp pre ∧ Jx pre Y))

variable {F : Fence} {n : Nat} {P : Program} {w : World}

theorem wpIn_range_m {α : Type} {g : Operand} {ps : Array Tmp} {assign body : Code} {Q : Exit → Act → World → Prop} {a : Act} (hro : F.round = none) (h1 : 1 ≤ n) {gf : Nat} {lb : Array Value} (hg : a.eval g = .func (.func gf) #[] lb) (hFg : F.fn gf)
    (eg : ∀ args w, (callFunc gf args).run P w = .ok (.enter gf args) w) {encs : α → Array Value} {Kp : Nat → World → World → Prop} {Fr : World → Nat → Prop} {S Sp : List α → Prop} {Due : List α → α → Prop} (hseq : SeqM F (n - 1) P gf lb encs Kp Fr S Sp Due w)
    (hFr : ∀ W r o, W.heap[r]? = some o → o.isCells = false → Fr W r) (hKt : ∀ {m : Nat} {A B C : World}, Kp m A B → Kp m B C → Kp m A C)
    (hKb : ∀ (m : Nat) (W : World) (o o' : Obj), w.heap.size + 2 ≤ m → W.heap[w.heap.size + 1]? = some o → o.isCells = false → o.isWalk = false → Kp m W (W.putObj (w.heap.size + 1) o')) (hps : ∀ x, (encs x).size = ps.size)
    (I : Nat → List α → World → Prop) (Ix : Code → List α → World → Prop) (hI : ∀ m, AbX w.heap.size Fr (I m)) (hIx : ∀ c, AbX w.heap.size Fr (Ix c)) (h0 : I (w.heap.size + 2) [] w) (A : Nat → α → Act → World → Prop) (hA : ∀ m x a', OwnFrom w.heap.size (fun (_ : Unit) W => A m x a' W))
    (hassign : ∀ (l m : Nat) (pre : List α) (x : α) (W : World) (K : Act → World → Prop), I m pre W → w.heap.size + 2 ≤ m → m ≤ W.heap.size → (∀ a' W', KeepsFrom w.heap.size W W' → Kp m W W' → I m pre W' → A m x a' W' → K a' W') →
      assign.wpIn (F.inRound l) (n - 1 - 1) P (Exit.then K (fun _ _ _ => False)) { tmps := (ps.zip (encs x)).foldl (fun t (p, v) => t.setIfInBounds p v) a.tmps, defers := [] } W)
    (hbody : ∀ (l m : Nat) (pre : List α) (x : α) (a' : Act) (W : World), w.heap.size ≤ l → I m pre W → w.heap.size + 2 ≤ m → m ≤ W.heap.size → A m x a' W → Due pre x → body.wpIn (F.inRound l) (n - 1 - 1) P (ownPostM w.heap.size (Kp m) I Ix (pre ++ [x]) W) a' W)
    (hdone : ∀ (D m : Nat) (xs : List α) (W : World), w.heap.size ≤ D → S xs → I m xs W → m ≤ W.heap.size → W.heap[D]? = some (.deferred (some [])) → Q .normal { a with defers := { target := .collected D, args := #[] } :: a.defers } W)
    (hstop : ∀ (D : Nat) (c : Code) (pre : List α) (W : World), w.heap.size ≤ D → Sp pre → Ix c pre W → W.heap[D]? = some (.deferred (some [])) → c.wpIn F n P Q { a with defers := { target := .collected D, args := #[] } :: a.defers } W) :
    (Code.rangeFunc g ps assign body).wpIn F n P Q a w := by
  refine wpIn_rangeFunc fun fn hfn => ?_
  rw [hro]
  obtain ⟨D, hD⟩ : ∃ D, w.heap.size = D := ⟨_, rfl⟩
  obtain ⟨rec, hrec⟩ : ∃ rec : LoopState → Option Code → Loop, rec = fun st pe => { state := st, pending := pe, fn, tmps := a.tmps, params := ps, assign, body, defers := D } := ⟨_, rfl⟩
  obtain ⟨V, hV⟩ : ∃ V, (w.alloc (.deferred (some []))).alloc (.loop (rec .ready none)) = V := ⟨_, rfl⟩
  have hVs : V.heap.size = D + 2 := by rw [← hV]; simp [hD]
  have hVl : V.heap[D + 1]? = some (.loop (rec .ready none)) := by
    have h := World.alloc_heap_new (w.alloc (.deferred (some []))) (.loop (rec .ready none))
    rw [World.size_alloc, hD, hV] at h; exact h
  have hVd : V.heap[D]? = some (.deferred (some [])) := by
    have h := World.alloc_heap_new w (.deferred (some []))
    rw [hD] at h
    rw [← hV]; exact (Below.heap_alloc _ _ _ (by simp [hD])).trans h
  have hVI : I (D + 2) [] V := hV ▸ (hI _).alloc _ ((hI _).alloc _ (hD ▸ h0))
  have hVb : Below w.heap.size w V := hV ▸ ((Below.refl _ w).alloc (Nat.le_refl _) _).alloc (by simp) _
  rw [hD] at hI hIx hA hassign hbody hdone hstop hKb
  refine ⟨D + 1, [{ target := .collected D, args := #[] }], V, { target := .fn (.func gf) lb, args := #[.func (.yield (D + 1)) #[] #[]] }, V, gf, #[.func (.yield (D + 1)) #[] #[]] ++ lb, V, ?_, ?_, ?_, ?_, fun _ => h1, ?_⟩
  · rw [← hV, hrec, ← hD]; exact run_enterLoop_outer _ _ _ _ _
  · simp only [resolve, hg]
    simp [go_sem]
  · intro f' hf'; simp [Target.leads] at hf'; subst hf'; exact hFg
  · simp [invoke, go_sem, eg]
  -- the two blocks that the law itself lays stand below the iterator's
  have two : ∀ {X Y : World} {row : Option Nat} {o : Obj} {d : Nat}, X.grownBy Y row → (∀ r, row = some r → V.heap.size ≤ r ∧ Fr X r) → d ≤ D + 1 → X.heap[d]? = some o → Y.heap[d]? = some o := fun hgr hr hd ho =>
    (hgr.block _ (Array.getElem?_eq_some_iff.1 ho).1 (fun e => by have := (hr _ e.symm).1; omega)).trans ho
  have up : ∀ {X : World} {row : Option Nat}, (∀ r, row = some r → V.heap.size ≤ r ∧ Fr X r) → (∀ r, row = some r → D ≤ r ∧ Fr X r) := fun hr r e => ⟨by have := (hr r e).1; omega, (hr r e).2⟩
  have put : ∀ {β : Type} {J : β → World → Prop} {s : β} {X : World} {o : Obj} (o' : Obj), AbX D Fr J → J s X → X.heap[D + 1]? = some o → o.isCells = false → J s (X.putObj (D + 1) o') := fun o' hJ hs ho hc =>
    hJ _ _ _ (some (D + 1)) hs (grownBy_putObj' _ _ _) (fun r e => by cases e; exact ⟨by omega, hFr _ _ _ ho hc⟩)
  refine (hseq (D + 1) (fun m pre W => I m pre W ∧ W.heap[D + 1]? = some (.loop (rec .ready none)) ∧ W.heap[D]? = some (.deferred (some [])))
    (fun pre W => ∃ c, Ix c pre W ∧ W.heap[D + 1]? = some (.loop (rec .done (some c))) ∧ W.heap[D]? = some (.deferred (some []))) V hVb (by rw [hVs, hD])
    (fun m s X Y row hs hgr hr => ⟨hI m s X Y row hs.1 hgr (up hr), two hgr hr (Nat.le_refl _) hs.2.1, two hgr hr (by omega) hs.2.2⟩)
    (fun s X Y row ⟨c, h2, h3, h4⟩ hgr hr => ⟨c, hIx c s X Y row h2 hgr (up hr), two hgr hr (Nat.le_refl _) h3, two hgr hr (by omega) h4⟩) ?_ ⟨by rw [hVs]; exact hVI, hVl, hVd⟩).mono ?_
  · rintro m pre x X ⟨hi, hl, hk⟩ hm1 hm2 hdue
    rw [hVs] at hm1
    have hy := run_yield (P := P) (args := encs x) hl (by rw [hrec]; exact hps x)
    rw [hrec] at hy
    refine ⟨fn, _, assign, body, hy, roundIn_of_wpIn hfn (hassign _ m pre x X _ hi hm1 hm2 fun a' Y hky hpy hiy hay => ?_)⟩
    clear hy
    have hl1 := hky.same _ _ (by omega) hl rfl
    have hk1 := hky.same _ _ (Nat.le_refl _) hk rfl
    have hlt : D + 1 < Y.heap.size := (Array.getElem?_eq_some_iff.1 hl1).1
    refine ⟨_, run_beginRound hl1 (by rw [hrec]), ?_⟩
    obtain ⟨bz, hbz⟩ : ∃ bz : Loop, { rec .ready none with state := .busy } = bz := ⟨_, rfl⟩
    rw [hbz]
    have hl2 : (Y.putObj (D + 1) (.loop bz)).heap[D + 1]? = some (.loop bz) := World.putObj_heap_same hlt
    have hk2 : (Y.putObj (D + 1) (.loop bz)).heap[D]? = some (.deferred (some [])) := (World.putObj_heap_other (by omega)).trans hk1
    have hp2 := hKb m Y _ (.loop bz) hm1 hl1 rfl rfl
    refine wpIn_mono (hbody _ m pre x a' _ (by omega) (put _ (hI m) hiy hl1 rfl) hm1 (Nat.le_trans hm2 (by have := hky.size; simpa using this)) ((hA m x a').putObj (s := ()) _ hay (by omega) hl1 rfl) hdue) ?_
    have fin : ∀ (jump : Option Code) (Z : World), KeepsFrom D (Y.putObj (D + 1) (.loop bz)) Z → ∃ nx : Loop, nx = rec (if jump.isNone then .ready else .done) jump ∧ (Instr.endRound (D + 1) jump).run P Z = .ok (.bool jump.isNone) (Z.putObj (D + 1) (.loop nx)) ∧
        Z.heap[D + 1]? = some (.loop bz) ∧ (Z.putObj (D + 1) (.loop nx)).heap[D + 1]? = some (.loop nx) ∧ (Z.putObj (D + 1) (.loop nx)).heap[D]? = some (.deferred (some [])) := fun jump Z hz => by
      have hl3 := hz.same _ _ (by omega) hl2 rfl
      have hr := run_endRound (P := P) jump hl3
      refine ⟨_, rfl, ?_, hl3, World.putObj_heap_same (Array.getElem?_eq_some_iff.1 hl3).1, (World.putObj_heap_other (by omega)).trans (hz.same _ _ (Nat.le_refl _) hk2 rfl)⟩
      rw [← hbz, hrec] at hr
      rw [hrec]; exact hr
    have out : ∀ (c : Code) (Z : World), KeepsFrom D (Y.putObj (D + 1) (.loop bz)) Z → Ix c (pre ++ [x]) Z → ∃ b Z', (Instr.endRound (D + 1) (some c)).run P Z = .ok b Z' ∧ b = .bool false ∧ (∃ c, Ix c (pre ++ [x]) Z' ∧ Z'.heap[D + 1]? = some (.loop (rec .done (some c))) ∧ Z'.heap[D]? = some (.deferred (some []))) ∧ KeepsFrom V.heap.size X Z' := fun c Z hz hi3 => by
      obtain ⟨nx, rfl, hr, hl3, hl4, hk4⟩ := fin (some c) Z hz
      exact ⟨_, _, hr, rfl, ⟨c, put _ (hIx c) hi3 hl3 rfl, hl4, hk4⟩, (keepsFrom_up hky (by omega)).trans ((keepsFrom_put _ _ (by omega)).trans ((keepsFrom_up hz (by omega)).trans (keepsFrom_put _ _ (by omega))))⟩
    rintro e a3 Z hp
    cases e with
    | normal =>
      obtain ⟨hz, hp3, hi3⟩ := hp
      obtain ⟨nx, rfl, hr, hl3, hl4, hk4⟩ := fin none Z hz
      exact ⟨_, _, hr, .inl ⟨rfl, ⟨by rw [show (Z.putObj (D + 1) (.loop (rec (if (none : Option Code).isNone then .ready else .done) none))).heap.size = Z.heap.size by simp [World.putObj]]; exact put _ (hI _) hi3 hl3 rfl, hl4, hk4⟩, hKt hpy (hKt (hKt hp2 hp3) (hKb m _ _ _ hm1 hl3 rfl rfl))⟩⟩
    | ret => obtain ⟨b, Z', hr, rfl, hx, hkk⟩ := out .ret Z hp.1 hp.2; exact ⟨_, _, hr, .inr ⟨rfl, hx, hkk⟩⟩
    | exit id => obtain ⟨b, Z', hr, rfl, hx, hkk⟩ := out (.exit id) Z hp.1 hp.2; exact ⟨_, _, hr, .inr ⟨rfl, hx, hkk⟩⟩
    | goto t => obtain ⟨b, Z', hr, rfl, hx, hkk⟩ := out (.goto t) Z hp.1 hp.2; exact ⟨_, _, hr, .inr ⟨rfl, hx, hkk⟩⟩
    | panic ch => exact hp.elim
    | outgrown => exact hp.elim
  · rintro e Z ⟨⟨v, rfl⟩, (⟨m, xs, hS, ⟨hi, hl, hk⟩, hm⟩ | ⟨pre, hSp, c, hi, hl, hk⟩)⟩
    · have hr := run_endLoop (P := P) hl (by rw [hrec]; simp)
      rw [hrec] at hr
      exact ⟨none, _, hr, hdone _ m xs _ (Nat.le_refl _) hS (put _ (hI m) hi hl rfl) (by simpa [World.putObj] using hm) ((World.putObj_heap_other (by omega)).trans hk)⟩
    · have hr := run_endLoop (P := P) hl (by rw [hrec]; simp)
      rw [hrec] at hr
      exact ⟨some c, _, hr, hstop _ c pre _ (Nat.le_refl _) hSp (put _ (hIx c) hi hl rfl) ((World.putObj_heap_other (by omega)).trans hk)⟩

end
end Go.Proofs.Ytnbhdgbhmcbeoaa
