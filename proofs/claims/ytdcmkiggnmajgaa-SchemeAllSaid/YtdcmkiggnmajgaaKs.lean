/- A range over a function whose iterator tells of what it yields (Due), and whose rounds may change what was yielded (Kp x). -/
import Derived.Test.YtdcmkiggnmajgaaK0
namespace Go.Proofs.Ytdcmkiggnmajgaa
set_option linter.unusedVariables false
set_option linter.unusedSimpArgs false
open Go Go.RowKit Go.Shelf
set_option maxRecDepth 100000

/-- What such an iterator promises. -/
def SeqS {α : Type} (F : Fence) (n : Nat) (P : Program) (g : Nat) (lb : Array Value) (encs : α → Array Value) (Kp : α → World → World → Prop) (Fr : World → Nat → Prop) (S Sp : List α → Prop) (Due : List α → α → World → Prop) (N : Nat) (w : World) : Prop :=
  ∀ (l : Nat) (J Jx : List α → World → Prop) (W : World), Below w.heap.size w W → W.heap.size = w.heap.size + 2 → AbX W.heap.size Fr J → AbX W.heap.size Fr Jx →
    (∀ pre x X, J pre X → Due pre x X → pre.length < N → YieldAt F (n - 1) P l (encs x) X fun e Y => (e = .returned (.bool true) ∧ J (pre ++ [x]) Y ∧ Kp x X Y) ∨ (e = .returned (.bool false) ∧ Jx (pre ++ [x]) Y ∧ KeepsFrom W.heap.size X Y)) →
    J [] W → CallsIn F n P g (#[.func (.yield l) #[] #[]] ++ lb) W fun e Y => (∃ v, e = .returned v) ∧ ((∃ xs, S xs ∧ J xs Y) ∨ (∃ pre, Sp pre ∧ Jx pre Y))

section
variable {F : Fence} {n : Nat} {P : Program} {w : World}

theorem wpIn_range_s {α : Type} {g : Operand} {ps : Array Tmp} {assign body : Code} {Q : Exit → Act → World → Prop} {a : Act} (hro : F.round = none) (h1 : 1 ≤ n) {gf : Nat} {lb : Array Value} (hg : a.eval g = .func (.func gf) #[] lb) (hFg : F.fn gf)
    (eg : ∀ args w, (callFunc gf args).run P w = .ok (.enter gf args) w) {encs : α → Array Value} {Kp : α → World → World → Prop} {Fr : World → Nat → Prop} {S Sp : List α → Prop} {Due : List α → α → World → Prop} {N : Nat} (hseq : SeqS F (n - 1) P gf lb encs Kp Fr S Sp Due N w)
    (hFr : ∀ W r o, W.heap[r]? = some o → o.isCells = false → Fr W r) (hKt : ∀ {x : α} {A B C : World}, Kp x A B → Kp x B C → Kp x A C)
    (hKb : ∀ (x : α) (W : World) (o o' : Obj), W.heap[w.heap.size + 1]? = some o → o.isCells = false → o.isWalk = false → Kp x W (W.putObj (w.heap.size + 1) o')) (hps : ∀ x, (encs x).size = ps.size)
    (I : List α → World → Prop) (Ix : Code → List α → World → Prop) (hI : AbX w.heap.size Fr I) (hIx : ∀ c, AbX w.heap.size Fr (Ix c)) (h0 : I [] w) (A : List α → α → Act → World → Prop) (hA : ∀ pre x a' (W : World) (l : Nat) (o o' : Obj), A pre x a' W → W.heap[l]? = some o → o.isCells = false → A pre x a' (W.putObj l o'))
    (hassign : ∀ (l : Nat) (pre : List α) (x : α) (W : World) (K : Act → World → Prop), I pre W → Due pre x W → (∀ a' W', KeepsFrom w.heap.size W W' → Kp x W W' → I pre W' → A pre x a' W' → K a' W') →
      assign.wpIn (F.inRound l) (n - 1 - 1) P (Exit.then K (fun _ _ _ => False)) { tmps := (ps.zip (encs x)).foldl (fun t (p, v) => t.setIfInBounds p v) a.tmps, defers := [] } W)
    (hbody : ∀ (l : Nat) (pre : List α) (x : α) (a' : Act) (W : World), w.heap.size ≤ l → I pre W → A pre x a' W → pre.length < N → body.wpIn (F.inRound l) (n - 1 - 1) P (ownPostG w.heap.size (Kp x) I Ix (pre ++ [x]) W) a' W)
    (hdone : ∀ (D : Nat) (xs : List α) (W : World), w.heap.size ≤ D → S xs → I xs W → W.heap[D]? = some (.deferred (some [])) → Q .normal { a with defers := { target := .collected D, args := #[] } :: a.defers } W)
    (hstop : ∀ (D : Nat) (c : Code) (pre : List α) (W : World), w.heap.size ≤ D → Sp pre → Ix c pre W → W.heap[D]? = some (.deferred (some [])) → c.wpIn F n P Q { a with defers := { target := .collected D, args := #[] } :: a.defers } W) :
    (Code.rangeFunc g ps assign body).wpIn F n P Q a w := by
  refine wpIn_rangeFunc fun fn hfn => ?_
  rw [hro]
  obtain ⟨D, hD⟩ : ∃ D, w.heap.size = D := ⟨_, rfl⟩
  obtain ⟨rec, hrec⟩ : ∃ rec : LoopState → Option Code → Loop, rec = fun st pe => { state := st, pending := pe, fn, tmps := a.tmps, params := ps, assign, body, defers := D } := ⟨_, rfl⟩
  obtain ⟨V, hV⟩ : ∃ V, (w.alloc (.deferred (some []))).alloc (.loop (rec .ready none)) = V := ⟨_, rfl⟩
  have hVs : V.heap.size = D + 2 := by rw [← hV]; simp [hD]
  have hVl : V.heap[D + 1]? = some (.loop (rec .ready none)) := by
    have h := World.alloc_heap_new (w.alloc (.deferred (some []))) (.loop (rec .ready none))
    rw [World.size_alloc, hD, hV] at h; exact h
  have hVd : V.heap[D]? = some (.deferred (some [])) := by
    have h := World.alloc_heap_new w (.deferred (some []))
    rw [hD] at h
    rw [← hV]; exact (Below.heap_alloc _ _ _ (by simp [hD])).trans h
  have hVI : I [] V := hV ▸ hI.alloc _ (hI.alloc _ h0)
  have hVb : Below w.heap.size w V := hV ▸ ((Below.refl _ w).alloc (Nat.le_refl _) _).alloc (by simp) _
  rw [hD] at hI hIx hassign hbody hdone hstop hKb
  refine ⟨D + 1, [{ target := .collected D, args := #[] }], V, { target := .fn (.func gf) lb, args := #[.func (.yield (D + 1)) #[] #[]] }, V, gf, #[.func (.yield (D + 1)) #[] #[]] ++ lb, V, ?_, ?_, ?_, ?_, fun _ => h1, ?_⟩
  · rw [← hV, hrec, ← hD]; exact run_enterLoop_outer _ _ _ _ _
  · simp only [resolve, hg]
    simp [go_sem]
  · intro f' hf'; simp [Target.leads] at hf'; subst hf'; exact hFg
  · simp [invoke, go_sem, eg]
  -- the two blocks that the law itself lays stand below the iterator's
  have two : ∀ {X Y : World} {row : Option Nat} {o : Obj} {d : Nat}, X.grownBy Y row → (∀ r, row = some r → V.heap.size ≤ r ∧ Fr X r) → d ≤ D + 1 → X.heap[d]? = some o → Y.heap[d]? = some o := fun hgr hr hd ho =>
    (hgr.block _ (Array.getElem?_eq_some_iff.1 ho).1 (fun e => by have := (hr _ e.symm).1; omega)).trans ho
  have up : ∀ {X : World} {row : Option Nat}, (∀ r, row = some r → V.heap.size ≤ r ∧ Fr X r) → (∀ r, row = some r → D ≤ r ∧ Fr X r) := fun hr r e => ⟨by have := (hr r e).1; omega, (hr r e).2⟩
  have put : ∀ {β : Type} {J : β → World → Prop} {s : β} {X : World} {o : Obj} (o' : Obj), AbX D Fr J → J s X → X.heap[D + 1]? = some o → o.isCells = false → J s (X.putObj (D + 1) o') := fun o' hJ hs ho hc =>
    hJ _ _ _ (some (D + 1)) hs (grownBy_putObj' _ _ _) (fun r e => by cases e; exact ⟨by omega, hFr _ _ _ ho hc⟩)
  refine (hseq (D + 1) (fun pre W => I pre W ∧ W.heap[D + 1]? = some (.loop (rec .ready none)) ∧ W.heap[D]? = some (.deferred (some [])))
    (fun pre W => ∃ c, Ix c pre W ∧ W.heap[D + 1]? = some (.loop (rec .done (some c))) ∧ W.heap[D]? = some (.deferred (some []))) V hVb (by rw [hVs, hD])
    (fun s X Y row hs hgr hr => ⟨hI s X Y row hs.1 hgr (up hr), two hgr hr (Nat.le_refl _) hs.2.1, two hgr hr (by omega) hs.2.2⟩)
    (fun s X Y row ⟨c, h2, h3, h4⟩ hgr hr => ⟨c, hIx c s X Y row h2 hgr (up hr), two hgr hr (Nat.le_refl _) h3, two hgr hr (by omega) h4⟩) ?_ ⟨hVI, hVl, hVd⟩).mono ?_
  · rintro pre x X ⟨hi, hl, hk⟩ hdue hlen
    have hy := run_yield (P := P) (args := encs x) hl (by rw [hrec]; exact hps x)
    rw [hrec] at hy
    refine ⟨fn, _, assign, body, hy, roundIn_of_wpIn hfn (hassign _ pre x X _ hi hdue fun a' Y hky hpy hiy hay => ?_)⟩
    clear hy
    have hl1 := hky.same _ _ (by omega) hl rfl
    have hk1 := hky.same _ _ (Nat.le_refl _) hk rfl
    have hlt : D + 1 < Y.heap.size := (Array.getElem?_eq_some_iff.1 hl1).1
    refine ⟨_, run_beginRound hl1 (by rw [hrec]), ?_⟩
    obtain ⟨bz, hbz⟩ : ∃ bz : Loop, { rec .ready none with state := .busy } = bz := ⟨_, rfl⟩
    rw [hbz]
    have hl2 : (Y.putObj (D + 1) (.loop bz)).heap[D + 1]? = some (.loop bz) := World.putObj_heap_same hlt
    have hk2 : (Y.putObj (D + 1) (.loop bz)).heap[D]? = some (.deferred (some [])) := (World.putObj_heap_other (by omega)).trans hk1
    have hp2 := hKb x Y _ (.loop bz) hl1 rfl rfl
    refine wpIn_mono (hbody _ pre x a' _ (by omega) (put _ hI hiy hl1 rfl) (hA pre x a' _ _ _ _ hay hl1 rfl) hlen) ?_
    have fin : ∀ (jump : Option Code) (Z : World), KeepsFrom D (Y.putObj (D + 1) (.loop bz)) Z → ∃ nx : Loop, nx = rec (if jump.isNone then .ready else .done) jump ∧ (Instr.endRound (D + 1) jump).run P Z = .ok (.bool jump.isNone) (Z.putObj (D + 1) (.loop nx)) ∧
        Z.heap[D + 1]? = some (.loop bz) ∧ (Z.putObj (D + 1) (.loop nx)).heap[D + 1]? = some (.loop nx) ∧ (Z.putObj (D + 1) (.loop nx)).heap[D]? = some (.deferred (some [])) := fun jump Z hz => by
      have hl3 := hz.same _ _ (by omega) hl2 rfl
      have hr := run_endRound (P := P) jump hl3
      refine ⟨_, rfl, ?_, hl3, World.putObj_heap_same (Array.getElem?_eq_some_iff.1 hl3).1, (World.putObj_heap_other (by omega)).trans (hz.same _ _ (Nat.le_refl _) hk2 rfl)⟩
      rw [← hbz, hrec] at hr
      rw [hrec]; exact hr
    have out : ∀ (c : Code) (Z : World), KeepsFrom D (Y.putObj (D + 1) (.loop bz)) Z → Ix c (pre ++ [x]) Z → ∃ b Z', (Instr.endRound (D + 1) (some c)).run P Z = .ok b Z' ∧ b = .bool false ∧ (∃ c, Ix c (pre ++ [x]) Z' ∧ Z'.heap[D + 1]? = some (.loop (rec .done (some c))) ∧ Z'.heap[D]? = some (.deferred (some []))) ∧ KeepsFrom V.heap.size X Z' := fun c Z hz hi3 => by
      obtain ⟨nx, rfl, hr, hl3, hl4, hk4⟩ := fin (some c) Z hz
      exact ⟨_, _, hr, rfl, ⟨c, put _ (hIx c) hi3 hl3 rfl, hl4, hk4⟩, (keepsFrom_up hky (by omega)).trans ((keepsFrom_put _ _ (by omega)).trans ((keepsFrom_up hz (by omega)).trans (keepsFrom_put _ _ (by omega))))⟩
    rintro e a3 Z hp
    cases e with
    | normal =>
      obtain ⟨hz, hp3, hi3⟩ := hp
      obtain ⟨nx, rfl, hr, hl3, hl4, hk4⟩ := fin none Z hz
      exact ⟨_, _, hr, .inl ⟨rfl, ⟨put _ hI hi3 hl3 rfl, hl4, hk4⟩, hKt hpy (hKt (hKt hp2 hp3) (hKb _ _ _ _ hl3 rfl rfl))⟩⟩
    | ret => obtain ⟨b, Z', hr, rfl, hx, hkk⟩ := out .ret Z hp.1 hp.2; exact ⟨_, _, hr, .inr ⟨rfl, hx, hkk⟩⟩
    | exit id => obtain ⟨b, Z', hr, rfl, hx, hkk⟩ := out (.exit id) Z hp.1 hp.2; exact ⟨_, _, hr, .inr ⟨rfl, hx, hkk⟩⟩
    | goto t => obtain ⟨b, Z', hr, rfl, hx, hkk⟩ := out (.goto t) Z hp.1 hp.2; exact ⟨_, _, hr, .inr ⟨rfl, hx, hkk⟩⟩
    | panic ch => exact hp.elim
    | outgrown => exact hp.elim
  · rintro e Z ⟨⟨v, rfl⟩, (⟨xs, hS, hi, hl, hk⟩ | ⟨pre, hSp, c, hi, hl, hk⟩)⟩
    · have hr := run_endLoop (P := P) hl (by rw [hrec]; simp)
      rw [hrec] at hr
      exact ⟨none, _, hr, hdone _ xs _ (Nat.le_refl _) hS (put _ hI hi hl rfl) ((World.putObj_heap_other (by omega)).trans hk)⟩
    · have hr := run_endLoop (P := P) hl (by rw [hrec]; simp)
      rw [hrec] at hr
      exact ⟨some c, _, hr, hstop _ c pre _ (Nat.le_refl _) hSp (put _ (hIx c) hi hl rfl) ((World.putObj_heap_other (by omega)).trans hk)⟩

end
end Go.Proofs.Ytdcmkiggnmajgaa
