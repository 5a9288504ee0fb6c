/- ClassRuns: the law's call. -/
import Derived.Test.YtfnngcecfjlfeaaRu2
import Derived.Test.YtfnngcecfjlfeaaRg
import Derived.BigQuiet
import Derived.Deep.QuietTactic
namespace Go.Proofs.Ytfnngcecfjlfeaa
set_option linter.unusedVariables false
set_option linter.unusedSimpArgs false
open Go Go.RowKit Go.Shelf
set_option maxRecDepth 100000
attribute [local go_sem] Oper.semAt_some

theorem wpIn_loop_m {F : Fence} {n : Nat} {P : Program} {Q : Exit → Act → World → Prop} {a : Act} {w : World} {c : Code} (Inv : Nat → Act → World → Prop) (m : Nat) (h0 : Inv m a w)
    (hs : ∀ m a w, Inv m a w → c.wpIn F n P (Exit.then (fun a' w' => ∃ m', m' < m ∧ Inv m' a' w') Q) a w) : (Code.loop c).wpIn F n P Q a w := by
  intro b k cs hro hb hr
  have key : ∀ j a w, Inv j a w → ∃ e a' w', Q e a' w' ∧ ArrivesIn (Machine.fenced P F) P (lone (b.atR a (.code c :: .inLoop c :: k)) cs w) b k cs e a' w' := by
    intro j
    induction j using Nat.strongRecOn with
    | _ j ih =>
      intro a w hI
      obtain ⟨e, a₁, w₁, hq, harr⟩ := hs j a w hI b (.inLoop c :: k) cs hro hb hr
      cases e with
      | normal =>
        obtain ⟨m', hm, hI'⟩ := hq
        obtain ⟨e₂, a₂, w₂, hq₂, harr₂⟩ := ih m' hm a₁ w₁ hI'
        exact ⟨e₂, a₂, w₂, hq₂, .of_steps (StepsIn.trans harr (.one (fenced_calm hb hr rfl) stepR_inLoop)) harr₂⟩
      | exit id => exact ⟨_, a₁, w₁, hq, .pass (x := .inLoop c) rfl (fun _ _ => .inl (by simp)) harr⟩
      | goto l => exact ⟨_, a₁, w₁, hq, .pass (x := .inLoop c) rfl (fun _ _ => .inl (by simp)) harr⟩
      | ret => exact ⟨_, a₁, w₁, hq, .pass (x := .inLoop c) rfl (fun _ _ => .inl (by simp)) harr⟩
      | panic ch => exact ⟨_, a₁, w₁, hq, .pass (x := .inLoop c) rfl (fun _ _ => .inl (by simp)) harr⟩
      | outgrown => exact ⟨_, a₁, w₁, hq, .pass (x := .inLoop c) rfl (fun _ _ => .inl (by simp)) harr⟩
  obtain ⟨e, a', w', hq, harr⟩ := key m a w h0
  exact ⟨e, a', w', hq, .of_steps (.one (fenced_calm hb hr rfl) stepR_loop) harr⟩

/-- As at the start below B, but for one block. -/
def SmR (B ib : Nat) (w W : World) : Prop := B ≤ W.heap.size ∧ ∀ b, b < B → b ≠ ib → W.heap[b]? = w.heap[b]?

def RuA (s : ByteArray) (st : Int) (w : World) (L : List Run3) (P R base : Nat) (o : Option Addr) (cap : Nat) (kz : Int) (W : World) : Prop :=
  ((((((Boxed W w.heap.size 3 (.int .i64 st) ∧ Boxed W (w.heap.size + 1) 4 (.bool false)) ∧ Boxed W P 36 (.slice o L.length cap)) ∧ Boxed W (P + 1) 9 (.string s)) ∧ Boxed W R 3 (.int .i64 kz)) ∧ W.ownsRow base 47 3 (.slice o L.length cap) L.length (rc L)) ∧ Below w.heap.size w W) ∧ w.heap.size + 1 < P ∧ P + 1 < R
def RuM (s : ByteArray) (st : Int) (w : World) (L : List Run3) (P base : Nat) (o : Option Addr) (cap : Nat) (m : Nat) (a : Act) (W : World) : Prop :=
  ∃ (R : Nat) (Ds : List Nat) (kz : Int) (f : Nat → Value), kz + m = 2 ∧ Ds.length + m = 2 ∧ Ds.Nodup ∧ (∀ D ∈ Ds, w.heap.size + 1 < D ∧ W.heap[D]? = some (.deferred (some []))) ∧ RuA s st w L P R base o cap kz W ∧
    a = { tmps := #[(.string s), (.int .i64 st), f 2, (.pointer (some ⟨w.heap.size, 0, none⟩)), (.pointer (some ⟨w.heap.size + 1, 0, none⟩)), (.pointer (some ⟨P, 0, none⟩)), (.func (.func 58) #[] #[.pointer (some ⟨P + 1, 0, none⟩)]), (.pointer (some ⟨R, 0, none⟩)), f 8, f 9, f 10, f 11, f 12, f 13, f 14, f 15, f 16, f 17, f 18, f 19, f 20, f 21, f 22, f 23, f 24, f 25, f 26, f 27, f 28, f 29, f 30, f 31, f 32, f 33, f 34, f 35, f 36, f 37, f 38, f 39, f 40, f 41, f 42, f 43, f 44, f 45, f 46, f 47, f 48, f 49, f 50, f 51, f 52, f 53, f 54, f 55, f 56, f 57, f 58, f 59, f 60, f 61, f 62, f 63, f 64, f 65, f 66, f 67, f 68, f 69, f 70, f 71, f 72, f 73, f 74, f 75, f 76, f 77, f 78, f 79, f 80, f 81, f 82, f 83, f 84, f 85, f 86], defers := Ds.map fun D => { target := .collected D, args := #[] } }

theorem RuM.mk {s : ByteArray} {st : Int} {w : World} {L : List Run3} {P base : Nat} {o : Option Addr} {cap m : Nat} {a : Act} {W : World} (R : Nat) (Ds : List Nat) (kz : Int) (h1 : kz + m = 2) (h2 : Ds.length + m = 2) (h3 : Ds.Nodup) (h4 : ∀ D ∈ Ds, w.heap.size + 1 < D ∧ W.heap[D]? = some (.deferred (some []))) (h5 : RuA s st w L P R base o cap kz W)
    (h6 : a = { tmps := #[(.string s), (.int .i64 st), (a.tmps.getD 2 undef), (.pointer (some ⟨w.heap.size, 0, none⟩)), (.pointer (some ⟨w.heap.size + 1, 0, none⟩)), (.pointer (some ⟨P, 0, none⟩)), (.func (.func 58) #[] #[.pointer (some ⟨P + 1, 0, none⟩)]), (.pointer (some ⟨R, 0, none⟩)), (a.tmps.getD 8 undef), (a.tmps.getD 9 undef), (a.tmps.getD 10 undef), (a.tmps.getD 11 undef), (a.tmps.getD 12 undef), (a.tmps.getD 13 undef), (a.tmps.getD 14 undef), (a.tmps.getD 15 undef), (a.tmps.getD 16 undef), (a.tmps.getD 17 undef), (a.tmps.getD 18 undef), (a.tmps.getD 19 undef), (a.tmps.getD 20 undef), (a.tmps.getD 21 undef), (a.tmps.getD 22 undef), (a.tmps.getD 23 undef), (a.tmps.getD 24 undef), (a.tmps.getD 25 undef), (a.tmps.getD 26 undef), (a.tmps.getD 27 undef), (a.tmps.getD 28 undef), (a.tmps.getD 29 undef), (a.tmps.getD 30 undef), (a.tmps.getD 31 undef), (a.tmps.getD 32 undef), (a.tmps.getD 33 undef), (a.tmps.getD 34 undef), (a.tmps.getD 35 undef), (a.tmps.getD 36 undef), (a.tmps.getD 37 undef), (a.tmps.getD 38 undef), (a.tmps.getD 39 undef), (a.tmps.getD 40 undef), (a.tmps.getD 41 undef), (a.tmps.getD 42 undef), (a.tmps.getD 43 undef), (a.tmps.getD 44 undef), (a.tmps.getD 45 undef), (a.tmps.getD 46 undef), (a.tmps.getD 47 undef), (a.tmps.getD 48 undef), (a.tmps.getD 49 undef), (a.tmps.getD 50 undef), (a.tmps.getD 51 undef), (a.tmps.getD 52 undef), (a.tmps.getD 53 undef), (a.tmps.getD 54 undef), (a.tmps.getD 55 undef), (a.tmps.getD 56 undef), (a.tmps.getD 57 undef), (a.tmps.getD 58 undef), (a.tmps.getD 59 undef), (a.tmps.getD 60 undef), (a.tmps.getD 61 undef), (a.tmps.getD 62 undef), (a.tmps.getD 63 undef), (a.tmps.getD 64 undef), (a.tmps.getD 65 undef), (a.tmps.getD 66 undef), (a.tmps.getD 67 undef), (a.tmps.getD 68 undef), (a.tmps.getD 69 undef), (a.tmps.getD 70 undef), (a.tmps.getD 71 undef), (a.tmps.getD 72 undef), (a.tmps.getD 73 undef), (a.tmps.getD 74 undef), (a.tmps.getD 75 undef), (a.tmps.getD 76 undef), (a.tmps.getD 77 undef), (a.tmps.getD 78 undef), (a.tmps.getD 79 undef), (a.tmps.getD 80 undef), (a.tmps.getD 81 undef), (a.tmps.getD 82 undef), (a.tmps.getD 83 undef), (a.tmps.getD 84 undef), (a.tmps.getD 85 undef), (a.tmps.getD 86 undef)], defers := Ds.map fun D => { target := .collected D, args := #[] } }) : RuM s st w L P base o cap m a W := ⟨R, Ds, kz, fun i => a.tmps.getD i undef, h1, h2, h3, h4, h5, h6⟩

/-- Reads alone, in a round. -/
theorem round_quiet {l' nn : Nat} {P : Program} {id : Nat} {Q : Exit → Act → World → Prop} {a : Act} {w : World} {l : List Oper} (hm : P.follows .mixedOrders = true) (hB : Region.lexB .any l.toArray = true) (hnd : noDefer l = true) (hQ : ¬ LetsOut Q)
    (h : wpQuiet P l.toArray (fun w' => ∃ n, w' = w.drewN n) (fun a' => ∀ w', (∃ n, w' = w.drewN n) → Q .normal a' w') l a) : (Code.region id l.toArray true).wpIn (Fence.wide.inRound l') nn P Q a w := by
  simp only [Region.lexB, Bool.and_eq_true] at hB
  refine wpIn_region_any hm (wpAny_round hnd hQ _ _ _ _ (wpAny_of_quiet (C := fun w' => ∃ n, w' = w.drewN n) (Q := fun a' => ∀ w', (∃ n, w' = w.drewN n) → Q .normal a' w') (fun _ w' hw' h => h w' hw') _ _ _ _ ⟨1, rfl⟩ ?_))
  have := wpAnyQ_lex (C := fun w' => ∃ n, w' = w.drewN n) (md := .any) hB.1 l 0 (Array.replicate l.toArray.size false) a (by simp) (by simpa using hB.2) h
  simpa using this
theorem boxed_not_row {W : World} {B : Nat} {T e : TypeId} {u v : Value} {base sz n : Nat} {xs : List Value} (h : Boxed W B T u) (hte : T ≠ e) (hr : W.ownsRow base e sz v n xs) : v.ownBlock ≠ some B := by
  rcases hr.2 with ⟨rfl, _⟩ | ⟨g, cap, cur, rfl, _, hgb, _⟩
  · simp [Value.ownBlock]
  · intro e'
    obtain rfl : g = B := by simpa [Value.ownBlock] using e'
    have := (show W.heap[g]? = _ from h).symm.trans hgb
    simp at this
    exact hte this.2
/-- A row stands where its block does. -/
theorem own_same {V W : World} {base size n : Nat} {e : TypeId} {v : Value} {xs : List Value} (h : V.ownsRow base e size v n xs) (hs : ∀ g, v.ownBlock = some g → W.heap[g]? = V.heap[g]?) : W.ownsRow base e size v n xs := by
  refine ⟨h.1, h.2.imp id ?_⟩
  rintro ⟨g, cap, cur, rfl, hb, hg, rest⟩
  exact ⟨g, cap, cur, rfl, hb, (hs g rfl).trans hg, rest⟩
theorem pre_next {L pre : List Run3} {x : Run3} (h : pre ++ [x] <+: L) : pre.length < L.length ∧ L[pre.length]? = some x := by
  obtain ⟨r, rfl⟩ := h
  refine ⟨by simp, by simp⟩
theorem pre_snoc {L pre : List Run3} {x : Run3} (h : pre <+: L) (hx : L[pre.length]? = some x) : pre ++ [x] <+: L := by
  obtain ⟨r, rfl⟩ := h
  rw [List.getElem?_append_right (Nat.le_refl _), Nat.sub_self] at hx
  cases r with
  | nil => cases hx
  | cons y r => simp at hx; subst hx; exact ⟨r, by simp⟩
def RuJ (L : List Run3) (ib : Nat) (V : World) (pre : List Run3) (X : World) : Prop := (SmR (ib + 1) ib V X ∧ Below ib V X) ∧ Boxed X ib 3 (.int .i64 (pre.length : Nat)) ∧ pre <+: L
def RuJx (L : List Run3) (ib : Nat) (V : World) (st kz : Int) (c : Code) (pre : List Run3) (X : World) : Prop := ¬ (pre <+: L) ∨ (c = .exit 2 ∧ (SmR (ib + 1) ib V X ∧ Below ib V X) ∧ Boxed X ib 3 (.int .i64 (pre.length : Nat)) ∧ kz = 0 ∧ (pre.length : Int) = st)
theorem smR_grown {ib B : Nat} {V X Y : World} {row : Option Nat} (h : SmR (ib + 1) ib V X) (hg : X.grownBy Y row) (hB : ib + 1 ≤ B) (hr : ∀ r, row = some r → B ≤ r) : SmR (ib + 1) ib V Y :=
  ⟨Nat.le_trans h.1 hg.size, fun b hb hn => (hg.block b (Nat.lt_of_lt_of_le hb h.1) (fun e => by have := hr b e.symm; omega)).trans (h.2 b hb hn)⟩
theorem boxed_grown {ib B : Nat} {X Y : World} {row : Option Nat} {T : TypeId} {v : Value} (h : Boxed X ib T v) (hg : X.grownBy Y row) (hB : ib + 1 ≤ B) (hr : ∀ r, row = some r → B ≤ r) : Boxed Y ib T v :=
  Blk.kept (show Blk X ib _ _ from h) hg (fun e => by have := hr ib e.symm; omega)
theorem ruJ_ab {L : List Run3} {ib B : Nat} {V : World} (hB : ib + 1 ≤ B) : AbX B FrT (RuJ L ib V) := fun s X Y row h hg hr =>
  ⟨⟨smR_grown h.1.1 hg hB (fun r e => (hr r e).1), h.1.2.grown hg (by have := h.1.1.1; omega) (fun r e => by have := (hr r e).1; omega)⟩, boxed_grown h.2.1 hg hB (fun r e => (hr r e).1), h.2.2⟩
theorem ruJx_ab {L : List Run3} {ib B : Nat} {V : World} {st kz : Int} (hB : ib + 1 ≤ B) (c : Code) : AbX B FrT (RuJx L ib V st kz c) := fun s X Y row h hg hr =>
  h.imp id fun h => ⟨h.1, ⟨smR_grown h.2.1.1 hg hB (fun r e => (hr r e).1), h.2.1.2.grown hg (by have := h.2.1.1.1; omega) (fun r e => by have := (hr r e).1; omega)⟩, boxed_grown h.2.2.1 hg hB (fun r e => (hr r e).1), h.2.2.2⟩

set_option maxHeartbeats 8000000 in
theorem runs_law (s : ByteArray) (st : Int) (hs : s.size ≤ 2147483647) (w : World) :
    CallsIn Fence.wide 12 Try.prog 10 #[.string s, .int .i64 st] w fun e w' => e = .returned (.bool true) ∧ Below w.heap.size w w' := by
  have cB := beyond_any s.size (by omega)
  have cL := runsL_len s
  refine callsIn_of_wp_marks Try.func10 rfl trivial ?_ rfl
  simp only [Try.ntmps10, List.size_toArray, List.length_cons, List.length_nil, Nat.reduceAdd, Nat.reduceSub, Array.replicate_succ, Array.replicate_zero, List.push_toArray, List.append_toArray, List.nil_append, List.cons_append]
  have hF : ∀ f, Fence.wide.fn f := fun _ => trivial
  have hnil : ∀ (b : Nat) (W : World), (binOp .eql 39 (.func (.func 58) #[] #[.pointer (some ⟨b, 0, none⟩)]) .nilFunc).run Try.prog W = .ok (.bool false) W := fun _ _ => by kernel_rfl
  gi_wp2_with (first | (gi_at_call 12; refine (callsIn_wide.2 (live_any _)).mono ?_; rintro e w' ⟨rfl, rfl⟩) | (gi_at_call 19; refine (callsIn_wide.2 (cB _)).mono ?_; rintro e w' ⟨rfl, rfl⟩) | (gi_at_call 31; refine (callsIn_wide.2 (runs_any _ _)).mono ?_; rintro e w' ⟨rfl, rfl⟩) | (gi_at_call 30; refine (callsIn_wide.2 (runsD_any s hs _)).mono ?_; rintro e w1 ⟨wv, base, rfl, hb0, hr, hb1⟩; obtain ⟨o, cap, rfl, ho⟩ := own_slice hr))
  have b0 := (Boxed.new w 3 (.int .i64 st)).alloc (.cells #[.bool false] 4)
  have b1 := Boxed.new (w.alloc (.cells #[.int .i64 st] 3)) 4 (.bool false)
  have z0 : ((w.alloc (.cells #[.int .i64 st] 3)).alloc (.cells #[.bool false] 4)).heap.size = w.heap.size + 2 := by simp
  have hB0 := ((Below.refl _ w).alloc (Nat.le_refl _) (.cells #[.int .i64 st] 3)).alloc (by simp) (.cells #[.bool false] 4)
  have c0 : Boxed w1 w.heap.size 3 (.int .i64 st) := Blk.below' (show Blk _ _ _ _ from b0) hb1
  have c1 : Boxed w1 (w.heap.size + 1) 4 (.bool false) := Blk.below' (show Blk ((w.alloc (.cells #[.int .i64 st] 3)).alloc (.cells #[.bool false] 4)) (w.heap.size + 1) #[.bool false] 4 from (show Boxed ((w.alloc (.cells #[.int .i64 st] 3)).alloc (.cells #[.bool false] 4)) (w.heap.size + 1) 4 (.bool false) from by simpa using b1)) hb1
  have hB1 := hB0.trans (hb1.mono hB0.size)
  have hP := hb1.size
  rw [z0] at hP
  obtain ⟨P, hPe⟩ : ∃ P, w1.heap.size = P := ⟨_, rfl⟩
  rw [hPe] at hP
  have e0 : Boxed _ _ _ _ := ((c0.alloc (.cells #[.slice o (runsL s).length cap] 36)).alloc (.cells #[.string s] 9)).alloc (.cells #[.int .i64 0] 3)
  have e1 : Boxed _ _ _ _ := ((c1.alloc (.cells #[.slice o (runsL s).length cap] 36)).alloc (.cells #[.string s] 9)).alloc (.cells #[.int .i64 0] 3)
  have e2 : Boxed _ _ _ _ := ((Boxed.new w1 36 (.slice o (runsL s).length cap)).alloc (.cells #[.string s] 9)).alloc (.cells #[.int .i64 0] 3)
  have e3 : Boxed _ _ _ _ := (Boxed.new (w1.alloc (.cells #[.slice o (runsL s).length cap] 36)) 9 (.string s)).alloc (.cells #[.int .i64 0] 3)
  have e4 : Boxed _ _ _ _ := Boxed.new ((w1.alloc (.cells #[.slice o (runsL s).length cap] 36)).alloc (.cells #[.string s] 9)) 3 (.int .i64 0)
  have e5 := ((hr.alloc (.cells #[.slice o (runsL s).length cap] 36)).alloc (.cells #[.string s] 9)).alloc (.cells #[.int .i64 0] 3)
  have e6 := ((hB1.alloc hB1.size (.cells #[.slice o (runsL s).length cap] 36)).alloc (by simp; omega) (.cells #[.string s] 9)).alloc (by simp; omega) (.cells #[.int .i64 0] 3)
  have e7 : (((w1.alloc (.cells #[.slice o (runsL s).length cap] 36)).alloc (.cells #[.string s] 9)).alloc (.cells #[.int .i64 0] 3)).heap.size = P + 3 := by simp [hPe]
  simp only [World.size_alloc, hPe] at e2 e3 e4 ⊢
  obtain ⟨W0, hW0⟩ : ∃ W0, (((w1.alloc (.cells #[.slice o (runsL s).length cap] 36)).alloc (.cells #[.string s] 9)).alloc (.cells #[.int .i64 0] 3)) = W0 := ⟨_, rfl⟩
  rw [hW0] at e0 e1 e2 e3 e4 e5 e6 e7 ⊢
  obtain ⟨L, hL⟩ : ∃ L, runsL s = L := ⟨_, rfl⟩
  rw [hL] at e2 e5 cL ⊢
  have HL := Lib.hid hL
  clear hW0 hr hb1 b0 b1 z0 c0 c1 hB0 hB1 hPe hL cB ho
  refine wpIn_loop_m (RuM s st w L P base o cap) 2 (RuM.mk (P + 2) [] 0 (by simp) rfl List.nodup_nil (fun _ h => by cases h) ⟨⟨⟨⟨⟨⟨⟨e0, e1⟩, e2⟩, e3⟩, e4⟩, e5⟩, e6⟩, by omega, by omega⟩ rfl) ?_
  clear e0 e1 e2 e3 e4 e5 e6 e7
  rintro m a W ⟨R, Ds, kz, f, hkz, hDs, hnd, hD, ⟨⟨⟨⟨⟨⟨⟨f0, f1⟩, f2⟩, f3⟩, f4⟩, f5⟩, f6⟩, f7, f8⟩, rfl⟩
  have fl := Blk.lt (show Blk _ _ _ _ from f4)
  by_cases hk2 : kz < 2
  · have i1 : kz < 2 := hk2
    have hkc : kz = 0 ∨ kz = 1 := by
      have : Ds.length = (kz).toNat := by omega
      omega
    have c4 := f4.cell
    have HD := Lib.hid (And.intro hkz (And.intro hDs (And.intro hnd hD)))
    have HC := Lib.hid hkc
    clear hkz hDs hnd hD hkc
    gi_wp2
    obtain ⟨hkz, hDs, hnd, hD⟩ := HD.out
    have hkc := HC.out
    have g0 : Boxed _ _ _ _ := f0.alloc (.cells #[.int .i64 0] 3)
    have g1 : Boxed _ _ _ _ := f1.alloc (.cells #[.int .i64 0] 3)
    have g2 : Boxed _ _ _ _ := f2.alloc (.cells #[.int .i64 0] 3)
    have g3 : Boxed _ _ _ _ := f3.alloc (.cells #[.int .i64 0] 3)
    have g4 : Boxed _ _ _ _ := f4.alloc (.cells #[.int .i64 0] 3)
    have g5 := f5.alloc (.cells #[.int .i64 0] 3)
    have g6 := f6.alloc f6.size (.cells #[.int .i64 0] 3)
    have g7 : Boxed _ _ _ _ := Boxed.new W 3 (.int .i64 0)
    have gD : ∀ D ∈ Ds, w.heap.size + 1 < D ∧ D < W.heap.size ∧ (W.alloc (.cells #[.int .i64 0] 3)).heap[D]? = some (.deferred (some [])) := fun D h => by
      have h1 := (Array.getElem?_eq_some_iff.1 (hD D h).2).1
      exact ⟨(hD D h).1, h1, (Below.heap_alloc W _ _ h1).trans (hD D h).2⟩
    have gz : (W.alloc (.cells #[.int .i64 0] 3)).heap.size = W.heap.size + 1 := by simp
    obtain ⟨ib, hib⟩ : ∃ ib, W.heap.size = ib := ⟨_, rfl⟩
    rw [hib] at g7 gD gz fl ⊢
    obtain ⟨V, hV⟩ : ∃ V, W.alloc (.cells #[.int .i64 0] 3) = V := ⟨_, rfl⟩
    rw [hV] at g0 g1 g2 g3 g4 g5 g6 g7 gD gz ⊢
    clear hV hib f0 f1 f2 f3 f4 f5 f6 hD c4
    have HG := Lib.hid (And.intro g5 g6)
    clear g5 g6
    refine range_runs 9 s hs (P + 1) g3 rfl (RuJ L ib V) (RuJx L ib V st kz) (ruJ_ab (by omega)) (ruJx_ab (by omega)) ⟨⟨⟨by omega, fun _ _ _ => rfl⟩, Below.refl _ _⟩, g7, List.nil_prefix⟩ ?assign ?body ?done ?stop
    case assign =>
      intro l x W K hK
      simp only [rvV] at hK ⊢
      gi_wp2
      exact hK
    case body =>
      rintro l pre x Bx W ⟨⟨⟨s1, s2⟩, s3⟩, h5, hp⟩ hle hbx hlen
      rw [gz] at hle
      have sub : ∀ {b : Nat} {T : TypeId} {v : Value}, Boxed V b T v → b ≠ ib → Boxed W b T v := fun {b T v} h hn => (s2 b (by have := Blk.lt (show Blk _ _ _ _ from h); omega) hn).trans h
      have k0 := sub g0 (by omega)
      have k1 := sub g1 (by omega)
      have k2 := sub g2 (by omega)
      have k4 := sub g4 (by omega)
      have hrow : W.ownsRow base 47 3 (.slice o L.length cap) L.length (rc L) := own_same HG.out.1 (fun g e => s2 g (by have := (HG.out.1.lt g e).2; omega) (fun e2 => boxed_not_row g7 (by decide) HG.out.1 (by rw [e, e2])))
      have bx : Blk W Bx #[.int .i64 (x.1 : Nat), .int .i64 (x.2.1 : Nat), .int .i64 (x.2.2 : Nat)] 45 := hbx
      have x0 := bx.cell 0
      have x1 := bx.cell 1
      have x2 := bx.cell 2
      simp only [List.getElem?_toArray, List.getElem?_cons_succ, List.getElem?_cons_zero] at x0 x1 x2
      have c0 := k0.cell
      have c1 := k1.cell
      have q1 := k1.frozen
      have c2 := k2.cell
      have c4 := k4.cell
      have c5 := h5.cell
      have q5 := h5.frozen
      have hib : ib < W.heap.size := by omega
      obtain ⟨n, hn⟩ : ∃ n, pre.length = n := ⟨_, rfl⟩
      rw [hn] at c5 hlen h5
      -- what the store of the counter leaves
      have nI : ∀ nq, (SmR (ib + 1) ib V ((W.drewN nq).setCell ⟨ib, 0, none⟩ (.int .i64 ((n : Int) + 1))) ∧ Below ib V ((W.drewN nq).setCell ⟨ib, 0, none⟩ (.int .i64 ((n : Int) + 1)))) ∧ Boxed ((W.drewN nq).setCell ⟨ib, 0, none⟩ (.int .i64 ((n : Int) + 1))) ib 3 (.int .i64 ((pre ++ [x]).length : Nat)) ∧ KeepsOthers W ((W.drewN nq).setCell ⟨ib, 0, none⟩ (.int .i64 ((n : Int) + 1))) ∧ KpR (ib + 3) W ((W.drewN nq).setCell ⟨ib, 0, none⟩ (.int .i64 ((n : Int) + 1))) := fun nq => by
        have hd : Boxed (W.drewN nq) ib 3 (.int .i64 (n : Nat)) := h5
        refine ⟨⟨⟨by simpa using s1, fun b hb hn => (Below.heap_setCell _ _ _ _ (by dsimp only; omega)).trans (s2 b hb hn)⟩, (show Below ib V (W.drewN nq) from ⟨s3.os, s3.tape, s3.output, s3.size, s3.block⟩).setCell (p := ⟨ib, 0, none⟩) (Nat.le_refl _) _⟩, ?_, ?_, ?_⟩
        · rw [List.length_append, hn]; have := hd.set (.int .i64 ((n : Int) + 1)); simpa using this
        · exact (⟨Nat.le_refl _, fun _ _ h _ => h⟩ : KeepsOthers W (W.drewN nq)).trans (KeepsOthers.setCell _ _ _)
        · refine ⟨((⟨Nat.le_refl _, fun _ _ h _ => h⟩ : KeepsOthers W (W.drewN nq)).trans (KeepsOthers.setCell _ _ _)).walks, fun k hk _ => (Below.heap_setCell _ _ _ _ (by dsimp only; omega)).trans rfl⟩
      have HN := Lib.hid nI
      have nR : ∀ nq, KeepsOthers W ((W.drewN nq).setCell ⟨w.heap.size + 1, 0, none⟩ (.bool false)) := fun nq => (⟨Nat.le_refl _, fun _ _ h _ => h⟩ : KeepsOthers W (W.drewN nq)).trans (KeepsOthers.setCell _ _ _)
      have HR := Lib.hid nR
      have hrg : ∀ k y, L[k]? = some y → ∃ g, o = some ⟨g, 0, none⟩ ∧ W.cell? ⟨g, k * 3, none⟩ = some (.int .i64 (y.1 : Nat)) ∧ W.cell? ⟨g, k * 3 + 1, none⟩ = some (.int .i64 (y.2.1 : Nat)) ∧ W.cell? ⟨g, k * 3 + 2, none⟩ = some (.int .i64 (y.2.2 : Nat)) := fun k y hy => by
        have hk : k < L.length := (List.getElem?_eq_some_iff.1 hy).1
        obtain ⟨o', cap', e, ho'⟩ := own_slice hrow
        obtain ⟨g, hg⟩ := ho' (by omega)
        cases e
        obtain ⟨r0, r1, r2⟩ := rc_get hy
        subst hg
        exact ⟨g, rfl, (hrow.cellAt _ (by omega)).trans r0, (hrow.cellAt _ (by omega)).trans r1, (hrow.cellAt _ (by omega)).trans r2⟩
      have HRG := Lib.hid hrg
      have HP := Lib.hid hp
      have HNn := Lib.hid hn
      clear hrg hrow nI nR sub bx hbx h5 s1 s2 s3 k0 k1 k2 k4 hp hn g0 g1 g2 g3 g4 g7
      simp only [rvV, List.setIfInBounds_toArray, List.set_cons_zero, List.set_cons_succ]
      by_cases hlt : n < L.length
      · obtain ⟨y, hy⟩ : ∃ y, L[n]? = some y := ⟨_, List.getElem?_eq_getElem hlt⟩
        obtain ⟨g, rfl, y0, y1, y2⟩ := HRG.out n y hy
        have hnx : x ≠ y → ¬ (pre ++ [x] <+: L) := fun hxy h => by
          have := (pre_next h).2
          rw [HNn.out, hy] at this
          exact hxy (Option.some.inj this).symm
        have hxx : x = y → pre ++ [x] <+: L := fun e => pre_snoc HP.out (by rw [HNn.out, hy, e])
        have HX := Lib.hid (And.intro hnx hxx)
        have i3 : decide (L.length ≤ n) = false := decide_eq_false (by omega)
        have i4 : (0 : Int) ≤ (n : Int) := by omega
        have i5 : (n : Int) < (L.length : Int) := by omega
        have j1 : IntKind.i64.wrap ((n : Int) + 1) = (n : Int) + 1 := IntWalk.i64_in _ (by omega)
        clear hnx hxx hy
        by_cases d1 : x.1 = y.1
        · have e1 : ((x.1 : Int) != (y.1 : Int)) = false := by rw [bne_eq_false_iff_eq]; omega
          by_cases d2 : x.2.1 = y.2.1
          · have e2 : ((x.2.1 : Int) != (y.2.1 : Int)) = false := by rw [bne_eq_false_iff_eq]; omega
            by_cases d3 : x.2.2 = y.2.2
            · have e3 : ((x.2.2 : Int) != (y.2.2 : Int)) = false := by rw [bne_eq_false_iff_eq]; omega
              have hxy : x = y := Prod.ext d1 (Prod.ext d2 d3)
              have hpp := HX.out.2 hxy
              have HPP := Lib.hid hpp
              have H3 := Lib.hid (And.intro d1 (And.intro d2 d3))
              clear hpp hxy d1 d2 d3
              gi_wp2
              refine round_quiet (by kernel_rfl) (by kernel_rfl) (by kernel_rfl) (noOut_then (fun _ _ h => h)) ?_
              repeat (go_big_quiet_step (fail))
              refine wpQuiet_nil ?_
              intro _ hw'
              obtain ⟨nq, hw''⟩ := hw'
              subst hw''
              have n1 : ib ≠ w.heap.size := by omega
              have n2 : ib ≠ R := by omega
              have n3 : w.heap.size ≠ ib := by omega
              have n4 : R ≠ ib := by omega
              rcases HC.out with h0 | h0
              · by_cases hst : (n : Int) + 1 = st
                · have e9 : ((n : Int) + 1 == st) = true := by rw [beq_iff_eq]; exact hst
                  have HST := Lib.hid (And.intro h0 hst)
                  have e8 : (kz == 0) = true := by rw [beq_iff_eq]; exact h0
                  clear hst h0
                  gi_wp2
                  exact ⟨(HN.out nq).2.2.1.from _, Or.inr ⟨rfl, (HN.out nq).1, (HN.out nq).2.1, HST.out.1, by rw [List.length_append, HNn.out]; simpa using HST.out.2⟩⟩
                · have e9 : ((n : Int) + 1 == st) = false := by rw [beq_eq_false_iff_ne]; exact hst
                  have e8 : (kz == 0) = true := by rw [beq_iff_eq]; exact h0
                  clear hst h0
                  gi_wp2
                  exact ⟨(HN.out nq).2.2.1.from _, by rw [gz]; exact (HN.out nq).2.2.2, ⟨(HN.out nq).1, (HN.out nq).2.1, HPP.out⟩⟩
              · have e8 : (kz == 0) = false := by rw [beq_eq_false_iff_ne]; omega
                clear h0
                gi_wp2
                exact ⟨(HN.out nq).2.2.1.from _, by rw [gz]; exact (HN.out nq).2.2.2, ⟨(HN.out nq).1, (HN.out nq).2.1, HPP.out⟩⟩
            · have e3 : ((x.2.2 : Int) != (y.2.2 : Int)) = true := by rw [bne_iff_ne]; omega
              have HNX := Lib.hid (HX.out.1 (fun e => d3 (by rw [e])))
              gi_wp2
              refine round_quiet (by kernel_rfl) (by kernel_rfl) (by kernel_rfl) (noOut_then (fun _ _ h => h)) ?_
              repeat (go_big_quiet_step (fail))
              refine wpQuiet_nil ?_
              intro _ hw'
              obtain ⟨nq, hw''⟩ := hw'
              subst hw''
              gi_wp2
              exact ⟨(HR.out nq).from _, Or.inl HNX.out⟩
          · have e2 : ((x.2.1 : Int) != (y.2.1 : Int)) = true := by rw [bne_iff_ne]; omega
            have HNX := Lib.hid (HX.out.1 (fun e => d2 (by rw [e])))
            gi_wp2
            refine round_quiet (by kernel_rfl) (by kernel_rfl) (by kernel_rfl) (noOut_then (fun _ _ h => h)) ?_
            repeat (go_big_quiet_step (fail))
            refine wpQuiet_nil ?_
            intro _ hw'
            obtain ⟨nq, hw''⟩ := hw'
            subst hw''
            gi_wp2
            exact ⟨(HR.out nq).from _, Or.inl HNX.out⟩
        · have e1 : ((x.1 : Int) != (y.1 : Int)) = true := by rw [bne_iff_ne]; omega
          have HNX := Lib.hid (HX.out.1 (fun e => d1 (by rw [e])))
          gi_wp2
          refine round_quiet (by kernel_rfl) (by kernel_rfl) (by kernel_rfl) (noOut_then (fun _ _ h => h)) ?_
          repeat (go_big_quiet_step (fail))
          refine wpQuiet_nil ?_
          intro _ hw'
          obtain ⟨nq, hw''⟩ := hw'
          subst hw''
          gi_wp2
          exact ⟨(HR.out nq).from _, Or.inl HNX.out⟩
      · have i3 : decide (L.length ≤ n) = true := decide_eq_true (by omega)
        have HNX := Lib.hid ((fun h => hlt (by have := (pre_next h).1; rw [HNn.out] at this; exact this) : ¬ (pre ++ [x] <+: L)))
        gi_wp2
        refine round_quiet (by kernel_rfl) (by kernel_rfl) (by kernel_rfl) (noOut_then (fun _ _ h => h)) ?_
        repeat (go_big_quiet_step (fail))
        refine wpQuiet_nil ?_
        intro _ hw'
        obtain ⟨nq, hw''⟩ := hw'
        subst hw''
        gi_wp2
        exact ⟨(HR.out nq).from _, Or.inl HNX.out⟩
    case done =>
      rintro D X hDl ⟨⟨⟨s1, s2⟩, s3⟩, h5, hp⟩ hK
      rw [HL.out] at h5
      rw [gz] at hDl
      have Hkz := Lib.hid hkz
      have HDs := Lib.hid hDs
      have Hnd := Lib.hid hnd
      have HDD := Lib.hid gD
      have sub : ∀ {b : Nat} {T : TypeId} {v : Value}, Boxed V b T v → b ≠ ib → Boxed X b T v := fun {b T v} h hn => (s2 b (by have := Blk.lt (show Blk _ _ _ _ from h); omega) hn).trans h
      have k0 := sub g0 (by omega)
      have k1 := sub g1 (by omega)
      have k2 := sub g2 (by omega)
      have k3 := sub g3 (by omega)
      have k4 := sub g4 (by omega)
      have hrow : X.ownsRow base 47 3 (.slice o L.length cap) L.length (rc L) := own_same HG.out.1 (fun g e => s2 g (by have := (HG.out.1.lt g e).2; omega) (fun e2 => boxed_not_row g7 (by decide) HG.out.1 (by rw [e, e2])))
      have hDX : D < X.heap.size := (Array.getElem?_eq_some_iff.1 hK).1
      have c0 := k0.cell
      have c2 := k2.cell
      have c4 := k4.cell
      have c5 := h5.cell
      have hBX := HG.out.2.trans (s3.mono (by omega))
      have j1 : IntKind.i64.wrap (kz + 1) = kz + 1 := IntWalk.i64_in _ (by omega)
      -- what is behind the round
      have nx : ∀ Y, Y = X.alloc (.cells #[.int .i64 (kz + 1)] 3) → RuA s st w L P X.heap.size base o cap (kz + 1) Y ∧ (∀ E ∈ D :: Ds, w.heap.size + 1 < E ∧ Y.heap[E]? = some (.deferred (some []))) ∧ (D :: Ds).Nodup := by
        rintro Y rfl
        have nb : ∀ {b : Nat} {T : TypeId} {v : Value}, Boxed X b T v → Boxed (X.alloc (.cells #[.int .i64 (kz + 1)] 3)) b T v := fun {b T v} h => h.alloc _
        have nD : ∀ E, E < X.heap.size → (X.alloc (.cells #[.int .i64 (kz + 1)] 3)).heap[E]? = X.heap[E]? := fun E hE => Below.heap_alloc _ _ _ hE
        refine ⟨⟨⟨⟨⟨⟨⟨⟨nb k0, nb k1⟩, nb k2⟩, nb k3⟩, Boxed.new X 3 (.int .i64 (kz + 1))⟩, own_same hrow (fun g e => nD g (hrow.lt g e).2)⟩, hBX.alloc hBX.size _⟩, by omega, by omega⟩, ?_, ?_⟩
        · intro E hE
          rcases List.mem_cons.1 hE with rfl | hE
          · exact ⟨by omega, (nD _ hDX).trans hK⟩
          · obtain ⟨q1, q2, q3⟩ := HDD.out E hE
            exact ⟨q1, (nD E (by omega)).trans ((s2 E (by omega) (by omega)).trans q3)⟩
        · exact List.nodup_cons.2 ⟨fun h => by have := (HDD.out D h).2.1; omega, Hnd.out⟩
      have HX := Lib.hid nx
      have hXl := hBX.size
      have e1 : ((L.length : Int) != (L.length : Int)) = false := by simp
      clear nx hrow sub k0 k1 k2 k3 k4 h5 s1 s2 s3 hp hkz hDs hnd gD g0 g1 g2 g3 g4 g7 hK hBX hDX
      gi_wp2
      obtain ⟨y1, y2, y3⟩ := HX.out _ rfl
      exact ⟨m - 1, by have := Hkz.out; omega, RuM.mk X.heap.size (D :: Ds) (kz + 1) (by have := Hkz.out; omega) (by have := HDs.out; have := Hkz.out; simp; omega) y3 y2 y1 rfl⟩
    case stop =>
      rintro D c pre X hDl hpre hJ hK
      rw [HL.out] at hpre
      rcases hJ with hJ | ⟨rfl, ⟨⟨s1, s2⟩, s3⟩, h5, hk0, hst⟩
      exact absurd hpre hJ
      have hp := hpre
      obtain ⟨n, hn⟩ : ∃ n, pre.length = n := ⟨_, rfl⟩
      rw [hn] at h5 hst
      rw [gz] at hDl
      have Hkz := Lib.hid hkz
      have HDs := Lib.hid hDs
      have Hnd := Lib.hid hnd
      have HDD := Lib.hid gD
      have sub : ∀ {b : Nat} {T : TypeId} {v : Value}, Boxed V b T v → b ≠ ib → Boxed X b T v := fun {b T v} h hn => (s2 b (by have := Blk.lt (show Blk _ _ _ _ from h); omega) hn).trans h
      have k0 := sub g0 (by omega)
      have k1 := sub g1 (by omega)
      have k2 := sub g2 (by omega)
      have k3 := sub g3 (by omega)
      have k4 := sub g4 (by omega)
      have hrow : X.ownsRow base 47 3 (.slice o L.length cap) L.length (rc L) := own_same HG.out.1 (fun g e => s2 g (by have := (HG.out.1.lt g e).2; omega) (fun e2 => boxed_not_row g7 (by decide) HG.out.1 (by rw [e, e2])))
      have hDX : D < X.heap.size := (Array.getElem?_eq_some_iff.1 hK).1
      have c0 := k0.cell
      have c2 := k2.cell
      have c4 := k4.cell
      have c5 := h5.cell
      have hBX := HG.out.2.trans (s3.mono (by omega))
      have j1 : IntKind.i64.wrap (kz + 1) = kz + 1 := IntWalk.i64_in _ (by omega)
      -- what is behind the round
      have nx : ∀ Y, Y = X.alloc (.cells #[.int .i64 (kz + 1)] 3) → RuA s st w L P X.heap.size base o cap (kz + 1) Y ∧ (∀ E ∈ D :: Ds, w.heap.size + 1 < E ∧ Y.heap[E]? = some (.deferred (some []))) ∧ (D :: Ds).Nodup := by
        rintro Y rfl
        have nb : ∀ {b : Nat} {T : TypeId} {v : Value}, Boxed X b T v → Boxed (X.alloc (.cells #[.int .i64 (kz + 1)] 3)) b T v := fun {b T v} h => h.alloc _
        have nD : ∀ E, E < X.heap.size → (X.alloc (.cells #[.int .i64 (kz + 1)] 3)).heap[E]? = X.heap[E]? := fun E hE => Below.heap_alloc _ _ _ hE
        refine ⟨⟨⟨⟨⟨⟨⟨⟨nb k0, nb k1⟩, nb k2⟩, nb k3⟩, Boxed.new X 3 (.int .i64 (kz + 1))⟩, own_same hrow (fun g e => nD g (hrow.lt g e).2)⟩, hBX.alloc hBX.size _⟩, by omega, by omega⟩, ?_, ?_⟩
        · intro E hE
          rcases List.mem_cons.1 hE with rfl | hE
          · exact ⟨by omega, (nD _ hDX).trans hK⟩
          · obtain ⟨q1, q2, q3⟩ := HDD.out E hE
            exact ⟨q1, (nD E (by omega)).trans ((s2 E (by omega) (by omega)).trans q3)⟩
        · exact List.nodup_cons.2 ⟨fun h => by have := (HDD.out D h).2.1; omega, Hnd.out⟩
      have HX := Lib.hid nx
      have hXl := hBX.size
      have e1 : (kz == 0) = true := by rw [beq_iff_eq]; exact hk0
      have e2 : ((n : Int) == st) = true := by rw [beq_iff_eq]; exact hst
      have e3 : ((n : Int) != (L.length : Int)) = true ∨ ((n : Int) != (L.length : Int)) = false := by cases ((n : Int) != (L.length : Int)) <;> simp
      have HS := Lib.hid (And.intro hk0 (And.intro hst (And.intro hn hpre)))
      clear hk0 hst hn hpre
      clear nx hrow sub k0 k1 k2 k3 k4 h5 s1 s2 s3 hp hkz hDs hnd gD g0 g1 g2 g3 g4 g7 hK hBX hDX
      rcases e3 with e3 | e3
      all_goals
        gi_wp2
        obtain ⟨y1, y2, y3⟩ := HX.out _ rfl
        exact ⟨m - 1, by have := Hkz.out; omega, RuM.mk X.heap.size (D :: Ds) (kz + 1) (by have := Hkz.out; omega) (by have := HDs.out; have := Hkz.out; simp; omega) y3 y2 y1 rfl⟩
  · have i1 : ¬ kz < 2 := hk2
    have hz : Ds.length = 2 := by omega
    obtain ⟨D1, D2, rfl⟩ : ∃ D1 D2, Ds = [D1, D2] := by
      match Ds, hz with
      | [D1, D2], _ => exact ⟨D1, D2, rfl⟩
    have k1 := hD D1 (by simp)
    have k2 := hD D2 (by simp)
    have hne : D1 ≠ D2 := fun e => by subst e; simp at hnd
    have c4 := f4.cell
    have c1 := f1.cell
    have q1 := f1.frozen
    have m9 : Boxed (W.setCell ⟨w.heap.size + 1, 0, none⟩ (.bool true)) (w.heap.size + 1) 4 (.bool true) := f1.set _
    have j1 : (W.setCell ⟨w.heap.size + 1, 0, none⟩ (.bool true)).heap[D1]? = some (.deferred (some [])) := by rw [Below.heap_setCell _ _ _ _ (by dsimp only; omega)]; exact k1.2
    have j2 : (W.setCell ⟨w.heap.size + 1, 0, none⟩ (.bool true)).heap[D2]? = some (.deferred (some [])) := by rw [Below.heap_setCell _ _ _ _ (by dsimp only; omega)]; exact k2.2
    have hB9 := f6.setCell (p := ⟨w.heap.size + 1, 0, none⟩) (by simp) (.bool true)
    have HH := Lib.hid (And.intro m9 (And.intro j1 (And.intro j2 hB9)))
    have HK := Lib.hid (And.intro k1.1 (And.intro k2.1 hne))
    clear m9 j1 j2 hB9 k1 k2 hne hD hnd hDs hkz hz f0 f1 f2 f3 f4 f5 f6
    simp only [List.map_cons, List.map_nil]
    gi_wp2
    obtain ⟨m9, j1, j2, hB9⟩ := HH.out
    obtain ⟨l1, l2, hne⟩ := HK.out
    obtain ⟨W9, hW9⟩ : ∃ W9, W.setCell ⟨w.heap.size + 1, 0, none⟩ (.bool true) = W9 := ⟨_, rfl⟩
    rw [hW9] at m9 j1 j2 hB9 ⊢
    clear hW9 HH HK
    have j10 : (W9.putObj D1 (.deferred none)).heap[D2]? = some (.deferred (some [])) := (World.putObj_heap_other (by omega)).trans j2
    have c10 : (W9.putObj D1 (.deferred none)).cell? ⟨w.heap.size + 1, 0, none⟩ = some (.bool true) := (World.cell?_of_block (w := W9) (World.putObj_heap_other (by dsimp only; omega))).trans m9.cell
    have hB10 := hB9.trans (belowK_b (w := w) (Nat.le_refl _) W9 D1 _ (.deferred none) (by omega) j1 rfl rfl)
    have c11 : ((W9.putObj D1 (.deferred none)).putObj D2 (.deferred none)).cell? ⟨w.heap.size + 1, 0, none⟩ = some (.bool true) := (World.cell?_of_block (w := W9.putObj D1 (.deferred none)) (World.putObj_heap_other (by dsimp only; omega))).trans c10
    have hB11 := hB10.trans (belowK_b (w := w) (Nat.le_refl _) (W9.putObj D1 (.deferred none)) D2 _ (.deferred none) (by omega) j10 rfl rfl)
    refine ⟨by simp, .inl ⟨_, _, rfl, run_takeDeferred (w := W9) j1, ?_⟩⟩
    refine ⟨by simp, .inl ⟨_, _, rfl, run_takeDeferred (w := W9.putObj D1 (.deferred none)) j10, ?_⟩⟩
    refine ⟨.bool true, ?_, rfl, hB11⟩
    simp [results, Try.f10, go_sem, c11]

theorem runs_far (s : ByteArray) (st : Int) (hs : 2147483647 < s.size) (w : World) :
    Calls Try.prog 10 #[.string s, .int .i64 st] w fun e w' => e = .returned (.bool true) ∧ Below w.heap.size w w' := by
  have cB := beyond_yes s.size (by omega)
  go_enter Try.func10, Try.ntmps10
  go_wp2_with (first | (go_at_call 12; refine (live_any _).mono ?_; rintro e w' ⟨rfl, rfl⟩) | (go_at_call 19; refine (cB _).mono ?_; rintro e w' ⟨rfl, rfl⟩))
  refine bodyPost_ret (v := .bool true) (by simp [results, Try.f10, go_sem]) rfl ⟨rfl, ?_⟩
  exact ((Below.refl _ _).alloc (Nat.le_refl _) _).alloc (by simp) _
theorem runs_all (s : ByteArray) (st : Int) (w : World) :
    Calls Try.prog 10 #[.string s, .int .i64 st] w fun e w' => e = .returned (.bool true) ∧ Below w.heap.size w w' := by
  by_cases hs : s.size ≤ 2147483647
  · exact callsIn_wide.1 (runs_law s st hs w)
  · exact runs_far s st (by omega) w
end Go.Proofs.Ytfnngcecfjlfeaa
