/- The law for a loop over runes.Back; Reverse. -/
import Derived.Test.YtgpnheaefagfiaaSeqC
import Derived.Test.YtgpnheaefagfiaaMd
namespace Go.Proofs.Ytgpnheaefagfiaa
set_option linter.unusedVariables false
set_option linter.unusedSimpArgs false
open Go Go.RowKit Go.Shelf
set_option maxRecDepth 100000
attribute [local go_sem] Oper.semAt_some

/-- A loop 'for p := range runes.Back(s)', p in a variable of its own in each round (slot v). -/
theorem range_back {g : Operand} {q : Tmp} {assign body : Code} {Q : Exit → Act → World → Prop} {a : Act} {w : World} (v : Nat) (s : ByteArray) (hs : s.size ≤ 281474976710656) (B : Nat)
    (hB : Boxed w B 9 (.string s)) (hg : a.eval g = .func (.func 73) #[] #[.pointer (some ⟨B, 0, none⟩)])
    (I : List (Pos s) → World → Prop) (Ix : Code → List (Pos s) → World → Prop) (hI : OwnFrom w.heap.size I) (hIx : ∀ c, OwnFrom w.heap.size (Ix c)) (h0 : I [] w)
    (hassign : ∀ (l : Nat) (x : Pos s) (W : World) (K : Act → World → Prop),
      K { tmps := (a.tmps.setIfInBounds q (.agg (pcC s x.1))).setIfInBounds v (.pointer (some ⟨W.heap.size, 0, none⟩)), defers := [] } (W.alloc (.cells (pcC s x.1) 24)) →
      assign.wpIn (Fence.wide.inRound l) 9 Try.prog (Exit.then K (fun _ _ _ => False)) { tmps := a.tmps.setIfInBounds q (.agg (pcC s x.1)), defers := [] } W)
    (hbody : ∀ (l : Nat) (pre : List (Pos s)) (x : Pos s) (Bx : Nat) (W : World), I pre W → w.heap.size ≤ Bx → W.heap[Bx]? = some (.cells (pcC s x.1) 24) → pre.length < s.size →
      body.wpIn (Fence.wide.inRound l) 9 Try.prog (ownPostG w.heap.size (KpC B) I Ix (pre ++ [x]) W) { tmps := (a.tmps.setIfInBounds q (.agg (pcC s x.1))).setIfInBounds v (.pointer (some ⟨Bx, 0, none⟩)), defers := [] } W)
    (hdone : ∀ (D : Nat) (xs : List (Pos s)) (W : World), w.heap.size ≤ D → xs.map (·.1) = (posns s).reverse → I xs W → W.heap[D]? = some (.deferred (some [])) → Q .normal { a with defers := { target := .collected D, args := #[] } :: a.defers } W)
    (hstop : ∀ (D : Nat) (c : Code) (pre : List (Pos s)) (W : World), w.heap.size ≤ D → pre.map (·.1) <+: (posns s).reverse → Ix c pre W → W.heap[D]? = some (.deferred (some [])) → c.wpIn Fence.wide 11 Try.prog Q { a with defers := { target := .collected D, args := #[] } :: a.defers } W) :
    (Code.rangeFunc g #[q] assign body).wpIn Fence.wide 11 Try.prog Q a w := by
  have hown : OwnFrom w.heap.size (fun (_ : List (Pos s)) W => w.heap.size ≤ W.heap.size) := fun _ _ _ _ hs hg _ => Nat.le_trans hs hg.size
  refine wpIn_rangeFunc_ownH (n := 11) rfl (by omega) (gf := 73) (lb := #[.pointer (some ⟨B, 0, none⟩)]) hg trivial (enters_of Try.func73 (by kernel_rfl) rfl)
    (back_stops s hs B w hB) kpC_t (kpC_b hB.lt) (Below.refl _ _) (fun _ => rfl) (fun pre W => I pre W ∧ w.heap.size ≤ W.heap.size) Ix (hI.and hown) hIx ⟨h0, Nat.le_refl _⟩
    (fun x a' W => ∃ Bx, w.heap.size ≤ Bx ∧ W.heap[Bx]? = some (.cells (pcC s x.1) 24) ∧ a' = { tmps := (a.tmps.setIfInBounds q (.agg (pcC s x.1))).setIfInBounds v (.pointer (some ⟨Bx, 0, none⟩)), defers := [] })
    (fun x a' => ?_) ?_ ?_ (fun D xs W hD hS hi => hdone D xs W hD hS hi.1) hstop
  · rintro _ W W' row ⟨Bx, h1, h2, h3⟩ hg hr
    refine ⟨Bx, h1, (hg.block Bx (Array.getElem?_eq_some_iff.1 h2).1 ?_).trans h2, h3⟩
    intro e
    obtain ⟨_, o, ho, hc⟩ := hr Bx e.symm
    rw [h2] at ho; cases ho; cases hc
  · rintro l pre x W K ⟨hi, hsz⟩ hK
    have e0 : ((#[q].zip (pcA s x.1)).foldl (fun t (p, v) => t.setIfInBounds p v) a.tmps) = a.tmps.setIfInBounds q (.agg (pcC s x.1)) := by simp [pcA, pcC]
    rw [e0]
    refine hassign l x W K (hK _ _ ((KeepsOthers.alloc _ _).from _) ⟨⟨KeepsWalks.alloc _ _, ?_⟩, fun b cs hb => (Below.heap_alloc W _ _ (Array.getElem?_eq_some_iff.1 hb).1).trans hb⟩ ⟨hI.alloc _ hi, by simp; omega⟩ ⟨W.heap.size, hsz, World.alloc_heap_new W _, rfl⟩)
    exact Below.heap_alloc W _ _ (Nat.lt_of_lt_of_le hB.lt hsz)
  · rintro l pre x a' W _ _ ⟨hi, hsz⟩ ⟨Bx, h1, h2, rfl⟩ hlen
    refine wpIn_mono (hbody l pre x Bx W hi h1 h2 hlen) ?_
    rintro e a3 W3 hp
    cases e with
    | normal => exact ⟨hp.1, hp.2.1, hp.2.2, Nat.le_trans hsz hp.1.size⟩
    | ret => exact hp
    | exit id => exact hp
    | goto t => exact hp
    | panic ch => exact hp
    | outgrown => exact hp


/-- What is no row's and no variable's stays when a row that has grown is laid back. -/
theorem row_keeps {W w2 : World} {T e T' : TypeId} {B base n sz b : Nat} {v v' : Value} {xs : List Value} {cs : Array Value} (hT : T ≠ e) (hb : Boxed W B T v) (hr : W.ownsRow base e sz v n xs) (hg : W.grownBy w2 v.ownBlock) (h1 : T' ≠ e) (h2 : T' ≠ T)
    (h : W.heap[b]? = some (Obj.cells cs T' (0, 0))) : (w2.setCell ⟨B, 0, none⟩ v').heap[b]? = some (Obj.cells cs T' (0, 0)) := by
  have k : Blk W b cs T' := h
  have k2 := k.kept hg (k.not_row h1 hr)
  have kb : Boxed w2 B T v := hb.kept hg (fun e' => boxed_not_row hb hT hr e'.symm)
  refine k2.other (fun e1 => ?_) 0 v'
  subst e1
  have := (show w2.heap[b]? = _ from k2).symm.trans (show w2.heap[b]? = _ from kb)
  simp at this
  exact h2 this.2

/-- A piece's bytes. -/
def txF (s : ByteArray) (i : Nat) : ByteArray := s.extract i (i + wd s i)
theorem txF_le (s : ByteArray) (i : Nat) : (txF s i).size ≤ 4 := by
  unfold txF
  have := wd_le s i
  rw [ByteArray.size_extract]; omega

set_option maxHeartbeats 2000000 in
theorem reverse_in (s : ByteArray) (hs : s.size ≤ 1048576) (w : World) :
    CallsIn Fence.wide 11 Try.prog 45 #[.string s] w fun e w' => e = .returned (.string (catB (txF s) (posns s).reverse)) ∧ Below w.heap.size w w' := by
  obtain ⟨i0, hi, hz0, hz1, hz2⟩ := info_parts infoB
  refine callsIn_of_wp_marks Try.func45 rfl trivial ?_ rfl
  simp only [Try.ntmps45, List.size_toArray, List.length_cons, List.length_nil, Nat.reduceAdd, Nat.reduceSub, Array.replicate_succ, Array.replicate_zero, List.push_toArray, List.append_toArray, List.nil_append, List.cons_append]
  have hF : ∀ f, Fence.wide.fn f := fun _ => trivial
  gi_wp2_with (first | (gi_at_call 21; refine (callsIn_wide.2 (back_any _ _)).mono ?_; rintro e w' ⟨rfl, rfl⟩) | (gi_at_make; refine wpListIn_make_own _ rfl _ _ 92 rfl (w.heap.size + 1) 5 i0 (.int .u8 0) 1 Try.underlying92 hi hz0 hz1 .i64 .i64 s.size s.size rfl rfl rfl (by rw [hz2]; omega) (by unfold maxLen; omega) (by simp) ?_; intro w1 hrow1 hg1; have b01 := (Boxed.new w 9 (.string s)).kept hg1 (by simp); have bc1 := b01.cell; have hBw1 : Below w.heap.size w w1 := ((Below.refl _ w).alloc (Nat.le_refl _) _).grown hg1 (by simp) (fun k e => by cases e); have hs1 : w.heap.size + 1 ≤ w1.heap.size := (by have := hg1.size; simpa using this); have hlt1 : w.heap.size < w1.heap.size := (by omega)))
  simp only [World.size_alloc] at hrow1
  obtain ⟨N, hN⟩ : ∃ N, w1.heap.size = N := ⟨_, rfl⟩
  have b0 := (b01.alloc (.cells #[.slice (some ⟨w.heap.size + 1, 0, none⟩) 0 s.size] 92)).alloc (.cells #[.string s] 9)
  have b2 := (Boxed.new w1 92 (.slice (some ⟨w.heap.size + 1, 0, none⟩) 0 s.size)).alloc (.cells #[.string s] 9)
  have b3 := Boxed.new (w1.alloc (.cells #[.slice (some ⟨w.heap.size + 1, 0, none⟩) 0 s.size] 92)) 9 (.string s)
  have r0 := (hrow1.alloc (.cells #[.slice (some ⟨w.heap.size + 1, 0, none⟩) 0 s.size] 92)).alloc (.cells #[.string s] 9)
  have hB0 := (hBw1.alloc hBw1.size (.cells #[.slice (some ⟨w.heap.size + 1, 0, none⟩) 0 s.size] 92)).alloc (by have := hBw1.size; simp; omega) (.cells #[.string s] 9)
  have hsz : ((w1.alloc (.cells #[.slice (some ⟨w.heap.size + 1, 0, none⟩) 0 s.size] 92)).alloc (.cells #[.string s] 9)).heap.size = N + 2 := by simp [hN]
  simp only [World.size_alloc, hN] at b2 b3 hs1 hlt1 ⊢
  obtain ⟨W0, hW0⟩ : ∃ W0, ((w1.alloc (.cells #[.slice (some ⟨w.heap.size + 1, 0, none⟩) 0 s.size] 92)).alloc (.cells #[.string s] 9)) = W0 := ⟨_, rfl⟩
  rw [hW0] at b0 b2 b3 r0 hB0 hsz ⊢
  clear hW0 bc1 b01 hBw1 hg1 hrow1 hN
  refine range_back 4 s (by omega) (N + 1) b3 rfl
    (fun pre W => (((Boxed W w.heap.size 9 (.string s)) ∧ Boxed W (N + 1) 9 (.string s)) ∧ BoxRow W N 92 (w.heap.size + 1) 5 1 (catB (txF s) (pre.map (·.1))).size (Lib.strCells (catB (txF s) (pre.map (·.1))))) ∧ Below w.heap.size w W)
    (fun _ _ _ => False)
    (OwnFrom.and (OwnFrom.and (OwnFrom.and (Own.from (boxed_own _ _ _) _) (Own.from (boxed_own _ _ _) _)) (Own.from (boxRow_own _ _ _ _ _ _ _) _)) (ownFrom_below (Nat.le_refl _) (by omega)))
    (fun _ _ _ _ _ hs _ _ => hs) ⟨⟨⟨b0, b3⟩, ⟨_, b2, r0⟩⟩, hB0⟩ ?assign ?body ?done ?stop
  case assign =>
    intro l x W K hK
    simp only [pcC] at hK ⊢
    gi_wp2
    exact hK
  case body =>
    rintro l pre x Bx W ⟨⟨⟨h0, h3⟩, ⟨v, h2, hrow⟩⟩, hB⟩ hle hbx hlen
    rw [hsz] at hle
    have hc0 := h0.cell
    have hc2 := h2.cell
    have hf2 := h2.frozen
    have hle1 : (pre.map (·.1)).length < 1048576 := by rw [List.length_map]; omega
    have hML := catB_le (txF s) 4 (txF_le s) (pre.map (·.1))
    have hsb : (catB (txF s) (pre.map (·.1))).size ≤ 4194304 := by omega
    clear hML hle1
    have hx4 := wd_le s x.1
    have hx1 := wd_pos s x.1
    have hxf := wd_fits s x.1 x.2
    have hex : (s.extract x.1 (x.1 + wd s x.1)).size ≤ 4 := by rw [ByteArray.size_extract]; omega
    obtain ⟨p0, p1, p2, p3⟩ := pcell hbx
    simp only [pcC]
    have f1 : IntKind.i64.wrap ((x.1 : Int) + (wd s x.1 : Nat)) = (x.1 : Int) + (wd s x.1 : Nat) := IntWalk.i64_in _ (by omega)
    have f2 : (0 : Int) ≤ (x.1 : Int) := by omega
    have f3 : (x.1 : Int) ≤ (x.1 : Int) + (wd s x.1 : Nat) := by omega
    have f4 : (x.1 : Int) + (wd s x.1 : Nat) ≤ (s.size : Int) := by omega
    have f6 : ((x.1 : Int) + (wd s x.1 : Nat)).toNat = x.1 + wd s x.1 := by omega
    have hrd := drew_row hrow
    gi_wp2
    refine round_still_tail 10 (by kernel_rfl) (by kernel_rfl) (by kernel_rfl) (noOut (fun _ _ h => h)) ?_
    simp only [List.take_succ_cons, List.take_zero, List.drop_succ_cons, List.drop_zero]
    repeat still_step
    refine wpStill_nil ?_
    refine Lib.wpList_append_own_string _ rfl _ _ 92 9 rfl (w.heap.size + 1) 5 i0 Try.underlying92 Try.underlying9 hi hz0 hz1 hz2 _ _ _ rfl hrd (s.extract x.1 (x.1 + wd s x.1)) rfl (by unfold maxLen; omega) (by omega) (by have := h2.lt; simp; omega) ?_
    intro v' w2 hown' hgrow _
    obtain ⟨m', hm'⟩ : ∃ m', (catB (txF s) (pre.map (·.1))).size + (s.extract x.1 (x.1 + wd s x.1)).size = m' := ⟨_, rfl⟩
    rw [hm'] at hown'
    have HM := Lib.hid hm'; clear hm'
    have k2 := h2.kept (W := W.drew) hgrow (fun e' => boxed_not_row h2 (by decide) hrow e'.symm)
    have kc2 := k2.cell
    have kf2 := k2.frozen
    obtain ⟨o', c', rfl, _⟩ := own_slice hown'
    obtain ⟨q1, q2, q3, q4⟩ := row_step (W := W.drew) (T := 92) (e := 5) (by decide) h2 hrd hgrow hown'
    have q5 := fun (b : Nat) (cs : Array Value) => row_keeps (W := W.drew) (T := 92) (e := 5) (T' := 24) (b := b) (cs := cs) (v' := .slice o' m' c') (by decide) h2 hrd hgrow (by decide) (by decide)
    refine wpList_plain rfl fun K hK => ?_
    go_simp
    refine hK _ _ ?_
    clear hK K
    refine wpList_nil ?_
    have r0 := q3 _ _ _ (by decide) (by omega) h0
    have r3 := q3 _ _ _ (by decide) (by omega) h3
    have q0 : KeepsOthers W _ := (KeepsOthers.drew W).trans q1
    refine ⟨q0.from _, ⟨⟨q0.walks, (show _ = _ from r3).trans (show _ = _ from h3).symm⟩, q5⟩, ⟨⟨r0, r3⟩, ?_⟩, q4 _ _ hB.drew (by omega) (by omega) hB.size⟩
    rw [List.map_append, List.map_singleton, catB_size, catB_cells, show txF s x.1 = s.extract x.1 (x.1 + wd s x.1) from rfl, HM.out]
    exact q2
  case done =>
    rintro D xs W hD hxs ⟨⟨_, ⟨v, h2, hrow⟩⟩, hB⟩ hK
    rw [hxs] at hrow
    have hc2 := h2.cell
    have hcv := conv_own rfl hrow
    clear hrow
    gi_wp2
    refine ⟨by simp, .inl ⟨_, _, rfl, run_takeDeferred (w := W) hK, ?_⟩⟩
    refine ⟨.string (catB (txF s) (posns s).reverse), ?_, rfl, hB.trans (belowK_b (w := w) (Nat.le_refl _) W D _ _ (by omega) hK rfl rfl)⟩
    simp [results, Try.f45, go_sem]
  case stop =>
    rintro D c pre W _ _ h _
    exact h.elim

theorem mend_any (s t : ByteArray) (hs : s.size ≤ 1048576) (ht : t.size ≤ 1048576) (w : World) :
    Calls Try.prog 43 #[.string s, .string t] w fun e w' => e = .returned (.string (catB (mendF s t) (posns s))) ∧ Below w.heap.size w w' := callsIn_wide.1 (mend_in s t hs ht w)
theorem reverse_any (s : ByteArray) (hs : s.size ≤ 1048576) (w : World) :
    Calls Try.prog 45 #[.string s] w fun e w' => e = .returned (.string (catB (txF s) (posns s).reverse)) ∧ Below w.heap.size w w' := callsIn_wide.1 (reverse_in s hs w)
end Go.Proofs.Ytgpnheaefagfiaa
