/- A Feed of the program's in memory; Held, NewFeed. -/
import Derived.Test.YtgpnheaefagfiaaFd0
import Derived.Test.YtgpnheaefagfiaaMd
import Derived.Test.YtgpnheaefagfiaaNt
import Derived.Lib.BufferWrite
import Derived.Laws.CopyOwn
namespace Go.Proofs.Ytgpnheaefagfiaa
set_option linter.unusedVariables false
set_option linter.unusedSimpArgs false
open Go Go.RowKit Go.Shelf
set_option maxRecDepth 100000
attribute [local go_sem] Oper.semAt_some

/-- The cells of a Feed: what is held, what else stands there, how many, how many were told. -/
def fdC (H : ByteArray) (z : List Value) (t : Nat) : Array Value := (Lib.strCells H ++ z ++ [Value.int .i64 (H.size : Nat), Value.int .i64 (t : Nat)]).toArray
def FdB (W : World) (b : Nat) (H : ByteArray) (t : Nat) : Prop := ∃ z : List Value, H.size + z.length = 3 ∧ Blk W b (fdC H z t) 102
theorem strC_len (H : ByteArray) : (Lib.strCells H).length = H.size := by simp [Lib.strCells]
theorem strC_at (H : ByteArray) (j : Nat) (hj : j < H.data.toList.length) : (Lib.strCells H)[j]? = some (.int .u8 ((H.data.toList[j]).toNat : Int)) := by
  simp only [Lib.strCells, List.getElem?_map, List.getElem?_eq_getElem hj]; rfl
theorem FdB.lt {W : World} {b t : Nat} {H : ByteArray} (h : FdB W b H t) : b < W.heap.size := by obtain ⟨z, _, hb⟩ := h; exact hb.lt
theorem FdB.le {W : World} {b t : Nat} {H : ByteArray} (h : FdB W b H t) : H.size ≤ 3 := by obtain ⟨z, hz, hb⟩ := h; omega
theorem FdB.kept {W W' : World} {row : Option Nat} {b t : Nat} {H : ByteArray} (h : FdB W b H t) (hg : W.grownBy W' row) (hne : some b ≠ row) : FdB W' b H t := by
  obtain ⟨z, hz, hb⟩ := h
  exact ⟨z, hz, hb.kept hg hne⟩
theorem FdB.n {W : World} {b t : Nat} {H : ByteArray} (h : FdB W b H t) : W.cell? ⟨b, 3, none⟩ = some (.int .i64 (H.size : Nat)) := by
  obtain ⟨z, hz, hb⟩ := h
  have := strC_len H
  rw [hb.cell 3, fdC, List.getElem?_toArray, List.getElem?_append_right (by rw [List.length_append]; omega), List.length_append, show 3 - ((Lib.strCells H).length + z.length) = 0 by omega]
  rfl
theorem FdB.told {W : World} {b t : Nat} {H : ByteArray} (h : FdB W b H t) : W.cell? ⟨b, 4, none⟩ = some (.int .i64 (t : Nat)) := by
  obtain ⟨z, hz, hb⟩ := h
  have := strC_len H
  rw [hb.cell 4, fdC, List.getElem?_toArray, List.getElem?_append_right (by rw [List.length_append]; omega), List.length_append, show 4 - ((Lib.strCells H).length + z.length) = 1 by omega]
  rfl
theorem FdB.byte {W : World} {b t : Nat} {H : ByteArray} (h : FdB W b H t) (j : Nat) (hj : j < H.data.toList.length) : W.cell? ⟨b, j, none⟩ = some (.int .u8 ((H.data.toList[j]).toNat : Int)) := by
  obtain ⟨z, hz, hb⟩ := h
  have e := strC_len H
  have e2 : H.data.toList.length = H.size := by rw [Array.length_toList]; rfl
  rw [hb.cell j, fdC, List.getElem?_toArray, List.getElem?_append_left (by rw [List.length_append]; omega), List.getElem?_append_left (by omega)]
  exact strC_at H j hj
theorem FdB.frozen {W : World} {b t : Nat} {H : ByteArray} (h : FdB W b H t) (o : Nat) : W.frozen? ⟨b, o, none⟩ = false := by
  obtain ⟨z, hz, hb⟩ := h; exact hb.frozen o
theorem FdB.not_row {W : World} {b t : Nat} {H : ByteArray} (h : FdB W b H t) {e : TypeId} (hte : 102 ≠ e) {base size k : Nat} {v : Value} {xs : List Value} (hr : W.ownsRow base e size v k xs) : some b ≠ v.ownBlock := by
  obtain ⟨z, hz, hb⟩ := h; exact hb.not_row hte hr
theorem FdB.other {W : World} {b t B' : Nat} {H : ByteArray} (h : FdB W b H t) (hne : b ≠ B') (o : Nat) (u : Value) : FdB (W.setCell ⟨B', o, none⟩ u) b H t := h.kept (grownBy_setCell W B' o u) (fun e => hne (by cases e; rfl))
theorem FdB.tell {W : World} {b t : Nat} {H : ByteArray} (h : FdB W b H t) (t' : Nat) : FdB (W.setCell ⟨b, 4, none⟩ (.int .i64 (t' : Nat))) b H t' := by
  obtain ⟨z, hz, hb⟩ := h
  refine ⟨z, hz, ?_⟩
  have := hb.set 4 (.int .i64 (t' : Nat))
  rw [show (fdC H z t).setIfInBounds 4 (.int .i64 (t' : Nat)) = fdC H z t' by
    unfold fdC
    have e := strC_len H
    rw [List.setIfInBounds_toArray]
    congr 1
    rw [List.set_append, if_neg (by rw [List.length_append]; omega), List.length_append, show 4 - ((Lib.strCells H).length + z.length) = 1 by omega]
    rfl] at this
  exact this
theorem grown_set {w W X : World} {b o : Nat} {v : Value} (h1 : Below w.heap.size w W) (h2 : Below w.heap.size (W.setCell ⟨b, o, none⟩ v) X) : w.grownBy X (some b) := by
  have g := grownBy_setCell W b o v
  exact ⟨h2.os.trans (g.os.trans h1.os), h2.tape.trans (g.tape.trans h1.tape), h2.output.trans (g.output.trans h1.output), Nat.le_trans h1.size (Nat.le_trans g.size h2.size), fun k hk hne => (h2.block k hk).trans ((g.block k (Nat.lt_of_lt_of_le hk h1.size) hne).trans (h1.block k hk))⟩
theorem FdB.below {W W' : World} {b t n : Nat} {H : ByteArray} (h : FdB W b H t) (hb : Below n W W') (hn : b < n) : FdB W' b H t := by
  obtain ⟨z, hz, h⟩ := h; exact ⟨z, hz, h.below hb hn⟩
theorem row_def {W : World} {base n sz D : Nat} {e : TypeId} {v : Value} {xs : List Value} (h : W.ownsRow base e sz v n xs) (hD : W.heap[D]? = some (.deferred (some []))) : (W.putObj D (.deferred none)).ownsRow base e sz v n xs := by
  refine h.kept (grownBy_putObj' W D (.deferred none)) (.inr (fun e' => ?_))
  rcases h.2 with ⟨rfl, _⟩ | ⟨g, cap, cur, rfl, _, hgb, _⟩
  · cases e'
  · obtain rfl : g = D := by simpa [Value.ownBlock] using e'
    rw [hD] at hgb; cases hgb
/-- string(f.held[:f.n]). -/
theorem FdB.conv {W : World} {b t c : Nat} {H : ByteArray} (h : FdB W b H t) : (convert 92 9 (.slice (some ⟨b, 0, none⟩) H.size c)).run Try.prog W = .ok (.string H) W := by
  have e2 : H.data.toList.length = H.size := by rw [Array.length_toList]; rfl
  have := run_convert_bytes_back (P := Try.prog) W 92 9 5 ⟨b, 0, none⟩ c H.data.toList Try.underlying92 Try.underlying5 Try.underlying9
    (fun j hj => by
      have := h.byte j hj
      rcases Nat.eq_zero_or_pos j with rfl | hp
      · exact this
      · rw [show ((⟨b, 0, none⟩ : Addr).add j) = ⟨b, j, none⟩ by simp [Addr.add]; omega]; exact this)
  rw [e2] at this
  rw [this]

theorem newFeed_any (w : World) : Calls Try.prog 57 #[] w fun e w' => e = .returned (.pointer (some ⟨w.heap.size, 0, none⟩)) ∧ FdB w' w.heap.size ByteArray.empty 0 ∧ Below w.heap.size w w' := by
  go_enter Try.func57, Try.ntmps57
  go_wp2
  go_ret
  exact ⟨rfl, ⟨[.int .u8 0, .int .u8 0, .int .u8 0], rfl, Blk.new w _ _⟩, (Below.refl _ w).alloc (Nat.le_refl _) _⟩

theorem held_nil (w : World) : Calls Try.prog 63 #[.pointer none] w fun e w' => e = .returned (.string ByteArray.empty) ∧ w = w' := by
  go_enter Try.func63, Try.ntmps63
  go_wp2
  go_ret
  exact ⟨rfl, rfl⟩

theorem held_any (w : World) (b t : Nat) (H : ByteArray) (h : FdB w b H t) : Calls Try.prog 63 #[.pointer (some ⟨b, 0, none⟩)] w fun e w' => e = .returned (.string H) ∧ Below w.heap.size w w' := by
  have hn := h.n
  have hle := h.le
  have hc : ∀ c n, (convert 92 9 (.slice (some ⟨b, 0, none⟩) H.size c)).run Try.prog (w.drewN n) = .ok (.string H) (w.drewN n) := fun c n => FdB.conv (W := w.drewN n) (c := c) h
  have hlt := h.lt
  have f1 : (H.size : Int) ≤ 3 := by omega
  go_enter Try.func63, Try.ntmps63
  go_wp2
  go_quiet (fail)
  go_wp2
  go_ret
  exact ⟨rfl, rfl, rfl, rfl, Nat.le_refl _, fun _ _ => rfl⟩

/-- A loop over runes.Pieces, whose variable of its own round is known to lie apart from the row that a variable holds. -/
theorem range_fresh {g : Operand} {q : Tmp} {assign body : Code} {Q : Exit → Act → World → Prop} {a : Act} {w : World} (v : Nat) (s : ByteArray) (hs : s.size ≤ 9223372036854775807) (B : Nat) (Bl : Nat) (Tl : TypeId)
    (hB : Boxed w B 9 (.string s)) (hg : a.eval g = .func (.func 70) #[] #[.pointer (some ⟨B, 0, none⟩)])
    (I : List (Pos s) → World → Prop) (Ix : Code → List (Pos s) → World → Prop) (hI : OwnFrom w.heap.size I) (hIx : ∀ c, OwnFrom w.heap.size (Ix c)) (h0 : I [] w)
    (hbox : ∀ (pre : List (Pos s)) (W : World), I pre W → ∃ u, Boxed W Bl Tl u ∧ ∀ k, u.ownBlock = some k → k < W.heap.size)
    (hassign : ∀ (l : Nat) (x : Pos s) (W : World) (K : Act → World → Prop),
      K { tmps := (a.tmps.setIfInBounds q (.agg (pcC s x.1))).setIfInBounds v (.pointer (some ⟨W.heap.size, 0, none⟩)), defers := [] } (W.alloc (.cells (pcC s x.1) 24)) →
      assign.wpIn (Fence.wide.inRound l) 9 Try.prog (Exit.then K (fun _ _ _ => False)) { tmps := a.tmps.setIfInBounds q (.agg (pcC s x.1)), defers := [] } W)
    (hbody : ∀ (l : Nat) (pre : List (Pos s)) (x : Pos s) (Bx : Nat) (W : World), I pre W → (∃ u, Boxed W Bl Tl u ∧ u.ownBlock ≠ some Bx) → w.heap.size ≤ Bx → W.heap[Bx]? = some (.cells (pcC s x.1) 24) → pre.length < s.size →
      body.wpIn (Fence.wide.inRound l) 9 Try.prog (ownPostG w.heap.size (KpB B) I Ix (pre ++ [x]) W) { tmps := (a.tmps.setIfInBounds q (.agg (pcC s x.1))).setIfInBounds v (.pointer (some ⟨Bx, 0, none⟩)), defers := [] } W)
    (hdone : ∀ (D : Nat) (xs : List (Pos s)) (W : World), w.heap.size ≤ D → xs.map (·.1) = posns s → I xs W → W.heap[D]? = some (.deferred (some [])) → Q .normal { a with defers := { target := .collected D, args := #[] } :: a.defers } W)
    (hstop : ∀ (D : Nat) (c : Code) (pre : List (Pos s)) (W : World), w.heap.size ≤ D → pre.map (·.1) <+: posns s → Ix c pre W → W.heap[D]? = some (.deferred (some [])) → c.wpIn Fence.wide 11 Try.prog Q { a with defers := { target := .collected D, args := #[] } :: a.defers } W) :
    (Code.rangeFunc g #[q] assign body).wpIn Fence.wide 11 Try.prog Q a w := by
  have hown : OwnFrom w.heap.size (fun (_ : List (Pos s)) W => w.heap.size ≤ W.heap.size) := fun _ _ _ _ hs hg _ => Nat.le_trans hs hg.size
  refine wpIn_rangeFunc_ownH (n := 11) rfl (by omega) (gf := 70) (lb := #[.pointer (some ⟨B, 0, none⟩)]) hg trivial (enters_of Try.func70 (by kernel_rfl) rfl)
    (pieces_stops s hs B w hB) kpB_t (kpB_b hB.lt) (Below.refl _ _) (fun _ => rfl) (fun pre W => I pre W ∧ w.heap.size ≤ W.heap.size) Ix (hI.and hown) hIx ⟨h0, Nat.le_refl _⟩
    (fun x a' W => ∃ Bx, w.heap.size ≤ Bx ∧ W.heap[Bx]? = some (.cells (pcC s x.1) 24) ∧ (∃ u, Boxed W Bl Tl u ∧ u.ownBlock ≠ some Bx) ∧ a' = { tmps := (a.tmps.setIfInBounds q (.agg (pcC s x.1))).setIfInBounds v (.pointer (some ⟨Bx, 0, none⟩)), defers := [] })
    (fun x a' => ?_) ?_ ?_ (fun D xs W hD hS hi => hdone D xs W hD hS hi.1) hstop
  · rintro _ W W' row ⟨Bx, h1, h2, ⟨u, h4, h5⟩, h3⟩ hg hr
    refine ⟨Bx, h1, (hg.block Bx (Array.getElem?_eq_some_iff.1 h2).1 ?_).trans h2, ⟨u, h4.kept hg ?_, h5⟩, h3⟩
    · intro e
      obtain ⟨_, o, ho, hc⟩ := hr Bx e.symm
      rw [h2] at ho; cases ho; cases hc
    · intro e
      obtain ⟨_, o, ho, hc⟩ := hr Bl e.symm
      rw [show W.heap[Bl]? = _ from h4] at ho; cases ho; cases hc
  · rintro l pre x W K ⟨hi, hsz⟩ hK
    have e0 : ((#[q].zip (pcA s x.1)).foldl (fun t (p, v) => t.setIfInBounds p v) a.tmps) = a.tmps.setIfInBounds q (.agg (pcC s x.1)) := by simp [pcA, pcC]
    rw [e0]
    obtain ⟨u, h4, h5⟩ := hbox pre W hi
    refine hassign l x W K (hK _ _ ((KeepsOthers.alloc _ _).from _) ⟨KeepsWalks.alloc _ _, ?_⟩ ⟨hI.alloc _ hi, by simp; omega⟩ ⟨W.heap.size, hsz, World.alloc_heap_new W _, ⟨u, h4.alloc _, fun e => by have := h5 _ e; omega⟩, rfl⟩)
    exact Below.heap_alloc W _ _ (Nat.lt_of_lt_of_le hB.lt hsz)
  · rintro l pre x a' W _ _ ⟨hi, hsz⟩ ⟨Bx, h1, h2, h4, rfl⟩ hlen
    refine wpIn_mono (hbody l pre x Bx W hi h4 h1 h2 hlen) ?_
    rintro e a3 W3 hp
    cases e with
    | normal => exact ⟨hp.1, hp.2.1, hp.2.2, Nat.le_trans hsz hp.1.size⟩
    | ret => exact hp
    | exit id => exact hp
    | goto t => exact hp
    | panic ch => exact hp
    | outgrown => exact hp

/-- Between two rounds of tell: what was told lies in a row of its own. -/
def TeI (k : Nat) (s : ByteArray) (w : World) (b : Nat) (H : ByteArray) (pre : List (Pos s)) (W : World) : Prop :=
  (((Boxed W w.heap.size 74 (.pointer (some ⟨b, 0, none⟩)) ∧ Boxed W (w.heap.size + 2) 9 (.string s)) ∧ BoxRow W (w.heap.size + 1) 29 w.heap.size 24 4 (pre.map (·.1)).length (pcz k s (pre.map (·.1)))) ∧ FdB W b H k) ∧ Below w.heap.size w W
def TePost (k : Nat) (s : ByteArray) (w : World) (b : Nat) (H : ByteArray) (e : Ending) (w' : World) : Prop :=
  ∃ v, e = .returned v ∧ w'.ownsRow w.heap.size 24 4 v (posns s).length (pcz k s (posns s)) ∧ w.grownBy w' (some b) ∧ FdB w' b H (k + s.size)
theorem FdB.own {β : Type} (b k : Nat) (H : ByteArray) : Own (fun (_ : β) W => FdB W b H k) := by
  rintro s X Y row h hg hrow
  refine h.kept hg (fun e' => ?_)
  obtain ⟨o, ho, hc⟩ := hrow b e'.symm
  obtain ⟨z, _, hb⟩ := h
  rw [show X.heap[b]? = _ from hb] at ho; cases ho; cases hc

set_option maxHeartbeats 2000000 in
theorem tell_in (s : ByteArray) (k : Nat) (hs : s.size ≤ 1048576) (hk : k ≤ 1048576) (w : World) (b : Nat) (H : ByteArray) (h : FdB w b H k) : CallsIn Fence.wide 11 Try.prog 85 #[.pointer (some ⟨b, 0, none⟩), .string s] w (TePost k s w b H) := by
  obtain ⟨i0, hi, hz0, hz1, hz2⟩ := info_parts infoP
  have hbl := h.lt
  refine callsIn_of_wp_marks Try.func85 rfl trivial ?_ rfl
  simp only [Try.ntmps85, List.size_toArray, List.length_cons, List.length_nil, Nat.reduceAdd, Nat.reduceSub, Array.replicate_succ, Array.replicate_zero, List.push_toArray, List.append_toArray, List.nil_append, List.cons_append]
  have hF : ∀ f, Fence.wide.fn f := fun _ => trivial
  gi_wp2_with (gi_at_call 20; refine (callsIn_wide.2 (pieces_any _ _)).mono ?_; rintro e w' ⟨rfl, rfl⟩)
  have b0 := ((Boxed.new w 74 (.pointer (some ⟨b, 0, none⟩))).alloc (.cells #[.slice none 0 0] 29)).alloc (.cells #[.string s] 9)
  have b1 := (Boxed.new (w.alloc (.cells #[.pointer (some ⟨b, 0, none⟩)] 74)) 29 (.slice none 0 0)).alloc (.cells #[.string s] 9)
  have b2 := Boxed.new ((w.alloc (.cells #[.pointer (some ⟨b, 0, none⟩)] 74)).alloc (.cells #[.slice none 0 0] 29)) 9 (.string s)
  have b3 := ((h.kept (World.grownBy_alloc w (.cells #[.pointer (some ⟨b, 0, none⟩)] 74) none) (by simp)).kept (World.grownBy_alloc _ (.cells #[.slice none 0 0] 29) none) (by simp)).kept (World.grownBy_alloc _ (.cells #[.string s] 9) none) (by simp)
  simp only [World.size_alloc, Nat.add_assoc, Nat.reduceAdd] at b1 b2
  have hB0 : Below w.heap.size w (((w.alloc (.cells #[.pointer (some ⟨b, 0, none⟩)] 74)).alloc (.cells #[.slice none 0 0] 29)).alloc (.cells #[.string s] 9)) := (((Below.refl _ w).alloc (Nat.le_refl _) _).alloc (by simp) _).alloc (by simp; omega) _
  have hsz : (((w.alloc (.cells #[.pointer (some ⟨b, 0, none⟩)] 74)).alloc (.cells #[.slice none 0 0] 29)).alloc (.cells #[.string s] 9)).heap.size = w.heap.size + 3 := by simp
  obtain ⟨W0, hW0⟩ : ∃ W0, (((w.alloc (.cells #[.pointer (some ⟨b, 0, none⟩)] 74)).alloc (.cells #[.slice none 0 0] 29)).alloc (.cells #[.string s] 9)) = W0 := ⟨_, rfl⟩
  simp only [Nat.add_assoc, Nat.reduceAdd]
  rw [hW0] at b0 b1 b2 b3 hB0 hsz ⊢
  clear hW0
  refine range_fresh 6 s (by omega) (w.heap.size + 2) (w.heap.size + 1) 29 b2 rfl (TeI k s w b H)
    (fun _ _ _ => False)
    (OwnFrom.and (OwnFrom.and (OwnFrom.and (OwnFrom.and (Own.from (boxed_own _ _ _) _) (Own.from (boxed_own _ _ _) _)) (Own.from (boxRow_own _ _ _ _ _ _ _) _)) (Own.from (FdB.own _ _ _) _)) (ownFrom_below (Nat.le_refl _) (by omega)))
    (fun _ _ _ _ _ hs _ _ => hs) ⟨⟨⟨⟨b0, b2⟩, ⟨_, b1, World.ownsRow_nil _ _ _ _⟩⟩, b3⟩, hB0⟩ (fun pre W hi => by obtain ⟨⟨⟨_, ⟨v, h1, hrow⟩⟩, _⟩, _⟩ := hi; exact ⟨v, h1, fun k hk => (hrow.lt k hk).2⟩) ?assign ?body ?done ?stop
  case assign =>
    intro l x W K hK
    simp only [pcC] at hK ⊢
    gi_wp2
    exact hK
  case body =>
    rintro l pre x Bx W ⟨⟨⟨⟨h0, h2⟩, ⟨v, h1, hrow⟩⟩, h3⟩, hB⟩ ⟨u, hu, hun⟩ hle hbx hlen
    have hle' : w.heap.size ≤ Bx := by omega
    rw [hsz] at hle
    obtain rfl : u = v := by
      have := (show _ = _ from hu).symm.trans h1
      simpa using this
    have hbx' : Blk W Bx (pcC s x.1) 24 := hbx
    have n0 : Bx ≠ w.heap.size := by omega
    obtain ⟨p0, p1, p2, p3⟩ := pcell hbx
    have ht := h3.told
    have hc0 := h0.cell
    have hx := x.2
    have hbf := hbx'.frozen 0
    have f1 : IntKind.i64.wrap ((x.1 : Int) + (k : Nat)) = ((k + x.1 : Nat) : Int) := by rw [IntWalk.i64_in _ (by omega)]; omega
    obtain ⟨XA, hXA⟩ : ∃ y, k + x.1 = y := ⟨_, rfl⟩
    rw [hXA] at f1
    simp only [pcC]
    gi_wp2
    refine round_still_tail 8 (by kernel_rfl) (by kernel_rfl) (by kernel_rfl) (noOut_then (fun _ _ h => h)) ?_
    simp only [List.take_succ_cons, List.take_zero, List.drop_succ_cons, List.drop_zero]
    repeat still_step
    refine wpStill_nil ?_
    refine wpList_plain rfl fun K hK => ?_
    go_simp
    refine hK _ _ ?_
    clear hK K
    refine wpList_nil ?_
    obtain ⟨WA, hWA⟩ : ∃ y, (W.setCell ⟨Bx, 0, none⟩ (.int .i64 XA)).drew = y := ⟨_, rfl⟩
    have nb : b ≠ Bx := by omega
    have n1 : Bx ≠ w.heap.size + 1 := fun e => by
      have := (show W.heap[w.heap.size + 1]? = _ from h1); rw [← e, hbx] at this; simp at this
    have n2 : Bx ≠ w.heap.size + 2 := fun e => by
      have := (show W.heap[w.heap.size + 2]? = _ from h2); rw [← e, hbx] at this; simp at this
    have m0 : Boxed WA w.heap.size 74 (.pointer (some ⟨b, 0, none⟩)) := by rw [← hWA]; exact Blk.other (show Blk W _ _ _ from h0) (fun e => n0 e.symm) 0 _
    have m1 : Boxed WA (w.heap.size + 1) 29 u := by rw [← hWA]; exact Blk.other (show Blk W _ _ _ from h1) (fun e => n1 e.symm) 0 _
    have m2 : Boxed WA (w.heap.size + 2) 9 (.string s) := by rw [← hWA]; exact Blk.other (show Blk W _ _ _ from h2) (fun e => n2 e.symm) 0 _
    have m3 : FdB WA b H k := by rw [← hWA]; exact h3.other nb 0 (.int .i64 XA)
    have mr : WA.ownsRow w.heap.size 24 4 u (pre.map (·.1)).length (pcz k s (pre.map (·.1))) := by rw [← hWA]; exact drew_row (hrow.kept (grownBy_setCell W Bx 0 _) (.inr hun))
    have mb : Blk WA Bx #[.int .i64 XA, .int .i64 (wd s x.1 : Nat), .int .i32 (rn s x.1 : Nat), .bool (bk s x.1)] 24 := by rw [← hWA]; exact hbx'.set 0 (.int .i64 XA)
    have mB : Below w.heap.size w WA := by rw [← hWA]; exact (hB.setCell (p := ⟨Bx, 0, none⟩) hle' _).trans ⟨rfl, rfl, rfl, Nat.le_refl _, fun _ _ => rfl⟩
    have hB2 : _ = W.heap[w.heap.size + 2]? := (show _ = _ from h2).symm
    have mk : KeepsOthers W WA := by rw [← hWA]; exact (KeepsOthers.setCell _ _ _).trans ⟨Nat.le_refl _, fun _ _ h _ => h⟩
    have c0 := mb.cell 0
    have c1 := mb.cell 1
    have c2 := mb.cell 2
    have c3 := mb.cell 3
    have mc1 := m1.cell
    have mf1 := m1.frozen
    have hsn : pcz k s ((pre ++ [x]).map (·.1)) = pcz k s (pre.map (·.1)) ++ [.int .i64 XA, .int .i64 (wd s x.1 : Nat), .int .i32 (rn s x.1 : Nat), .bool (bk s x.1)] := by rw [List.map_append, List.map_singleton, pcz_snoc, hXA]
    have HS := Lib.hid hsn
    have hXs : XA ≤ 2097152 := by omega
    rw [hWA]
    clear hWA hc0 hbf hsn hrow h0 h1 h2 h3 hu hbx hbx' p0 p1 p2 p3 ht
    obtain ⟨N, hN⟩ : ∃ N, (pre.map (·.1)).length = N := ⟨_, rfl⟩
    have hNs : N < s.size := by rw [← hN, List.length_map]; exact hlen
    rw [hN] at mr
    obtain ⟨o, cap, rfl, ho⟩ := own_slice mr
    gi_wp2_with (gi_at_builtin; refine round_list (noOut (fun _ _ h => h)) _ _ _ (by kernel_rfl) ?_; refine wpList_append_own _ rfl _ _ 29 rfl w.heap.size 24 i0 (.agg #[.int .i64 0, .int .i64 0, .int .i32 0, .bool false]) 4 24 Try.underlying29 hi hz0 hz1 hz2 rfl (by decide) _ _ _ rfl (mr.alloc _) ⟨WA.heap.size, 0, none⟩ 1 1 [.int .i64 XA, .int .i64 (wd s x.1 : Nat), .int .i32 (rn s x.1 : Nat), .bool (bk s x.1)] rfl rfl (World.news_of_block (cs := #[.int .i64 XA, .int .i64 (wd s x.1 : Nat), .int .i32 (rn s x.1 : Nat), .bool (bk s x.1)]) (t := 24) (fr := (0, 0)) (World.alloc_heap_new WA _)) (fun x hx => by simp at hx; rcases hx with rfl | rfl | rfl | rfl <;> rfl) (by unfold maxLen; omega) (by omega) (by have := mB.size; simp; omega) ?_; intro v' w2 hown' hgrow _; have k4 := (m1.alloc (.cells #[.int .i64 XA, .int .i64 (wd s x.1 : Nat), .int .i32 (rn s x.1 : Nat), .bool (bk s x.1)] 24)).kept hgrow (fun e' => boxed_not_row (m1.alloc (.cells #[.int .i64 XA, .int .i64 (wd s x.1 : Nat), .int .i32 (rn s x.1 : Nat), .bool (bk s x.1)] 24)) (by decide) (mr.alloc _) e'.symm); have kc4 := k4.cell; have kf4 := k4.frozen)
    obtain ⟨o', c', rfl, _⟩ := own_slice hown'
    have mra := mr.alloc (.cells #[.int .i64 XA, .int .i64 (wd s x.1 : Nat), .int .i32 (rn s x.1 : Nat), .bool (bk s x.1)] 24)
    have m3a := m3.kept (World.grownBy_alloc WA (.cells #[.int .i64 XA, .int .i64 (wd s x.1 : Nat), .int .i32 (rn s x.1 : Nat), .bool (bk s x.1)] 24) none) (by simp)
    have m3b := m3a.kept hgrow (m3a.not_row (by decide) mra)
    obtain ⟨q1, q2, q3, q4⟩ := row_step (W := WA.alloc (.cells #[.int .i64 XA, .int .i64 (wd s x.1 : Nat), .int .i32 (rn s x.1 : Nat), .bool (bk s x.1)] 24)) (T := 29) (e := 24) (by decide) (m1.alloc _) mra hgrow hown'
    refine wpList_plain rfl fun K hK => ?_
    go_simp
    refine hK _ _ ?_
    clear hK K
    refine wpList_nil ?_
    have r0 := q3 _ _ _ (by decide) (by omega) (m0.alloc _)
    have r2 := q3 _ _ _ (by decide) (by omega) (m2.alloc _)
    have q0 : KeepsOthers W _ := (mk.trans (KeepsOthers.alloc _ _)).trans q1
    refine ⟨q0.from _, ⟨q0.walks, (show _ = _ from r2).trans hB2⟩, ⟨⟨⟨r0, r2⟩, ?_⟩, m3b.other (by omega) 0 _⟩, q4 _ _ (mB.alloc mB.size _) (by omega) (Nat.le_refl _) (by have := mB.size; simp; omega)⟩
    rw [HS.out, show ((pre ++ [x]).map (·.1)).length = N + 1 by rw [← hN]; simp]
    exact q2
  case done =>
    rintro D xs W hD hxs ⟨⟨⟨⟨h0, h2⟩, ⟨v, h1, hrow⟩⟩, h3⟩, hB⟩ hK
    rw [hxs] at hrow
    have hc0 := h0.cell
    have hc1 := h1.cell
    have hf1 := h1.frozen
    have ht := h3.told
    have hft := h3.frozen 4
    have hbD : b ≠ D := by omega
    have f1 : IntKind.i64.wrap ((k : Int) + (s.size : Nat)) = ((k + s.size : Nat) : Int) := by rw [IntWalk.i64_in _ (by omega)]; omega
    have nb1 : w.heap.size + 1 ≠ b := by omega
    gi_wp2
    have e1 : (k : Int) + (s.size : Int) = ((k + s.size : Nat) : Int) := by omega
    rw [e1]
    have t3 := h3.tell (k + s.size)
    have tr : (W.setCell ⟨b, 4, none⟩ (.int .i64 ((k + s.size : Nat) : Int))).ownsRow w.heap.size 24 4 v (posns s).length (pcz k s (posns s)) := hrow.kept (grownBy_setCell W b 4 _) (.inr (fun e => h3.not_row (by decide) hrow e.symm))
    have tK := (Below.heap_setCell W ⟨b, 4, none⟩ (.int .i64 ((k + s.size : Nat) : Int)) D hbD.symm).trans hK
    obtain ⟨WS, hWS⟩ : ∃ y, W.setCell ⟨b, 4, none⟩ (.int .i64 ((k + s.size : Nat) : Int)) = y := ⟨_, rfl⟩
    rw [hWS] at t3 tr tK ⊢
    have hbel := belowK_b (w := w) (Nat.le_refl _) WS D _ (.deferred none) (by omega) tK rfl rfl
    refine ⟨by simp, .inl ⟨_, _, rfl, run_takeDeferred (w := WS) tK, ?_⟩⟩
    refine ⟨v, ?_, v, rfl, row_def tr tK, ?_, t3.below hbel hbl⟩
    · simp [results, Try.f85, go_sem]
    · rw [← hWS] at hbel ⊢
      exact grown_set hB hbel
  case stop =>
    rintro D c pre W _ _ h _
    exact h.elim
theorem tell_any (s : ByteArray) (k : Nat) (hs : s.size ≤ 1048576) (hk : k ≤ 1048576) (w : World) (b : Nat) (H : ByteArray) (h : FdB w b H k) : Calls Try.prog 85 #[.pointer (some ⟨b, 0, none⟩), .string s] w (TePost k s w b H) := callsIn_wide.1 (tell_in s k hs hk w b H h)
end Go.Proofs.Ytgpnheaefagfiaa
