/- The law for a loop over runes.Pieces, and the calls that are such a loop: Count. -/
import Derived.Test.YtaogmmhkpknkmaaSeqA
import Derived.BigQuiet
import Derived.Deep.QuietTactic
namespace Go.Proofs.Ytaogmmhkpknkmaa
set_option linter.unusedVariables false
set_option linter.unusedSimpArgs false
open Go Go.RowKit Go.Shelf
set_option maxRecDepth 100000
attribute [local go_sem] Oper.semAt_some

set_option maxHeartbeats 400000 in
theorem pieces_any (s : ByteArray) (w : World) :
    Calls Try.prog 17 #[.string s] w fun e w' => e = .returned (.func (.func 19) #[] #[.pointer (some ⟨w.heap.size, 0, none⟩)]) ∧ w' = w.alloc (.cells #[.string s] 9) := by
  go_enter Try.func17, Try.ntmps17
  go_wp2
  go_ret
  exact ⟨rfl, rfl⟩

theorem pieces_stops (s : ByteArray) (hs : s.size ≤ 9223372036854775807) (B : Nat) (w : World) (hB : Boxed w B 9 (.string s)) :
    SeqStopsK Fence.wide 10 Try.prog 19 #[.pointer (some ⟨B, 0, none⟩)] (fun x : Pos s => pcA s x.1) (KpB B) (fun xs => xs.map (·.1) = posns s) (fun pre => pre.map (·.1) <+: posns s) s.size w :=
  fun l J Jx W hW hJ _ hY h0 => pieces1 l B s hs J Jx W hJ ((hW.block B hB.lt).trans hB) hY h0

/-- The cells of a piece. -/
def pcC (s : ByteArray) (i : Nat) : Array Value := #[.int .i64 i, .int .i64 (wd s i : Nat), .int .i32 (rn s i : Nat), .bool (bk s i)]

/-- A loop 'for p := range runes.Pieces(s)', p in a variable of its own in each round (slot v). -/
theorem range_pieces {g : Operand} {q : Tmp} {assign body : Code} {Q : Exit → Act → World → Prop} {a : Act} {w : World} (v : Nat) (s : ByteArray) (hs : s.size ≤ 9223372036854775807) (B : Nat)
    (hB : Boxed w B 9 (.string s)) (hg : a.eval g = .func (.func 19) #[] #[.pointer (some ⟨B, 0, none⟩)])
    (I : List (Pos s) → World → Prop) (Ix : Code → List (Pos s) → World → Prop) (hI : OwnFrom w.heap.size I) (hIx : ∀ c, OwnFrom w.heap.size (Ix c)) (h0 : I [] w)
    (hassign : ∀ (l : Nat) (x : Pos s) (W : World) (K : Act → World → Prop),
      K { tmps := (a.tmps.setIfInBounds q (.agg (pcC s x.1))).setIfInBounds v (.pointer (some ⟨W.heap.size, 0, none⟩)), defers := [] } (W.alloc (.cells (pcC s x.1) 33)) →
      assign.wpIn (Fence.wide.inRound l) 9 Try.prog (Exit.then K (fun _ _ _ => False)) { tmps := a.tmps.setIfInBounds q (.agg (pcC s x.1)), defers := [] } W)
    (hbody : ∀ (l : Nat) (pre : List (Pos s)) (x : Pos s) (Bx : Nat) (W : World), I pre W → w.heap.size ≤ Bx → W.heap[Bx]? = some (.cells (pcC s x.1) 33) → pre.length < s.size →
      body.wpIn (Fence.wide.inRound l) 9 Try.prog (ownPostG w.heap.size (KpB B) I Ix (pre ++ [x]) W) { tmps := (a.tmps.setIfInBounds q (.agg (pcC s x.1))).setIfInBounds v (.pointer (some ⟨Bx, 0, none⟩)), defers := [] } W)
    (hdone : ∀ (D : Nat) (xs : List (Pos s)) (W : World), w.heap.size ≤ D → xs.map (·.1) = posns s → I xs W → W.heap[D]? = some (.deferred (some [])) → Q .normal { a with defers := { target := .collected D, args := #[] } :: a.defers } W)
    (hstop : ∀ (D : Nat) (c : Code) (pre : List (Pos s)) (W : World), w.heap.size ≤ D → pre.map (·.1) <+: posns s → Ix c pre W → W.heap[D]? = some (.deferred (some [])) → c.wpIn Fence.wide 11 Try.prog Q { a with defers := { target := .collected D, args := #[] } :: a.defers } W) :
    (Code.rangeFunc g #[q] assign body).wpIn Fence.wide 11 Try.prog Q a w := by
  have hown : OwnFrom w.heap.size (fun (_ : List (Pos s)) W => w.heap.size ≤ W.heap.size) := fun _ _ _ _ hs hg _ => Nat.le_trans hs hg.size
  refine wpIn_rangeFunc_ownH (n := 11) rfl (by omega) (gf := 19) (lb := #[.pointer (some ⟨B, 0, none⟩)]) hg trivial (enters_of Try.func19 (by kernel_rfl) rfl)
    (pieces_stops s hs B w hB) kpB_t (kpB_b hB.lt) (Below.refl _ _) (fun _ => rfl) (fun pre W => I pre W ∧ w.heap.size ≤ W.heap.size) Ix (hI.and hown) hIx ⟨h0, Nat.le_refl _⟩
    (fun x a' W => ∃ Bx, w.heap.size ≤ Bx ∧ W.heap[Bx]? = some (.cells (pcC s x.1) 33) ∧ a' = { tmps := (a.tmps.setIfInBounds q (.agg (pcC s x.1))).setIfInBounds v (.pointer (some ⟨Bx, 0, none⟩)), defers := [] })
    (fun x a' => ?_) ?_ ?_ (fun D xs W hD hS hi => hdone D xs W hD hS hi.1) hstop
  · rintro _ W W' row ⟨Bx, h1, h2, h3⟩ hg hr
    refine ⟨Bx, h1, (hg.block Bx (Array.getElem?_eq_some_iff.1 h2).1 ?_).trans h2, h3⟩
    intro e
    obtain ⟨_, o, ho, hc⟩ := hr Bx e.symm
    rw [h2] at ho; cases ho; cases hc
  · rintro l pre x W K ⟨hi, hsz⟩ hK
    have e0 : ((#[q].zip (pcA s x.1)).foldl (fun t (p, v) => t.setIfInBounds p v) a.tmps) = a.tmps.setIfInBounds q (.agg (pcC s x.1)) := by simp [pcA, pcC]
    rw [e0]
    refine hassign l x W K (hK _ _ ((KeepsOthers.alloc _ _).from _) ⟨KeepsWalks.alloc _ _, ?_⟩ ⟨hI.alloc _ hi, by simp; omega⟩ ⟨W.heap.size, hsz, World.alloc_heap_new W _, rfl⟩)
    exact Below.heap_alloc W _ _ (Nat.lt_of_lt_of_le hB.lt hsz)
  · rintro l pre x a' W _ _ ⟨hi, hsz⟩ ⟨Bx, h1, h2, rfl⟩ hlen
    refine wpIn_mono (hbody l pre x Bx W hi h1 h2 hlen) ?_
    rintro e a3 W3 hp
    cases e with
    | normal => exact ⟨hp.1, hp.2.1, hp.2.2, Nat.le_trans hsz hp.1.size⟩
    | ret => exact hp
    | exit id => exact hp
    | goto t => exact hp
    | panic ch => exact hp
    | outgrown => exact hp

theorem pcell {s : ByteArray} {i : Nat} {W : World} {Bx : Nat} (h : W.heap[Bx]? = some (.cells (pcC s i) 33)) :
    W.cell? ⟨Bx, 0, none⟩ = some (.int .i64 i) ∧ W.cell? ⟨Bx, 1, none⟩ = some (.int .i64 (wd s i : Nat)) ∧ W.cell? ⟨Bx, 2, none⟩ = some (.int .i32 (rn s i : Nat)) ∧ W.cell? ⟨Bx, 3, none⟩ = some (.bool (bk s i)) := by
  simp [World.cell?, h, pcC]

/-- How many broken bytes there are among pieces. -/
def badN (s : ByteArray) (l : List (Pos s)) : Nat := (l.filter (fun x => bk s x.1)).length
theorem badN_snoc (s : ByteArray) (l : List (Pos s)) (x : Pos s) : badN s (l ++ [x]) = badN s l + if bk s x.1 then 1 else 0 := by
  unfold badN; rw [List.filter_append, List.length_append]
  cases h : bk s x.1 <;> simp [h]

theorem badN_le (s : ByteArray) (l : List (Pos s)) : badN s l ≤ l.length := List.length_filter_le _ _

set_option maxHeartbeats 1000000 in
theorem count_in (s : ByteArray) (hs : s.size ≤ 9223372036854775807) (w : World) :
    CallsIn Fence.wide 11 Try.prog 14 #[.string s] w fun e w' => ∃ xs : List (Pos s), xs.map (·.1) = posns s ∧ e = .returned (.tuple #[.int .i64 xs.length, .int .i64 (badN s xs : Nat)]) ∧ Below w.heap.size w w' := by
  refine callsIn_of_wp_marks Try.func14 rfl trivial ?_ rfl
  simp only [Try.ntmps14, List.size_toArray, List.length_cons, List.length_nil, Nat.reduceAdd, Nat.reduceSub, Array.replicate_succ, Array.replicate_zero, List.push_toArray, List.append_toArray, List.nil_append, List.cons_append]
  have hF : ∀ f, Fence.wide.fn f := fun _ => trivial
  gi_wp2_with (gi_at_call 17; refine (callsIn_wide.2 (pieces_any _ _)).mono ?_; rintro e w' ⟨rfl, rfl⟩)
  have b0 := ((Boxed.new w 3 (.int .i64 0)).alloc (.cells #[.int .i64 0] 3)).alloc (.cells #[.string s] 9)
  have b1 := (Boxed.new (w.alloc (.cells #[.int .i64 0] 3)) 3 (.int .i64 0)).alloc (.cells #[.string s] 9)
  have b2 := Boxed.new ((w.alloc (.cells #[.int .i64 0] 3)).alloc (.cells #[.int .i64 0] 3)) 9 (.string s)
  simp only [World.size_alloc] at b1 b2
  have hB0 : Below w.heap.size w (((w.alloc (.cells #[.int .i64 0] 3)).alloc (.cells #[.int .i64 0] 3)).alloc (.cells #[.string s] 9)) := (((Below.refl _ w).alloc (Nat.le_refl _) _).alloc (by simp) _).alloc (by simp; omega) _
  have hsz : (((w.alloc (.cells #[.int .i64 0] 3)).alloc (.cells #[.int .i64 0] 3)).alloc (.cells #[.string s] 9)).heap.size = w.heap.size + 3 := by simp
  obtain ⟨W0, hW0⟩ : ∃ W0, (((w.alloc (.cells #[.int .i64 0] 3)).alloc (.cells #[.int .i64 0] 3)).alloc (.cells #[.string s] 9)) = W0 := ⟨_, rfl⟩
  rw [hW0] at b0 b1 b2 hB0 hsz ⊢
  clear hW0
  refine range_pieces 6 s hs (w.heap.size + 1 + 1) b2 rfl
    (fun pre W => (Boxed W w.heap.size 3 (.int .i64 pre.length) ∧ Boxed W (w.heap.size + 1) 3 (.int .i64 (badN s pre : Nat))) ∧ Below w.heap.size w W)
    (fun _ _ _ => False)
    (OwnFrom.and (OwnFrom.and (Own.from (boxed_own _ _ _) _) (Own.from (boxed_own _ _ _) _)) (ownFrom_below (Nat.le_refl _) (by omega)))
    (fun _ _ _ _ _ hs _ _ => hs) ⟨⟨b0, b1⟩, hB0⟩ ?assign ?body ?done ?stop
  case assign =>
    intro l x W K hK
    simp only [pcC] at hK ⊢
    gi_wp2
    exact hK
  case body =>
    rintro l pre x Bx W ⟨⟨h0, h1⟩, hB⟩ hle hbx hlen
    rw [hsz] at hle
    have hc0 := h0.cell
    have hc1 := h1.cell
    have hf0 := h0.frozen
    have hf1 := h1.frozen
    obtain ⟨p0, p1, p2, p3⟩ := pcell hbx
    have hbl := badN_le s pre
    have hsn := badN_snoc s pre x
    simp only [pcC]
    cases hbk : bk s x.1 with
    | true =>
      rw [hbk] at p3 hsn
      have HB := Lib.hid hbk; clear hbk
      have HS := Lib.hid hsn; clear hsn
      gi_wp2
      refine ⟨((KeepsOthers.setCell _ _ _).trans (KeepsOthers.setCell _ _ _)).from _, ⟨(KeepsWalks.setCell _ _ _).trans (KeepsWalks.setCell _ _ _), ?_⟩, ⟨?_, ?_⟩, ?_⟩
      · rw [Below.heap_setCell _ _ _ _ (by dsimp only; omega), Below.heap_setCell _ _ _ _ (by dsimp only; omega)]
      · have := (h0.set (.int .i64 ((pre.length : Int) + 1))).other (B' := w.heap.size + 1) (by simp) (.int .i64 ((badN s pre : Int) + 1))
        rw [List.length_append]; push_cast; exact this
      · have := (h1.other (B' := w.heap.size) (by simp) (.int .i64 ((pre.length : Int) + 1))).set (.int .i64 ((badN s pre : Int) + 1))
        rw [HS.out]; push_cast; exact this
      · exact (hB.setCell (p := ⟨w.heap.size, 0, none⟩) (Nat.le_refl _) _).setCell (p := ⟨w.heap.size + 1, 0, none⟩) (by simp) _
    | false =>
      rw [hbk] at p3 hsn
      have HB := Lib.hid hbk; clear hbk
      have HS := Lib.hid hsn; clear hsn
      gi_wp2
      refine ⟨(KeepsOthers.setCell _ _ _).from _, ⟨KeepsWalks.setCell _ _ _, ?_⟩, ⟨?_, ?_⟩, ?_⟩
      · rw [Below.heap_setCell _ _ _ _ (by dsimp only; omega)]
      · have := h0.set (.int .i64 ((pre.length : Int) + 1))
        rw [List.length_append]; push_cast; exact this
      · rw [HS.out]; exact h1.other (B' := w.heap.size) (by simp) _
      · exact hB.setCell (p := ⟨w.heap.size, 0, none⟩) (Nat.le_refl _) _
  case done =>
    rintro D xs W hD hxs ⟨⟨h0, h1⟩, hB⟩ hK
    have hc0 := h0.cell
    have hc1 := h1.cell
    gi_wp2
    gi_region
    gi_wp2
    refine ⟨by simp, .inl ⟨_, _, rfl, run_takeDeferred (w := W.drew) hK, ?_⟩⟩
    refine ⟨.tuple #[.int .i64 xs.length, .int .i64 (badN s xs : Nat)], ?_, xs, hxs, rfl, (hB.trans (Below.refl _ _).drew).trans (belowK_b (w := w) (Nat.le_refl _) W.drew D _ _ (by omega) hK rfl rfl)⟩
    simp [results, Try.f14, go_sem]
  case stop =>
    rintro D c pre W _ _ h _
    exact h.elim
end Go.Proofs.Ytaogmmhkpknkmaa
