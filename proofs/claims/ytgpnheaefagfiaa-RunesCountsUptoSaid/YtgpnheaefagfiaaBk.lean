/- What Broken answers: the program's and the document's. -/
import Derived.Test.YtgpnheaefagfiaaMd
import Derived.Test.YtgpnheaefagfiaaEnds
namespace Go.Proofs.Ytgpnheaefagfiaa
set_option linter.unusedVariables false
set_option linter.unusedSimpArgs false
open Go Go.RowKit Go.Shelf
set_option maxRecDepth 100000
attribute [local go_sem] Oper.semAt_some

/-- The broken ones of places. -/
def brL (s : ByteArray) (l : List Nat) : List Nat := l.filter (fun i => bk s i)
theorem brL_t {s : ByteArray} {l : List Nat} {i : Nat} (h : bk s i = true) : brL s (l ++ [i]) = brL s l ++ [i] := by simp [brL, List.filter_append, h]
theorem brL_f {s : ByteArray} {l : List Nat} {i : Nat} (h : bk s i = false) : brL s (l ++ [i]) = brL s l := by simp [brL, List.filter_append, h]
theorem brL_le (s : ByteArray) (l : List Nat) : (brL s l).length ≤ l.length := List.length_filter_le _ _

/-- A row behind what a range leaves to be called. -/
theorem row_deferred {W : World} {base n sz D : Nat} {e : TypeId} {v : Value} {xs : List Value} (h : W.ownsRow base e sz v n xs) (hD : W.heap[D]? = some (.deferred (some []))) : (W.putObj D (.deferred none)).ownsRow base e sz v n xs := by
  refine h.kept (grownBy_putObj' W D (.deferred none)) (.inr (fun e' => ?_))
  rcases h.2 with ⟨rfl, _⟩ | ⟨g, cap, cur, rfl, _, hgb, _⟩
  · cases e'
  · obtain rfl : g = D := by simpa [Value.ownBlock] using e'
    rw [hD] at hgb; cases hgb

def BkI (s : ByteArray) (w : World) (pre : List (Pos s)) (W : World) : Prop :=
  (BoxRow W w.heap.size 39 w.heap.size 3 1 (brL s (pre.map (·.1))).length (ints (brL s (pre.map (·.1)))) ∧ Boxed W (w.heap.size + 1) 9 (.string s)) ∧ Below w.heap.size w W

def BkPost (s : ByteArray) (w : World) (e : Ending) (w' : World) : Prop :=
  ∃ v, e = .returned v ∧ w'.ownsRow w.heap.size 3 1 v (brL s (posns s)).length (ints (brL s (posns s))) ∧ Below w.heap.size w w'

set_option maxHeartbeats 1000000 in
theorem brokenL_in (s : ByteArray) (hs : s.size ≤ 1048576) (w : World) : CallsIn Fence.wide 11 Try.prog 26 #[.string s] w (BkPost s w) := by
  obtain ⟨i0, hi, hz0, hz1, hz2⟩ := info_parts infoI
  refine callsIn_of_wp_marks Try.func26 rfl trivial ?_ rfl
  simp only [Try.ntmps26, List.size_toArray, List.length_cons, List.length_nil, Nat.reduceAdd, Nat.reduceSub, Array.replicate_succ, Array.replicate_zero, List.push_toArray, List.append_toArray, List.nil_append, List.cons_append]
  have hF : ∀ f, Fence.wide.fn f := fun _ => trivial
  gi_wp2_with (gi_at_call 20; refine (callsIn_wide.2 (pieces_any _ _)).mono ?_; rintro e w' ⟨rfl, rfl⟩)
  have b0 := (Boxed.new w 39 (.slice none 0 0)).alloc (.cells #[.string s] 9)
  have b1 := Boxed.new (w.alloc (.cells #[.slice none 0 0] 39)) 9 (.string s)
  simp only [World.size_alloc] at b1
  have hB0 : Below w.heap.size w ((w.alloc (.cells #[.slice none 0 0] 39)).alloc (.cells #[.string s] 9)) := ((Below.refl _ w).alloc (Nat.le_refl _) _).alloc (by simp) _
  have hsz : ((w.alloc (.cells #[.slice none 0 0] 39)).alloc (.cells #[.string s] 9)).heap.size = w.heap.size + 2 := by simp
  obtain ⟨W0, hW0⟩ : ∃ W0, ((w.alloc (.cells #[.slice none 0 0] 39)).alloc (.cells #[.string s] 9)) = W0 := ⟨_, rfl⟩
  rw [hW0] at b0 b1 hB0 hsz ⊢
  clear hW0
  refine range_pieces 4 s (by omega) (w.heap.size + 1) b1 rfl
    (BkI s w)
    (fun _ _ _ => False)
    (OwnFrom.and (OwnFrom.and (Own.from (boxRow_own _ _ _ _ _ _ _) _) (Own.from (boxed_own _ _ _) _)) (ownFrom_below (Nat.le_refl _) (by omega)))
    (fun _ _ _ _ _ hs _ _ => hs) ⟨⟨⟨_, b0, World.ownsRow_nil _ _ _ _⟩, b1⟩, hB0⟩ ?assign ?body ?done ?stop
  case assign =>
    intro l x W K hK
    simp only [pcC] at hK ⊢
    gi_wp2
    exact hK
  case body =>
    rintro l pre x Bx W ⟨⟨⟨v, h0, hrow⟩, h1⟩, hB⟩ hle hbx hlen
    rw [hsz] at hle
    have hc0 := h0.cell
    have hf0 := h0.frozen
    have l0 : w.heap.size < W.heap.size := Blk.lt (show Blk _ _ _ _ from h0)
    obtain ⟨p0, p1, p2, p3⟩ := pcell hbx
    have hbl := brL_le s (pre.map (·.1))
    rw [List.length_map] at hbl
    simp only [pcC]
    cases hbk : bk s x.1 with
    | true =>
      rw [hbk] at p3
      have HB := Lib.hid hbk; clear hbk
      gi_wp2_with (gi_at_builtin; refine round_list (noOut (fun _ _ h => h)) _ _ _ (by kernel_rfl) ?_; refine wpList_append_own _ rfl _ _ 39 rfl w.heap.size 3 i0 (.int .i64 0) 1 8 Try.underlying39 hi hz0 hz1 hz2 rfl (by decide) _ _ _ rfl (hrow.alloc _) ⟨W.heap.size, 0, none⟩ 1 1 [.int .i64 x.1] rfl rfl (World.news_of_block (cs := #[.int .i64 x.1]) (t := 3) (fr := (0, 0)) (World.alloc_heap_new W _)) (fun x hx => by simp at hx; subst hx; rfl) (by unfold maxLen; omega) (by omega) (by have := hB.size; simp; omega) ?_; intro v' w2 hown' hgrow _; have k4 := (h0.alloc (.cells #[.int .i64 x.1] 3)).kept hgrow (fun e' => boxed_not_row (h0.alloc (.cells #[.int .i64 x.1] 3)) (by decide) (hrow.alloc _) e'.symm); have kc4 := k4.cell; have kf4 := k4.frozen)
      obtain ⟨o', c', rfl, _⟩ := own_slice hown'
      obtain ⟨q1, q2, q3, q4⟩ := row_step (W := W.alloc (.cells #[.int .i64 x.1] 3)) (T := 39) (e := 3) (by decide) (h0.alloc _) (hrow.alloc _) hgrow hown'
      refine wpList_plain rfl fun K hK => ?_
      go_simp
      refine hK _ _ ?_
      clear hK K
      refine wpList_nil ?_
      have r1 := q3 _ _ _ (by decide) (by omega) (h1.alloc _)
      have q0 : KeepsOthers W _ := (KeepsOthers.alloc _ _).trans q1
      refine ⟨q0.from _, ⟨q0.walks, (show _ = _ from r1).trans (show _ = _ from h1).symm⟩, ⟨?_, r1⟩, q4 _ _ (hB.alloc hB.size _) (Nat.le_refl _) (Nat.le_refl _) (by have := hB.size; simp; omega)⟩
      rw [List.map_append, List.map_singleton, brL_t HB.out, ints_snoc, List.length_append]
      exact q2
    | false =>
      rw [hbk] at p3
      have HB := Lib.hid hbk; clear hbk
      gi_wp2
      refine ⟨(KeepsOthers.refl _).from _, ⟨KeepsWalks.refl _, rfl⟩, ⟨⟨v, ?_, ?_⟩, h1⟩, hB⟩
      · exact h0
      · rw [List.map_append, List.map_singleton, brL_f HB.out]; exact hrow
  case done =>
    rintro D xs W hD hxs ⟨⟨⟨v, h0, hrow⟩, h1⟩, hB⟩ hK
    rw [hxs] at hrow
    have hc0 := h0.cell
    gi_wp2
    refine ⟨by simp, .inl ⟨_, _, rfl, run_takeDeferred (w := W) hK, ?_⟩⟩
    refine ⟨v, ?_, v, rfl, row_deferred hrow hK, hB.trans (belowK_b (w := w) (Nat.le_refl _) W D _ _ (by omega) hK rfl rfl)⟩
    simp [results, Try.f26, go_sem]
  case stop =>
    rintro D c pre W _ _ h _
    exact h.elim
theorem brokenL_any (s : ByteArray) (hs : s.size ≤ 1048576) (w : World) : Calls Try.prog 26 #[.string s] w (BkPost s w) := callsIn_wide.1 (brokenL_in s hs w)

/-- Rel of the document's loop. -/
def BrRel (s : ByteArray) (w : World) (b0 : Nat) (pv : Value) (l i : Value) (wr : World) : Prop :=
  ∃ k : Nat, i = .int .i64 k ∧ k ≤ (posns s).length ∧ wr.ownsRow w.heap.size 3 1 l (brL s ((posns s).take k)).length (ints (brL s ((posns s).take k))) ∧ wr.ownsRow b0 24 4 pv (posns s).length (pcs s (posns s)) ∧ Below w.heap.size w wr

theorem take_next {l : List Nat} {k p : Nat} (h : l[k]? = some p) : l.take (k + 1) = l.take k ++ [p] := by
  rw [List.take_add_one, h]; rfl

set_option maxHeartbeats 1000000 in
theorem brokenR_any (s : ByteArray) (hs : s.size ≤ 1048576) (w : World) : Calls Try.prog 23 #[.string s] w (BkPost s w) := by
  obtain ⟨i0, hi, hz0, hz1, hz2⟩ := info_parts infoI
  have hpl := posns_len s
  have cP := piecesR_any s hs
  go_enter Try.func23, Try.ntmps23
  go_wp2_with (first | (go_at_call 19; refine (cP _).mono ?_; rintro e w1 ⟨pv, rfl, hown, hb1⟩; obtain ⟨o, cap, rfl, ho⟩ := own_slice hown))
  obtain ⟨n, hn⟩ : ∃ n, (posns s).length = n := ⟨_, rfl⟩
  have HN := Lib.hid hn
  rw [hn] at hown
  simp only [hn] at hpl ho ⊢
  clear hn
  go_loopw [3, 9] (fun l i wr => BrRel s w w.heap.size (.slice o n cap) l i wr) (fun _ i _ => n - (intOf i).toNat)
  case atStart => exact ⟨0, rfl, Nat.zero_le _, by simpa [brL, ints] using World.ownsRow_nil _ _ _ _, by rw [HN.out]; exact hown, hb1⟩
  case round =>
    clear hown hb1
    obtain ⟨k, rfl, hk, hv, hp, hB⟩ := hrel
    rw [HN.out] at hk hp
    by_cases hlt : k < n
    · obtain ⟨g, rfl⟩ := ho (by omega)
      obtain ⟨p, hpk⟩ : ∃ p, (posns s)[k]? = some p := ⟨_, List.getElem?_eq_getElem (by rw [HN.out]; exact hlt)⟩
      obtain ⟨c0, c1, c2, c3⟩ := nth_cells hp HN.out k hlt p hpk
      have hlti : (k : Int) < (n : Int) := by omega
      have htk := take_next hpk
      have hbl := brL_le s ((posns s).take k)
      rw [List.length_take] at hbl
      cases hbk : bk s p with
      | true =>
        have hbt : brL s ((posns s).take (k + 1)) = brL s ((posns s).take k) ++ [p] := by rw [htk, brL_t hbk]
        have HT := Lib.hid hbt
        rw [hbk] at c3
        clear hbk htk hbt hpk
        go_wp2_with (at_builtin; refine wpList_append_own _ rfl _ _ 39 rfl w.heap.size 3 i0 (.int .i64 0) 1 8 Try.underlying39 hi hz0 hz1 hz2 rfl (by decide) _ _ _ rfl ((hv.alloc _).alloc _) ⟨wr.heap.size + 1, 0, none⟩ 1 1 [.int .i64 p] rfl rfl (World.news_of_block (cs := #[.int .i64 p]) (t := 3) (fr := (0, 0)) (by have := World.alloc_heap_new (wr.alloc (.cells #[.int .i64 p, .int .i64 (wd s p : Nat), .int .i32 (rn s p : Nat), .bool true] 24)) (.cells #[.int .i64 p] 3); rwa [World.size_alloc] at this)) (fun x hx => by simp at hx; subst hx; rfl) (by unfold maxLen; omega) (by omega) (by have := hB.size; simp; omega) ?_; intro v' w2 hown' hgrow _)
        go_roundw
        case rel =>
          have hB2 := (hB.alloc hB.size (.cells #[.int .i64 p, .int .i64 (wd s p : Nat), .int .i32 (rn s p : Nat), .bool true] 24)).alloc (by have := hB.size; simp; omega) (.cells #[.int .i64 p] 3)
          refine ⟨k + 1, by go_num, by rw [HN.out]; omega, by rw [HT.out, List.length_append, ints_snoc]; exact hown', ?_, hB2.grown hgrow (by have := hB.size; simp; omega) (fun j hj => (hv.lt j hj).1)⟩
          rw [HN.out]
          refine ((hp.alloc _).alloc _).kept hgrow ?_
          rcases rows_apart hp hv (by decide) with e | e
          · exact .inl e
          · exact .inr e
        case measure => simp [intOf]; omega
      | false =>
        have hbt : brL s ((posns s).take (k + 1)) = brL s ((posns s).take k) := by rw [htk, brL_f hbk]
        have HT := Lib.hid hbt
        rw [hbk] at c3
        clear hbk htk hbt hpk
        go_wp2
        go_roundw
        case rel => exact ⟨k + 1, by go_num, by rw [HN.out]; omega, by rw [HT.out]; exact hv.alloc _, by rw [HN.out]; exact hp.alloc _, hB.alloc hB.size _⟩
        case measure => simp [intOf]; omega
    · have hkn : k = n := by omega
      subst hkn
      go_wp2
      go_ret
      rw [List.take_of_length_le (by rw [HN.out]; exact Nat.le_refl _)] at hv
      exact ⟨_, rfl, hv, hB⟩
end Go.Proofs.Ytgpnheaefagfiaa
