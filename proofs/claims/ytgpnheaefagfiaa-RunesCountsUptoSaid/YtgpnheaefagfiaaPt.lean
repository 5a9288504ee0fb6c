/- What Parts answers: the program's. -/
import Derived.Test.YtgpnheaefagfiaaPi
import Derived.Test.YtgpnheaefagfiaaWh
import Derived.Laws.OwnMore
namespace Go.Proofs.Ytgpnheaefagfiaa
set_option linter.unusedVariables false
set_option linter.unusedSimpArgs false
open Go Go.RowKit Go.Shelf
set_option maxRecDepth 100000
attribute [local go_sem] Oper.semAt_some

theorem infoPt : (Try.prog.info? 51).map (fun i => (i.zero, i.size, i.bytes)) = some (some (.agg #[.int .i64 0, .int .i64 0, .bool false]), 3, 24) := by kernel_rfl

/-- One piece more among parts. -/
def adP (l : List (Nat × Nat × Bool)) (f t : Nat) (b : Bool) : List (Nat × Nat × Bool) :=
  match l.getLast? with
  | some x => if x.2.2 = b then l.dropLast ++ [(x.1, t, b)] else l ++ [(f, t, b)]
  | none => [(f, t, b)]
theorem adP_nil (f t : Nat) (b : Bool) : adP [] f t b = [(f, t, b)] := rfl
theorem adP_yes (l : List (Nat × Nat × Bool)) (f0 t0 f t : Nat) (b : Bool) : adP (l ++ [(f0, t0, b)]) f t b = l ++ [(f0, t, b)] := by simp [adP]
theorem adP_no (l : List (Nat × Nat × Bool)) (f0 t0 f t : Nat) (b0 b : Bool) (h : b0 ≠ b) : adP (l ++ [(f0, t0, b0)]) f t b = l ++ [(f0, t0, b0)] ++ [(f, t, b)] := by simp [adP, h]
theorem adP_len (l : List (Nat × Nat × Bool)) (f t : Nat) (b : Bool) : (adP l f t b).length ≤ l.length + 1 := by
  rcases List.eq_nil_or_concat l with rfl | ⟨q, ⟨f0, t0, b0⟩, e⟩
  · simp [adP_nil]
  · rw [List.concat_eq_append] at e
    subst e
    by_cases h : b0 = b
    · subst h; rw [adP_yes]; simp
    · rw [adP_no _ _ _ _ _ _ _ h]; simp
/-- The parts of pieces. -/
def prL (s : ByteArray) (l : List Nat) : List (Nat × Nat × Bool) := l.foldl (fun a i => adP a i (i + wd s i) (bk s i)) []
theorem prL_snoc (s : ByteArray) (l : List Nat) (i : Nat) : prL s (l ++ [i]) = adP (prL s l) i (i + wd s i) (bk s i) := by simp [prL, List.foldl_append]
theorem prL_len (s : ByteArray) (l : List Nat) : (prL s l).length ≤ l.length := by
  rcases List.eq_nil_or_concat l with rfl | ⟨q, x, e⟩
  · simp [prL]
  · rw [List.concat_eq_append] at e
    subst e
    have ih := prL_len s q
    have := adP_len (prL s q) x (x + wd s x) (bk s x)
    rw [prL_snoc, List.length_append, List.length_singleton]; omega
termination_by l.length
decreasing_by subst_vars; simp
theorem pts_set (l : List (Nat × Nat × Bool)) (f0 t0 t : Nat) (b : Bool) : (pts (l ++ [(f0, t0, b)])).set (l.length * 3 + 1) (.int .i64 (t : Nat)) = pts (l ++ [(f0, t, b)]) := by
  rw [pts_snoc, pts_snoc, ← pts_len l, List.set_append, if_neg (by omega)]
  simp

def PtI (s : ByteArray) (w : World) (pre : List (Pos s)) (W : World) : Prop :=
  (BoxRow W w.heap.size 44 w.heap.size 51 3 (prL s (pre.map (·.1))).length (pts (prL s (pre.map (·.1)))) ∧ Boxed W (w.heap.size + 1) 9 (.string s)) ∧ Below w.heap.size w W
def PtPost (s : ByteArray) (w : World) (e : Ending) (w' : World) : Prop :=
  ∃ v, e = .returned v ∧ w'.ownsRow w.heap.size 51 3 v (prL s (posns s)).length (pts (prL s (posns s))) ∧ Below w.heap.size w w'

set_option maxHeartbeats 2000000 in
theorem partsL_in (s : ByteArray) (hs : s.size ≤ 1048576) (w : World) : CallsIn Fence.wide 11 Try.prog 27 #[.string s] w (PtPost s w) := by
  obtain ⟨i0, hi, hz0, hz1, hz2⟩ := info_parts infoPt
  refine callsIn_of_wp_marks Try.func27 rfl trivial ?_ rfl
  simp only [Try.ntmps27, List.size_toArray, List.length_cons, List.length_nil, Nat.reduceAdd, Nat.reduceSub, Array.replicate_succ, Array.replicate_zero, List.push_toArray, List.append_toArray, List.nil_append, List.cons_append]
  have hF : ∀ f, Fence.wide.fn f := fun _ => trivial
  gi_wp2_with (gi_at_call 20; refine (callsIn_wide.2 (pieces_any _ _)).mono ?_; rintro e w' ⟨rfl, rfl⟩)
  have b0 := (Boxed.new w 44 (.slice none 0 0)).alloc (.cells #[.string s] 9)
  have b1 := Boxed.new (w.alloc (.cells #[.slice none 0 0] 44)) 9 (.string s)
  simp only [World.size_alloc] at b1
  have hB0 : Below w.heap.size w ((w.alloc (.cells #[.slice none 0 0] 44)).alloc (.cells #[.string s] 9)) := ((Below.refl _ w).alloc (Nat.le_refl _) _).alloc (by simp) _
  have hsz : ((w.alloc (.cells #[.slice none 0 0] 44)).alloc (.cells #[.string s] 9)).heap.size = w.heap.size + 2 := by simp
  obtain ⟨W0, hW0⟩ : ∃ W0, ((w.alloc (.cells #[.slice none 0 0] 44)).alloc (.cells #[.string s] 9)) = W0 := ⟨_, rfl⟩
  rw [hW0] at b0 b1 hB0 hsz ⊢
  clear hW0
  refine range_pieces 4 s (by omega) (w.heap.size + 1) b1 rfl (PtI s w)
    (fun _ _ _ => False)
    (OwnFrom.and (OwnFrom.and (Own.from (boxRow_own _ _ _ _ _ _ _) _) (Own.from (boxed_own _ _ _) _)) (ownFrom_below (Nat.le_refl _) (by omega)))
    (fun _ _ _ _ _ hs _ _ => hs) ⟨⟨⟨_, b0, World.ownsRow_nil _ _ _ _⟩, b1⟩, hB0⟩ ?assign ?body ?done ?stop
  case assign =>
    intro l x W K hK
    simp only [pcC] at hK ⊢
    gi_wp2
    exact hK
  case body =>
    rintro l pre x Bx W ⟨⟨⟨v, h0, hrow⟩, h1⟩, hB⟩ hle hbx hlen
    rw [hsz] at hle
    have hc0 := h0.cell
    have hf0 := h0.frozen
    have l0 : w.heap.size < W.heap.size := Blk.lt (show Blk _ _ _ _ from h0)
    have hx4 := wd_le s x.1
    have hx1 := wd_pos s x.1
    have hxf := wd_fits s x.1 x.2
    obtain ⟨p0, p1, p2, p3⟩ := pcell hbx
    have hbl := prL_len s (pre.map (·.1))
    rw [List.length_map] at hbl
    have hsn : prL s ((pre ++ [x]).map (·.1)) = adP (prL s (pre.map (·.1))) x.1 (x.1 + wd s x.1) (bk s x.1) := by rw [List.map_append, List.map_singleton, prL_snoc]
    have HS := Lib.hid hsn
    clear hsn
    obtain ⟨E, hE⟩ : ∃ E, x.1 + wd s x.1 = E := ⟨_, rfl⟩
    have hEi : (x.1 : Int) + (wd s x.1 : Nat) = (E : Int) := by omega
    have hEs : E ≤ s.size := by omega
    rw [hE] at HS
    have fE : IntKind.i64.wrap (E : Int) = (E : Int) := IntWalk.i64_in _ (by omega)
    obtain ⟨A, hA⟩ : ∃ A, prL s (pre.map (·.1)) = A := ⟨_, rfl⟩
    rw [hA] at HS hrow hbl
    clear hA hE
    simp only [pcC]
    obtain ⟨N, hN⟩ : ∃ N, A.length = N := ⟨_, rfl⟩
    rw [hN] at hrow hbl
    obtain ⟨o, cap, rfl, ho⟩ := own_slice hrow
    rcases List.eq_nil_or_concat A with rfl | ⟨q, ⟨f0, t0, c0⟩, e⟩
    · rw [adP_nil] at HS
      obtain rfl : N = 0 := hN.symm
      gi_wp2
      refine round_quiet (by kernel_rfl) (by kernel_rfl) (by kernel_rfl) (noOut_then (fun _ _ h => h)) ?_
      repeat (go_big_quiet_step (fail))
      refine wpQuiet_nil ?_
      intro _ hw'
      obtain ⟨nq, hw''⟩ := hw'
      subst hw''
      obtain ⟨WA, hWA⟩ : ∃ WA, W.drewN nq = WA := ⟨_, rfl⟩
      have m0 : Boxed WA w.heap.size 44 (.slice o 0 cap) := by rw [← hWA]; exact h0
      have m1 : Boxed WA (w.heap.size + 1) 9 (.string s) := by rw [← hWA]; exact h1
      have mr : WA.ownsRow w.heap.size 51 3 (.slice o 0 cap) 0 (pts []) := by rw [← hWA]; exact hrow
      have mb : WA.heap[Bx]? = some (.cells (pcC s x.1) 24) := by rw [← hWA]; exact hbx
      have mB : Below w.heap.size w WA := by rw [← hWA]; exact hB.trans ⟨rfl, rfl, rfl, Nat.le_refl _, fun _ _ => rfl⟩
      have mk : KeepsOthers W WA := by rw [← hWA]; exact ⟨Nat.le_refl _, fun _ _ h _ => h⟩
      obtain ⟨p0, p1, p2, p3⟩ := pcell mb
      have mc0 := m0.cell
      have mf0 := m0.frozen
      rw [hWA]
      clear hWA hc0 hf0
      gi_wp2_with (gi_at_builtin; refine round_list (noOut (fun _ _ h => h)) _ _ _ (by kernel_rfl) ?_; refine wpList_append_own _ rfl _ _ 44 rfl w.heap.size 51 i0 (.agg #[.int .i64 0, .int .i64 0, .bool false]) 3 24 Try.underlying44 hi hz0 hz1 hz2 rfl (by decide) _ _ _ rfl (mr.alloc _) ⟨WA.heap.size, 0, none⟩ 1 1 [.int .i64 x.1, .int .i64 E, .bool (bk s x.1)] rfl rfl (World.news_of_block (cs := #[.int .i64 x.1, .int .i64 E, .bool (bk s x.1)]) (t := 51) (fr := (0, 0)) (World.alloc_heap_new WA _)) (fun x hx => by simp at hx; rcases hx with rfl | rfl | rfl <;> rfl) (by unfold maxLen; omega) (by omega) (by have := mB.size; simp; omega) ?_; intro v' w2 hown' hgrow _; have k4 := (m0.alloc (.cells #[.int .i64 x.1, .int .i64 E, .bool (bk s x.1)] 51)).kept hgrow (fun e' => boxed_not_row (m0.alloc (.cells #[.int .i64 x.1, .int .i64 E, .bool (bk s x.1)] 51)) (by decide) (mr.alloc _) e'.symm); have kc4 := k4.cell; have kf4 := k4.frozen)
      obtain ⟨o', c', rfl, _⟩ := own_slice hown'
      obtain ⟨q1, q2, q3, q4⟩ := row_step (W := WA.alloc (.cells #[.int .i64 x.1, .int .i64 E, .bool (bk s x.1)] 51)) (T := 44) (e := 51) (by decide) (m0.alloc _) (mr.alloc _) hgrow hown'
      refine wpList_plain rfl fun K hK => ?_
      go_simp
      refine hK _ _ ?_
      clear hK K
      refine wpList_nil ?_
      have r1 := q3 _ _ _ (by decide) (by omega) (m1.alloc _)
      have q0 : KeepsOthers W _ := (mk.trans (KeepsOthers.alloc _ _)).trans q1
      refine ⟨q0.from _, ⟨q0.walks, (show _ = _ from r1).trans (show _ = _ from h1).symm⟩, ⟨?_, r1⟩, q4 _ _ (mB.alloc mB.size _) (Nat.le_refl _) (Nat.le_refl _) (by have := mB.size; simp; omega)⟩
      rw [HS.out]
      exact q2
    · rw [List.concat_eq_append] at e
      subst e
      obtain ⟨m, hm⟩ : ∃ m, q.length = m := ⟨_, rfl⟩
      obtain rfl : N = m + 1 := by rw [← hN, List.length_append, hm]; rfl
      obtain ⟨g, rfl⟩ := ho (by omega)
      obtain ⟨z0, z1, z2⟩ := nth_pt hrow hN m (by omega) f0 t0 c0 (by rw [List.getElem?_append_right (by omega), hm]; simp)
      have hmb : m + 1 ≤ 9223372036854775807 := by omega
      have hmj : ((m + 1 : Nat) : Int) - 1 = (m : Int) := by omega
      have hmi : (m : Int) < ((m + 1 : Nat) : Int) := by omega
      by_cases hb : c0 = bk s x.1
      · subst hb
        rw [adP_yes] at HS
        gi_wp2
        refine round_quiet (by kernel_rfl) (by kernel_rfl) (by kernel_rfl) (noOut_then (fun _ _ h => h)) ?_
        repeat (go_big_quiet_step (fail))
        refine wpQuiet_nil ?_
        intro _ hw'
        obtain ⟨nq, hw''⟩ := hw'
        subst hw''
        obtain ⟨WA, hWA⟩ : ∃ WA, W.drewN nq = WA := ⟨_, rfl⟩
        have m0 : Boxed WA w.heap.size 44 (.slice (some ⟨g, 0, none⟩) (m + 1) cap) := by rw [← hWA]; exact h0
        have m1 : Boxed WA (w.heap.size + 1) 9 (.string s) := by rw [← hWA]; exact h1
        have mr : WA.ownsRow w.heap.size 51 3 (.slice (some ⟨g, 0, none⟩) (m + 1) cap) (m + 1) (pts (q ++ [(f0, t0, bk s x.1)])) := by rw [← hWA]; exact hrow
        have mb : WA.heap[Bx]? = some (.cells (pcC s x.1) 24) := by rw [← hWA]; exact hbx
        have mB : Below w.heap.size w WA := by rw [← hWA]; exact hB.trans ⟨rfl, rfl, rfl, Nat.le_refl _, fun _ _ => rfl⟩
        have mk : KeepsOthers W WA := by rw [← hWA]; exact ⟨Nat.le_refl _, fun _ _ h _ => h⟩
        obtain ⟨p0, p1, p2, p3⟩ := pcell mb
        have mc0 := m0.cell
        have mf0 := m0.frozen
        rw [hWA]
        clear hWA hc0 hf0
        obtain ⟨y0, y1, y2⟩ := nth_pt mr hN m (by omega) f0 t0 (bk s x.1) (by rw [List.getElem?_append_right (by omega), hm]; simp)
        have yf := mr.frozenAt (m * 3 + 1)
        have hg0 : w.heap.size ≤ g := (mr.lt g rfl).1
        have hgne : g ≠ w.heap.size := fun e => boxed_not_row m0 (by decide) mr (by rw [← e]; rfl)
        have hgne1 : g ≠ w.heap.size + 1 := fun e => boxed_not_row m1 (by decide) mr (by rw [← e]; rfl)
        obtain ⟨st, sg⟩ := mr.stored (m * 3 + 1) (.int .i64 E)
        rw [← hm, pts_set, hm] at st
        have m0' := Blk.other (show Blk WA _ _ _ from m0) (fun e => hgne e.symm) (m * 3 + 1) (.int .i64 E)
        have m1' := Blk.other (show Blk WA _ _ _ from m1) (fun e => hgne1 e.symm) (m * 3 + 1) (.int .i64 E)
        gi_wp2
        refine ⟨(mk.trans (KeepsOthers.setCell _ _ _)).from _, ⟨(mk.trans (KeepsOthers.setCell _ _ _)).walks, (show _ = _ from m1').trans (show _ = _ from h1).symm⟩, ⟨⟨_, m0', ?_⟩, m1'⟩, mB.setCell (p := ⟨g, m * 3 + 1, none⟩) hg0 _⟩
        rw [HS.out, List.length_append, hm]
        exact st
      · have hbb : (c0 == bk s x.1) = false := by simpa using hb
        rw [adP_no _ _ _ _ _ _ _ hb] at HS
        gi_wp2
        refine round_quiet (by kernel_rfl) (by kernel_rfl) (by kernel_rfl) (noOut_then (fun _ _ h => h)) ?_
        repeat (go_big_quiet_step (fail))
        refine wpQuiet_nil ?_
        intro _ hw'
        obtain ⟨nq, hw''⟩ := hw'
        subst hw''
        obtain ⟨WA, hWA⟩ : ∃ WA, W.drewN nq = WA := ⟨_, rfl⟩
        have m0 : Boxed WA w.heap.size 44 (.slice (some ⟨g, 0, none⟩) (m + 1) cap) := by rw [← hWA]; exact h0
        have m1 : Boxed WA (w.heap.size + 1) 9 (.string s) := by rw [← hWA]; exact h1
        have mr : WA.ownsRow w.heap.size 51 3 (.slice (some ⟨g, 0, none⟩) (m + 1) cap) (m + 1) (pts (q ++ [(f0, t0, c0)])) := by rw [← hWA]; exact hrow
        have mb : WA.heap[Bx]? = some (.cells (pcC s x.1) 24) := by rw [← hWA]; exact hbx
        have mB : Below w.heap.size w WA := by rw [← hWA]; exact hB.trans ⟨rfl, rfl, rfl, Nat.le_refl _, fun _ _ => rfl⟩
        have mk : KeepsOthers W WA := by rw [← hWA]; exact ⟨Nat.le_refl _, fun _ _ h _ => h⟩
        obtain ⟨p0, p1, p2, p3⟩ := pcell mb
        have mc0 := m0.cell
        have mf0 := m0.frozen
        rw [hWA]
        clear hWA hc0 hf0
        gi_wp2_with (gi_at_builtin; refine round_list (noOut (fun _ _ h => h)) _ _ _ (by kernel_rfl) ?_; refine wpList_append_own _ rfl _ _ 44 rfl w.heap.size 51 i0 (.agg #[.int .i64 0, .int .i64 0, .bool false]) 3 24 Try.underlying44 hi hz0 hz1 hz2 rfl (by decide) _ _ _ rfl (mr.alloc _) ⟨WA.heap.size, 0, none⟩ 1 1 [.int .i64 x.1, .int .i64 E, .bool (bk s x.1)] rfl rfl (World.news_of_block (cs := #[.int .i64 x.1, .int .i64 E, .bool (bk s x.1)]) (t := 51) (fr := (0, 0)) (World.alloc_heap_new WA _)) (fun x hx => by simp at hx; rcases hx with rfl | rfl | rfl <;> rfl) (by unfold maxLen; omega) (by omega) (by have := mB.size; simp; omega) ?_; intro v' w2 hown' hgrow _; have k4 := (m0.alloc (.cells #[.int .i64 x.1, .int .i64 E, .bool (bk s x.1)] 51)).kept hgrow (fun e' => boxed_not_row (m0.alloc (.cells #[.int .i64 x.1, .int .i64 E, .bool (bk s x.1)] 51)) (by decide) (mr.alloc _) e'.symm); have kc4 := k4.cell; have kf4 := k4.frozen)
        obtain ⟨o', c', rfl, _⟩ := own_slice hown'
        obtain ⟨q1, q2, q3, q4⟩ := row_step (W := WA.alloc (.cells #[.int .i64 x.1, .int .i64 E, .bool (bk s x.1)] 51)) (T := 44) (e := 51) (by decide) (m0.alloc _) (mr.alloc _) hgrow hown'
        refine wpList_plain rfl fun K hK => ?_
        go_simp
        refine hK _ _ ?_
        clear hK K
        refine wpList_nil ?_
        have r1 := q3 _ _ _ (by decide) (by omega) (m1.alloc _)
        have q0 : KeepsOthers W _ := (mk.trans (KeepsOthers.alloc _ _)).trans q1
        refine ⟨q0.from _, ⟨q0.walks, (show _ = _ from r1).trans (show _ = _ from h1).symm⟩, ⟨?_, r1⟩, q4 _ _ (mB.alloc mB.size _) (Nat.le_refl _) (Nat.le_refl _) (by have := mB.size; simp; omega)⟩
        rw [HS.out, List.length_append, hN, pts_snoc]
        exact q2
  case done =>
    rintro D xs W hD hxs ⟨⟨⟨v, h0, hrow⟩, h1⟩, hB⟩ hK
    rw [hxs] at hrow
    have hc0 := h0.cell
    gi_wp2
    refine ⟨by simp, .inl ⟨_, _, rfl, run_takeDeferred (w := W) hK, ?_⟩⟩
    refine ⟨v, ?_, v, rfl, row_deferred hrow hK, hB.trans (belowK_b (w := w) (Nat.le_refl _) W D _ _ (by omega) hK rfl rfl)⟩
    simp [results, Try.f27, go_sem]
  case stop =>
    rintro D c pre W _ _ h _
    exact h.elim
theorem partsL_any (s : ByteArray) (hs : s.size ≤ 1048576) (w : World) : Calls Try.prog 27 #[.string s] w (PtPost s w) := callsIn_wide.1 (partsL_in s hs w)
end Go.Proofs.Ytgpnheaefagfiaa
