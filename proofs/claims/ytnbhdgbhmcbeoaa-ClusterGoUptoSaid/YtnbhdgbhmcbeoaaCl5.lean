/- Layer 5: the law's list of clusters. -/
import Derived.Test.YtnbhdgbhmcbeoaaCl4
import Derived.Test.YtnbhdgbhmcbeoaaK3
namespace Go.Proofs.Ytnbhdgbhmcbeoaa
set_option linter.unusedVariables false
set_option linter.unusedSimpArgs false
open Go Go.RowKit Go.Shelf
set_option maxRecDepth 100000
attribute [local go_sem] Oper.semAt_some

/-- Cells of three each. -/
def cc (l : List Cel) : List Value := l.flatMap fun x => [.int .i64 (x.1 : Nat), .int .i64 (x.2.1 : Nat), .int .i64 (x.2.2 : Nat)]
theorem cc_app (a b : List Cel) : cc (a ++ b) = cc a ++ cc b := by simp [cc]
theorem cc_one (x : Cel) : cc [x] = [.int .i64 (x.1 : Nat), .int .i64 (x.2.1 : Nat), .int .i64 (x.2.2 : Nat)] := by simp [cc]
theorem cc_len (l : List Cel) : (cc l).length = l.length * 3 := by
  induction l with
  | nil => rfl
  | cons x l ih => simp only [cc, List.flatMap_cons, List.length_append, List.length_cons, List.length_nil] at ih ⊢; omega
theorem cc_get {l : List Cel} {k : Nat} {x : Cel} (h : l[k]? = some x) : (cc l)[k * 3]? = some (.int .i64 (x.1 : Nat)) ∧ (cc l)[k * 3 + 1]? = some (.int .i64 (x.2.1 : Nat)) ∧ (cc l)[k * 3 + 2]? = some (.int .i64 (x.2.2 : Nat)) := by
  induction l generalizing k with
  | nil => simp at h
  | cons y l ih =>
    cases k with
    | zero => simp at h; subst h; simp [cc]
    | succ k =>
      have h' := ih (by simpa using h)
      have e : cc (y :: l) = [.int .i64 (y.1 : Nat), .int .i64 (y.2.1 : Nat), .int .i64 (y.2.2 : Nat)] ++ cc l := by simp [cc]
      rw [e]
      refine ⟨?_, ?_, ?_⟩
      · rw [List.getElem?_append_right (by simp; omega)]; simpa [show (k + 1) * 3 - 3 = k * 3 by omega] using h'.1
      · rw [List.getElem?_append_right (by simp; omega)]; simpa [show (k + 1) * 3 + 1 - 3 = k * 3 + 1 by omega] using h'.2.1
      · rw [List.getElem?_append_right (by simp; omega)]; simpa [show (k + 1) * 3 + 2 - 3 = k * 3 + 2 by omega] using h'.2.2
theorem infoCell : (Try.prog.info? 26).map (fun i => (i.zero, i.size, i.bytes)) = some (some (.agg #[.int .i64 0, .int .i64 0, .int .i64 0]), 3, 24) := by kernel_rfl

def CsI (s : ByteArray) (w V : World) (m : Nat) (pre : List Cel) (X : World) : Prop :=
  ((RowM X w.heap.size 28 V.heap.size 26 3 pre.length (cc pre) m ∧ Boxed X (w.heap.size + 1) 9 (.string s)) ∧ (Below w.heap.size w X ∧ V.heap.size ≤ X.heap.size)) ∧ pre <+: cellsL s
theorem csI_ab (s : ByteArray) (w V : World) (m : Nat) (h : w.heap.size ≤ V.heap.size) : AbX V.heap.size FrO (CsI s w V m) :=
  (((own_abO (rowM_own _ _ _ _ _ _ _ _)).and (own_abO (boxed_own _ _ _))).and (below_abO h)).and (fun _ _ _ _ h _ _ => h)

set_option maxHeartbeats 4000000 in
theorem cells_in (s : ByteArray) (hs : s.size ≤ 2147483647) (w : World) :
    CallsIn Fence.wide 12 Try.prog 14 #[.string s] w fun e w' => ∃ v, e = .returned v ∧ w'.ownsRow w.heap.size 26 3 v (cellsL s).length (cc (cellsL s)) ∧ Below w.heap.size w w' := by
  obtain ⟨i0, hi, hz0, hz1, hz2⟩ := info_parts infoCell
  have hll := cellsL_len s
  refine callsIn_of_wp_marks Try.func14 rfl trivial ?_ rfl
  simp only [Try.ntmps14, List.size_toArray, List.length_cons, List.length_nil, Nat.reduceAdd, Nat.reduceSub, Array.replicate_succ, Array.replicate_zero, List.push_toArray, List.append_toArray, List.nil_append, List.cons_append]
  have hF : ∀ f, Fence.wide.fn f := fun _ => trivial
  have hnil : ∀ (b : Nat) (W : World), (binOp .eql 44 (.func (.func 42) #[] #[.pointer (some ⟨b, 0, none⟩)]) .nilFunc).run Try.prog W = .ok (.bool false) W := fun _ _ => by kernel_rfl
  gi_wp2_with (gi_at_call 27; refine (callsIn_wide.2 (each_any _ _)).mono ?_; rintro e w' ⟨rfl, rfl⟩)
  have b0 : Boxed _ _ _ _ := (Boxed.new w 28 (.slice none 0 0)).alloc (.cells #[.string s] 9)
  have b1 : Boxed _ _ _ _ := Boxed.new (w.alloc (.cells #[.slice none 0 0] 28)) 9 (.string s)
  have hB := ((Below.refl _ w).alloc (Nat.le_refl _) (.cells #[.slice none 0 0] 28)).alloc (by simp) (.cells #[.string s] 9)
  have hz : ((w.alloc (.cells #[.slice none 0 0] 28)).alloc (.cells #[.string s] 9)).heap.size = w.heap.size + 2 := by simp
  simp only [World.size_alloc] at b1 ⊢
  obtain ⟨V, hV⟩ : ∃ V, (w.alloc (.cells #[.slice none 0 0] 28)).alloc (.cells #[.string s] 9) = V := ⟨_, rfl⟩
  rw [hV] at b0 b1 hB hz ⊢
  clear hV
  refine range_each 5 s (by omega) (w.heap.size + 1) b1 rfl (CsI s w V) (fun _ _ _ => False)
    (fun m => csI_ab s w V m (by omega)) (fun _ _ _ _ _ h _ _ => h) ⟨⟨⟨⟨_, b0, World.ownsRow_nil _ _ _ _, fun g h => by cases h⟩, b1⟩, hB, Nat.le_refl _⟩, List.nil_prefix⟩ ?assign ?body ?done ?stop
  case assign =>
    intro l x W K hK
    simp only [celV] at hK ⊢
    gi_wp2
    exact hK
  case stop =>
    rintro D c pre W _ _ h _
    exact h.elim
  case body =>
    rintro l m pre x Bx X ⟨⟨⟨⟨v, h1, h2, h3⟩, h4⟩, h5, h6⟩, h7⟩ hm1 hle hbl hbx hdue
    have c0 := h1.cell
    have f0 := h1.frozen
    have bx : Blk X Bx #[.int .i64 (x.1 : Nat), .int .i64 (x.2.1 : Nat), .int .i64 (x.2.2 : Nat)] 26 := hbx
    have x0 := bx.cell 0
    have x1 := bx.cell 1
    have x2 := bx.cell 2
    simp only [List.getElem?_toArray, List.getElem?_cons_succ, List.getElem?_cons_zero] at x0 x1 x2
    obtain ⟨d1, d2, d3, d4, _, _, d7⟩ := due_cell hdue
    have l0 : w.heap.size < X.heap.size := Blk.lt (show Blk _ _ _ _ from h1)
    have hdl : (pre ++ [x]).length = pre.length + 1 := by simp
    have HD := Lib.hid (And.intro hdue (And.intro hdl h5))
    obtain ⟨n, hn⟩ : ∃ n, pre.length = n := ⟨_, rfl⟩
    rw [hn] at h2 d7
    have HN := Lib.hid hn
    obtain ⟨xs, hxs⟩ : ∃ xs, cc pre = xs := ⟨_, rfl⟩
    rw [hxs] at h2
    have HXS := Lib.hid hxs
    have hz6 : w.heap.size + 2 ≤ X.heap.size := by omega
    obtain ⟨o, cap, rfl, ho⟩ := own_slice h2
    have hn2 : (0 : Nat) ≤ n := by omega
    clear hdue hdl h5 h7 bx hbx d1 hn hxs
    have h1a := h1.alloc (.cells #[.int .i64 (x.1 : Nat), .int .i64 (x.2.1 : Nat), .int .i64 (x.2.2 : Nat)] 26)
    have h2a := h2.alloc (.cells #[.int .i64 (x.1 : Nat), .int .i64 (x.2.1 : Nat), .int .i64 (x.2.2 : Nat)] 26)
    simp only [celV, List.setIfInBounds_toArray, List.set_cons_zero, List.set_cons_succ]
    gi_wp2_with (gi_at_builtin; refine round_list (noOut (fun _ _ h => h)) _ _ _ (by kernel_rfl) ?_; refine wpList_append_own _ rfl _ _ 28 rfl V.heap.size 26 i0 (.agg #[.int .i64 0, .int .i64 0, .int .i64 0]) 3 24 Try.underlying28 hi hz0 hz1 hz2 rfl (by decide) (.slice o n cap) _ _ rfl (h2.alloc _) ⟨X.heap.size, 0, none⟩ 1 1 [.int .i64 (x.1 : Nat), .int .i64 (x.2.1 : Nat), .int .i64 (x.2.2 : Nat)] rfl rfl (World.news_of_block (cs := #[.int .i64 (x.1 : Nat), .int .i64 (x.2.1 : Nat), .int .i64 (x.2.2 : Nat)]) (t := 26) (fr := (0, 0)) (World.alloc_heap_new X _)) (fun y hy => by simp at hy; rcases hy with rfl | rfl | rfl <;> rfl) (by unfold maxLen; omega) (by omega) (by simp; omega) ?_; intro v' w2 hown' hgrow _; have k4 := h1a.kept hgrow (fun e' => boxed_not_row h1a (by decide) h2a e'.symm); have kc4 := k4.cell; have kf4 := k4.frozen; obtain ⟨o', c', rfl, _⟩ := own_slice hown')
    obtain ⟨q1, q2, q3, q4, q5, q6⟩ := rowM_step (m := m) (T := 28) (e := 26) (by decide) (by decide) ((Below.refl X.heap.size X).alloc (Nat.le_refl _) _) h1 h2 h3 hgrow hown' h4 (by omega) (by omega)
    refine wpList_plain rfl fun K hK => ?_
    go_simp
    refine hK _ _ ?_
    clear hK K
    refine wpList_nil ?_
    obtain ⟨hdue, hdl, h5⟩ := HD.out
    refine ⟨q3.from _, q2, ⟨⟨?_, q6 _ _ _ (by decide) (by omega) h4⟩, q4 _ _ h5 (Nat.le_refl _) (by omega) (by omega), Nat.le_trans h6 q5⟩, hdue⟩
    rw [hdl, HN.out, cc_app, cc_one, HXS.out]
    exact q1
  case done =>
    rintro D m X hDl ⟨⟨⟨⟨v, h1, h2, h3⟩, h4⟩, h5, h6⟩, h7⟩ _ hK
    have c0 := h1.cell
    have hD2 := hz ▸ hDl
    have hB2 := h5.trans (belowK_b (w := w) (Nat.le_refl _) X D _ (.deferred none) (by omega) hK rfl rfl)
    obtain ⟨o, cap, rfl, ho⟩ := own_slice h2
    have hrow : (X.putObj D (.deferred none)).ownsRow w.heap.size 26 3 (.slice o (cellsL s).length cap) (cellsL s).length (cc (cellsL s)) := by
      have h8 := own_same (W := X.putObj D (.deferred none)) h2 (fun g hg => World.putObj_heap_other (fun e => by
        obtain ⟨cs, t, fz, hc⟩ := row_cells h2 g hg
        rw [e, hK] at hc; cases hc))
      exact ⟨h8.1, h8.2.imp id (fun ⟨g, cap, cur, a1, a2, a3⟩ => ⟨g, cap, cur, a1, by omega, a3⟩)⟩
    have HH := Lib.hid (And.intro hrow hB2)
    clear hrow hB2 h2 h3 h5
    gi_wp2
    refine ⟨by simp, .inl ⟨_, _, rfl, run_takeDeferred (w := X) hK, ?_⟩⟩
    refine ⟨.slice o (cellsL s).length cap, ?_, _, rfl, HH.out.1, HH.out.2⟩
    simp [results, Try.f14, go_sem]
theorem cells_any (s : ByteArray) (hs : s.size ≤ 2147483647) (w : World) :
    Calls Try.prog 14 #[.string s] w fun e w' => ∃ v, e = .returned v ∧ w'.ownsRow w.heap.size 26 3 v (cellsL s).length (cc (cellsL s)) ∧ Below w.heap.size w w' := callsIn_wide.1 (cells_in s hs w)
end Go.Proofs.Ytnbhdgbhmcbeoaa
