/- Layer 5: Columns, Count. -/
import Derived.Test.YtnbhdgbhmcbeoaaCl3
import Derived.Test.YtnbhdgbhmcbeoaaClm
namespace Go.Proofs.Ytnbhdgbhmcbeoaa
set_option linter.unusedVariables false
set_option linter.unusedSimpArgs false
open Go Go.RowKit Go.Shelf
set_option maxRecDepth 100000
attribute [local go_sem] Oper.semAt_some

/-- The columns of clusters. -/
def colsL (l : List Cel) : Nat := (l.map fun c => c.2.2).sum
theorem colsL_app (a b : List Cel) : colsL (a ++ b) = colsL a + colsL b := by simp [colsL, List.sum_append]
theorem colsL_snoc (l : List Cel) (c : Cel) : colsL (l ++ [c]) = colsL l + c.2.2 := by simp [colsL, List.sum_append]
theorem colsL_nil : colsL [] = 0 := rfl
theorem colsL_cons (c : Cel) (l : List Cel) : colsL (c :: l) = c.2.2 + colsL l := by simp [colsL]
theorem colsL_le' : ∀ (l : List Cel), (∀ c ∈ l, c.2.2 ≤ 2) → colsL l ≤ 2 * l.length
  | [], _ => by simp [colsL]
  | c :: l, h => by
    have h1 := colsL_le' l (fun x hx => h x (List.mem_cons_of_mem _ hx))
    have h2 := h c (by simp)
    rw [colsL_cons, List.length_cons]; omega
theorem colsL_le (s : ByteArray) (pre : List Cel) (h : pre <+: cellsL s) : colsL pre ≤ 2 * pre.length :=
  colsL_le' pre (fun c hc => (cellsG_mem s _ 0 rfl c (h.subset hc)).2.2.2.1)
/-- What is known of a cluster that is met. -/
theorem due_cell {s : ByteArray} {pre : List Cel} {x : Cel} (h : pre ++ [x] <+: cellsL s) : x.1 = endC pre ∧ x.1 < x.2.1 ∧ x.2.1 ≤ s.size ∧ x.2.2 ≤ 2 ∧ fstC s x.1 = x.2 ∧ pre <+: cellsL s ∧ pre.length + 1 ≤ s.size := by
  obtain ⟨r, hr⟩ := h
  have h1 : cellsL s = pre ++ (x :: r) := by rw [← hr]; simp
  have h2 := endC_rest s pre _ h1
  have h3 : x ∈ cellsL s := by rw [h1]; simp
  obtain ⟨m1, m2, m3, m4, m5⟩ := cellsG_mem s _ 0 rfl x h3
  have hl := cellsL_len s
  rw [h1] at hl
  refine ⟨?_, m2, m3, m4, m5.symm, ⟨x :: r, h1.symm⟩, by simp at hl; omega⟩
  by_cases hlt : endC pre < s.size
  · rw [cellsG_cons s _ hlt] at h2; exact (congrArg (·.1) (List.cons.inj h2).1)
  · rw [cellsG_end s _ (by omega)] at h2; cases h2

/-- Columns are no more than bytes. -/
theorem colsL_end (s : ByteArray) : ∀ (n : Nat) (pre : List Cel), pre.length = n → pre <+: cellsL s → colsL pre ≤ endC pre
  | 0, pre, hl, _ => by
    rw [List.length_eq_zero_iff.1 hl]; exact Nat.le_refl _
  | n + 1, pre, hl, h => by
    rcases List.eq_nil_or_concat pre with rfl | ⟨q, x, e⟩
    · exact Nat.le_refl _
    · rw [List.concat_eq_append] at e
      subst e
      obtain ⟨d1, d2, d3, d4, d5, d6, d7⟩ := due_cell h
      have := colsL_end s n q (by simpa using hl) d6
      have hw := fstC_cw s x.1 (by omega)
      rw [d5] at hw
      rw [colsL_snoc, endC_snoc]; omega
theorem due_cols {s : ByteArray} {pre : List Cel} {x : Cel} (h : pre ++ [x] <+: cellsL s) : colsL pre + x.2.2 ≤ s.size := by
  have := colsL_end s _ _ rfl h
  have hd := due_cell h
  rw [colsL_snoc, endC_snoc] at this
  omega

set_option maxHeartbeats 4000000 in
theorem columnsOf_in (s : ByteArray) (hs : s.size ≤ 9223372036854775807) (w : World) :
    CallsIn Fence.wide 12 Try.prog 23 #[.string s] w fun e w' => e = .returned (.int .i64 (colsL (cellsL s) : Nat)) ∧ Below w.heap.size w w' := by
  have hll := cellsL_len s
  refine callsIn_of_wp_marks Try.func23 rfl trivial ?_ rfl
  simp only [Try.ntmps23, List.size_toArray, List.length_cons, List.length_nil, Nat.reduceAdd, Nat.reduceSub, Array.replicate_succ, Array.replicate_zero, List.push_toArray, List.append_toArray, List.nil_append, List.cons_append]
  have hF : ∀ f, Fence.wide.fn f := fun _ => trivial
  gi_wp2_with (gi_at_call 27; refine (callsIn_wide.2 (each_any _ _)).mono ?_; rintro e w' ⟨rfl, rfl⟩)
  have b0 : Boxed _ _ _ _ := (Boxed.new w 3 (.int .i64 0)).alloc (.cells #[.string s] 9)
  have b1 : Boxed _ _ _ _ := Boxed.new (w.alloc (.cells #[.int .i64 0] 3)) 9 (.string s)
  have hB := ((Below.refl _ w).alloc (Nat.le_refl _) (.cells #[.int .i64 0] 3)).alloc (by simp) (.cells #[.string s] 9)
  have hz : ((w.alloc (.cells #[.int .i64 0] 3)).alloc (.cells #[.string s] 9)).heap.size = w.heap.size + 2 := by simp
  simp only [World.size_alloc] at b1 ⊢
  obtain ⟨V, hV⟩ : ∃ V, (w.alloc (.cells #[.int .i64 0] 3)).alloc (.cells #[.string s] 9) = V := ⟨_, rfl⟩
  rw [hV] at b0 b1 hB hz ⊢
  clear hV
  refine range_each 4 s hs (w.heap.size + 1) b1 rfl (fun _ pre X => SmI w.heap.size w V X ∧ Boxed X w.heap.size 3 (.int .i64 (colsL pre : Nat)) ∧ pre <+: cellsL s) (fun _ _ _ => False)
    (fun _ => smI_abO (f := fun pre => .int .i64 (colsL pre : Nat)) (p := fun pre => pre <+: cellsL s) (by omega) (by omega)) (fun _ _ _ _ _ h _ _ => h) ⟨SmI.start hB, b0, List.nil_prefix⟩ ?assign ?body ?done ?stop
  case assign =>
    intro l x W K hK
    simp only [celV] at hK ⊢
    gi_wp2
    exact hK
  case stop =>
    rintro D c pre W _ _ h _
    exact h.elim
  case body =>
    rintro l m pre x Bx X ⟨h1, h2, h3⟩ hm1 hle hbl hbx hdue
    have c0 := h2.cell
    have f0 := h2.frozen
    have bx : Blk X Bx #[.int .i64 (x.1 : Nat), .int .i64 (x.2.1 : Nat), .int .i64 (x.2.2 : Nat)] 26 := hbx
    have x0 := bx.cell 0
    have x1 := bx.cell 1
    have x2 := bx.cell 2
    simp only [List.getElem?_toArray, List.getElem?_cons_succ, List.getElem?_cons_zero] at x0 x1 x2
    obtain ⟨d1, d2, d3, d4, _, _, d7⟩ := due_cell hdue
    have hc := due_cols hdue
    have hn : (pre ++ [x]).length = pre.length + 1 := by simp
    have hs := colsL_snoc pre x
    have j1 : IntKind.i64.wrap ((colsL pre : Int) + (x.2.2 : Int)) = (colsL pre : Int) + (x.2.2 : Int) := IntWalk.i64_in _ (by omega)
    have HS := Lib.hid (And.intro hs (And.intro hn hdue))
    clear hs hn hdue d1
    have H := Lib.hid (And.intro h1 (And.intro h2 h3))
    clear h1 h2 h3 bx hbx
    simp only [celV, List.setIfInBounds_toArray, List.set_cons_zero, List.set_cons_succ]
    gi_wp2
    obtain ⟨h1, h2, h3⟩ := H.out
    have h4 := h2.set (.int .i64 ((colsL pre : Int) + (x.2.2 : Int)))
    refine ⟨kf_set _ _, kpM_set (by omega) (by omega) _ _, h1.set (Nat.le_refl _) _ _, ?_, HS.out.2.2⟩
    rw [HS.out.1]; push_cast; exact h4
  case done =>
    rintro D m X hDl ⟨h1, h2, h3⟩ _ hK
    have c0 := h2.cell
    have hD2 := hz ▸ hDl
    have hB2 := h1.2.trans (belowK_b (w := w) (Nat.le_refl _) X D _ (.deferred none) (by omega) hK rfl rfl)
    gi_wp2
    refine ⟨by simp, .inl ⟨_, _, rfl, run_takeDeferred (w := X) hK, ?_⟩⟩
    refine ⟨.int .i64 (colsL (cellsL s) : Nat), ?_, rfl, hB2⟩
    simp [results, Try.f23, go_sem]
theorem columnsOf_any (s : ByteArray) (hs : s.size ≤ 9223372036854775807) (w : World) :
    Calls Try.prog 23 #[.string s] w fun e w' => e = .returned (.int .i64 (colsL (cellsL s) : Nat)) ∧ Below w.heap.size w w' := callsIn_wide.1 (columnsOf_in s hs w)

set_option maxHeartbeats 4000000 in
theorem countOf_in (s : ByteArray) (hs : s.size ≤ 9223372036854775807) (w : World) :
    CallsIn Fence.wide 12 Try.prog 22 #[.string s] w fun e w' => e = .returned (.int .i64 ((cellsL s).length : Nat)) ∧ Below w.heap.size w w' := by
  have hll := cellsL_len s
  refine callsIn_of_wp_marks Try.func22 rfl trivial ?_ rfl
  simp only [Try.ntmps22, List.size_toArray, List.length_cons, List.length_nil, Nat.reduceAdd, Nat.reduceSub, Array.replicate_succ, Array.replicate_zero, List.push_toArray, List.append_toArray, List.nil_append, List.cons_append]
  have hF : ∀ f, Fence.wide.fn f := fun _ => trivial
  gi_wp2_with (gi_at_call 27; refine (callsIn_wide.2 (each_any _ _)).mono ?_; rintro e w' ⟨rfl, rfl⟩)
  have b0 : Boxed _ _ _ _ := (Boxed.new w 3 (.int .i64 0)).alloc (.cells #[.string s] 9)
  have b1 : Boxed _ _ _ _ := Boxed.new (w.alloc (.cells #[.int .i64 0] 3)) 9 (.string s)
  have hB := ((Below.refl _ w).alloc (Nat.le_refl _) (.cells #[.int .i64 0] 3)).alloc (by simp) (.cells #[.string s] 9)
  have hz : ((w.alloc (.cells #[.int .i64 0] 3)).alloc (.cells #[.string s] 9)).heap.size = w.heap.size + 2 := by simp
  simp only [World.size_alloc] at b1 ⊢
  obtain ⟨V, hV⟩ : ∃ V, (w.alloc (.cells #[.int .i64 0] 3)).alloc (.cells #[.string s] 9) = V := ⟨_, rfl⟩
  rw [hV] at b0 b1 hB hz ⊢
  clear hV
  refine range_each0 s hs (w.heap.size + 1) b1 rfl (fun _ pre X => SmI w.heap.size w V X ∧ Boxed X w.heap.size 3 (.int .i64 (pre.length : Nat)) ∧ pre <+: cellsL s) (fun _ _ _ => False)
    (fun _ => smI_abO (f := fun pre => .int .i64 (pre.length : Nat)) (p := fun pre => pre <+: cellsL s) (by omega) (by omega)) (fun _ _ _ _ _ h _ _ => h) ⟨SmI.start hB, b0, List.nil_prefix⟩ ?assign ?body ?done ?stop
  case assign =>
    intro l x W K hK
    simp only [celV] at hK ⊢
    gi_wp2
    exact hK
  case stop =>
    rintro D c pre W _ _ h _
    exact h.elim
  case body =>
    rintro l m pre x X ⟨h1, h2, h3⟩ hm1 hm2 hdue
    have c0 := h2.cell
    have f0 := h2.frozen
    obtain ⟨d1, d2, d3, d4, _, _, d7⟩ := due_cell hdue
    have hc := due_cols hdue
    have hn : (pre ++ [x]).length = pre.length + 1 := by simp
    have hs := colsL_snoc pre x
    have j1 : IntKind.i64.wrap ((pre.length : Int) + 1) = (pre.length : Int) + 1 := IntWalk.i64_in _ (by omega)
    have HS := Lib.hid (And.intro hs (And.intro hn hdue))
    clear hs hn hdue d1
    have H := Lib.hid (And.intro h1 (And.intro h2 h3))
    clear h1 h2 h3
    simp only [celV, List.setIfInBounds_toArray, List.set_cons_zero, List.set_cons_succ]
    gi_wp2
    obtain ⟨h1, h2, h3⟩ := H.out
    have h4 := h2.set (.int .i64 ((pre.length : Int) + 1))
    refine ⟨kf_set _ _, kpM_set (by omega) (by omega) _ _, h1.set (Nat.le_refl _) _ _, ?_, HS.out.2.2⟩
    rw [HS.out.2.1]; push_cast; exact h4
  case done =>
    rintro D m X hDl ⟨h1, h2, h3⟩ _ hK
    have c0 := h2.cell
    have hD2 := hz ▸ hDl
    have hB2 := h1.2.trans (belowK_b (w := w) (Nat.le_refl _) X D _ (.deferred none) (by omega) hK rfl rfl)
    gi_wp2
    refine ⟨by simp, .inl ⟨_, _, rfl, run_takeDeferred (w := X) hK, ?_⟩⟩
    refine ⟨.int .i64 ((cellsL s).length : Nat), ?_, rfl, hB2⟩
    simp [results, Try.f22, go_sem]
theorem countOf_any (s : ByteArray) (hs : s.size ≤ 9223372036854775807) (w : World) :
    Calls Try.prog 22 #[.string s] w fun e w' => e = .returned (.int .i64 ((cellsL s).length : Nat)) ∧ Below w.heap.size w w' := callsIn_wide.1 (countOf_in s hs w)
end Go.Proofs.Ytnbhdgbhmcbeoaa
