/- What Mend answers: the program's. Texts put together of parts. -/
import Derived.Test.YtgpnheaefagfiaaRg
import Derived.Test.YtgpnheaefagfiaaSeqB
import Derived.Test.YtgpnheaefagfiaaOf
import Derived.Test.YtgpnheaefagfiaaBlk
namespace Go.Proofs.Ytgpnheaefagfiaa
set_option linter.unusedVariables false
set_option linter.unusedSimpArgs false
open Go Go.RowKit Go.Shelf
set_option maxRecDepth 100000
attribute [local go_sem] Oper.semAt_some

/-- Texts, one behind the other. -/
def catB (f : Nat → ByteArray) (l : List Nat) : ByteArray := ⟨(l.flatMap fun i => (f i).data.toList).toArray⟩
theorem catB_cells (f : Nat → ByteArray) (l : List Nat) (i : Nat) : Lib.strCells (catB f (l ++ [i])) = Lib.strCells (catB f l) ++ Lib.strCells (f i) := by
  simp [Lib.strCells, catB]
theorem catB_size (f : Nat → ByteArray) (l : List Nat) (i : Nat) : (catB f (l ++ [i])).size = (catB f l).size + (f i).size := by
  simp only [catB, ByteArray.size, List.flatMap_append, List.size_toArray, List.length_append, List.flatMap_cons, List.flatMap_nil, List.append_nil, Array.length_toList]
theorem catB_le (f : Nat → ByteArray) (M : Nat) (h : ∀ i, (f i).size ≤ M) : ∀ l, (catB f l).size ≤ l.length * M := by
  intro l
  induction l with
  | nil => simp [catB, ByteArray.size]
  | cons x l ih =>
    have e : (catB f (x :: l)).size = (f x).size + (catB f l).size := by
      simp only [catB, ByteArray.size, List.size_toArray, List.length_append, List.flatMap_cons, Array.length_toList]
    have := h x
    rw [e, List.length_cons, Nat.succ_mul]; omega

/-- What stands in a piece's place. -/
def mendF (s t : ByteArray) (i : Nat) : ByteArray := if bk s i = true then t else s.extract i (i + wd s i)
theorem mendF_t {s t : ByteArray} {i : Nat} (h : bk s i = true) : mendF s t i = t := by unfold mendF; rw [if_pos h]
theorem mendF_f {s t : ByteArray} {i : Nat} (h : bk s i = false) : mendF s t i = s.extract i (i + wd s i) := by unfold mendF; rw [if_neg (by rw [h]; simp)]
theorem mendF_le (s t : ByteArray) (i : Nat) : (mendF s t i).size ≤ t.size + 4 := by
  unfold mendF
  have := wd_le s i
  split
  · omega
  · rw [ByteArray.size_extract]; omega

/-- A variable that holds a row of bytes of one's own. -/
def BoxRow (W : World) (B : Nat) (T : TypeId) (base : Nat) (e : TypeId) (sz n : Nat) (xs : List Value) : Prop := ∃ v, Boxed W B T v ∧ W.ownsRow base e sz v n xs
theorem boxRow_own {β : Type} (B : Nat) (T : TypeId) (base : Nat) (e : TypeId) (sz : Nat) (n : β → Nat) (xs : β → List Value) : Own (fun s W => BoxRow W B T base e sz (n s) (xs s)) := by
  rintro s X Y row ⟨v, hb, hr⟩ hg hrow
  refine ⟨v, hb.kept hg (fun e' => ?_), hr.kept hg ?_⟩
  · obtain ⟨o, ho, hc⟩ := hrow B e'.symm
    rw [show X.heap[B]? = _ from hb] at ho; cases ho; cases hc
  · rcases hr.2 with ⟨rfl, _⟩ | ⟨g, cap, cur, rfl, _, hgb, _⟩
    · exact .inl rfl
    · right
      intro e'
      obtain ⟨o, ho, hc⟩ := hrow g (by rw [← e']; rfl)
      rw [hgb] at ho; cases ho; cases hc

/-- A box of another type stands apart from a row. -/
theorem boxed_not_row {W : World} {B : Nat} {T e : TypeId} {u v : Value} {base sz n : Nat} {xs : List Value} (h : Boxed W B T u) (hte : T ≠ e) (hr : W.ownsRow base e sz v n xs) : v.ownBlock ≠ some B := by
  rcases hr.2 with ⟨rfl, _⟩ | ⟨g, cap, cur, rfl, _, hgb, _⟩
  · simp [Value.ownBlock]
  · intro e'
    obtain rfl : g = B := by simpa [Value.ownBlock] using e'
    have := (show W.heap[g]? = _ from h).symm.trans hgb
    simp at this
    exact hte this.2

/-- A row that has grown is laid back into its variable. -/
theorem row_step {W w2 : World} {T e : TypeId} {B base n m sz : Nat} {v v' : Value} {xs xs' : List Value} (hT : T ≠ e) (hb : Boxed W B T v) (hr : W.ownsRow base e sz v n xs) (hg : W.grownBy w2 v.ownBlock) (hr' : w2.ownsRow base e sz v' m xs') :
    KeepsOthers W (w2.setCell ⟨B, 0, none⟩ v') ∧ BoxRow (w2.setCell ⟨B, 0, none⟩ v') B T base e sz m xs' ∧
      (∀ (B' : Nat) (T' : TypeId) (u : Value), T' ≠ e → B' ≠ B → Boxed W B' T' u → Boxed (w2.setCell ⟨B, 0, none⟩ v') B' T' u) ∧
      (∀ (n0 : Nat) (w0 : World), Below n0 w0 W → n0 ≤ B → n0 ≤ base → n0 ≤ W.heap.size → Below n0 w0 (w2.setCell ⟨B, 0, none⟩ v')) := by
  have k2 : Boxed w2 B T v := hb.kept hg (fun e' => boxed_not_row hb hT hr e'.symm)
  refine ⟨(KeepsOthers.of_grownBy hg (fun j o hj ho => ?_)).trans (KeepsOthers.setCell _ _ _), ⟨v', k2.set v', ?_⟩, fun B' T' u hT' hne h => ?_, fun n0 w0 h h1 h2 h3 => ?_⟩
  · rcases hr.2 with ⟨rfl, _⟩ | ⟨g, cap, cur, rfl, _, hgb, _⟩
    · cases hj
    · obtain rfl : g = j := by simpa [Value.ownBlock] using hj
      rw [hgb] at ho; cases ho; rfl
  · refine hr'.kept (grownBy_setCell w2 B 0 v') (.inr (fun e1 => boxed_not_row k2 hT hr' e1))
  · exact (h.kept hg (fun e' => boxed_not_row h hT' hr e'.symm)).other hne v'
  · exact (h.grown hg h3 (fun j hj => Nat.le_trans h2 (hr.lt j hj).1)).setCell (p := ⟨B, 0, none⟩) h1 _

set_option maxHeartbeats 2000000 in
theorem mend_in (s t : ByteArray) (hs : s.size ≤ 1048576) (ht : t.size ≤ 1048576) (w : World) :
    CallsIn Fence.wide 11 Try.prog 43 #[.string s, .string t] w fun e w' => e = .returned (.string (catB (mendF s t) (posns s))) ∧ Below w.heap.size w w' := by
  obtain ⟨i0, hi, hz0, hz1, hz2⟩ := info_parts infoB
  refine callsIn_of_wp_marks Try.func43 rfl trivial ?_ rfl
  simp only [Try.ntmps43, List.size_toArray, List.length_cons, List.length_nil, Nat.reduceAdd, Nat.reduceSub, Array.replicate_succ, Array.replicate_zero, List.push_toArray, List.append_toArray, List.nil_append, List.cons_append]
  have hF : ∀ f, Fence.wide.fn f := fun _ => trivial
  gi_wp2_with (gi_at_call 20; refine (callsIn_wide.2 (pieces_any _ _)).mono ?_; rintro e w' ⟨rfl, rfl⟩)
  have b0 := (((Boxed.new w 9 (.string s)).alloc (.cells #[.string t] 9)).alloc (.cells #[.slice none 0 0] 92)).alloc (.cells #[.string s] 9)
  have b1 := ((Boxed.new (w.alloc (.cells #[.string s] 9)) 9 (.string t)).alloc (.cells #[.slice none 0 0] 92)).alloc (.cells #[.string s] 9)
  have b2 := (Boxed.new ((w.alloc (.cells #[.string s] 9)).alloc (.cells #[.string t] 9)) 92 (.slice none 0 0)).alloc (.cells #[.string s] 9)
  have b3 := Boxed.new (((w.alloc (.cells #[.string s] 9)).alloc (.cells #[.string t] 9)).alloc (.cells #[.slice none 0 0] 92)) 9 (.string s)
  simp only [World.size_alloc] at b1 b2 b3
  have hB0 : Below w.heap.size w ((((w.alloc (.cells #[.string s] 9)).alloc (.cells #[.string t] 9)).alloc (.cells #[.slice none 0 0] 92)).alloc (.cells #[.string s] 9)) := ((((Below.refl _ w).alloc (Nat.le_refl _) _).alloc (by simp) _).alloc (by simp; omega) _).alloc (by simp; omega) _
  have hsz : ((((w.alloc (.cells #[.string s] 9)).alloc (.cells #[.string t] 9)).alloc (.cells #[.slice none 0 0] 92)).alloc (.cells #[.string s] 9)).heap.size = w.heap.size + 4 := by simp
  obtain ⟨W0, hW0⟩ : ∃ W0, ((((w.alloc (.cells #[.string s] 9)).alloc (.cells #[.string t] 9)).alloc (.cells #[.slice none 0 0] 92)).alloc (.cells #[.string s] 9)) = W0 := ⟨_, rfl⟩
  rw [hW0] at b0 b1 b2 b3 hB0 hsz ⊢
  clear hW0
  refine range_pieces 6 s (by omega) (w.heap.size + 1 + 1 + 1) b3 rfl
    (fun pre W => (((Boxed W w.heap.size 9 (.string s) ∧ Boxed W (w.heap.size + 1) 9 (.string t)) ∧ Boxed W (w.heap.size + 1 + 1 + 1) 9 (.string s)) ∧ BoxRow W (w.heap.size + 1 + 1) 92 w.heap.size 5 1 (catB (mendF s t) (pre.map (·.1))).size (Lib.strCells (catB (mendF s t) (pre.map (·.1))))) ∧ Below w.heap.size w W)
    (fun _ _ _ => False)
    (OwnFrom.and (OwnFrom.and (OwnFrom.and (OwnFrom.and (Own.from (boxed_own _ _ _) _) (Own.from (boxed_own _ _ _) _)) (Own.from (boxed_own _ _ _) _)) (Own.from (boxRow_own _ _ _ _ _ _ _) _)) (ownFrom_below (Nat.le_refl _) (by omega)))
    (fun _ _ _ _ _ hs _ _ => hs) ⟨⟨⟨⟨b0, b1⟩, b3⟩, ⟨_, b2, World.ownsRow_nil _ _ _ _⟩⟩, hB0⟩ ?assign ?body ?done ?stop
  case assign =>
    intro l x W K hK
    simp only [pcC] at hK ⊢
    gi_wp2
    exact hK
  case body =>
    rintro l pre x Bx W ⟨⟨⟨⟨h0, h1⟩, h3⟩, ⟨v, h2, hrow⟩⟩, hB⟩ hle hbx hlen
    rw [hsz] at hle
    have hc0 := h0.cell
    have hc1 := h1.cell
    have hc2 := h2.cell
    have hf2 := h2.frozen
    have hle1 : (pre.map (·.1)).length < 1048576 := by rw [List.length_map]; omega
    have hML := catB_le (mendF s t) (t.size + 4) (mendF_le s t) (pre.map (·.1))
    have hsb : (catB (mendF s t) (pre.map (·.1))).size ≤ 2199023255552 := by
      have := Nat.mul_le_mul (Nat.le_of_lt hle1) (show t.size + 4 ≤ 1048580 by omega)
      omega
    clear hML hle1
    have hx4 := wd_le s x.1
    have hx1 := wd_pos s x.1
    have hxf := wd_fits s x.1 x.2
    have hex : (s.extract x.1 (x.1 + wd s x.1)).size ≤ 4 := by rw [ByteArray.size_extract]; omega
    obtain ⟨p0, p1, p2, p3⟩ := pcell hbx
    simp only [pcC]
    cases hbk : bk s x.1 with
    | true =>
      rw [hbk] at p3
      have HB := Lib.hid hbk; clear hbk
      gi_wp2_with (gi_at_builtin; refine round_list (noOut (fun _ _ h => h)) _ _ _ (by kernel_rfl) ?_; refine Lib.wpList_append_own_string _ rfl _ _ 92 9 rfl w.heap.size 5 i0 Try.underlying92 Try.underlying9 hi hz0 hz1 hz2 _ _ _ rfl hrow (t) rfl (by unfold maxLen; omega) (by omega) (by have := hB.size; simp; omega) ?_; intro v' w2 hown' hgrow _; have k2 := h2.kept hgrow (fun e' => boxed_not_row h2 (by decide) hrow e'.symm); have kc2 := k2.cell; have kf2 := k2.frozen)
      obtain ⟨m', hm'⟩ : ∃ m', (catB (mendF s t) (pre.map (·.1))).size + (t).size = m' := ⟨_, rfl⟩
      rw [hm'] at hown'
      have HM := Lib.hid hm'; clear hm'
      obtain ⟨o', c', rfl, _⟩ := own_slice hown'
      obtain ⟨q1, q2, q3, q4⟩ := row_step (W := W) (T := 92) (e := 5) (by decide) h2 hrow hgrow hown'
      refine wpList_plain rfl fun K hK => ?_
      go_simp
      refine hK _ _ ?_
      clear hK K
      refine wpList_nil ?_
      have r0 := q3 _ _ _ (by decide) (by omega) h0
      have r1 := q3 _ _ _ (by decide) (by omega) h1
      have r3 := q3 _ _ _ (by decide) (by omega) h3
      have q0 : KeepsOthers W _ := q1
      refine ⟨q0.from _, ⟨q0.walks, (show _ = _ from r3).trans (show _ = _ from h3).symm⟩, ⟨⟨⟨r0, r1⟩, r3⟩, ?_⟩, q4 _ _ hB (by omega) (Nat.le_refl _) hB.size⟩
      rw [List.map_append, List.map_singleton, catB_size, catB_cells, mendF_t HB.out, HM.out]
      exact q2
    | false =>
      rw [hbk] at p3
      have HB := Lib.hid hbk; clear hbk
      gi_wp2
      have f1 : IntKind.i64.wrap ((x.1 : Int) + (wd s x.1 : Nat)) = (x.1 : Int) + (wd s x.1 : Nat) := IntWalk.i64_in _ (by omega)
      have f2 : (0 : Int) ≤ (x.1 : Int) := by omega
      have f3 : (x.1 : Int) ≤ (x.1 : Int) + (wd s x.1 : Nat) := by omega
      have f4 : (x.1 : Int) + (wd s x.1 : Nat) ≤ (s.size : Int) := by omega
      have f6 : ((x.1 : Int) + (wd s x.1 : Nat)).toNat = x.1 + wd s x.1 := by omega
      have hrd := drew_row hrow
      refine round_still_tail 10 (by kernel_rfl) (by kernel_rfl) (by kernel_rfl) (noOut (fun _ _ h => h)) ?_
      simp only [List.take_succ_cons, List.take_zero, List.drop_succ_cons, List.drop_zero]
      repeat still_step
      refine wpStill_nil ?_
      refine Lib.wpList_append_own_string _ rfl _ _ 92 9 rfl w.heap.size 5 i0 Try.underlying92 Try.underlying9 hi hz0 hz1 hz2 _ _ _ rfl hrd (s.extract x.1 (x.1 + wd s x.1)) rfl (by unfold maxLen; omega) (by omega) (by have := hB.size; simp; omega) ?_
      intro v' w2 hown' hgrow _
      have k2 := h2.kept (W := W.drew) hgrow (fun e' => boxed_not_row h2 (by decide) hrow e'.symm)
      have kc2 := k2.cell
      have kf2 := k2.frozen
      obtain ⟨m', hm'⟩ : ∃ m', (catB (mendF s t) (pre.map (·.1))).size + (s.extract x.1 (x.1 + wd s x.1)).size = m' := ⟨_, rfl⟩
      rw [hm'] at hown'
      have HM := Lib.hid hm'; clear hm'
      obtain ⟨o', c', rfl, _⟩ := own_slice hown'
      obtain ⟨q1, q2, q3, q4⟩ := row_step (W := W.drew) (T := 92) (e := 5) (by decide) h2 hrd hgrow hown'
      refine wpList_plain rfl fun K hK => ?_
      go_simp
      refine hK _ _ ?_
      clear hK K
      refine wpList_nil ?_
      have r0 := q3 _ _ _ (by decide) (by omega) h0
      have r1 := q3 _ _ _ (by decide) (by omega) h1
      have r3 := q3 _ _ _ (by decide) (by omega) h3
      have q0 : KeepsOthers W _ := (KeepsOthers.drew W).trans q1
      refine ⟨q0.from _, ⟨q0.walks, (show _ = _ from r3).trans (show _ = _ from h3).symm⟩, ⟨⟨⟨r0, r1⟩, r3⟩, ?_⟩, q4 _ _ hB.drew (by omega) (Nat.le_refl _) hB.size⟩
      rw [List.map_append, List.map_singleton, catB_size, catB_cells, mendF_f HB.out, HM.out]
      exact q2
  case done =>
    rintro D xs W hD hxs ⟨⟨_, ⟨v, h2, hrow⟩⟩, hB⟩ hK
    rw [hxs] at hrow
    have hc2 := h2.cell
    have hcv := conv_own rfl hrow
    clear hrow
    gi_wp2
    refine ⟨by simp, .inl ⟨_, _, rfl, run_takeDeferred (w := W) hK, ?_⟩⟩
    refine ⟨.string (catB (mendF s t) (posns s)), ?_, rfl, hB.trans (belowK_b (w := w) (Nat.le_refl _) W D _ _ (by omega) hK rfl rfl)⟩
    simp [results, Try.f43, go_sem]
  case stop =>
    rintro D c pre W _ _ h _
    exact h.elim
end Go.Proofs.Ytgpnheaefagfiaa
