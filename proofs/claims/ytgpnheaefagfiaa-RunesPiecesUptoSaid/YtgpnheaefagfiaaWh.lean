/- RunesWhole: the mathematics, and the first of its loops. -/
import Derived.Test.YtgpnheaefagfiaaSeqD
import Derived.Test.YtgpnheaefagfiaaNt
import Derived.Test.YtgpnheaefagfiaaWk
import Derived.Test.YtgpnheaefagfiaaWj
namespace Go.Proofs.Ytgpnheaefagfiaa
set_option linter.unusedVariables false
set_option linter.unusedSimpArgs false
open Go Go.RowKit Go.Shelf
set_option maxRecDepth 100000
attribute [local go_sem] Oper.semAt_some

/-- Where pieces end. -/
def endN {s : ByteArray} (pre : List (Pos s)) : Nat := match pre.getLast? with | some x => x.1 + wd s x.1 | none => 0
theorem endN_snoc {s : ByteArray} (pre : List (Pos s)) (x : Pos s) : endN (pre ++ [x]) = x.1 + wd s x.1 := by simp [endN]
theorem endN_nil {s : ByteArray} : endN ([] : List (Pos s)) = 0 := rfl
theorem end_rest {s : ByteArray} (pre : List (Pos s)) (r : List Nat) (h : posns s = pre.map (·.1) ++ r) : r = posG s (endN pre) := by
  rcases List.eq_nil_or_concat pre with rfl | ⟨q, x, e⟩
  · rw [endN_nil]; simpa [posns_G] using h.symm
  · rw [List.concat_eq_append] at e
    subst e
    rw [endN_snoc]
    have h2 : posG s 0 = q.map (·.1) ++ x.1 :: r := by rw [← posns_G, h]; simp
    exact (posG_tail s 0 _ _ _ h2).2.1
theorem end_next {s : ByteArray} (pre : List (Pos s)) (x : Pos s) (h : (pre ++ [x]).map (·.1) <+: posns s) : x.1 = endN pre := by
  obtain ⟨r, hr⟩ := h
  have h2 : posns s = pre.map (·.1) ++ (x.1 :: r) := by rw [← hr]; simp
  have h3 := end_rest pre _ h2
  by_cases hlt : endN pre < s.size
  · rw [posG_cons s _ hlt] at h3; exact (List.cons.inj h3).1
  · rw [posG_end s _ (by omega)] at h3; cases h3
theorem end_all {s : ByteArray} (xs : List (Pos s)) (h : xs.map (·.1) = posns s) : endN xs = s.size ∨ s.size ≤ endN xs := by
  have h2 := end_rest xs [] (by rw [h]; simp)
  by_cases hlt : endN xs < s.size
  · rw [posG_cons s _ hlt] at h2; cases h2
  · right; omega
theorem end_le {s : ByteArray} (pre : List (Pos s)) : endN pre ≤ s.size := by
  rcases List.eq_nil_or_concat pre with rfl | ⟨q, x, e⟩
  · rw [endN_nil]; omega
  · rw [List.concat_eq_append] at e
    subst e
    rw [endN_snoc]; exact wd_fits s x.1 x.2
theorem ext_more (s : ByteArray) (n m : Nat) (h : n ≤ m) (hm : m ≤ s.size) : s.extract 0 n ++ s.extract n m = s.extract 0 m := by
  apply ByteArray.ext
  simp only [ByteArray.data_append, ByteArray.data_extract]
  rw [Array.extract_append_extract]
  congr 1 <;> omega

/-- Reads alone, in a round. -/
theorem round_quiet {l' nn : Nat} {P : Program} {id : Nat} {Q : Exit → Act → World → Prop} {a : Act} {w : World} {l : List Oper} (hm : P.follows .mixedOrders = true) (hB : Region.lexB .any l.toArray = true) (hnd : noDefer l = true) (hQ : ¬ LetsOut Q)
    (h : wpQuiet P l.toArray (fun w' => ∃ n, w' = w.drewN n) (fun a' => ∀ w', (∃ n, w' = w.drewN n) → Q .normal a' w') l a) : (Code.region id l.toArray true).wpIn (Fence.wide.inRound l') nn P Q a w := by
  simp only [Region.lexB, Bool.and_eq_true] at hB
  refine wpIn_region_any hm (wpAny_round hnd hQ _ _ _ _ (wpAny_of_quiet (C := fun w' => ∃ n, w' = w.drewN n) (Q := fun a' => ∀ w', (∃ n, w' = w.drewN n) → Q .normal a' w') (fun _ w' hw' h => h w' hw') _ _ _ _ ⟨1, rfl⟩ ?_))
  have := wpAnyQ_lex (C := fun w' => ∃ n, w' = w.drewN n) (md := .any) hB.1 l 0 (Array.replicate l.toArray.size false) a (by simp) (by simpa using hB.2) h
  simpa using this

theorem set_keeps {W : World} {B b : Nat} {T T' : TypeId} {u v' : Value} {cs : Array Value} (hb : Boxed W B T u) (h : T' ≠ T) (hc : W.heap[b]? = some (.cells cs T' (0, 0))) : (W.setCell ⟨B, 0, none⟩ v').heap[b]? = some (.cells cs T' (0, 0)) := by
  refine Blk.other (show Blk W b cs T' from hc) (fun e => ?_) 0 v'
  subst e
  have := (show W.heap[b]? = _ from hc).symm.trans (show W.heap[b]? = _ from hb)
  simp at this
  exact h this.2

def WhI2 (s : ByteArray) (w : World) (N P M D : Nat) (pre : List (Pos s)) (W : World) : Prop :=
  ((((((((Boxed W w.heap.size 9 (.string s) ∧ Boxed W (w.heap.size + 1) 4 (.bool false)) ∧ Boxed W (N + 1) 9 (.string s)) ∧ Boxed W (P + 1) 9 (.string s)) ∧ BoxRow W N 29 w.heap.size 24 4 M (pcs s (posns s))) ∧ Boxed W P 3 (.int .i64 ((M - pre.length : Nat) : Int))) ∧ pre.length ≤ M) ∧ W.heap[D]? = some (.deferred (some [])))) ∧ Below w.heap.size w W

theorem rev_at {s : ByteArray} (pre : List (Pos s)) (x : Pos s) (h : List.map (fun (x : Pos s) => (x.1 : Nat)) (pre ++ [x]) <+: (posns s).reverse) : pre.length < (posns s).length ∧ (posns s)[(posns s).length - 1 - pre.length]? = some x.1 := by
  have hl := h.length_le
  simp at hl
  obtain ⟨r, hr⟩ := h
  refine ⟨by omega, ?_⟩
  have e : (posns s).reverse[pre.length]? = some x.1 := by
    rw [← hr, List.map_append, List.append_assoc, List.getElem?_append_right (by simp)]
    simp
  rw [List.getElem?_reverse (by omega)] at e
  exact e

theorem old_own {β : Type} (D B : Nat) (o : Obj) (h : D < B) : OwnFrom B (fun (_ : β) W => W.heap[D]? = some o) := fun _ X Y row hs hg hr =>
  (hg.block D (Array.getElem?_eq_some_iff.1 hs).1 (fun e => by have := (hr D e.symm).1; omega)).trans hs

def WhRel (M : Nat) (V : World) (v : Value) (wr : World) : Prop := ∃ k : Nat, v = .int .i64 k ∧ k ≤ M ∧ Below V.heap.size V wr
def WhRel2 (y n : Nat) (V : World) (v : Value) (wr : World) : Prop := ∃ j : Nat, v = .int .i64 j ∧ y < j ∧ j ≤ n ∧ Below V.heap.size V wr

def WhI1 (s T : ByteArray) (w : World) (Bl : Nat) (pre : List (Pos T)) (W : World) : Prop :=
  ((((Boxed W w.heap.size 9 (.string T) ∧ Boxed W (w.heap.size + 1) 4 (.bool false)) ∧ Boxed W (Bl + 1) 9 (.string (T.extract 0 (endN pre)))) ∧ Boxed W (Bl + 2) 9 (.string T)) ∧ BoxRow W Bl 29 w.heap.size 24 4 pre.length (pcs T (pre.map (·.1)))) ∧ Below w.heap.size w W

set_option maxHeartbeats 4000000 in
theorem whole_in (s : ByteArray) (hs : s.size ≤ 2048) (w : World) :
    CallsIn Fence.wide 11 Try.prog 14 #[.string s] w fun e w' => e = .returned (.bool true) ∧ Below w.heap.size w w' := by
  obtain ⟨i0, hi, hz0, hz1, hz2⟩ := info_parts infoP
  refine callsIn_of_wp_marks Try.func14 rfl trivial ?_ rfl
  simp only [Try.ntmps14, List.size_toArray, List.length_cons, List.length_nil, Nat.reduceAdd, Nat.reduceSub, Array.replicate_succ, Array.replicate_zero, List.push_toArray, List.append_toArray, List.nil_append, List.cons_append]
  have hF : ∀ f, Fence.wide.fn f := fun _ => trivial
  have hs2 : decide ((2048 : Int) < (s.size : Int)) = false := decide_eq_false (by omega)
  gi_wp2_with (first | (gi_at_call 15; refine (callsIn_wide.2 (wakes_any _)).mono ?_; rintro e w1 ⟨rfl, hb1⟩; have c0 := ((Boxed.new w 9 (.string s)).alloc (.cells #[.bool false] 4)); have c1 := (Boxed.new (w.alloc (.cells #[.string s] 9)) 4 (.bool false)); simp only [World.size_alloc] at c1 hb1; have d0 : Boxed w1 w.heap.size 9 (.string s) := Blk.below (show Blk _ _ _ _ from c0) hb1 (by omega); have d1 : Boxed w1 (w.heap.size + 1) 4 (.bool false) := Blk.below (show Blk _ _ _ _ from c1) hb1 (by omega); have e0 := d0.cell; have e1 := d0.frozen; have e2 := d1.cell; have e3 := d1.frozen; have hz : w.heap.size + 1 < w1.heap.size := (by have := hb1.size; simp only [World.size_alloc] at this; omega); have hz0' : w.heap.size < w1.heap.size := Nat.lt_trans (Nat.lt_succ_self _) hz) | (gi_at_call 20; refine (callsIn_wide.2 (pieces_any _ _)).mono ?_; rintro e w' ⟨rfl, rfl⟩))
  obtain ⟨N, hN⟩ : ∃ N, w1.heap.size = N := ⟨_, rfl⟩
  have f0 := ((d0.alloc (.cells #[.slice none 0 0] 29)).alloc (.cells #[.string ⟨#[]⟩] 9)).alloc (.cells #[.string s] 9)
  have f1 := ((d1.alloc (.cells #[.slice none 0 0] 29)).alloc (.cells #[.string ⟨#[]⟩] 9)).alloc (.cells #[.string s] 9)
  have f2 := ((Boxed.new w1 29 (.slice none 0 0)).alloc (.cells #[.string ⟨#[]⟩] 9)).alloc (.cells #[.string s] 9)
  have f3 := (Boxed.new (w1.alloc (.cells #[.slice none 0 0] 29)) 9 (.string ⟨#[]⟩)).alloc (.cells #[.string s] 9)
  have f4 := Boxed.new ((w1.alloc (.cells #[.slice none 0 0] 29)).alloc (.cells #[.string ⟨#[]⟩] 9)) 9 (.string s)
  have hBw : Below w.heap.size w w1 := (((Below.refl _ w).alloc (Nat.le_refl _) _).alloc (by simp) _).trans (hb1.mono (by omega))
  have hB0 := ((hBw.alloc hBw.size (.cells #[.slice none 0 0] 29)).alloc (by have := hBw.size; simp; omega) (.cells #[.string ⟨#[]⟩] 9)).alloc (by have := hBw.size; simp; omega) (.cells #[.string s] 9)
  have hsz : (((w1.alloc (.cells #[.slice none 0 0] 29)).alloc (.cells #[.string ⟨#[]⟩] 9)).alloc (.cells #[.string s] 9)).heap.size = N + 3 := by simp [hN]
  simp only [World.size_alloc, hN] at f2 f3 f4 hz hz0' ⊢
  obtain ⟨W0, hW0⟩ : ∃ W0, (((w1.alloc (.cells #[.slice none 0 0] 29)).alloc (.cells #[.string ⟨#[]⟩] 9)).alloc (.cells #[.string s] 9)) = W0 := ⟨_, rfl⟩
  rw [hW0] at f0 f1 f2 f3 f4 hB0 hsz ⊢
  clear hW0 e0 e1 e2 e3 d0 d1 c0 c1 hBw hb1 hN
  refine range_pieces 5 s (by omega) (N + 1 + 1) f4 rfl (WhI1 s s w N)
    (fun (c : Code) (pre : List (Pos s)) (W : World) => ¬ (List.map (fun (x : Pos s) => (x.1 : Nat)) pre <+: posns s))
    (OwnFrom.and (OwnFrom.and (OwnFrom.and (OwnFrom.and (OwnFrom.and (Own.from (boxed_own _ _ _) _) (Own.from (boxed_own _ _ _) _)) (Own.from (boxed_own _ _ _) _)) (Own.from (boxed_own _ _ _) _)) (Own.from (boxRow_own _ _ _ _ _ _ _) _)) (ownFrom_below (Nat.le_refl _) (by omega)))
    (fun _ s X Y row h _ _ => h) ⟨⟨⟨⟨⟨f0, f1⟩, by rw [endN_nil, ext_none]; exact f3⟩, f4⟩, ⟨_, f2, World.ownsRow_nil _ _ _ _⟩⟩, hB0⟩ ?assign ?body ?done ?stop
  case assign =>
    intro l x W K hK
    simp only [pcC] at hK ⊢
    gi_wp2
    exact hK
  case body =>
    rintro l pre x Bx W ⟨⟨⟨⟨⟨h0, h1⟩, h2⟩, h3⟩, ⟨v, h4, hrow⟩⟩, hB⟩ hle hbx hlen
    rw [hsz] at hle
    have hc0 := h0.cell
    have hc1 := h1.cell
    have hf1 := h1.frozen
    have hc2 := h2.cell
    have hf2 := h2.frozen
    have hc4 := h4.cell
    have hf4 := h4.frozen
    have hx4 := wd_le s x.1
    have hx1 := wd_pos s x.1
    have hxf := wd_fits s x.1 x.2
    obtain ⟨p0, p1, p2, p3⟩ := pcell hbx
    have hel := end_le pre
    have hes := endN_snoc pre x
    have hen := fun h => end_next pre x h
    obtain ⟨n, hn⟩ : ∃ n, endN pre = n := ⟨_, rfl⟩
    rw [hn] at hel hc2 h2 hen
    have hzt : (s.extract 0 n).size = n := by rw [ByteArray.size_extract]; omega
    simp only [pcC]
    by_cases hxn : x.1 = n
    · obtain ⟨X, hX⟩ : ∃ X, x.1 = X := ⟨_, rfl⟩
      rw [hX] at hxn hx4 hx1 hxf p0 p1 p2 p3 hes ⊢
      subst hxn
      have hmore := ext_more s X (X + wd s X) (by omega) (by omega)
      obtain ⟨wx, hwx⟩ : ∃ wx, wd s X = wx := ⟨_, rfl⟩
      rw [hwx] at hx4 hx1 hxf p1 hes hmore ⊢
      have g1 : decide ((wx : Int) < 1) = false := decide_eq_false (by omega)
      have g2 : decide ((s.size : Int) < (X : Int) + (wx : Int)) = false := decide_eq_false (by omega)
      have fw : IntKind.i64.wrap ((X : Int) + (wx : Int)) = (X : Int) + (wx : Int) := IntWalk.i64_in _ (by omega)
      have k2 : (0 : Int) ≤ (X : Int) := by omega
      have k3 : (X : Int) ≤ (X : Int) + (wx : Int) := by omega
      have k4 : (X : Int) + (wx : Int) ≤ (s.size : Int) := by omega
      have k7 : (9223372036854775807 < X + wx) = False := by simp; omega
      have k6 : ((X : Int) + (wx : Int)).toNat = X + wx := by omega
      gi_wp2
      refine round_still_tail 11 (by kernel_rfl) (by kernel_rfl) (by kernel_rfl) (noOut_then (fun _ _ h => h)) ?_
      simp only [List.take_succ_cons, List.take_zero, List.drop_succ_cons, List.drop_zero]
      repeat still_step
      refine wpStill_nil ?_
      refine wpList_plain rfl fun K hK => ?_
      go_simp
      refine hK _ _ ?_
      clear hK K
      refine wpList_nil ?_
      obtain ⟨WA, hWA⟩ : ∃ WA, (W.setCell ⟨N + 1, 0, none⟩ (.string (s.extract 0 (X + wx)))).drew = WA := ⟨_, rfl⟩
      have hbk : Blk W Bx #[.int .i64 X, .int .i64 wx, .int .i32 (rn s X : Nat), .bool (bk s X)] 24 := by rw [← hX, ← hwx, ← hX] at *; exact hbx
      have m0 : Boxed WA w.heap.size 9 (.string s) := by rw [← hWA]; exact h0.other (by omega) _
      have m1 : Boxed WA (w.heap.size + 1) 4 (.bool false) := by rw [← hWA]; exact h1.other (by omega) _
      have m2 : Boxed WA (N + 1) 9 (.string (s.extract 0 (X + wx))) := by rw [← hWA]; exact h2.set _
      have m3 : Boxed WA (N + 1 + 1) 9 (.string s) := by rw [← hWA]; exact h3.other (by omega) _
      have m4 : Boxed WA N 29 v := by rw [← hWA]; exact h4.other (by omega) _
      have mr : WA.ownsRow w.heap.size 24 4 v pre.length (pcs s (pre.map (·.1))) := by
        rw [← hWA]; exact drew_row (hrow.kept (grownBy_setCell W (N + 1) 0 _) (.inr (fun e => boxed_not_row h2 (by decide) hrow e)))
      have mb : Blk WA Bx #[.int .i64 X, .int .i64 wx, .int .i32 (rn s X : Nat), .bool (bk s X)] 24 := by rw [← hWA]; exact hbk.other (by omega) 0 _
      have mk : KeepsOthers W WA := by rw [← hWA]; exact (KeepsOthers.setCell _ _ _).trans (KeepsOthers.drew _)
      have mB : Below w.heap.size w WA := by rw [← hWA]; exact (hB.setCell (p := ⟨N + 1, 0, none⟩) (by dsimp only; omega) _).drew
      have b0 : WA.cell? ⟨Bx, 0, none⟩ = some (.int .i64 X) := mb.cell 0
      have b1 : WA.cell? ⟨Bx, 1, none⟩ = some (.int .i64 wx) := mb.cell 1
      have b2 : WA.cell? ⟨Bx, 2, none⟩ = some (.int .i32 (rn s X : Nat)) := mb.cell 2
      have b3 : WA.cell? ⟨Bx, 3, none⟩ = some (.bool (bk s X)) := mb.cell 3
      have mc4 := m4.cell
      have mf4 := m4.frozen
      rw [hWA]
      clear hWA hc0 hc1 hf1 hc2 hf2 hc4 hf4 p0 p1 p2 p3 hbk
      gi_wp2_with (gi_at_builtin; refine round_list (noOut (fun _ _ h => h)) _ _ _ (by kernel_rfl) ?_; refine wpList_append_own _ rfl _ _ 29 rfl w.heap.size 24 i0 (.agg #[.int .i64 0, .int .i64 0, .int .i32 0, .bool false]) 4 24 Try.underlying29 hi hz0 hz1 hz2 rfl (by decide) _ _ _ rfl (mr.alloc _) ⟨WA.heap.size, 0, none⟩ 1 1 [.int .i64 X, .int .i64 wx, .int .i32 (rn s X : Nat), .bool (bk s X)] rfl rfl (World.news_of_block (cs := #[.int .i64 X, .int .i64 wx, .int .i32 (rn s X : Nat), .bool (bk s X)]) (t := 24) (fr := (0, 0)) (World.alloc_heap_new WA _)) (fun x hx => by simp at hx; rcases hx with rfl | rfl | rfl | rfl <;> rfl) (by unfold maxLen; omega) (by omega) (by have := mB.size; simp; omega) ?_; intro v' w2 hown' hgrow _; have k4 := (m4.alloc (.cells #[.int .i64 X, .int .i64 wx, .int .i32 (rn s X : Nat), .bool (bk s X)] 24)).kept hgrow (fun e' => boxed_not_row (m4.alloc (.cells #[.int .i64 X, .int .i64 wx, .int .i32 (rn s X : Nat), .bool (bk s X)] 24)) (by decide) (mr.alloc _) e'.symm); have kc4 := k4.cell; have kf4 := k4.frozen)
      obtain ⟨o', c', rfl, _⟩ := own_slice hown'
      obtain ⟨q1, q2, q3, q4⟩ := row_step (W := WA.alloc (.cells #[.int .i64 X, .int .i64 wx, .int .i32 (rn s X : Nat), .bool (bk s X)] 24)) (T := 29) (e := 24) (by decide) (m4.alloc _) (mr.alloc _) hgrow hown'
      refine wpList_plain rfl fun K hK => ?_
      go_simp
      refine hK _ _ ?_
      clear hK K
      refine wpList_nil ?_
      have r0 := q3 _ _ _ (by decide) (by omega) (m0.alloc _)
      have r1 := q3 _ _ _ (by decide) (by omega) (m1.alloc _)
      have r2 := q3 _ _ _ (by decide) (by omega) (m2.alloc _)
      have r3 := q3 _ _ _ (by decide) (by omega) (m3.alloc _)
      have q0 : KeepsOthers W _ := (mk.trans (KeepsOthers.alloc _ _)).trans q1
      refine ⟨q0.from _, ⟨q0.walks, (show _ = _ from r3).trans (show _ = _ from h3).symm⟩, ⟨⟨⟨⟨r0, r1⟩, ?_⟩, r3⟩, ?_⟩, q4 _ _ (mB.alloc mB.size _) (by omega) (Nat.le_refl _) (by have := mB.size; simp; omega)⟩
      · rw [hes]; exact r2
      · rw [List.length_append, List.map_append, List.map_singleton, pcs_snoc, hX, hwx]; exact q2
    · have g0 : ((x.1 : Int) == (n : Int)) = false := by rw [beq_eq_false_iff_ne]; omega
      gi_wp2
      exact ⟨(KeepsOthers.setCell _ _ _).from _, fun h => hxn (hen h)⟩
  case done =>
    rintro D xs W hD hxs ⟨⟨⟨⟨⟨h0, h1⟩, h2⟩, h3⟩, ⟨v, h4, hrow⟩⟩, hB⟩ hK
    have hend : endN xs = s.size := by
      have := end_le xs
      rcases end_all xs hxs with h | h <;> omega
    rw [hend, ext_full] at h2
    obtain ⟨M, hM⟩ : ∃ M, xs.length = M := ⟨_, rfl⟩
    have hM2 : (posns s).length = M := by rw [← hxs, List.length_map]; exact hM
    rw [hxs, hM] at hrow
    have hML := posns_len s
    rw [hM2] at hML
    obtain ⟨o, cap, rfl, ho⟩ := own_slice hrow
    clear hxs hM hend xs
    rw [hsz] at hD
    have hc0 := h0.cell
    have hc4 := h4.cell
    have hDl : D < W.heap.size := (Array.getElem?_eq_some_iff.1 hK).1
    have l0 : w.heap.size < W.heap.size := Blk.lt (show Blk _ _ _ _ from h0)
    have l1 : N < W.heap.size := Blk.lt (show Blk _ _ _ _ from h4)
    gi_wp2_with (first | (gi_at_call 21; refine (callsIn_wide.2 (back_any _ _)).mono ?_; rintro e w' ⟨rfl, rfl⟩))
    obtain ⟨P, hP⟩ : ∃ P, W.heap.size = P := ⟨_, rfl⟩
    have f0 := (h0.alloc (.cells #[.int .i64 M] 3)).alloc (.cells #[.string s] 9)
    have f1 := (h1.alloc (.cells #[.int .i64 M] 3)).alloc (.cells #[.string s] 9)
    have f2 := (h2.alloc (.cells #[.int .i64 M] 3)).alloc (.cells #[.string s] 9)
    have f4 := (h4.alloc (.cells #[.int .i64 M] 3)).alloc (.cells #[.string s] 9)
    have fr := (hrow.alloc (.cells #[.int .i64 M] 3)).alloc (.cells #[.string s] 9)
    have f5 := (Boxed.new W 3 (.int .i64 M)).alloc (.cells #[.string s] 9)
    have f6 := Boxed.new (W.alloc (.cells #[.int .i64 M] 3)) 9 (.string s)
    have fB := (hB.alloc hB.size (.cells #[.int .i64 M] 3)).alloc (by have := hB.size; simp; omega) (.cells #[.string s] 9)
    have fD : ((W.alloc (.cells #[.int .i64 M] 3)).alloc (.cells #[.string s] 9)).heap[D]? = some (.deferred (some [])) := by
      rw [Below.heap_alloc _ _ _ (by simp; omega), Below.heap_alloc _ _ _ hDl]; exact hK
    have fz : ((W.alloc (.cells #[.int .i64 M] 3)).alloc (.cells #[.string s] 9)).heap.size = P + 2 := by simp [hP]
    simp only [World.size_alloc, hP] at f5 f6 hDl l0 l1 ⊢
    obtain ⟨V0, hV0⟩ : ∃ V0, ((W.alloc (.cells #[.int .i64 M] 3)).alloc (.cells #[.string s] 9)) = V0 := ⟨_, rfl⟩
    rw [hV0] at f0 f1 f2 f4 fr f5 f6 fB fD fz ⊢
    clear hV0 hB h0 h1 h2 h3 h4 hrow hK hc0 hc4 hP ho
    refine range_back 7 s (by omega) (P + 1) f6 rfl (WhI2 s w N P M D)
      (fun (c : Code) (pre : List (Pos s)) (W : World) => ¬ (List.map (fun (x : Pos s) => (x.1 : Nat)) pre <+: (posns s).reverse))
      (OwnFrom.and (OwnFrom.and (OwnFrom.and (OwnFrom.and (OwnFrom.and (OwnFrom.and (OwnFrom.and (OwnFrom.and (Own.from (boxed_own _ _ _) _) (Own.from (boxed_own _ _ _) _)) (Own.from (boxed_own _ _ _) _)) (Own.from (boxed_own _ _ _) _)) (Own.from (boxRow_own _ _ _ _ _ _ _) _)) (Own.from (boxed_own _ _ _) _)) (fun _ _ _ _ h _ _ => h)) (old_own D _ _ (by omega))) (ownFrom_below (Nat.le_refl _) (by omega)))
      (fun _ s X Y row h _ _ => h) ⟨⟨⟨⟨⟨⟨⟨⟨f0, f1⟩, f2⟩, f6⟩, ⟨_, f4, fr⟩⟩, by simpa using f5⟩, by simp⟩, fD⟩, fB⟩ ?assign2 ?body2 ?done2 ?stop2
    case assign2 =>
      intro l x W K hK
      simp only [pcC] at hK ⊢
      gi_wp2
      exact hK
    case stop2 =>
      rintro D c pre W hD hp h _
      exact (h hp).elim
    case body2 =>
      rintro l pre x Bx W ⟨⟨⟨⟨⟨⟨⟨⟨h0, h1⟩, h2⟩, h6⟩, ⟨v, h4, hrow⟩⟩, h5⟩, hlk⟩, hKD⟩, hB⟩ hle hbx hlen
      rw [fz] at hle
      obtain ⟨d, hd⟩ : ∃ d, M - pre.length = d := ⟨_, rfl⟩
      rw [hd] at h5
      have hc5 := h5.cell
      have hf5 := h5.frozen
      have hc1 := h1.cell
      have hf1 := h1.frozen
      simp only [pcC]
      by_cases h : d = 0
      · subst h
        have hne : ¬ (List.map (fun (x : Pos s) => (x.1 : Nat)) (pre ++ [x]) <+: (posns s).reverse) := fun h => by have := (rev_at pre x h).1; omega
        gi_wp2
        obtain ⟨WA, hWA⟩ : ∃ WA, W.setCell ⟨P, 0, none⟩ (.int .i64 (-1)) = WA := ⟨_, rfl⟩
        have m5 : Boxed WA P 3 (.int .i64 (-1)) := by rw [← hWA]; exact h5.set _
        have m1 : Boxed WA (w.heap.size + 1) 4 (.bool false) := by rw [← hWA]; exact h1.other (by omega) _
        have mk : KeepsOthers W WA := by rw [← hWA]; exact KeepsOthers.setCell _ _ _
        have c5 := m5.cell
        have c1 := m1.cell
        have e1 := m1.frozen
        rw [hWA]
        clear hWA hc5 hf5 hc1 hf1
        refine round_quiet (by kernel_rfl) (by kernel_rfl) (by kernel_rfl) (noOut_then (fun _ _ h => h)) ?_
        repeat (quiet_step (fail))
        refine wpQuiet_nil ?_
        intro _ hw'
        obtain ⟨nq, hw''⟩ := hw'
        subst hw''
        gi_wp2
        exact ⟨((mk.trans (⟨Nat.le_refl _, fun _ _ h _ => h⟩ : KeepsOthers WA (WA.drewN nq))).trans (KeepsOthers.setCell _ _ _)).from _, hne⟩
      · obtain ⟨d', rfl⟩ : ∃ d', d = d' + 1 := ⟨d - 1, by omega⟩
        have hdb : d' + 1 ≤ 9223372036854775807 := by omega
        have hdM : d' < M := by omega
        have hdMi : (d' : Int) < (M : Int) := by omega
        have hMb : M ≤ 2048 := by omega
        have hv : M - (pre ++ [x]).length = d' := by rw [List.length_append]; simp; omega
        have hlv : (pre ++ [x]).length ≤ M := by rw [List.length_append]; simp; omega
        obtain ⟨y, hy⟩ : ∃ y, (posns s)[d']? = some y := ⟨_, List.getElem?_eq_getElem (by omega)⟩
        have hne : x.1 ≠ y → ¬ (List.map (fun (x : Pos s) => (x.1 : Nat)) (pre ++ [x]) <+: (posns s).reverse) := fun hxy h => by
          have := (rev_at pre x h).2
          rw [hM2, show M - 1 - pre.length = d' by omega, hy] at this
          exact hxy (Option.some.inj this).symm
        obtain ⟨o, cap, rfl, ho⟩ := own_slice hrow
        obtain ⟨g, rfl⟩ := ho (by omega)
        have HV := Lib.hid hv
        have HL := Lib.hid hlv
        gi_wp2
        obtain ⟨WA, hWA⟩ : ∃ WA, W.setCell ⟨P, 0, none⟩ (.int .i64 d') = WA := ⟨_, rfl⟩
        have m5 : Boxed WA P 3 (.int .i64 d') := by rw [← hWA]; exact h5.set _
        have m0 : Boxed WA w.heap.size 9 (.string s) := by rw [← hWA]; exact h0.other (by omega) _
        have m1 : Boxed WA (w.heap.size + 1) 4 (.bool false) := by rw [← hWA]; exact h1.other (by omega) _
        have m2 : Boxed WA (N + 1) 9 (.string s) := by rw [← hWA]; exact h2.other (by omega) _
        have m4 : Boxed WA N 29 (.slice (some ⟨g, 0, none⟩) M cap) := by rw [← hWA]; exact h4.other (by omega) _
        have m6 : Boxed WA (P + 1) 9 (.string s) := by rw [← hWA]; exact h6.other (by omega) _
        have mr : WA.ownsRow w.heap.size 24 4 (.slice (some ⟨g, 0, none⟩) M cap) M (pcs s (posns s)) := by
          rw [← hWA]; exact hrow.kept (grownBy_setCell W P 0 _) (.inr (fun e => boxed_not_row h5 (by decide) hrow e))
        have mb : WA.heap[Bx]? = some (.cells (pcC s x.1) 24) := by rw [← hWA]; exact set_keeps h5 (by decide) hbx
        have mk : KeepsOthers W WA := by rw [← hWA]; exact KeepsOthers.setCell _ _ _
        have ms : ∀ (b : Nat) (cs : Array Value), W.heap[b]? = some (Obj.cells cs 24 (0, 0)) → WA.heap[b]? = some (Obj.cells cs 24 (0, 0)) := by rw [← hWA]; exact fun b cs hb => set_keeps h5 (by decide) hb
        have mD : WA.heap[D]? = some (.deferred (some [])) := by rw [← hWA, Below.heap_setCell _ _ _ _ (by dsimp only; omega)]; exact hKD
        have mB : Below w.heap.size w WA := by rw [← hWA]; exact hB.setCell (p := ⟨P, 0, none⟩) (by dsimp only; omega) _
        obtain ⟨p0, p1, p2, p3⟩ := pcell mb
        obtain ⟨q0, q1, q2, q3⟩ := nth_cells mr hM2 d' hdM y hy
        have c5 := m5.cell
        have c4 := m4.cell
        have c1 := m1.cell
        have e1 := m1.frozen
        have hq6 : (h6 : _) = h6 := rfl
        rw [hWA]
        clear hWA hc5 hf5 hc1 hf1 hv hlv hq6
        by_cases hxy : x.1 = y
        · subst hxy
          refine round_quiet (by kernel_rfl) (by kernel_rfl) (by kernel_rfl) (noOut_then (fun _ _ h => h)) ?_
          repeat (quiet_step (fail))
          refine wpQuiet_nil ?_
          intro _ hw'
          obtain ⟨nq, hw''⟩ := hw'
          subst hw''
          gi_wp2
          refine ⟨(mk.trans (⟨Nat.le_refl _, fun _ _ h _ => h⟩ : KeepsOthers WA (WA.drewN nq))).from _, ⟨⟨mk.walks.trans (⟨Nat.le_refl _, fun _ _ h _ => h⟩ : KeepsOthers WA (WA.drewN nq)).walks, (show _ = _ from m6).trans (show _ = _ from h6).symm⟩, ms⟩, ⟨⟨⟨⟨⟨⟨⟨m0, m1⟩, m2⟩, m6⟩, ⟨_, m4, mr⟩⟩, by rw [HV.out]; exact m5⟩, HL.out⟩, mD⟩, mB.trans ⟨rfl, rfl, rfl, Nat.le_refl _, fun _ _ => rfl⟩⟩
        · have hxi : ((x.1 : Int) == (y : Int)) = false := by rw [beq_eq_false_iff_ne]; omega
          have hne2 := Lib.hid (hne hxy)
          refine round_quiet (by kernel_rfl) (by kernel_rfl) (by kernel_rfl) (noOut_then (fun _ _ h => h)) ?_
          repeat (quiet_step (fail))
          refine wpQuiet_nil ?_
          intro _ hw'
          obtain ⟨nq, hw''⟩ := hw'
          subst hw''
          gi_wp2
          exact ⟨((mk.trans (⟨Nat.le_refl _, fun _ _ h _ => h⟩ : KeepsOthers WA (WA.drewN nq))).trans (KeepsOthers.setCell _ _ _)).from _, hne2.out⟩
    case done2 =>
      rintro D2 xs V hD2 hxs ⟨⟨⟨⟨⟨⟨⟨⟨h0, h1⟩, h2⟩, h6⟩, ⟨v, h4, hrow⟩⟩, h5⟩, hlk⟩, hKD⟩, hB⟩ hK2
      have hxl : xs.length = M := by have := congrArg List.length hxs; simpa [hM2] using this
      rw [hxl, Nat.sub_self] at h5
      obtain ⟨o, cap, rfl, ho⟩ := own_slice hrow
      rw [fz] at hD2
      have hc0 := h0.cell
      have hc2 := h2.cell
      have hc4 := h4.cell
      have hc5 := h5.cell
      clear f0 f1 f2 f4 fr f5 f6 fB fD fz hB0 hxs hlk hxl xs
      gi_wp2
      refine wpIn_wide.2 ?_
      go_loopw [90] (fun i wr => WhRel M V i wr) (fun i _ => M - (intOf i).toNat)
      case atStart => exact ⟨0, rfl, Nat.zero_le _, Below.refl _ _⟩
      case round =>
        obtain ⟨k, rfl, hk, hW⟩ := hrel
        have m0 : Boxed wr w.heap.size 9 (.string s) := Blk.below' (show Blk V _ _ _ from h0) hW
        have mr := own_below hrow hW
        have c0 := m0.cell
        by_cases hlt : k < M
        · have hlti : (k : Int) < (M : Int) := by omega
          obtain ⟨y, hy⟩ : ∃ y, (posns s)[k]? = some y := ⟨_, List.getElem?_eq_getElem (by omega)⟩
          have hym : y ∈ posns s := List.mem_of_getElem? hy
          have hyl := (posG_ge s 0 y hym).2
          have hw1 := wd_pos s y
          have hwf := wd_fits s y hyl
          obtain ⟨g, rfl⟩ := ho (by omega)
          obtain ⟨q0, q1, q2, q3⟩ := nth_cells mr hM2 k hlt y hy
          have cA := at_ok s y hyl (by omega)
          have cD := Boundary_any s (y : Int) (by omega)
          rw [isB_at s y hym] at cD
          have hmid := fun i => in_mid s y i hym
          obtain ⟨n, hn⟩ : ∃ n, y + wd s y = n := ⟨_, rfl⟩
          have cB := bef_end s y n hym hn (by omega)
          obtain ⟨wx, hwx⟩ : ∃ wx, wd s y = wx := ⟨_, rfl⟩
          rw [hwx] at hw1 hwf hn q1 cA cB
          have hni : (y : Int) + (wx : Int) = (n : Int) := by omega
          have hnl : n ≤ s.size := by omega
          have hyn : y + 1 ≤ n := by omega
          have HM := Lib.hid hmid
          have HW := Lib.hid hwx
          clear hmid hwx hy hym hn
          have ltw : w.heap.size < wr.heap.size := Blk.lt (show Blk _ _ _ _ from m0)
          go_wp2_with (first | (go_at_call 16; refine (cA _).mono ?_; rintro e w1 ⟨rfl, hb1⟩; have P1 : Blk w1 wr.heap.size #[.int .i64 y, .int .i64 wx, .int .i32 (rn s y : Nat), .bool (bk s y)] 24 := (Blk.new wr _ _).below' hb1; have S1 : Boxed w1 w.heap.size 9 (.string s) := Blk.below' ((show Blk wr _ _ _ from m0).alloc _) hb1; have s1 := S1.cell; have L1 : w.heap.size < w1.heap.size := Blk.lt (show Blk _ _ _ _ from S1); have L2 : wr.heap.size < w1.heap.size := P1.lt; have pa0 : w1.cell? ⟨wr.heap.size, 0, none⟩ = some (.int .i64 y) := P1.cell 0; have pa1 : w1.cell? ⟨wr.heap.size, 1, none⟩ = some (.int .i64 wx) := P1.cell 1; have pa2 : w1.cell? ⟨wr.heap.size, 2, none⟩ = some (.int .i32 (rn s y : Nat)) := P1.cell 2; have pa3 : w1.cell? ⟨wr.heap.size, 3, none⟩ = some (.bool (bk s y)) := P1.cell 3) | (go_at_call 18; refine (cB _).mono ?_; rintro e w2 ⟨rfl, hb2⟩; have P2 : Blk w2 wr.heap.size #[.int .i64 y, .int .i64 wx, .int .i32 (rn s y : Nat), .bool (bk s y)] 24 := (P1.alloc _).below' hb2; have X2 : Blk w2 w1.heap.size #[.int .i64 y, .int .i64 wx, .int .i32 (rn s y : Nat), .bool (bk s y)] 24 := (Blk.new w1 _ _).below' hb2; have S2 : Boxed w2 w.heap.size 9 (.string s) := Blk.below' ((show Blk w1 _ _ _ from S1).alloc _) hb2; have s2 := S2.cell; have L3 : w.heap.size < w2.heap.size := Blk.lt (show Blk _ _ _ _ from S2); have L4 : wr.heap.size < w2.heap.size := P2.lt; have L5 : w1.heap.size < w2.heap.size := X2.lt; have pb0 : w2.cell? ⟨wr.heap.size, 0, none⟩ = some (.int .i64 y) := P2.cell 0; have pb1 : w2.cell? ⟨wr.heap.size, 1, none⟩ = some (.int .i64 wx) := P2.cell 1; have pb2 : w2.cell? ⟨wr.heap.size, 2, none⟩ = some (.int .i32 (rn s y : Nat)) := P2.cell 2; have pb3 : w2.cell? ⟨wr.heap.size, 3, none⟩ = some (.bool (bk s y)) := P2.cell 3; have xb0 : w2.cell? ⟨w1.heap.size, 0, none⟩ = some (.int .i64 y) := X2.cell 0; have xb1 : w2.cell? ⟨w1.heap.size, 1, none⟩ = some (.int .i64 wx) := X2.cell 1; have xb2 : w2.cell? ⟨w1.heap.size, 2, none⟩ = some (.int .i32 (rn s y : Nat)) := X2.cell 2; have xb3 : w2.cell? ⟨w1.heap.size, 3, none⟩ = some (.bool (bk s y)) := X2.cell 3) | (go_at_call 32; refine (cD _).mono ?_; rintro e w3 ⟨rfl, hb3⟩; have P3 : Blk w3 wr.heap.size #[.int .i64 y, .int .i64 wx, .int .i32 (rn s y : Nat), .bool (bk s y)] 24 := (P2.alloc _).below' hb3; have S3 : Boxed w3 w.heap.size 9 (.string s) := Blk.below' ((show Blk w2 _ _ _ from S2).alloc _) hb3; have s3 := S3.cell; have pd0 : w3.cell? ⟨wr.heap.size, 0, none⟩ = some (.int .i64 y) := P3.cell 0; have pd1 : w3.cell? ⟨wr.heap.size, 1, none⟩ = some (.int .i64 wx) := P3.cell 1; have pd2 : w3.cell? ⟨wr.heap.size, 2, none⟩ = some (.int .i32 (rn s y : Nat)) := P3.cell 2; have pd3 : w3.cell? ⟨wr.heap.size, 3, none⟩ = some (.bool (bk s y)) := P3.cell 3))
          have g1 := (hW.alloc hW.size (.cells #[.int .i64 y, .int .i64 wx, .int .i32 (rn s y : Nat), .bool (bk s y)] 24)).trans (hb1.mono (by have := hW.size; simp; omega))
          have g2 := (g1.alloc g1.size (.cells #[.int .i64 y, .int .i64 wx, .int .i32 (rn s y : Nat), .bool (bk s y)] 24)).trans (hb2.mono (by have := g1.size; simp; omega))
          have g3 := (g2.alloc g2.size (.cells #[.int .i64 y, .int .i64 wx, .int .i32 (rn s y : Nat), .bool (bk s y)] 24)).trans (hb3.mono (by have := g2.size; simp; omega))
          obtain ⟨Bp, hBp⟩ : ∃ B, wr.heap.size = B := ⟨_, rfl⟩
          rw [hBp] at P3 ⊢
          clear g1 g2 hb1 hb2 hb3 hBp P1 P2 X2 S1 S2 s1 s2 s3 pa0 pa1 pa2 pa3 pb0 pb1 pb2 pb3 xb0 xb1 xb2 xb3 pd0 pd1 pd2 pd3 L1 L2 L3 L4 L5 cA cB cD q0 q1 q2 q3
          go_loopw [14] (fun i wq => WhRel2 y n w3 i wq) (fun i _ => n - (intOf i).toNat)
          case atStart => exact ⟨y + 1, by go_num, by omega, hyn, Below.refl _ _⟩
          case round =>
            obtain ⟨j, rfl, hj1, hj2, hX⟩ := hrel
            have n0 : Boxed wr w.heap.size 9 (.string s) := Blk.below' (show Blk w3 _ _ _ from S3) hX
            have np : Blk wr Bp #[.int .i64 y, .int .i64 wx, .int .i32 (rn s y : Nat), .bool (bk s y)] 24 := P3.below' hX
            have d0 := n0.cell
            have e0 : wr.cell? ⟨Bp, 0, none⟩ = some (.int .i64 y) := np.cell 0
            have e1 : wr.cell? ⟨Bp, 1, none⟩ = some (.int .i64 wx) := np.cell 1
            have hXw := hX.size
            by_cases hlt2 : j < n
            · have hlt2i : (j : Int) < (n : Int) := by omega
              obtain ⟨z1, z2, z3, z4⟩ := HM.out j hj1 (by rw [HW.out]; omega)
              have cA2 := at_ok s j (by omega) (by omega)
              rw [z1, z2] at cA2
              have cD2 := Boundary_any s (j : Int) (by omega)
              rw [z3] at cD2
              have cR2 := Around_ok s j (by omega) (by omega)
              have hz5 : Hid (∀ F T, InB s j F T → y = F ∧ n = T) := Lib.hid (fun F T h => by have := z4 F T h; rw [HW.out] at this; omega)
              clear z1 z2 z3 z4
              go_wp2_with (first | (go_at_call 16; refine (cA2 _).mono ?_; rintro e w4 ⟨rfl, hb4⟩; have N1 : Boxed w4 w.heap.size 9 (.string s) := Blk.below' (show Blk wr _ _ _ from n0) hb4; have NP1 : Blk w4 Bp #[.int .i64 y, .int .i64 wx, .int .i32 (rn s y : Nat), .bool (bk s y)] 24 := np.below' hb4; have nc1 := N1.cell; have M1 : w.heap.size < w4.heap.size := Blk.lt (show Blk _ _ _ _ from N1); have M2 : Bp < w4.heap.size := NP1.lt) | (go_at_call 31; refine (cR2 _).mono ?_; rintro e w5 ⟨F, T, hin, rfl, hb5⟩; obtain ⟨rfl, rfl⟩ := hz5.out F T hin; clear hin; have N2 : Boxed w5 w.heap.size 9 (.string s) := Blk.below' ((show Blk w4 _ _ _ from N1).alloc _) hb5; have NP2 : Blk w5 Bp #[.int .i64 y, .int .i64 wx, .int .i32 (rn s y : Nat), .bool (bk s y)] 24 := (NP1.alloc _).below' hb5; have X2 : Blk w5 w4.heap.size #[.int .i64 j, .int .i64 1, .int .i32 (rn s j : Nat), .bool true] 24 := (Blk.new w4 _ _).below' hb5; have nc2 := N2.cell; have M3 : w.heap.size < w5.heap.size := Blk.lt (show Blk _ _ _ _ from N2); have M4 : Bp < w5.heap.size := NP2.lt; have M5 : w4.heap.size < w5.heap.size := X2.lt; have xx0 : w5.cell? ⟨w4.heap.size, 0, none⟩ = some (.int .i64 j) := X2.cell 0; have xx1 : w5.cell? ⟨w4.heap.size, 1, none⟩ = some (.int .i64 1) := X2.cell 1; have xx2 : w5.cell? ⟨w4.heap.size, 2, none⟩ = some (.int .i32 (rn s j : Nat)) := X2.cell 2; have xx3 : w5.cell? ⟨w4.heap.size, 3, none⟩ = some (.bool true) := X2.cell 3) | (go_at_call 32; refine (cD2 _).mono ?_; rintro e w6 ⟨rfl, hb6⟩; have NP3 : Blk w6 Bp #[.int .i64 y, .int .i64 wx, .int .i32 (rn s y : Nat), .bool (bk s y)] 24 := (NP2.alloc _).below' hb6; have Z3 : Blk w6 w5.heap.size #[.int .i64 y, .int .i64 n] 49 := (Blk.new w5 _ _).below' hb6; have pe0 : w6.cell? ⟨Bp, 0, none⟩ = some (.int .i64 y) := NP3.cell 0; have pe1 : w6.cell? ⟨Bp, 1, none⟩ = some (.int .i64 wx) := NP3.cell 1; have pe2 : w6.cell? ⟨Bp, 2, none⟩ = some (.int .i32 (rn s y : Nat)) := NP3.cell 2; have pe3 : w6.cell? ⟨Bp, 3, none⟩ = some (.bool (bk s y)) := NP3.cell 3; have ze0 : w6.cell? ⟨w5.heap.size, 0, none⟩ = some (.int .i64 y) := Z3.cell 0; have ze1 : w6.cell? ⟨w5.heap.size, 1, none⟩ = some (.int .i64 n) := Z3.cell 1))
              have i1 := hX.trans (hb4.mono hX.size)
              have i2 := (i1.alloc i1.size (.cells #[.int .i64 j, .int .i64 1, .int .i32 (rn s j : Nat), .bool true] 24)).trans (hb5.mono (by have := i1.size; simp; omega))
              have i3 := (i2.alloc i2.size (.cells #[.int .i64 y, .int .i64 n] 49)).trans (hb6.mono (by have := i2.size; simp; omega))
              go_roundw
              case rel => exact ⟨j + 1, by go_num, by omega, by omega, i3⟩
              case measure => simp [intOf]; omega
            · have hjn : j = n := by omega
              subst hjn
              go_wp2
              go_roundw
              case rel => exact ⟨k + 1, by go_num, by omega, g3.trans (hX.mono g3.size)⟩
              case measure => simp [intOf]; omega
        · have hkM : k = M := by omega
          subst hkM
          have m1 : Boxed wr (w.heap.size + 1) 4 (.bool false) := Blk.below' (show Blk V _ _ _ from h1) hW
          have cE := Boundary_any s (s.size : Int) (by omega)
          rw [isB_end] at cE
          have hBw := hB.trans (hW.mono hB.size)
          have kD : wr.heap[D]? = some (.deferred (some [])) := (hW.block D (Array.getElem?_eq_some_iff.1 hKD).1).trans hKD
          have kD2 : wr.heap[D2]? = some (.deferred (some [])) := (hW.block D2 (Array.getElem?_eq_some_iff.1 hK2).1).trans hK2
          go_wp2
          gi_wp2_with (first | (gi_at_call 32; refine (callsIn_wide.2 (cE _)).mono ?_; rintro e w7 ⟨rfl, hb7⟩) | (gi_at_call 15; refine (callsIn_wide.2 (wakes_any _)).mono ?_; rintro e w8 ⟨rfl, hb8⟩; have m8 : Boxed w8 (w.heap.size + 1) 4 (.bool false) := Blk.below' (Blk.below' (show Blk wr _ _ _ from m1) hb7) hb8; have y8 := m8.cell; have z8 := m8.frozen))
          have hB8 := (hBw.trans (hb7.mono hBw.size)).trans (hb8.mono (Nat.le_trans hBw.size hb7.size))
          have j7 : w7.heap[D]? = some (.deferred (some [])) := (hb7.block D (Array.getElem?_eq_some_iff.1 kD).1).trans kD
          have j8 : w8.heap[D]? = some (.deferred (some [])) := (hb8.block D (Array.getElem?_eq_some_iff.1 j7).1).trans j7
          have n7 : w7.heap[D2]? = some (.deferred (some [])) := (hb7.block D2 (Array.getElem?_eq_some_iff.1 kD2).1).trans kD2
          have n8 : w8.heap[D2]? = some (.deferred (some [])) := (hb8.block D2 (Array.getElem?_eq_some_iff.1 n7).1).trans n7
          have m9 : Boxed (w8.setCell ⟨w.heap.size + 1, 0, none⟩ (.bool true)) (w.heap.size + 1) 4 (.bool true) := m8.set _
          have j9 : (w8.setCell ⟨w.heap.size + 1, 0, none⟩ (.bool true)).heap[D]? = some (.deferred (some [])) := by rw [Below.heap_setCell _ _ _ _ (by dsimp only; omega)]; exact j8
          have n9 : (w8.setCell ⟨w.heap.size + 1, 0, none⟩ (.bool true)).heap[D2]? = some (.deferred (some [])) := by rw [Below.heap_setCell _ _ _ _ (by dsimp only; omega)]; exact n8
          have hB9 := hB8.setCell (p := ⟨w.heap.size + 1, 0, none⟩) (by simp) (.bool true)
          obtain ⟨W9, hW9⟩ : ∃ W9, w8.setCell ⟨w.heap.size + 1, 0, none⟩ (.bool true) = W9 := ⟨_, rfl⟩
          rw [hW9] at m9 j9 n9 hB9 ⊢
          clear hW9
          have j10 : (W9.putObj D2 (.deferred none)).heap[D]? = some (.deferred (some [])) := (World.putObj_heap_other (by omega)).trans j9
          have c10 : (W9.putObj D2 (.deferred none)).cell? ⟨w.heap.size + 1, 0, none⟩ = some (.bool true) := (World.cell?_of_block (w := W9) (World.putObj_heap_other (by dsimp only; omega))).trans m9.cell
          have hB10 := hB9.trans (belowK_b (w := w) (Nat.le_refl _) W9 D2 _ (.deferred none) (by omega) n9 rfl rfl)
          have c11 : ((W9.putObj D2 (.deferred none)).putObj D (.deferred none)).cell? ⟨w.heap.size + 1, 0, none⟩ = some (.bool true) := (World.cell?_of_block (w := W9.putObj D2 (.deferred none)) (World.putObj_heap_other (by dsimp only; omega))).trans c10
          have hB11 := hB10.trans (belowK_b (w := w) (Nat.le_refl _) (W9.putObj D2 (.deferred none)) D _ (.deferred none) (by omega) j10 rfl rfl)
          refine ⟨by simp, .inl ⟨_, _, rfl, run_takeDeferred (w := W9) n9, ?_⟩⟩
          refine ⟨by simp, .inl ⟨_, _, rfl, run_takeDeferred (w := W9.putObj D2 (.deferred none)) j10, ?_⟩⟩
          refine ⟨.bool true, ?_, rfl, hB11⟩
          simp [results, Try.f14, go_sem, c11]
  case stop =>
    rintro D c pre W hD hp h _
    exact (h hp).elim
end Go.Proofs.Ytgpnheaefagfiaa
