/- Layer 5: Cut, walked. -/
import Derived.Test.YtnbhdgbhmcbeoaaCl6
namespace Go.Proofs.Ytnbhdgbhmcbeoaa
set_option linter.unusedVariables false
set_option linter.unusedSimpArgs false
open Go Go.RowKit Go.Shelf
set_option maxRecDepth 100000
attribute [local go_sem] Oper.semAt_some
theorem run_store_funcK {m : Mode} {P : Program} {w : World} {a : Addr} (fn : Fn) (f c : Array Value) : (store a (.func fn f c) m).run P w = stored P w a (.func fn f c) m := run_store P w a _ m rfl
attribute [local go_sem] run_store_funcK

/-- The clusters that are cut off: as many as go. -/
def CutOf (s : ByteArray) (cz : Int) (P : List Cel) : Prop := P <+: cellsL s ∧ (colsL P : Int) ≤ max cz 0 ∧ ∀ x, P ++ [x] <+: cellsL s → max cz 0 < (colsL P : Int) + (x.2.2 : Int)

def CuB (s : ByteArray) (cz : Int) (w V : World) (pre : List Cel) (X : World) : Prop :=
  ((((Boxed X w.heap.size 3 (.int .i64 cz) ∧ Boxed X (w.heap.size + 1) 3 (.int .i64 (endC pre : Nat))) ∧ Boxed X (w.heap.size + 2) 3 (.int .i64 (colsL pre : Nat))) ∧ Boxed X (w.heap.size + 3) 67 (.func (.func 40) #[] #[.pointer (some ⟨w.heap.size + 2, 0, none⟩), .pointer (some ⟨w.heap.size, 0, none⟩), .pointer (some ⟨w.heap.size + 1, 0, none⟩)])) ∧ (Below w.heap.size w X ∧ V.heap.size ≤ X.heap.size)) ∧ (pre <+: cellsL s ∧ (colsL pre : Int) ≤ max cz 0)
theorem cuB_ab (s : ByteArray) (cz : Int) (w V : World) (h : w.heap.size ≤ V.heap.size) : AbX V.heap.size FrO (CuB s cz w V) :=
  (((((own_abO (boxed_own _ _ _)).and (own_abO (boxed_own _ _ _))).and (own_abO (boxed_own _ _ _))).and (own_abO (boxed_own _ _ _))).and (below_abO h)).and (fun _ _ _ _ h _ _ => h)
def CuX (s : ByteArray) (cz : Int) (w V : World) (c : Code) (pre : List Cel) (X : World) : Prop := c = .exit 0 ∧ ∃ q x, pre = q ++ [x] ∧ CuB s cz w V q X ∧ max cz 0 < (colsL q : Int) + (x.2.2 : Int)
theorem cuX_ab (s : ByteArray) (cz : Int) (w V : World) (h : w.heap.size ≤ V.heap.size) (c : Code) : AbX V.heap.size FrO (CuX s cz w V c) := fun t X Y row ⟨hc, q, x, e, hi, hx⟩ hg hr => ⟨hc, q, x, e, cuB_ab s cz w V h q X Y row hi hg hr, hx⟩
/-- What Cut leaves. -/
def CutPost (s : ByteArray) (cz : Int) (w : World) (e : Ending) (w' : World) : Prop := ∃ P, CutOf s cz P ∧ endC P ≤ s.size ∧ e = .returned (.tuple #[.string (s.extract 0 (endC P)), .string (s.extract (endC P) s.size), .int .i64 (colsL P : Nat)]) ∧ Below w.heap.size w w'

set_option maxHeartbeats 8000000 in
theorem cut_in (s : ByteArray) (hs : s.size ≤ 9223372036854775807) (cz : Int) (w : World) :
    CallsIn Fence.wide 12 Try.prog 18 #[.string s, .int .i64 cz] w (CutPost s cz w) := by
  have hll := cellsL_len s
  refine callsIn_of_wp_marks Try.func18 rfl trivial ?_ rfl
  simp only [Try.ntmps18, List.size_toArray, List.length_cons, List.length_nil, Nat.reduceAdd, Nat.reduceSub, Array.replicate_succ, Array.replicate_zero, List.push_toArray, List.append_toArray, List.nil_append, List.cons_append]
  have hF : ∀ f, Fence.wide.fn f := fun _ => trivial
  gi_wp2_with (gi_at_call 27; refine (callsIn_wide.2 (each_any _ _)).mono ?_; rintro e w' ⟨rfl, rfl⟩)
  have b0 : Boxed _ _ _ _ := ((((Boxed.new w 3 (.int .i64 cz)).alloc (.cells #[.int .i64 0] 3)).alloc (.cells #[.int .i64 0] 3)).alloc (.cells #[.func (.func 40) #[] #[.pointer (some ⟨w.heap.size + 2, 0, none⟩), .pointer (some ⟨w.heap.size, 0, none⟩), .pointer (some ⟨w.heap.size + 1, 0, none⟩)]] 67)).alloc (.cells #[.string s] 9)
  have b1 : Boxed _ _ _ _ := (((Boxed.new (w.alloc (.cells #[.int .i64 cz] 3)) 3 (.int .i64 0)).alloc (.cells #[.int .i64 0] 3)).alloc (.cells #[.func (.func 40) #[] #[.pointer (some ⟨w.heap.size + 2, 0, none⟩), .pointer (some ⟨w.heap.size, 0, none⟩), .pointer (some ⟨w.heap.size + 1, 0, none⟩)]] 67)).alloc (.cells #[.string s] 9)
  have b2 : Boxed _ _ _ _ := ((Boxed.new ((w.alloc (.cells #[.int .i64 cz] 3)).alloc (.cells #[.int .i64 0] 3)) 3 (.int .i64 0)).alloc (.cells #[.func (.func 40) #[] #[.pointer (some ⟨w.heap.size + 2, 0, none⟩), .pointer (some ⟨w.heap.size, 0, none⟩), .pointer (some ⟨w.heap.size + 1, 0, none⟩)]] 67)).alloc (.cells #[.string s] 9)
  have b3 : Boxed _ _ _ _ := (Boxed.new (((w.alloc (.cells #[.int .i64 cz] 3)).alloc (.cells #[.int .i64 0] 3)).alloc (.cells #[.int .i64 0] 3)) 67 (.func (.func 40) #[] #[.pointer (some ⟨w.heap.size + 2, 0, none⟩), .pointer (some ⟨w.heap.size, 0, none⟩), .pointer (some ⟨w.heap.size + 1, 0, none⟩)])).alloc (.cells #[.string s] 9)
  have b4 : Boxed _ _ _ _ := Boxed.new ((((w.alloc (.cells #[.int .i64 cz] 3)).alloc (.cells #[.int .i64 0] 3)).alloc (.cells #[.int .i64 0] 3)).alloc (.cells #[.func (.func 40) #[] #[.pointer (some ⟨w.heap.size + 2, 0, none⟩), .pointer (some ⟨w.heap.size, 0, none⟩), .pointer (some ⟨w.heap.size + 1, 0, none⟩)]] 67)) 9 (.string s)
  have hB := (((((Below.refl _ w).alloc (Nat.le_refl _) (.cells #[.int .i64 cz] 3)).alloc (by simp) (.cells #[.int .i64 0] 3)).alloc (by simp; omega) (.cells #[.int .i64 0] 3)).alloc (by simp; omega) (.cells #[.func (.func 40) #[] #[.pointer (some ⟨w.heap.size + 2, 0, none⟩), .pointer (some ⟨w.heap.size, 0, none⟩), .pointer (some ⟨w.heap.size + 1, 0, none⟩)]] 67)).alloc (by simp; omega) (.cells #[.string s] 9)
  have hz : (((((w.alloc (.cells #[.int .i64 cz] 3)).alloc (.cells #[.int .i64 0] 3)).alloc (.cells #[.int .i64 0] 3)).alloc (.cells #[.func (.func 40) #[] #[.pointer (some ⟨w.heap.size + 2, 0, none⟩), .pointer (some ⟨w.heap.size, 0, none⟩), .pointer (some ⟨w.heap.size + 1, 0, none⟩)]] 67)).alloc (.cells #[.string s] 9)).heap.size = w.heap.size + 5 := by simp
  simp only [World.size_alloc, Nat.add_assoc, Nat.reduceAdd] at b1 b2 b3 b4 ⊢
  obtain ⟨V, hV⟩ : ∃ V, (((((w.alloc (.cells #[.int .i64 cz] 3)).alloc (.cells #[.int .i64 0] 3)).alloc (.cells #[.int .i64 0] 3)).alloc (.cells #[.func (.func 40) #[] #[.pointer (some ⟨w.heap.size + 2, 0, none⟩), .pointer (some ⟨w.heap.size, 0, none⟩), .pointer (some ⟨w.heap.size + 1, 0, none⟩)]] 67)).alloc (.cells #[.string s] 9)) = V := ⟨_, rfl⟩
  rw [hV] at b0 b1 b2 b3 b4 hB hz ⊢
  clear hV
  have HLL := Lib.hid hll
  have hP : ∀ pre x, pre ++ [x] <+: cellsL s → endC pre ≤ s.size := fun pre x h => by have := due_cell h; omega
  refine range_each 10 s hs (w.heap.size + 4) b4 rfl (fun _ => CuB s cz w V) (CuX s cz w V)
    (fun _ => cuB_ab s cz w V (by omega)) (cuX_ab s cz w V (by omega)) ⟨⟨⟨⟨⟨b0, b1⟩, b2⟩, b3⟩, hB, Nat.le_refl _⟩, List.nil_prefix, by rw [colsL_nil]; omega⟩ ?assign ?body ?done ?stop
  case assign =>
    intro l x W K hK
    simp only [celV] at hK ⊢
    gi_wp2
    exact hK
  case body =>
    rintro l m pre x Bx X ⟨⟨⟨⟨⟨h0, h1⟩, h2⟩, h3⟩, h5, h6⟩, h7, h8⟩ hm1 hle hbl hbx hdue
    have bx : Blk X Bx #[.int .i64 (x.1 : Nat), .int .i64 (x.2.1 : Nat), .int .i64 (x.2.2 : Nat)] 26 := hbx
    have x0 := bx.cell 0
    have x1 := bx.cell 1
    have x2 := bx.cell 2
    simp only [List.getElem?_toArray, List.getElem?_cons_succ, List.getElem?_cons_zero] at x0 x1 x2
    have c3 := h3.cell
    obtain ⟨d1, d2, d3, d4, _, _, d7⟩ := due_cell hdue
    have hcl := due_cols hdue
    clear d1
    have lX : V.heap.size ≤ X.heap.size := h6
    by_cases hgo : max cz 0 < (colsL pre : Int) + (x.2.2 : Int)
    · have cA := add_no x cz (colsL pre) w.heap.size (w.heap.size + 2) (.pointer (some ⟨w.heap.size + 1, 0, none⟩)) d4 (by omega) X h0 h2 hgo
      simp only [celV] at cA
      have H := Lib.hid (And.intro (show CuB s cz w V pre X from ⟨⟨⟨⟨⟨h0, h1⟩, h2⟩, h3⟩, h5, h6⟩, h7, h8⟩) hgo)
      clear h0 h1 h2 h3 h5 h7 h8 hgo bx hbx hdue
      simp only [celV, List.setIfInBounds_toArray, List.set_cons_zero, List.set_cons_succ]
      gi_wp2_with (fail)
      refine ((callsIn_wide.2 cA).inRound _).mono ?_
      rintro e X1 ⟨rfl, hb⟩
      have k2 := kf_below (C := V.heap.size) hb
      have HB := Lib.hid hb
      clear hb
      gi_wp2
      refine ⟨k2, rfl, pre, x, rfl, ?_, H.out.2⟩
      exact cuB_ab s cz w V (by omega) pre X X1 none H.out.1 (grown_none HB.out) (fun r e => by cases e)
    · have cA := add_yes x cz (colsL pre) (endC pre) w.heap.size (w.heap.size + 1) (w.heap.size + 2) d4 (by omega) X h0 h1 h2 (by omega) hgo
      simp only [celV] at cA
      have H := Lib.hid (And.intro h0 (And.intro h1 (And.intro h2 (And.intro h3 (And.intro h5 (And.intro hdue hgo))))))
      clear h0 h1 h2 h3 h5 h7 h8 hgo bx hbx hdue
      simp only [celV, List.setIfInBounds_toArray, List.set_cons_zero, List.set_cons_succ]
      gi_wp2_with (fail)
      refine ((callsIn_wide.2 cA).inRound _).mono ?_
      rintro e X1 ⟨rfl, Z, hb, rfl⟩
      have HB := Lib.hid hb
      clear hb
      gi_wp2
      obtain ⟨h0, h1, h2, h3, h5, hdue, hgo⟩ := H.out
      have hb := HB.out
      have bY : ∀ {b : Nat} {T : TypeId} {v : Value}, b ≠ w.heap.size + 1 → b ≠ w.heap.size + 2 → Boxed X b T v → Boxed ((Z.setCell ⟨w.heap.size + 1, 0, none⟩ (.int .i64 (x.2.1 : Nat))).setCell ⟨w.heap.size + 2, 0, none⟩ (.int .i64 ((colsL pre : Int) + (x.2.2 : Int)))) b T v := fun {b T v} n1 n2 h => ((show Boxed Z b T v from Blk.below' (show Blk _ _ _ _ from h) hb).other n1 _).other n2 _
      have z1 : Boxed Z (w.heap.size + 1) 3 (.int .i64 (endC pre : Nat)) := Blk.below' (show Blk _ _ _ _ from h1) hb
      have z2 : Boxed Z (w.heap.size + 2) 3 (.int .i64 (colsL pre : Nat)) := Blk.below' (show Blk _ _ _ _ from h2) hb
      have hsn := endC_snoc pre x
      have hcn := colsL_snoc pre x
      refine ⟨(kf_below hb).trans ((kf_set _ _).trans (kf_set _ _)), kpM_t (kpM_below hb (by omega)) (kpM_t (kpM_set (by omega) (by omega) _ _) (kpM_set (by omega) (by omega) _ _)), ⟨⟨⟨⟨bY (by omega) (by omega) h0, ?_⟩, ?_⟩, bY (by omega) (by omega) h3⟩, ?_, ?_⟩, hdue, ?_⟩
      · rw [hsn]; exact (z1.set _).other (by omega) _
      · rw [hcn]; push_cast; exact (z2.other (by omega) _).set _
      · exact ((h5.trans (hb.mono h5.size)).setCell (p := ⟨_, 0, none⟩) (by dsimp only; omega) _).setCell (p := ⟨_, 0, none⟩) (by dsimp only; omega) _
      · have := hb.size; simp; omega
      · rw [hcn]; push_cast; omega
  case done =>
    rintro D m X hDl ⟨⟨⟨⟨⟨h0, h1⟩, h2⟩, h3⟩, h5, h6⟩, h7, h8⟩ _ hK
    have hcut : CutOf s cz (cellsL s) ∧ endC (cellsL s) ≤ s.size := ⟨⟨List.prefix_refl _, h8, fun x h => absurd h.length_le (by simp)⟩, endC_le s _ [] (by simp)⟩
    have c1 := h1.cell
    have c2 := h2.cell
    have hD2 := hz ▸ hDl
    have hB2 := h5
    obtain ⟨tt, htt⟩ : ∃ tt, endC (cellsL s) = tt := ⟨_, rfl⟩
    obtain ⟨tk, htk⟩ : ∃ tk, colsL (cellsL s) = tk := ⟨_, rfl⟩
    rw [htt] at c1 hcut
    rw [htk] at c2
    have i1 : (0 : Int) ≤ (tt : Int) := by omega
    have i2 : (tt : Int) ≤ (s.size : Int) := by omega
    have i3 : tt ≤ s.size := hcut.2
    have HH := Lib.hid (And.intro hcut (And.intro hB2 (And.intro htt htk)))
    clear h0 h1 h2 h3 h5 hB2 htt htk hcut
    gi_wp2
    refine wpIn_wide.2 ?_
    go_quiet ((fail))
    gi_wp2
    obtain ⟨hcut, hB2, htt, htk⟩ := HH.out
    have hB3 : Below w.heap.size w (X.drewN nq) := ⟨hB2.os, hB2.tape, hB2.output, hB2.size, hB2.block⟩
    refine ⟨by simp, .inl ⟨_, _, rfl, run_takeDeferred (w := X.drewN nq) hK, ?_⟩⟩
    refine ⟨.tuple #[.string (s.extract 0 tt), .string (s.extract tt s.size), .int .i64 tk], by simp [results, Try.f18, go_sem], (cellsL s), hcut.1, by rw [htt]; exact hcut.2, by rw [htt, htk], hB3.trans (belowK_b (w := w) (Nat.le_refl _) (X.drewN nq) D _ (.deferred none) (by omega) hK rfl rfl)⟩
  case stop =>
    rintro D c pre X hDl hpre ⟨rfl, q, x, rfl, ⟨⟨⟨⟨⟨h0, h1⟩, h2⟩, h3⟩, h5, h6⟩, h7, h8⟩, h9⟩ hK
    have hcut : CutOf s cz q ∧ endC q ≤ s.size := by
      refine ⟨⟨h7, h8, fun y hy => ?_⟩, hP q x hpre⟩
      have e := List.prefix_of_prefix_length_le hy hpre (by simp)
      have e2 := e.eq_of_length (by simp)
      have e3 : y = x := by simpa using e2
      rw [e3]; exact h9
    clear h9 hpre
    have c1 := h1.cell
    have c2 := h2.cell
    have hD2 := hz ▸ hDl
    have hB2 := h5
    obtain ⟨tt, htt⟩ : ∃ tt, endC q = tt := ⟨_, rfl⟩
    obtain ⟨tk, htk⟩ : ∃ tk, colsL q = tk := ⟨_, rfl⟩
    rw [htt] at c1 hcut
    rw [htk] at c2
    have i1 : (0 : Int) ≤ (tt : Int) := by omega
    have i2 : (tt : Int) ≤ (s.size : Int) := by omega
    have i3 : tt ≤ s.size := hcut.2
    have HH := Lib.hid (And.intro hcut (And.intro hB2 (And.intro htt htk)))
    clear h0 h1 h2 h3 h5 hB2 htt htk hcut
    gi_wp2
    refine wpIn_wide.2 ?_
    go_quiet ((fail))
    gi_wp2
    obtain ⟨hcut, hB2, htt, htk⟩ := HH.out
    have hB3 : Below w.heap.size w (X.drewN nq) := ⟨hB2.os, hB2.tape, hB2.output, hB2.size, hB2.block⟩
    refine ⟨by simp, .inl ⟨_, _, rfl, run_takeDeferred (w := X.drewN nq) hK, ?_⟩⟩
    refine ⟨.tuple #[.string (s.extract 0 tt), .string (s.extract tt s.size), .int .i64 tk], by simp [results, Try.f18, go_sem], q, hcut.1, by rw [htt]; exact hcut.2, by rw [htt, htk], hB3.trans (belowK_b (w := w) (Nat.le_refl _) (X.drewN nq) D _ (.deferred none) (by omega) hK rfl rfl)⟩
theorem cut_any (s : ByteArray) (hs : s.size ≤ 9223372036854775807) (cz : Int) (w : World) :
    Calls Try.prog 18 #[.string s, .int .i64 cz] w (CutPost s cz w) := callsIn_wide.1 (cut_in s hs cz w)
end Go.Proofs.Ytnbhdgbhmcbeoaa
