/- Layer 5: Edge, Under. -/
import Derived.Test.YtnbhdgbhmcbeoaaCld
namespace Go.Proofs.Ytnbhdgbhmcbeoaa
set_option linter.unusedVariables false
set_option linter.unusedSimpArgs false
open Go Go.RowKit Go.Shelf
set_option maxRecDepth 100000
attribute [local go_sem] Oper.semAt_some

def edF (s : ByteArray) (at' : Int) : Bool := decide (at' = s.size) || (match atF s at' with | some c => decide ((c.1 : Int) = at') | none => false)

/-- The cluster that takes a column. -/
def undF : List Cel → Int → Option Cel
  | [], _ => none
  | c :: l, k => if k < (c.2.2 : Int) then some c else undF l (k - (c.2.2 : Int))
def unF (s : ByteArray) (cl : Int) : Option Cel := if cl < 0 then none else undF (cellsL s) cl
def UnI (s : ByteArray) (cl : Int) (w V : World) (pre : List Cel) (X : World) : Prop := SmI w.heap.size w V X ∧ Boxed X w.heap.size 3 (.int .i64 (cl - (colsL pre : Nat))) ∧ 0 ≤ cl - (colsL pre : Nat) ∧ ∀ r, cellsL s = pre ++ r → undF (cellsL s) cl = undF r (cl - (colsL pre : Nat))
theorem unI_ab (s : ByteArray) (cl : Int) (w V : World) (h : w.heap.size < V.heap.size) : AbX V.heap.size FrO (UnI s cl w V) := smI_abO (f := fun pre => .int .i64 (cl - (colsL pre : Nat))) (p := fun pre => 0 ≤ cl - (colsL pre : Nat) ∧ ∀ r, cellsL s = pre ++ r → undF (cellsL s) cl = undF r (cl - (colsL pre : Nat))) h (Nat.le_of_lt h)
def UnX (s : ByteArray) (cl : Int) (w V : World) (c : Code) (pre : List Cel) (X : World) : Prop := c = .ret ∧ ∃ x : Cel, undF (cellsL s) cl = some x ∧ (Below w.heap.size w X ∧ V.heap.size ≤ X.heap.size) ∧ Blk X (w.heap.size + 1) #[.int .i64 (x.1 : Nat), .int .i64 (x.2.1 : Nat), .int .i64 (x.2.2 : Nat)] 26 ∧ Blk X (w.heap.size + 2) #[.int .i64 0] 33
theorem unX_ab (s : ByteArray) (cl : Int) (w V : World) (h : w.heap.size ≤ V.heap.size) (c : Code) : AbX V.heap.size FrO (UnX s cl w V c) := fun t X Y row ⟨hc, x, h1, h3, h4, h5⟩ hg hr =>
  ⟨hc, x, h1, below_abO (β := List Cel) h t X Y row h3 hg hr, own_abO (B := V.heap.size) (blk_own (β := List Cel) _ _ (fun _ => _)) t X Y row h4 hg hr, own_abO (B := V.heap.size) (blk_own (β := List Cel) _ _ (fun _ => _)) t X Y row h5 hg hr⟩

set_option maxHeartbeats 4000000 in
theorem under_neg (s : ByteArray) (cl : Int) (h : cl < 0) (w : World) :
    Calls Try.prog 16 #[.string s, .int .i64 cl] w fun e w' => e = .returned (optV (unF s cl)) ∧ Below w.heap.size w w' := by
  have k1 : decide (cl < 0) = true := decide_eq_true h
  have ho : optV (unF s cl) = .tuple #[cel0, .int .i64 5] := by unfold unF; rw [if_pos h]; rfl
  rw [ho]
  clear h ho
  go_enter Try.func16, Try.ntmps16
  go_wp2
  refine bodyPost_ret (v := .tuple #[cel0, .int .i64 5]) (by simp [results, Try.f16, go_sem, cel0]) rfl ⟨rfl, ?_⟩
  exact (((Below.refl _ _).alloc (Nat.le_refl _) _).alloc (by simp) _).alloc (by simp; omega) _

set_option maxHeartbeats 8000000 in
theorem under_in (s : ByteArray) (hs : s.size ≤ 9223372036854775807) (cl : Int) (h : 0 ≤ cl) (hcl : cl ≤ 9223372036854775807) (w : World) :
    CallsIn Fence.wide 12 Try.prog 16 #[.string s, .int .i64 cl] w fun e w' => e = .returned (optV (unF s cl)) ∧ Below w.heap.size w w' := by
  have k1 : decide (cl < 0) = false := decide_eq_false (by omega)
  have hu : unF s cl = undF (cellsL s) cl := by unfold unF; rw [if_neg (by omega)]
  rw [hu]
  have HC := Lib.hid (And.intro h hcl)
  clear hu h hcl
  refine callsIn_of_wp_marks Try.func16 rfl trivial ?_ rfl
  simp only [Try.ntmps16, List.size_toArray, List.length_cons, List.length_nil, Nat.reduceAdd, Nat.reduceSub, Array.replicate_succ, Array.replicate_zero, List.push_toArray, List.append_toArray, List.nil_append, List.cons_append]
  have hF : ∀ f, Fence.wide.fn f := fun _ => trivial
  gi_wp2_with (gi_at_call 27; refine (callsIn_wide.2 (each_any _ _)).mono ?_; rintro e w' ⟨rfl, rfl⟩)
  have b0 : Boxed _ _ _ _ := (((Boxed.new w 3 (.int .i64 cl)).alloc (.cells #[.int .i64 0, .int .i64 0, .int .i64 0] 26)).alloc (.cells #[.int .i64 0] 33)).alloc (.cells #[.string s] 9)
  have b1 : Blk _ _ _ _ := ((Blk.new (w.alloc (.cells #[.int .i64 cl] 3)) #[.int .i64 0, .int .i64 0, .int .i64 0] 26).alloc (.cells #[.int .i64 0] 33)).alloc (.cells #[.string s] 9)
  have b2 : Boxed _ _ _ _ := (Boxed.new ((w.alloc (.cells #[.int .i64 cl] 3)).alloc (.cells #[.int .i64 0, .int .i64 0, .int .i64 0] 26)) 33 (.int .i64 0)).alloc (.cells #[.string s] 9)
  have b3 : Boxed _ _ _ _ := Boxed.new (((w.alloc (.cells #[.int .i64 cl] 3)).alloc (.cells #[.int .i64 0, .int .i64 0, .int .i64 0] 26)).alloc (.cells #[.int .i64 0] 33)) 9 (.string s)
  have hB := ((((Below.refl _ w).alloc (Nat.le_refl _) (.cells #[.int .i64 cl] 3)).alloc (by simp) (.cells #[.int .i64 0, .int .i64 0, .int .i64 0] 26)).alloc (by simp; omega) (.cells #[.int .i64 0] 33)).alloc (by simp; omega) (.cells #[.string s] 9)
  have hz : ((((w.alloc (.cells #[.int .i64 cl] 3)).alloc (.cells #[.int .i64 0, .int .i64 0, .int .i64 0] 26)).alloc (.cells #[.int .i64 0] 33)).alloc (.cells #[.string s] 9)).heap.size = w.heap.size + 4 := by simp
  simp only [World.size_alloc, Nat.add_assoc, Nat.reduceAdd] at b1 b2 b3 ⊢
  obtain ⟨V, hV⟩ : ∃ V, ((((w.alloc (.cells #[.int .i64 cl] 3)).alloc (.cells #[.int .i64 0, .int .i64 0, .int .i64 0] 26)).alloc (.cells #[.int .i64 0] 33)).alloc (.cells #[.string s] 9)) = V := ⟨_, rfl⟩
  rw [hV] at b0 b1 b2 b3 hB hz ⊢
  clear hV
  refine range_each 6 s hs (w.heap.size + 3) b3 rfl (fun _ => UnI s cl w V) (UnX s cl w V) (fun _ => unI_ab s cl w V (by omega)) (fun c => unX_ab s cl w V (by omega) c) ⟨SmI.start hB, by simpa [colsL] using b0, by have := HC.out.1; simpa [colsL] using this, fun r hr => by rw [hr]; simp [colsL]⟩ ?assign ?body ?done ?stop
  case assign =>
    intro l x W K hK
    simp only [celV] at hK ⊢
    gi_wp2
    exact hK
  case body =>
    rintro l m pre x Bx X ⟨h1, hb, h0, h2⟩ hm1 hle hbl hbx hdue
    have c0 := hb.cell
    have g0 := hb.frozen
    have bx : Blk X Bx #[.int .i64 (x.1 : Nat), .int .i64 (x.2.1 : Nat), .int .i64 (x.2.2 : Nat)] 26 := hbx
    have x0 := bx.cell 0
    have x1 := bx.cell 1
    have x2 := bx.cell 2
    simp only [List.getElem?_toArray, List.getElem?_cons_succ, List.getElem?_cons_zero] at x0 x1 x2
    obtain ⟨kz, hkz⟩ : ∃ k, cl - (colsL pre : Nat) = k := ⟨_, rfl⟩
    have hun : ∃ r, undF (cellsL s) cl = if kz < (x.2.2 : Int) then some x else undF r (kz - (x.2.2 : Int)) := by
      obtain ⟨r, hr⟩ := hdue
      exact ⟨r, by rw [h2 (x :: r) (by rw [← hr]; simp), hkz]; rfl⟩
    rw [hkz] at hb c0 h0
    by_cases hlt : kz < (x.2.2 : Int)
    · have e1 : decide (kz < (x.2.2 : Int)) = true := decide_eq_true hlt
      have hu : undF (cellsL s) cl = some x := by obtain ⟨r, hr⟩ := hun; rw [hr, if_pos hlt]
      have q1 := h1.blk b1 (by omega)
      have q2 : Blk X (w.heap.size + 2) #[.int .i64 0] 33 := h1.blk (show Blk V _ _ _ from b2) (by omega)
      have r0 := q1.cell 0
      have r1 := q1.cell 1
      have r2 := q1.cell 2
      have r3 := q2.cell 0
      have f0 := q1.frozen 0
      have f1 := q1.frozen 1
      have f2 := q1.frozen 2
      have f3 := q2.frozen 0
      simp only [List.getElem?_toArray, List.getElem?_cons_succ, List.getElem?_cons_zero] at r0 r1 r2 r3
      have H := Lib.hid (And.intro h1 (And.intro hu (And.intro q1 q2)))
      clear h1 h2 hlt q1 q2 hdue bx hbx hb hun hu hkz
      simp only [celV, List.setIfInBounds_toArray, List.set_cons_zero, List.set_cons_succ]
      gi_wp2
      obtain ⟨h1, hu, q1, q2⟩ := H.out
      have q3 := ((q1.set 0 (.int .i64 (x.1 : Nat))).set 1 (.int .i64 (x.2.1 : Nat))).set 2 (.int .i64 (x.2.2 : Nat))
      simp only [List.setIfInBounds_toArray, List.set_cons_zero, List.set_cons_succ] at q3
      have lV := h1.size
      refine ⟨(kf_set _ _).trans ((kf_set _ _).trans ((kf_set _ _).trans (kf_set _ _))), rfl, x, hu, ⟨?_, ?_⟩, q3.other (by omega) 0 _, ?_⟩
      · exact (((h1.2.setCell (p := ⟨_, 0, none⟩) (by dsimp only; omega) _).setCell (p := ⟨_, 1, none⟩) (by dsimp only; omega) _).setCell (p := ⟨_, 2, none⟩) (by dsimp only; omega) _).setCell (p := ⟨_, 0, none⟩) (by dsimp only; omega) _
      · simpa using lV
      · exact (((q2.other (B' := w.heap.size + 1) (by omega) 0 _).other (B' := w.heap.size + 1) (by omega) 1 _).other (B' := w.heap.size + 1) (by omega) 2 _).set 0 _
    · have e1 : decide (kz < (x.2.2 : Int)) = false := decide_eq_false hlt
      have j1 : IntKind.i64.wrap (kz - (x.2.2 : Int)) = kz - (x.2.2 : Int) := IntWalk.i64_in _ (by have := HC.out; omega)
      have hn : 0 ≤ cl - (colsL (pre ++ [x]) : Nat) ∧ kz - (x.2.2 : Int) = cl - (colsL (pre ++ [x]) : Nat) := by rw [colsL_snoc]; push_cast; omega
      have h3 : ∀ r, cellsL s = (pre ++ [x]) ++ r → undF (cellsL s) cl = undF r (cl - (colsL (pre ++ [x]) : Nat)) := fun r hr => by
        rw [h2 (x :: r) (by rw [hr]; simp), hkz, ← hn.2]
        show (if kz < (x.2.2 : Int) then some x else undF r (kz - (x.2.2 : Int))) = _
        rw [if_neg hlt]
      have H := Lib.hid (And.intro h1 (And.intro hb (And.intro hn h3)))
      clear h1 h2 hlt hdue bx hbx hun hb hkz hn h3 h0
      simp only [celV, List.setIfInBounds_toArray, List.set_cons_zero, List.set_cons_succ]
      gi_wp2
      obtain ⟨h1, hb, hn, h3⟩ := H.out
      refine ⟨kf_set _ _, kpM_set (by omega) (by omega) _ _, h1.set (Nat.le_refl _) _ _, ?_, hn.1, h3⟩
      rw [← hn.2]; exact hb.set _
  case done =>
    rintro D m X hDl ⟨h1, hb, h0, h2⟩ _ hK
    have hu : undF (cellsL s) cl = none := h2 [] (by simp)
    have HN := Lib.hid hu
    have q1 := h1.blk b1 (by omega)
    have q2 : Blk X (w.heap.size + 2) #[.int .i64 0] 33 := h1.blk (show Blk V _ _ _ from b2) (by omega)
    have r0 := q1.cell 0
    have r1 := q1.cell 1
    have r2 := q1.cell 2
    have r3 := q2.cell 0
    have f0 := q1.frozen 0
    have f1 := q1.frozen 1
    have f2 := q1.frozen 2
    have f3 := q2.frozen 0
    simp only [List.getElem?_toArray, List.getElem?_cons_succ, List.getElem?_cons_zero] at r0 r1 r2 r3
    have hD2 := hz ▸ hDl
    have H := Lib.hid (And.intro h1 (And.intro q1 (And.intro q2 hK)))
    clear h1 h2 q1 q2 hK hb h0 hu
    gi_wp2
    obtain ⟨h1, q1, q2, hK⟩ := H.out
    have lV := h1.size
    have q3 := ((q1.set 0 (.int .i64 0)).set 1 (.int .i64 0)).set 2 (.int .i64 0)
    simp only [List.setIfInBounds_toArray, List.set_cons_zero, List.set_cons_succ] at q3
    have q4 := q3.other (B' := w.heap.size + 2) (by omega) 0 (.int .i64 5)
    have q5 := (((q2.other (B' := w.heap.size + 1) (by omega) 0 (.int .i64 0)).other (B' := w.heap.size + 1) (by omega) 1 (.int .i64 0)).other (B' := w.heap.size + 1) (by omega) 2 (.int .i64 0)).set 0 (.int .i64 5)
    have hB5 := (((h1.2.setCell (p := ⟨w.heap.size + 1, 0, none⟩) (by dsimp only; omega) (.int .i64 0)).setCell (p := ⟨w.heap.size + 1, 1, none⟩) (by dsimp only; omega) (.int .i64 0)).setCell (p := ⟨w.heap.size + 1, 2, none⟩) (by dsimp only; omega) (.int .i64 0)).setCell (p := ⟨w.heap.size + 2, 0, none⟩) (by dsimp only; omega) (.int .i64 5)
    have hl := (Array.getElem?_eq_some_iff.1 hK).1
    have hK2 := ((grownBy_setCell _ (w.heap.size + 2) 0 (.int .i64 5)).block D (by simpa using hl) (by intro e; cases e; omega)).trans (((grownBy_setCell _ (w.heap.size + 1) 2 (.int .i64 0)).block D (by simpa using hl) (by intro e; cases e; omega)).trans (((grownBy_setCell _ (w.heap.size + 1) 1 (.int .i64 0)).block D (by simpa using hl) (by intro e; cases e; omega)).trans (((grownBy_setCell X (w.heap.size + 1) 0 (.int .i64 0)).block D hl (by intro e; cases e; omega)).trans hK)))
    obtain ⟨Y, hY⟩ : ∃ Y, (((X.setCell ⟨w.heap.size + 1, 0, none⟩ (.int .i64 0)).setCell ⟨w.heap.size + 1, 1, none⟩ (.int .i64 0)).setCell ⟨w.heap.size + 1, 2, none⟩ (.int .i64 0)).setCell ⟨w.heap.size + 2, 0, none⟩ (.int .i64 5) = Y := ⟨_, rfl⟩
    rw [hY] at q4 q5 hB5 hK2 ⊢
    have hB6 := hB5.trans (belowK_b (w := w) (Nat.le_refl _) Y D _ (.deferred none) (by omega) hK2 rfl rfl)
    have r0 := q4.cell 0
    have r1 := q4.cell 1
    have r2 := q4.cell 2
    have r3 := q5.cell 0
    simp only [List.getElem?_toArray, List.getElem?_cons_succ, List.getElem?_cons_zero] at r0 r1 r2
    have p0 : (Y.putObj D (.deferred none)).cell? ⟨w.heap.size + 1, 0, none⟩ = _ := (World.cell?_of_block (w := Y) (World.putObj_heap_other (by dsimp only; omega))).trans r0
    have p1 : (Y.putObj D (.deferred none)).cell? ⟨w.heap.size + 1, 1, none⟩ = _ := (World.cell?_of_block (w := Y) (World.putObj_heap_other (by dsimp only; omega))).trans r1
    have p2 : (Y.putObj D (.deferred none)).cell? ⟨w.heap.size + 1, 2, none⟩ = _ := (World.cell?_of_block (w := Y) (World.putObj_heap_other (by dsimp only; omega))).trans r2
    have p3 : (Y.putObj D (.deferred none)).cell? ⟨w.heap.size + 2, 0, none⟩ = _ := (World.cell?_of_block (w := Y) (World.putObj_heap_other (by dsimp only; omega))).trans r3
    refine ⟨by simp, .inl ⟨_, _, rfl, run_takeDeferred (w := Y) hK2, ?_⟩⟩
    refine ⟨optV none, ?_, by rw [HN.out], hB6⟩
    simp [results, Try.f16, go_sem, p0, p1, p2, p3, optV, cel0]
  case stop =>
    rintro D c pre X hDl hpre ⟨rfl, x, hu, h3, h4, h5⟩ hK
    have HN := Lib.hid hu
    have hD2 := hz ▸ hDl
    have hB5 := h3.1.trans (belowK_b (w := w) (Nat.le_refl _) X D _ (.deferred none) (by omega) hK rfl rfl)
    have r0 := h4.cell 0
    have r1 := h4.cell 1
    have r2 := h4.cell 2
    have r3 := h5.cell 0
    simp only [List.getElem?_toArray, List.getElem?_cons_succ, List.getElem?_cons_zero] at r0 r1 r2 r3
    have p0 : (X.putObj D (.deferred none)).cell? ⟨w.heap.size + 1, 0, none⟩ = _ := (World.cell?_of_block (w := X) (World.putObj_heap_other (by dsimp only; omega))).trans r0
    have p1 : (X.putObj D (.deferred none)).cell? ⟨w.heap.size + 1, 1, none⟩ = _ := (World.cell?_of_block (w := X) (World.putObj_heap_other (by dsimp only; omega))).trans r1
    have p2 : (X.putObj D (.deferred none)).cell? ⟨w.heap.size + 1, 2, none⟩ = _ := (World.cell?_of_block (w := X) (World.putObj_heap_other (by dsimp only; omega))).trans r2
    have p3 : (X.putObj D (.deferred none)).cell? ⟨w.heap.size + 2, 0, none⟩ = _ := (World.cell?_of_block (w := X) (World.putObj_heap_other (by dsimp only; omega))).trans r3
    clear hu
    gi_wp2
    refine ⟨by simp, .inl ⟨_, _, rfl, run_takeDeferred (w := X) hK, ?_⟩⟩
    refine ⟨optV (some x), ?_, by rw [HN.out], hB5⟩
    simp [results, Try.f16, go_sem, p0, p1, p2, p3, optV, celV]

theorem under_any (s : ByteArray) (hs : s.size ≤ 9223372036854775807) (cl : Int) (hcl : cl ≤ 9223372036854775807) (w : World) :
    Calls Try.prog 16 #[.string s, .int .i64 cl] w fun e w' => e = .returned (optV (unF s cl)) ∧ Below w.heap.size w w' := by
  by_cases h : cl < 0
  · exact under_neg s cl h w
  · exact callsIn_wide.1 (under_in s hs cl (by omega) hcl w)

set_option maxHeartbeats 4000000 in
theorem edge_any (s : ByteArray) (hs : s.size ≤ 9223372036854775807) (at' : Int) (w : World) :
    Calls Try.prog 20 #[.string s, .int .i64 at'] w fun e w' => e = .returned (.bool (edF s at')) ∧ Below w.heap.size w w' := by
  have cA := atC_any s hs at' w
  obtain ⟨o, ho⟩ : ∃ o, atF s at' = o := ⟨_, rfl⟩
  unfold edF
  rw [ho] at cA ⊢
  clear ho
  obtain ⟨b, hb⟩ : ∃ b, decide (at' = (s.size : Int)) = b := ⟨_, rfl⟩
  have e1 : (at' == (s.size : Int)) = b := by rw [← hb]; rfl
  rw [hb]
  clear hb
  cases o with
  | none =>
    cases b
    all_goals
      simp only [optV, cel0] at cA ⊢
      go_enter Try.func20, Try.ntmps20
      go_wp2_with (fail)
      refine cA.mono ?_
      rintro e w1 ⟨rfl, hb1⟩
      have q := Blk.new w1 #[.int .i64 0, .int .i64 0, .int .i64 0] 26
      have q0 := q.cell 0
      simp only [List.getElem?_toArray, List.getElem?_cons_succ, List.getElem?_cons_zero] at q0
      go_wp2
      go_ret
      exact ⟨rfl, hb1.alloc hb1.size _⟩
  | some c =>
    obtain ⟨d, hd⟩ : ∃ d, decide ((c.1 : Int) = at') = d := ⟨_, rfl⟩
    have e2 : ((c.1 : Int) == at') = d := by rw [← hd]; rfl
    simp only [optV, celV] at cA ⊢
    rw [hd]
    clear hd
    cases b <;> cases d
    all_goals
      go_enter Try.func20, Try.ntmps20
      go_wp2_with (fail)
      refine cA.mono ?_
      rintro e w1 ⟨rfl, hb1⟩
      have q := Blk.new w1 #[.int .i64 (c.1 : Nat), .int .i64 (c.2.1 : Nat), .int .i64 (c.2.2 : Nat)] 26
      have q0 := q.cell 0
      simp only [List.getElem?_toArray, List.getElem?_cons_succ, List.getElem?_cons_zero] at q0
      go_wp2
      go_ret
      exact ⟨rfl, hb1.alloc hb1.size _⟩
end Go.Proofs.Ytnbhdgbhmcbeoaa
