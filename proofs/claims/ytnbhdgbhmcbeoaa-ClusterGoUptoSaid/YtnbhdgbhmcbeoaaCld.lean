/- Layer 5: At. -/
import Derived.Test.YtnbhdgbhmcbeoaaClb
namespace Go.Proofs.Ytnbhdgbhmcbeoaa
set_option linter.unusedVariables false
set_option linter.unusedSimpArgs false
open Go Go.RowKit Go.Shelf
set_option maxRecDepth 100000
attribute [local go_sem] Oper.semAt_some

/-- The cluster to which a byte belongs. -/
def atF (s : ByteArray) (at' : Int) : Option Cel := if at' < 0 then none else (cellsL s).find? fun c => decide (at' < (c.2.1 : Int))
def cel0 : Value := .agg #[.int .i64 0, .int .i64 0, .int .i64 0]
def optV (o : Option Cel) : Value := match o with | some c => .tuple #[celV c, .int .i64 0] | none => .tuple #[cel0, .int .i64 5]
theorem find_first {l pre : List Cel} {x : Cel} {p : Cel → Bool} (h : pre ++ [x] <+: l) (hn : ∀ c ∈ pre, p c = false) (hx : p x = true) : l.find? p = some x := by
  obtain ⟨r, rfl⟩ := h
  have : pre.find? p = none := List.find?_eq_none.2 (fun c hc => by rw [hn c hc]; simp)
  rw [List.find?_append, List.find?_append, this]
  simp [hx]
theorem find_no {l : List Cel} {p : Cel → Bool} (hn : ∀ c ∈ l, p c = false) : l.find? p = none := List.find?_eq_none.2 (fun c hc => by rw [hn c hc]; simp)

def AtI (at' : Int) (w V : World) (pre : List Cel) (X : World) : Prop := SmI V.heap.size w V X ∧ ∀ c ∈ pre, (c.2.1 : Int) ≤ at'
theorem smI_abO0 {α : Type} {ib : Nat} {w0 V : World} (h0 : w0.heap.size ≤ V.heap.size) : AbX V.heap.size FrO (fun (_ : List α) X => SmI ib w0 V X) := fun s X Y row h hg hr => smI_ab0 h0 s X Y row h hg (fun r e => ⟨(hr r e).1, trivial⟩)
theorem atI_ab (at' : Int) (w V : World) (h : w.heap.size ≤ V.heap.size) : AbX V.heap.size FrO (AtI at' w V) := fun s X Y row hs hg hr => ⟨smI_abO0 h s X Y row hs.1 hg hr, hs.2⟩
def AtX (at' : Int) (w V : World) (c : Code) (pre : List Cel) (X : World) : Prop := c = .ret ∧ ∃ q x, pre = q ++ [x] ∧ (∀ c ∈ q, (c.2.1 : Int) ≤ at') ∧ at' < (x.2.1 : Int) ∧ (Below w.heap.size w X ∧ V.heap.size ≤ X.heap.size) ∧ Blk X (w.heap.size + 1) #[.int .i64 (x.1 : Nat), .int .i64 (x.2.1 : Nat), .int .i64 (x.2.2 : Nat)] 26 ∧ Blk X (w.heap.size + 2) #[.int .i64 0] 33
theorem atX_ab (at' : Int) (w V : World) (h : w.heap.size ≤ V.heap.size) (c : Code) : AbX V.heap.size FrO (AtX at' w V c) := fun s X Y row ⟨hc, q, x, e, h1, h2, h3, h4, h5⟩ hg hr =>
  ⟨hc, q, x, e, h1, h2, below_abO (β := List Cel) h s X Y row h3 hg hr, own_abO (B := V.heap.size) (blk_own (β := List Cel) _ _ (fun _ => _)) s X Y row h4 hg hr, own_abO (B := V.heap.size) (blk_own (β := List Cel) _ _ (fun _ => _)) s X Y row h5 hg hr⟩

set_option maxHeartbeats 4000000 in
theorem atC_neg (s : ByteArray) (at' : Int) (h : at' < 0) (w : World) :
    Calls Try.prog 15 #[.string s, .int .i64 at'] w fun e w' => e = .returned (optV (atF s at')) ∧ Below w.heap.size w w' := by
  have k1 : decide (at' < 0) = true := decide_eq_true h
  have ho : optV (atF s at') = .tuple #[cel0, .int .i64 5] := by unfold atF; rw [if_pos h]; rfl
  rw [ho]
  clear h ho
  go_enter Try.func15, Try.ntmps15
  go_wp2
  refine bodyPost_ret (v := .tuple #[cel0, .int .i64 5]) (by simp [results, Try.f15, go_sem, cel0]) rfl ⟨rfl, ?_⟩
  exact (((Below.refl _ _).alloc (Nat.le_refl _) _).alloc (by simp) _).alloc (by simp; omega) _

set_option maxHeartbeats 8000000 in
theorem atC_in (s : ByteArray) (hs : s.size ≤ 9223372036854775807) (at' : Int) (h : 0 ≤ at') (w : World) :
    CallsIn Fence.wide 12 Try.prog 15 #[.string s, .int .i64 at'] w fun e w' => e = .returned (optV (atF s at')) ∧ Below w.heap.size w w' := by
  have k1 : decide (at' < 0) = false := decide_eq_false (by omega)
  have hFa : ∀ pre x, pre ++ [x] <+: cellsL s → (∀ c ∈ pre, (c.2.1 : Int) ≤ at') → at' < (x.2.1 : Int) → atF s at' = some x := fun pre x hp hn hx => by
    unfold atF; rw [if_neg (by omega)]; exact find_first hp (fun c hc => decide_eq_false (Int.not_lt.2 (hn c hc))) (decide_eq_true hx)
  have hFn : (∀ c ∈ cellsL s, (c.2.1 : Int) ≤ at') → atF s at' = none := fun hn => by
    unfold atF; rw [if_neg (by omega)]; exact find_no (fun c hc => decide_eq_false (Int.not_lt.2 (hn c hc)))
  have HF := Lib.hid (And.intro hFa hFn)
  clear hFa hFn
  refine callsIn_of_wp_marks Try.func15 rfl trivial ?_ rfl
  simp only [Try.ntmps15, List.size_toArray, List.length_cons, List.length_nil, Nat.reduceAdd, Nat.reduceSub, Array.replicate_succ, Array.replicate_zero, List.push_toArray, List.append_toArray, List.nil_append, List.cons_append]
  have hF : ∀ f, Fence.wide.fn f := fun _ => trivial
  gi_wp2_with (gi_at_call 27; refine (callsIn_wide.2 (each_any _ _)).mono ?_; rintro e w' ⟨rfl, rfl⟩)
  have b0 : Boxed _ _ _ _ := (((Boxed.new w 3 (.int .i64 at')).alloc (.cells #[.int .i64 0, .int .i64 0, .int .i64 0] 26)).alloc (.cells #[.int .i64 0] 33)).alloc (.cells #[.string s] 9)
  have b1 : Blk _ _ _ _ := ((Blk.new (w.alloc (.cells #[.int .i64 at'] 3)) #[.int .i64 0, .int .i64 0, .int .i64 0] 26).alloc (.cells #[.int .i64 0] 33)).alloc (.cells #[.string s] 9)
  have b2 : Boxed _ _ _ _ := (Boxed.new ((w.alloc (.cells #[.int .i64 at'] 3)).alloc (.cells #[.int .i64 0, .int .i64 0, .int .i64 0] 26)) 33 (.int .i64 0)).alloc (.cells #[.string s] 9)
  have b3 : Boxed _ _ _ _ := Boxed.new (((w.alloc (.cells #[.int .i64 at'] 3)).alloc (.cells #[.int .i64 0, .int .i64 0, .int .i64 0] 26)).alloc (.cells #[.int .i64 0] 33)) 9 (.string s)
  have hB := ((((Below.refl _ w).alloc (Nat.le_refl _) (.cells #[.int .i64 at'] 3)).alloc (by simp) (.cells #[.int .i64 0, .int .i64 0, .int .i64 0] 26)).alloc (by simp; omega) (.cells #[.int .i64 0] 33)).alloc (by simp; omega) (.cells #[.string s] 9)
  have hz : ((((w.alloc (.cells #[.int .i64 at'] 3)).alloc (.cells #[.int .i64 0, .int .i64 0, .int .i64 0] 26)).alloc (.cells #[.int .i64 0] 33)).alloc (.cells #[.string s] 9)).heap.size = w.heap.size + 4 := by simp
  simp only [World.size_alloc, Nat.add_assoc, Nat.reduceAdd] at b1 b2 b3 ⊢
  obtain ⟨V, hV⟩ : ∃ V, ((((w.alloc (.cells #[.int .i64 at'] 3)).alloc (.cells #[.int .i64 0, .int .i64 0, .int .i64 0] 26)).alloc (.cells #[.int .i64 0] 33)).alloc (.cells #[.string s] 9)) = V := ⟨_, rfl⟩
  rw [hV] at b0 b1 b2 b3 hB hz ⊢
  clear hV
  refine range_each 6 s hs (w.heap.size + 3) b3 rfl (fun _ => AtI at' w V) (AtX at' w V) (fun _ => atI_ab at' w V (by omega)) (fun c => atX_ab at' w V (by omega) c) ⟨SmI.start hB, fun c h => by cases h⟩ ?assign ?body ?done ?stop
  case assign =>
    intro l x W K hK
    simp only [celV] at hK ⊢
    gi_wp2
    exact hK
  case body =>
    rintro l m pre x Bx X ⟨h1, h2⟩ hm1 hle hbl hbx hdue
    have c0 := (h1.box b0 (by omega)).cell
    have bx : Blk X Bx #[.int .i64 (x.1 : Nat), .int .i64 (x.2.1 : Nat), .int .i64 (x.2.2 : Nat)] 26 := hbx
    have x0 := bx.cell 0
    have x1 := bx.cell 1
    have x2 := bx.cell 2
    simp only [List.getElem?_toArray, List.getElem?_cons_succ, List.getElem?_cons_zero] at x0 x1 x2
    by_cases hlt : at' < (x.2.1 : Int)
    · have e1 : decide (at' < (x.2.1 : Int)) = true := decide_eq_true hlt
      have q1 := h1.blk b1 (by omega)
      have q2 : Blk X (w.heap.size + 2) #[.int .i64 0] 33 := h1.blk (show Blk V _ _ _ from b2) (by omega)
      have r0 := q1.cell 0
      have r1 := q1.cell 1
      have r2 := q1.cell 2
      have r3 := q2.cell 0
      have f0 := q1.frozen 0
      have f1 := q1.frozen 1
      have f2 := q1.frozen 2
      have f3 := q2.frozen 0
      simp only [List.getElem?_toArray, List.getElem?_cons_succ, List.getElem?_cons_zero] at r0 r1 r2 r3
      have H := Lib.hid (And.intro h1 (And.intro h2 (And.intro hlt (And.intro q1 (And.intro q2 hdue)))))
      clear h1 h2 hlt q1 q2 hdue bx hbx
      simp only [celV, List.setIfInBounds_toArray, List.set_cons_zero, List.set_cons_succ]
      gi_wp2
      obtain ⟨h1, h2, hlt, q1, q2, hdue⟩ := H.out
      have q3 := ((q1.set 0 (.int .i64 (x.1 : Nat))).set 1 (.int .i64 (x.2.1 : Nat))).set 2 (.int .i64 (x.2.2 : Nat))
      simp only [List.setIfInBounds_toArray, List.set_cons_zero, List.set_cons_succ] at q3
      have lV := h1.size
      refine ⟨(kf_set _ _).trans ((kf_set _ _).trans ((kf_set _ _).trans (kf_set _ _))), rfl, pre, x, rfl, h2, hlt, ⟨?_, ?_⟩, q3.other (by omega) 0 _, ?_⟩
      · exact (((h1.2.setCell (p := ⟨_, 0, none⟩) (by dsimp only; omega) _).setCell (p := ⟨_, 1, none⟩) (by dsimp only; omega) _).setCell (p := ⟨_, 2, none⟩) (by dsimp only; omega) _).setCell (p := ⟨_, 0, none⟩) (by dsimp only; omega) _
      · simpa using lV
      · exact (((q2.other (B' := w.heap.size + 1) (by omega) 0 _).other (B' := w.heap.size + 1) (by omega) 1 _).other (B' := w.heap.size + 1) (by omega) 2 _).set 0 _
    · have e1 : decide (at' < (x.2.1 : Int)) = false := decide_eq_false hlt
      have H := Lib.hid (And.intro h1 (And.intro h2 (And.intro hlt hdue)))
      clear h1 h2 hlt hdue bx hbx
      simp only [celV, List.setIfInBounds_toArray, List.set_cons_zero, List.set_cons_succ]
      gi_wp2
      obtain ⟨h1, h2, hlt, hdue⟩ := H.out
      refine ⟨kf_below (Below.refl _ _), kpM_refl, h1, ?_⟩
      intro c hc
      rcases List.mem_append.1 hc with hc | hc
      · exact h2 c hc
      · rw [List.mem_singleton.1 hc]; exact hlt
  case done =>
    rintro D m X hDl ⟨h1, h2⟩ _ hK
    have HN := Lib.hid (HF.out.2 h2)
    have q1 := h1.blk b1 (by omega)
    have q2 : Blk X (w.heap.size + 2) #[.int .i64 0] 33 := h1.blk (show Blk V _ _ _ from b2) (by omega)
    have r0 := q1.cell 0
    have r1 := q1.cell 1
    have r2 := q1.cell 2
    have r3 := q2.cell 0
    have f0 := q1.frozen 0
    have f1 := q1.frozen 1
    have f2 := q1.frozen 2
    have f3 := q2.frozen 0
    simp only [List.getElem?_toArray, List.getElem?_cons_succ, List.getElem?_cons_zero] at r0 r1 r2 r3
    have hD2 := hz ▸ hDl
    have H := Lib.hid (And.intro h1 (And.intro q1 (And.intro q2 hK)))
    clear h1 h2 q1 q2 hK
    gi_wp2
    obtain ⟨h1, q1, q2, hK⟩ := H.out
    have lV := h1.size
    have q3 := ((q1.set 0 (.int .i64 0)).set 1 (.int .i64 0)).set 2 (.int .i64 0)
    simp only [List.setIfInBounds_toArray, List.set_cons_zero, List.set_cons_succ] at q3
    have q4 := q3.other (B' := w.heap.size + 2) (by omega) 0 (.int .i64 5)
    have q5 := (((q2.other (B' := w.heap.size + 1) (by omega) 0 (.int .i64 0)).other (B' := w.heap.size + 1) (by omega) 1 (.int .i64 0)).other (B' := w.heap.size + 1) (by omega) 2 (.int .i64 0)).set 0 (.int .i64 5)
    have hB5 := (((h1.2.setCell (p := ⟨w.heap.size + 1, 0, none⟩) (by dsimp only; omega) (.int .i64 0)).setCell (p := ⟨w.heap.size + 1, 1, none⟩) (by dsimp only; omega) (.int .i64 0)).setCell (p := ⟨w.heap.size + 1, 2, none⟩) (by dsimp only; omega) (.int .i64 0)).setCell (p := ⟨w.heap.size + 2, 0, none⟩) (by dsimp only; omega) (.int .i64 5)
    have hl := (Array.getElem?_eq_some_iff.1 hK).1
    have hK2 := ((grownBy_setCell _ (w.heap.size + 2) 0 (.int .i64 5)).block D (by simpa using hl) (by intro e; cases e; omega)).trans (((grownBy_setCell _ (w.heap.size + 1) 2 (.int .i64 0)).block D (by simpa using hl) (by intro e; cases e; omega)).trans (((grownBy_setCell _ (w.heap.size + 1) 1 (.int .i64 0)).block D (by simpa using hl) (by intro e; cases e; omega)).trans (((grownBy_setCell X (w.heap.size + 1) 0 (.int .i64 0)).block D hl (by intro e; cases e; omega)).trans hK)))
    obtain ⟨Y, hY⟩ : ∃ Y, (((X.setCell ⟨w.heap.size + 1, 0, none⟩ (.int .i64 0)).setCell ⟨w.heap.size + 1, 1, none⟩ (.int .i64 0)).setCell ⟨w.heap.size + 1, 2, none⟩ (.int .i64 0)).setCell ⟨w.heap.size + 2, 0, none⟩ (.int .i64 5) = Y := ⟨_, rfl⟩
    rw [hY] at q4 q5 hB5 hK2 ⊢
    have hB6 := hB5.trans (belowK_b (w := w) (Nat.le_refl _) Y D _ (.deferred none) (by omega) hK2 rfl rfl)
    have r0 := q4.cell 0
    have r1 := q4.cell 1
    have r2 := q4.cell 2
    have r3 := q5.cell 0
    simp only [List.getElem?_toArray, List.getElem?_cons_succ, List.getElem?_cons_zero] at r0 r1 r2
    have p0 : (Y.putObj D (.deferred none)).cell? ⟨w.heap.size + 1, 0, none⟩ = _ := (World.cell?_of_block (w := Y) (World.putObj_heap_other (by dsimp only; omega))).trans r0
    have p1 : (Y.putObj D (.deferred none)).cell? ⟨w.heap.size + 1, 1, none⟩ = _ := (World.cell?_of_block (w := Y) (World.putObj_heap_other (by dsimp only; omega))).trans r1
    have p2 : (Y.putObj D (.deferred none)).cell? ⟨w.heap.size + 1, 2, none⟩ = _ := (World.cell?_of_block (w := Y) (World.putObj_heap_other (by dsimp only; omega))).trans r2
    have p3 : (Y.putObj D (.deferred none)).cell? ⟨w.heap.size + 2, 0, none⟩ = _ := (World.cell?_of_block (w := Y) (World.putObj_heap_other (by dsimp only; omega))).trans r3
    refine ⟨by simp, .inl ⟨_, _, rfl, run_takeDeferred (w := Y) hK2, ?_⟩⟩
    refine ⟨optV none, ?_, by rw [HN.out], hB6⟩
    simp [results, Try.f15, go_sem, p0, p1, p2, p3, optV, cel0]
  case stop =>
    rintro D c pre X hDl hpre ⟨rfl, q, x, rfl, h1, h2, h3, h4, h5⟩ hK
    have HN := Lib.hid (HF.out.1 q x hpre h1 h2)
    have hD2 := hz ▸ hDl
    have hB5 := h3.1.trans (belowK_b (w := w) (Nat.le_refl _) X D _ (.deferred none) (by omega) hK rfl rfl)
    have r0 := h4.cell 0
    have r1 := h4.cell 1
    have r2 := h4.cell 2
    have r3 := h5.cell 0
    simp only [List.getElem?_toArray, List.getElem?_cons_succ, List.getElem?_cons_zero] at r0 r1 r2 r3
    have p0 : (X.putObj D (.deferred none)).cell? ⟨w.heap.size + 1, 0, none⟩ = _ := (World.cell?_of_block (w := X) (World.putObj_heap_other (by dsimp only; omega))).trans r0
    have p1 : (X.putObj D (.deferred none)).cell? ⟨w.heap.size + 1, 1, none⟩ = _ := (World.cell?_of_block (w := X) (World.putObj_heap_other (by dsimp only; omega))).trans r1
    have p2 : (X.putObj D (.deferred none)).cell? ⟨w.heap.size + 1, 2, none⟩ = _ := (World.cell?_of_block (w := X) (World.putObj_heap_other (by dsimp only; omega))).trans r2
    have p3 : (X.putObj D (.deferred none)).cell? ⟨w.heap.size + 2, 0, none⟩ = _ := (World.cell?_of_block (w := X) (World.putObj_heap_other (by dsimp only; omega))).trans r3
    gi_wp2
    refine ⟨by simp, .inl ⟨_, _, rfl, run_takeDeferred (w := X) hK, ?_⟩⟩
    refine ⟨optV (some x), ?_, by rw [HN.out], hB5⟩
    simp [results, Try.f15, go_sem, p0, p1, p2, p3, optV, celV]

theorem atC_any (s : ByteArray) (hs : s.size ≤ 9223372036854775807) (at' : Int) (w : World) :
    Calls Try.prog 15 #[.string s, .int .i64 at'] w fun e w' => e = .returned (optV (atF s at')) ∧ Below w.heap.size w w' := by
  by_cases h : at' < 0
  · exact atC_neg s at' h w
  · exact callsIn_wide.1 (atC_in s hs at' (by omega) w)
end Go.Proofs.Ytnbhdgbhmcbeoaa
