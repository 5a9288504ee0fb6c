/- Layer 5: the clusters as an iterator; a loop over it. -/
import Derived.Test.YtnbhdgbhmcbeoaaCl2
import Derived.Test.YtnbhdgbhmcbeoaaK2
namespace Go.Proofs.Ytnbhdgbhmcbeoaa
set_option linter.unusedVariables false
set_option linter.unusedSimpArgs false
open Go Go.RowKit Go.Shelf
set_option maxRecDepth 100000
attribute [local go_sem] Oper.semAt_some

theorem each_any (s : ByteArray) (w : World) :
    Calls Try.prog 27 #[.string s] w fun e w' => e = .returned (.func (.func 42) #[] #[.pointer (some ⟨w.heap.size, 0, none⟩)]) ∧ w' = w.alloc (.cells #[.string s] 9) := by
  go_enter Try.func27, Try.ntmps27
  go_wp2
  go_ret
  exact ⟨rfl, rfl⟩
def EaRel (s : ByteArray) (B S : Nat) (J : Nat → List Cel → World → Prop) (at_ : Value) (wr : World) : Prop :=
  ∃ (pre : List Cel) (i m : Nat), at_ = .int .i64 i ∧ i ≤ s.size ∧ cellsL s = pre ++ cellsG s i ∧ Boxed wr B 9 (.string s) ∧ J m pre wr ∧ S ≤ m ∧ m ≤ wr.heap.size
set_option maxHeartbeats 4000000 in
theorem pro_each (l B : Nat) (s : ByteArray) (hs : s.size ≤ 9223372036854775807) (J : Nat → List Cel → World → Prop) (Jx : List Cel → World → Prop) (W : World)
    (hJ : ∀ m, AbX W.heap.size FrO (J m)) (hBx : Boxed W B 9 (.string s))
    (hY : ∀ m pre x X, J m pre X → W.heap.size ≤ m → m ≤ X.heap.size → pre ++ [x] <+: cellsL s → YieldAt Fence.wide 9 Try.prog l #[celV x] X fun e Y =>
      (e = .returned (.bool true) ∧ J Y.heap.size (pre ++ [x]) Y ∧ KpM B m X Y) ∨ (e = .returned (.bool false) ∧ Jx (pre ++ [x]) Y ∧ KeepsFrom W.heap.size X Y))
    (h0 : J W.heap.size [] W) :
    CallsIn Fence.wide 11 Try.prog 42 #[.func (.yield l) #[] #[], .pointer (some ⟨B, 0, none⟩)] W fun e Y => (∃ v, e = .returned v) ∧
      ((∃ m xs, xs = cellsL s ∧ J m xs Y ∧ m ≤ Y.heap.size) ∨ (∃ pre, pre <+: cellsL s ∧ Jx pre Y)) := by
  have hlB := Blk.lt (show Blk _ _ _ _ from hBx)
  refine callsIn_of_wp Try.func42 rfl trivial ?_ rfl
  simp only [Try.ntmps42, List.size_toArray, List.length_cons, List.length_nil, Nat.reduceAdd, Nat.reduceSub, Array.replicate_succ, Array.replicate_zero, List.push_toArray, List.append_toArray, List.nil_append, List.cons_append]
  have hF : ∀ f, Fence.wide.fn f := fun _ => trivial
  gi_wp2
  gi_loopw [3] (fun i wr => EaRel s B W.heap.size J i wr) (fun i _ => s.size - (intOf i).toNat)
  case atStart => exact ⟨[], 0, _, rfl, by omega, rfl, hBx, h0, Nat.le_refl _, Nat.le_refl _⟩
  case round =>
    obtain ⟨pre, i, mk, rfl, hi, hpp, hbx, hj, hS, hmk⟩ := hrel
    have hc0 := hbx.cell
    by_cases hlt : i < s.size
    · have hli : (i : Int) < (s.size : Int) := by omega
      have hb := fstC_bd s i hlt
      have cF := first_any s hs i hlt
      have hco := cellsG_cons s i hlt
      obtain ⟨⟨t1, c1⟩, hfc⟩ : ∃ x, fstC s i = x := ⟨_, rfl⟩
      rw [hfc] at cF hb hco
      simp only at hb hco
      simp only [celV] at cF
      have hpp2 : cellsL s = (pre ++ [(i, t1, c1)]) ++ cellsG s t1 := by rw [hpp, hco]; simp
      have HP := Lib.hid hpp2
      have HY := Lib.hid hY
      clear hpp hpp2 hco hfc hY
      gi_wp2_with (fail)
      refine (callsIn_wide.2 (cF _)).mono ?_
      rintro e w1 ⟨rfl, hb1⟩
      have hj1 : J mk pre (w1.alloc (.cells #[.int .i64 i, .int .i64 t1, .int .i64 c1] 26)) := (hJ mk).alloc _ (hJ mk _ _ _ none hj (grown_none hb1) (fun r e => by cases e))
      have bx1 : Boxed w1 B 9 (.string s) := Blk.below' (show Blk _ _ _ _ from hbx) hb1
      have bx2 : Boxed _ _ _ _ := bx1.alloc (.cells #[.int .i64 i, .int .i64 t1, .int .i64 c1] 26)
      have m := Blk.new w1 #[.int .i64 i, .int .i64 t1, .int .i64 c1] 26
      have hS1 : mk ≤ w1.heap.size := Nat.le_trans hmk hb1.size
      have m0 := m.cell 0
      have m1 := m.cell 1
      have m2 := m.cell 2
      simp only [List.getElem?_toArray, List.getElem?_cons_succ, List.getElem?_cons_zero] at m0 m1 m2
      obtain ⟨fn, tmps, assign, body, hy, hR⟩ := yield_wide (m' := 10) (HY.out mk pre (i, t1, c1) _ hj1 hS (by simp; omega) ⟨_, HP.out.symm⟩)
      simp only [celV] at hy
      clear hb1 hj hbx cF hj1 hc0
      gi_wp2
      refine hR.mono ?_
      rintro e Y (⟨rfl, hJ', hk'⟩ | ⟨rfl, hJx', hk'⟩)
      · have bY : Boxed Y B 9 (.string s) := hk'.2.2.trans bx2
        have mY : Blk Y w1.heap.size #[.int .i64 i, .int .i64 t1, .int .i64 c1] 26 := (hk'.2.1 _ hS1 (by simp)).trans m
        have e1 := mY.cell 1
        simp only [List.getElem?_toArray, List.getElem?_cons_succ, List.getElem?_cons_zero] at e1
        have hSY : W.heap.size ≤ Y.heap.size := Nat.le_trans hS (Nat.le_trans hS1 (by have := hk'.1.size; simp at this; omega))
        have HJ := Lib.hid hJ'
        clear hk' hJ' hy hR m m0 m1 m2 bx1 bx2
        gi_wp2
        go_roundw
        case rel => exact ⟨pre ++ [(i, t1, c1)], t1, _, rfl, by omega, HP.out, bY, HJ.out, hSY, Nat.le_refl _⟩
        case measure => simp [intOf]; omega
      · clear hy hR m m0 m1 m2 bx1 bx2 hk'
        gi_wp2
        refine bodyPost_ret (results_none rfl _ _ _) rfl ?_
        refine ⟨⟨_, rfl⟩, .inr ⟨_, ?_, hJx'⟩⟩
        rw [HP.out]
        exact List.prefix_append _ _
    · have hie : i = s.size := by omega
      have hfin : cellsL s = pre := by rw [hpp, cellsG_end s i (by omega), List.append_nil]
      have HFIN := Lib.hid hfin
      have hli : ¬ (i : Int) < (s.size : Int) := by omega
      clear hpp hfin hY
      gi_wp2
      refine bodyPost_end (results_none rfl _ _ _) rfl ?_
      first | exact ⟨⟨_, rfl⟩, .inl ⟨mk, cellsL s, rfl, HFIN.out ▸ hj, hmk⟩⟩ | exact ⟨⟨_, rfl⟩, .inl ⟨mk, HFIN.out ▸ hj, hmk⟩⟩

theorem each_seq (s : ByteArray) (hs : s.size ≤ 9223372036854775807) (B : Nat) (w : World) (hB : Boxed w B 9 (.string s)) :
    SeqM Fence.wide 11 Try.prog 42 #[.pointer (some ⟨B, 0, none⟩)] (fun x : Cel => #[celV x]) (KpM B) FrO (fun xs => xs = cellsL s) (fun pre => pre <+: cellsL s) (fun pre x => pre ++ [x] <+: cellsL s) w := by
  intro l J Jx W hW hsz hJ hJx hY h0
  exact pro_each l B s hs J Jx W hJ ((hW.block B hB.lt).trans hB) (fun m pre x X h1 h2 h3 h4 => yield_wide (hY m pre x X h1 h2 h3 h4)) h0

/-- A loop 'for x := range cluster.Each(s)', x in a variable of its own in each round (slot v). -/
theorem range_each {g : Operand} {q : Tmp} {assign body : Code} {Q : Exit → Act → World → Prop} {a : Act} {w : World} (v : Nat) (s : ByteArray) (hs : s.size ≤ 9223372036854775807) (B : Nat)
    (hB : Boxed w B 9 (.string s)) (hg : a.eval g = .func (.func 42) #[] #[.pointer (some ⟨B, 0, none⟩)])
    (I : Nat → List Cel → World → Prop) (Ix : Code → List Cel → World → Prop) (hI : ∀ m, AbX w.heap.size FrO (I m)) (hIx : ∀ c, AbX w.heap.size FrO (Ix c)) (h0 : I (w.heap.size + 2) [] w)
    (hassign : ∀ (l : Nat) (x : Cel) (W : World) (K : Act → World → Prop),
      K { tmps := (a.tmps.setIfInBounds q (celV x)).setIfInBounds v (.pointer (some ⟨W.heap.size, 0, none⟩)), defers := [] } (W.alloc (.cells #[.int .i64 (x.1 : Nat), .int .i64 (x.2.1 : Nat), .int .i64 (x.2.2 : Nat)] 26)) →
      assign.wpIn (Fence.wide.inRound l) 10 Try.prog (Exit.then K (fun _ _ _ => False)) { tmps := a.tmps.setIfInBounds q (celV x), defers := [] } W)
    (hbody : ∀ (l m : Nat) (pre : List Cel) (x : Cel) (Bx : Nat) (W : World), I m pre W → w.heap.size + 2 ≤ m → m ≤ Bx → Bx < W.heap.size → W.heap[Bx]? = some (.cells #[.int .i64 (x.1 : Nat), .int .i64 (x.2.1 : Nat), .int .i64 (x.2.2 : Nat)] 26) → pre ++ [x] <+: cellsL s →
      body.wpIn (Fence.wide.inRound l) 10 Try.prog (ownPostM w.heap.size (KpM B m) I Ix (pre ++ [x]) W) { tmps := (a.tmps.setIfInBounds q (celV x)).setIfInBounds v (.pointer (some ⟨Bx, 0, none⟩)), defers := [] } W)
    (hdone : ∀ (D m : Nat) (W : World), w.heap.size ≤ D → I m (cellsL s) W → m ≤ W.heap.size → W.heap[D]? = some (.deferred (some [])) → Q .normal { a with defers := { target := .collected D, args := #[] } :: a.defers } W)
    (hstop : ∀ (D : Nat) (c : Code) (pre : List Cel) (W : World), w.heap.size ≤ D → pre <+: cellsL s → Ix c pre W → W.heap[D]? = some (.deferred (some [])) → c.wpIn Fence.wide 12 Try.prog Q { a with defers := { target := .collected D, args := #[] } :: a.defers } W) :
    (Code.rangeFunc g #[q] assign body).wpIn Fence.wide 12 Try.prog Q a w := by
  have enters := enters_of Try.func42 (by kernel_rfl) rfl
  have hlB := Blk.lt (show Blk _ _ _ _ from hB)
  have putK : ∀ (m : Nat) (W : World) (o o' : Obj), w.heap.size + 2 ≤ m → W.heap[w.heap.size + 1]? = some o → o.isCells = false → o.isWalk = false → KpM B m W (W.putObj (w.heap.size + 1) o') := fun m W o o' hm h _ hw =>
    ⟨KeepsWalks.putObj _ h hw, fun k hk _ => World.putObj_heap_other (by omega), World.putObj_heap_other (by omega)⟩
  refine wpIn_range_m (n := 12) (gf := 42) (lb := #[.pointer (some ⟨B, 0, none⟩)]) (encs := fun x : Cel => #[celV x]) (Kp := KpM B) (Fr := FrO) (S := fun xs => xs = cellsL s) (Sp := fun pre => pre <+: cellsL s) (Due := fun pre x => pre ++ [x] <+: cellsL s) rfl (by omega) hg trivial (fun _ _ => enters _ _)
    (each_seq s hs B w hB) (fun _ _ o h hc => ⟨o, h, hc⟩) kpM_t putK (fun _ => rfl)
    (fun m pre W => I m pre W ∧ W.heap[B]? = some (.cells #[.string s] 9 (0, 0))) Ix (fun m => (hI m).and (fun _ X Y row h hg hr => (hg.block B (Array.getElem?_eq_some_iff.1 h).1 (fun e => by have := (hr B e.symm).1; omega)).trans h)) hIx ⟨h0, hB⟩
    (fun m x a' W => ∃ Bx, m ≤ Bx ∧ W.heap[Bx]? = some (.cells #[.int .i64 (x.1 : Nat), .int .i64 (x.2.1 : Nat), .int .i64 (x.2.2 : Nat)] 26) ∧ a' = { tmps := (a.tmps.setIfInBounds q (celV x)).setIfInBounds v (.pointer (some ⟨Bx, 0, none⟩)), defers := [] }) ?_ ?_ ?_ ?_ ?_
  · rintro m x a' _ W W' row ⟨Bx, h1, h2, h3⟩ hg hr
    refine ⟨Bx, h1, (hg.block Bx (Array.getElem?_eq_some_iff.1 h2).1 ?_).trans h2, h3⟩
    intro e
    obtain ⟨_, o, ho, hc⟩ := hr Bx e.symm
    rw [h2] at ho; cases ho; cases hc
  · rintro l m pre x W K ⟨hi, hb⟩ hm1 hm2 hK
    have e0 : ((#[q].zip (#[celV x] : Array Value)).foldl (fun t (p, v) => t.setIfInBounds p v) a.tmps) = a.tmps.setIfInBounds q (celV x) := by simp
    rw [e0]
    have hbl : B < W.heap.size := (Array.getElem?_eq_some_iff.1 hb).1
    exact hassign l x W K (hK _ _ ((KeepsOthers.alloc _ _).from _) (kpM_alloc hbl _) ⟨(hI m).alloc _ hi, (Below.heap_alloc W _ B hbl).trans hb⟩ ⟨W.heap.size, hm2, World.alloc_heap_new W _, rfl⟩)
  · rintro l m pre x a' W _ ⟨hi, hb⟩ hm1 hm2 ⟨Bx, h1, h2, rfl⟩ hdue
    refine wpIn_mono (hbody l m pre x Bx W hi hm1 h1 (Array.getElem?_eq_some_iff.1 h2).1 h2 hdue) ?_
    rintro e a3 W3 hp
    cases e with
    | normal => exact ⟨hp.1, hp.2.1, hp.2.2, hp.2.1.2.2.trans hb⟩
    | ret => exact hp
    | exit id => exact hp
    | goto t => exact hp
    | panic ch => exact hp
    | outgrown => exact hp
  · rintro D m xs W hD rfl ⟨hi, _⟩ hm hk
    exact hdone D m W hD hi hm hk
  · exact hstop
/-- A loop 'for range cluster.Each(s)'. -/
theorem range_each0 {g : Operand} {q : Tmp} {assign body : Code} {Q : Exit → Act → World → Prop} {a : Act} {w : World} (s : ByteArray) (hs : s.size ≤ 9223372036854775807) (B : Nat)
    (hB : Boxed w B 9 (.string s)) (hg : a.eval g = .func (.func 42) #[] #[.pointer (some ⟨B, 0, none⟩)])
    (I : Nat → List Cel → World → Prop) (Ix : Code → List Cel → World → Prop) (hI : ∀ m, AbX w.heap.size FrO (I m)) (hIx : ∀ c, AbX w.heap.size FrO (Ix c)) (h0 : I (w.heap.size + 2) [] w)
    (hassign : ∀ (l : Nat) (x : Cel) (W : World) (K : Act → World → Prop), K { tmps := a.tmps.setIfInBounds q (celV x), defers := [] } W →
      assign.wpIn (Fence.wide.inRound l) 10 Try.prog (Exit.then K (fun _ _ _ => False)) { tmps := a.tmps.setIfInBounds q (celV x), defers := [] } W)
    (hbody : ∀ (l m : Nat) (pre : List Cel) (x : Cel) (W : World), I m pre W → w.heap.size + 2 ≤ m → m ≤ W.heap.size → pre ++ [x] <+: cellsL s →
      body.wpIn (Fence.wide.inRound l) 10 Try.prog (ownPostM w.heap.size (KpM B m) I Ix (pre ++ [x]) W) { tmps := a.tmps.setIfInBounds q (celV x), defers := [] } W)
    (hdone : ∀ (D m : Nat) (W : World), w.heap.size ≤ D → I m (cellsL s) W → m ≤ W.heap.size → W.heap[D]? = some (.deferred (some [])) → Q .normal { a with defers := { target := .collected D, args := #[] } :: a.defers } W)
    (hstop : ∀ (D : Nat) (c : Code) (pre : List Cel) (W : World), w.heap.size ≤ D → pre <+: cellsL s → Ix c pre W → W.heap[D]? = some (.deferred (some [])) → c.wpIn Fence.wide 12 Try.prog Q { a with defers := { target := .collected D, args := #[] } :: a.defers } W) :
    (Code.rangeFunc g #[q] assign body).wpIn Fence.wide 12 Try.prog Q a w := by
  have enters := enters_of Try.func42 (by kernel_rfl) rfl
  have hlB := Blk.lt (show Blk _ _ _ _ from hB)
  have putK : ∀ (m : Nat) (W : World) (o o' : Obj), w.heap.size + 2 ≤ m → W.heap[w.heap.size + 1]? = some o → o.isCells = false → o.isWalk = false → KpM B m W (W.putObj (w.heap.size + 1) o') := fun m W o o' hm h _ hw =>
    ⟨KeepsWalks.putObj _ h hw, fun k hk _ => World.putObj_heap_other (by omega), World.putObj_heap_other (by omega)⟩
  refine wpIn_range_m (n := 12) (gf := 42) (lb := #[.pointer (some ⟨B, 0, none⟩)]) (encs := fun x : Cel => #[celV x]) (Kp := KpM B) (Fr := FrO) (S := fun xs => xs = cellsL s) (Sp := fun pre => pre <+: cellsL s) (Due := fun pre x => pre ++ [x] <+: cellsL s) rfl (by omega) hg trivial (fun _ _ => enters _ _)
    (each_seq s hs B w hB) (fun _ _ o h hc => ⟨o, h, hc⟩) kpM_t putK (fun _ => rfl)
    (fun m pre W => I m pre W ∧ W.heap[B]? = some (.cells #[.string s] 9 (0, 0))) Ix (fun m => (hI m).and (fun _ X Y row h hg hr => (hg.block B (Array.getElem?_eq_some_iff.1 h).1 (fun e => by have := (hr B e.symm).1; omega)).trans h)) hIx ⟨h0, hB⟩
    (fun m x a' W => a' = { tmps := a.tmps.setIfInBounds q (celV x), defers := [] }) ?_ ?_ ?_ ?_ ?_
  · rintro m x a' _ W W' row h hg hr
    exact h
  · rintro l m pre x W K ⟨hi, hb⟩ hm1 hm2 hK
    have e0 : ((#[q].zip (#[celV x] : Array Value)).foldl (fun t (p, v) => t.setIfInBounds p v) a.tmps) = a.tmps.setIfInBounds q (celV x) := by simp
    rw [e0]
    exact hassign l x W K (hK _ _ (KeepsFrom.refl _ _) kpM_refl ⟨hi, hb⟩ rfl)
  · rintro l m pre x a' W _ ⟨hi, hb⟩ hm1 hm2 rfl hdue
    refine wpIn_mono (hbody l m pre x W hi hm1 hm2 hdue) ?_
    rintro e a3 W3 hp
    cases e with
    | normal => exact ⟨hp.1, hp.2.1, hp.2.2, hp.2.1.2.2.trans hb⟩
    | ret => exact hp
    | exit id => exact hp
    | goto t => exact hp
    | panic ch => exact hp
    | outgrown => exact hp
  · rintro D m xs W hD rfl ⟨hi, _⟩ hm hk
    exact hdone D m W hD hi hm hk
  · exact hstop
end Go.Proofs.Ytnbhdgbhmcbeoaa
