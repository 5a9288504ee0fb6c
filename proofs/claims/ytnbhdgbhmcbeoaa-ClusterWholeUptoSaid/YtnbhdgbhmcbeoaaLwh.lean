/- ClusterWhole: the law's call. -/
import Derived.Test.YtnbhdgbhmcbeoaaCln
import Derived.Test.YtnbhdgbhmcbeoaaRg
import Derived.Test.YtnbhdgbhmcbeoaaCg
import Derived.BigQuiet
import Derived.Deep.QuietTactic
namespace Go.Proofs.Ytnbhdgbhmcbeoaa
set_option linter.unusedVariables false
set_option linter.unusedSimpArgs false
open Go Go.RowKit Go.Shelf
set_option maxRecDepth 100000
attribute [local go_sem] Oper.semAt_some

/-- A region, walked to its end once. -/
theorem wpIn_cutW {F : Fence} {n : Nat} {P : Program} (id : Nat) {ops : Array Oper} {b : Bool} {Q : Exit → Act → World → Prop} {a : Act} {w : World} {α : Type} (T : α → World → Prop) (L : α → List (Nat × Value)) (h1 : (Code.region id ops b).wpIn F n P (CutV T L a) a w) (h2 : ∀ v w', T v w' → Q .normal (putsG a (L v)) w') : (Code.region id ops b).wpIn F n P Q a w :=
  wpIn_mono h1 (fun _ _ _ ⟨he, v, ha, ht⟩ => he ▸ ha ▸ h2 v _ ht)
theorem cutW_mk {T : (Nat → Value) → World → Prop} {L : (Nat → Value) → List (Nat × Value)} {a a' : Act} {w : World} (h : a' = putsG a (L (fun i => a'.tmps.getD i undef))) (hT : T (fun i => a'.tmps.getD i undef) w) : CutV T L a .normal a' w := ⟨rfl, _, h, hT⟩
theorem infoI : (Try.prog.info? 3).map (fun i => (i.zero, i.size, i.bytes)) = some (some (.int .i64 0), 1, 8) := by kernel_rfl
/-- make([]int, n): a row of zeros of one's own. -/
theorem make_ints (w : World) (n : Nat) (h : n ≤ 17592186044416) : (Instr.makeSlice 53 (.int .i64 (n : Int)) (.int .i64 (n : Int))).run Try.prog w = .ok (.slice (some ⟨w.heap.size, 0, none⟩) n n) (w.alloc (.cells (madeCells #[.int .i64 0] n) 3)) := by
  obtain ⟨i0, hi, hz0, hz1, hz2⟩ := info_parts infoI
  have := run_make (P := Try.prog) w 53 3 i0 (.int .i64 0) Try.underlying53 hi hz0 .i64 .i64 n n (by omega) (by omega) (by rw [hz2]; omega) (by omega)
  rw [hz1, show (Value.int .i64 0).cells = #[.int .i64 0] from rfl] at this
  simpa using this
theorem made_listI (n : Nat) : (madeCells #[.int .i64 0] n).toList = List.replicate n (.int .i64 0) := by
  apply List.ext_getElem?
  intro i
  simp only [madeCells, Array.toList_map, Array.toList_range, List.getElem?_map, List.getElem?_replicate]
  by_cases h : i < n
  · rw [List.getElem?_range h, if_pos h]; simp [Nat.mod_one]
  · rw [if_neg h, List.getElem?_eq_none (by simp; omega)]; rfl
theorem made_rowI (w : World) (n : Nat) (h : n ≤ 17592186044416) : (w.alloc (.cells (madeCells #[.int .i64 0] n) 3)).ownsRow w.heap.size 3 1 (.slice (some ⟨w.heap.size, 0, none⟩) n n) n (List.replicate n (.int .i64 0)) := by
  refine ⟨by simp, .inr ⟨w.heap.size, n, madeCells #[.int .i64 0] n, rfl, Nat.le_refl _, World.alloc_heap_new w _, Nat.le_refl _, by unfold maxLen; omega, by rw [size_madeCells]; omega, ?_⟩⟩
  rw [made_listI, Nat.mul_one, List.take_of_length_le (by simp)]

theorem ints_set (M : List Nat) (p v : Nat) : (ints M).set p (.int .i64 (v : Nat)) = ints (M.set p v) := by simp [ints, List.map_set]
theorem ints_set1 (M : List Nat) (p : Nat) : (ints M).set p (.int .i64 1) = ints (M.set p 1) := ints_set M p 1
theorem ints_at {M : List Nat} {p v : Nat} (h : M[p]? = some v) : (ints M)[p]? = some (.int .i64 (v : Nat)) := by simp [ints, h]
/-- The bounds so far. -/
def WbRel (s : ByteArray) (b it : Nat) (w V wr : World) : Prop := ∃ (pos : Nat) (pre M : List Nat), posG s 0 = pre ++ posG s pos ∧ pos ≤ s.size ∧ M.length = s.size + 1 ∧ (∀ p ∈ pre, M[p]? = some 1) ∧
  wr.ownsRow b 3 1 (.slice (some ⟨b, 0, none⟩) (s.size + 1) (s.size + 1)) (s.size + 1) (ints M) ∧ wr.heap[it]? = some (.stringIter s pos) ∧ wr.heap.size = V.heap.size ∧ Below w.heap.size w wr ∧ ∀ k, k < V.heap.size → k ≠ b → k ≠ it → wr.heap[k]? = V.heap[k]?

/-- As at the start, but for some blocks. -/
def SmS (S : Nat → Prop) (w0 V X : World) : Prop := (V.heap.size ≤ X.heap.size ∧ ∀ b, b < V.heap.size → ¬ S b → X.heap[b]? = V.heap[b]?) ∧ Below w0.heap.size w0 X
theorem SmS.start {S : Nat → Prop} {w0 V : World} (h : Below w0.heap.size w0 V) : SmS S w0 V V := ⟨⟨Nat.le_refl _, fun _ _ _ => rfl⟩, h⟩
theorem SmS.grown {S : Nat → Prop} {w0 V X Y : World} {row : Option Nat} (h : SmS S w0 V X) (hg : X.grownBy Y row) (h0 : w0.heap.size ≤ V.heap.size) (hr : ∀ r, row = some r → V.heap.size ≤ r) : SmS S w0 V Y :=
  ⟨⟨Nat.le_trans h.1.1 hg.size, fun b hb hn => (hg.block b (Nat.lt_of_lt_of_le hb h.1.1) (fun e => by have := hr b e.symm; omega)).trans (h.1.2 b hb hn)⟩, h.2.grown hg (Nat.le_trans h0 h.1.1) (fun r e => Nat.le_trans h0 (hr r e))⟩
theorem SmS.below {S : Nat → Prop} {w0 V X Y : World} (h : SmS S w0 V X) (hb : Below X.heap.size X Y) (h0 : w0.heap.size ≤ V.heap.size) : SmS S w0 V Y := h.grown (grown_none hb) h0 (fun r e => by cases e)
theorem SmS.set {S : Nat → Prop} {w0 V X : World} (h : SmS S w0 V X) {b : Nat} (hS : S b) (hb : w0.heap.size ≤ b) (o : Nat) (v : Value) : SmS S w0 V (X.setCell ⟨b, o, none⟩ v) :=
  ⟨⟨by simpa using h.1.1, fun k hk hn => (Below.heap_setCell X ⟨b, o, none⟩ v k (by intro e; exact hn (by rw [e]; exact hS))).trans (h.1.2 k hk hn)⟩, h.2.setCell (p := ⟨b, o, none⟩) hb v⟩
theorem SmS.blk {S : Nat → Prop} {w0 V X : World} {b : Nat} {cs : Array Value} {T : TypeId} (h : SmS S w0 V X) (hb : Blk V b cs T) (hn : ¬ S b) : Blk X b cs T := (h.1.2 b hb.lt hn).trans hb
theorem SmS.row {S : Nat → Prop} {base size n : Nat} {w0 V X : World} {e : TypeId} {v : Value} {xs : List Value} (h : SmS S w0 V X) (hr : V.ownsRow base e size v n xs) (hn : ∀ g, v.ownBlock = some g → g < V.heap.size ∧ ¬ S g) : X.ownsRow base e size v n xs :=
  own_same hr (fun g hg => h.1.2 g (hn g hg).1 (hn g hg).2)
theorem smS_abO {α : Type} {S : Nat → Prop} {w0 V : World} (h0 : w0.heap.size ≤ V.heap.size) : AbX V.heap.size FrO (fun (_ : List α) X => SmS S w0 V X) := fun s X Y row h hg hr => h.grown hg h0 (fun r e => (hr r e).1)
theorem box_abO {α : Type} {b C : Nat} {T : TypeId} {f : List α → Value} (hb : b < C) : AbX C FrO (fun (s : List α) X => Boxed X b T (f s)) := fun s X Y row h hg hr => Blk.kept (show Blk X b _ _ from h) hg (fun e => by have := (hr b e.symm).1; omega)
theorem endC_all (s : ByteArray) : endC (cellsL s) = s.size := by
  have h1 := endC_le s (cellsL s) [] (by simp)
  have h2 := endC_rest s (cellsL s) [] (by simp)
  by_cases h : endC (cellsL s) < s.size
  · rw [cellsG_cons s _ h] at h2; cases h2
  · omega

def WhS (R : Nat) (b : Nat) : Prop := b = R ∨ b = R + 1 ∨ b = R + 2
def WhI (s : ByteArray) (R : Nat) (w V : World) (pre : List Cel) (X : World) : Prop := (((SmS (WhS R) w V X ∧ Boxed X R 3 (.int .i64 (endC pre : Nat))) ∧ Boxed X (R + 1) 3 (.int .i64 (pre.length : Nat))) ∧ Boxed X (R + 2) 3 (.int .i64 (colsL pre : Nat))) ∧ pre <+: cellsL s
theorem whI_ab (s : ByteArray) (R : Nat) (w V : World) (h0 : w.heap.size ≤ V.heap.size) (hR : R + 2 < V.heap.size) : AbX V.heap.size FrO (WhI s R w V) := fun t X Y row h hg hr =>
  ⟨⟨⟨⟨smS_abO h0 t X Y row h.1.1.1.1 hg hr, box_abO (f := fun pre => .int .i64 (endC pre : Nat)) (by omega) t X Y row h.1.1.1.2 hg hr⟩, box_abO (f := fun pre => .int .i64 (pre.length : Nat)) (by omega) t X Y row h.1.1.2 hg hr⟩, box_abO (f := fun pre => .int .i64 (colsL pre : Nat)) (by omega) t X Y row h.1.2 hg hr⟩, h.2⟩
def WlRel (x : Cel) (X : World) (v : Value) (wr : World) : Prop := ∃ i : Nat, v = .int .i64 i ∧ x.1 ≤ i ∧ i ≤ x.2.1 ∧ Below X.heap.size X wr

set_option maxHeartbeats 8000000 in
theorem lwh_in (s : ByteArray) (hs : s.size ≤ 1048576) (w : World) :
    CallsIn Fence.wide 12 Try.prog 7 #[.string s] w fun e w' => e = .returned (.bool true) ∧ Below w.heap.size w w' := by
  have hm := fun W => make_ints W (s.size + 1) (by omega)
  push_cast at hm
  have hr0 := fun W => made_rowI W (s.size + 1) (by omega)
  obtain ⟨C, hC⟩ : ∃ C, madeCells #[.int .i64 0] (s.size + 1) = C := ⟨_, rfl⟩
  simp only [hC] at hm hr0
  clear hC
  have k0 : IntKind.i64.wrap ((s.size : Int) + 1) = ((s.size + 1 : Nat) : Int) := by rw [IntWalk.i64_in _ (by omega)]; push_cast; rfl
  refine callsIn_of_wp_marks Try.func7 rfl trivial ?_ rfl
  simp only [Try.ntmps7, List.size_toArray, List.length_cons, List.length_nil, Nat.reduceAdd, Nat.reduceSub, Array.replicate_succ, Array.replicate_zero, List.push_toArray, List.append_toArray, List.nil_append, List.cons_append]
  have hF : ∀ f, Fence.wide.fn f := fun _ => trivial
  gi_wp2_with (fail)
  refine (callsIn_wide.2 (works_any _)).mono ?_
  rintro e w1 ⟨rfl, hb1⟩
  have b0 := (Boxed.new w 9 (.string s)).alloc (.cells #[.bool false] 4)
  have b1 := Boxed.new (w.alloc (.cells #[.string s] 9)) 4 (.bool false)
  have z0 : ((w.alloc (.cells #[.string s] 9)).alloc (.cells #[.bool false] 4)).heap.size = w.heap.size + 2 := by simp
  have hB0 := ((Below.refl _ w).alloc (Nat.le_refl _) (.cells #[.string s] 9)).alloc (by simp) (.cells #[.bool false] 4)
  simp only [World.size_alloc] at b1 ⊢
  have c0 : Boxed w1 w.heap.size 9 (.string s) := Blk.below' (show Blk _ _ _ _ from b0) hb1
  have c1 : Boxed w1 (w.heap.size + 1) 4 (.bool false) := Blk.below' (show Blk _ _ _ _ from b1) hb1
  have hB1 := hB0.trans (hb1.mono hB0.size)
  have hP := hb1.size
  rw [z0] at hP
  clear b0 b1 hb1 z0 hB0
  have d0 := ((((c0.alloc (.cells #[.int .i64 0] 3)).alloc (.cells #[.int .i64 0] 3)).alloc (.cells #[.int .i64 0] 3))).cell
  have d1 : ∀ o1 o2, (((((w1.alloc (.cells #[.int .i64 0] 3)).alloc (.cells #[.int .i64 0] 3)).alloc (.cells #[.int .i64 0] 3)).alloc o1).alloc o2).cell? ⟨w.heap.size, 0, none⟩ = some (.string s) := fun o1 o2 => Boxed.cell (Boxed.alloc (Boxed.alloc (((c0.alloc (.cells #[.int .i64 0] 3)).alloc (.cells #[.int .i64 0] 3)).alloc (.cells #[.int .i64 0] 3)) o1) o2)
  gi_wp2_with (fail)
  have e0 : Boxed _ _ _ _ := ((((Boxed.new w1 3 (.int .i64 0)).alloc (.cells #[.int .i64 0] 3)).alloc (.cells #[.int .i64 0] 3)).alloc (.cells C 3)).alloc (.cells #[.slice (some ⟨w1.heap.size + 3, 0, none⟩) (s.size + 1) (s.size + 1)] 53)
  have e1 : Boxed _ _ _ _ := (((Boxed.new (w1.alloc (.cells #[.int .i64 0] 3)) 3 (.int .i64 0)).alloc (.cells #[.int .i64 0] 3)).alloc (.cells C 3)).alloc (.cells #[.slice (some ⟨w1.heap.size + 3, 0, none⟩) (s.size + 1) (s.size + 1)] 53)
  have e2 : Boxed _ _ _ _ := ((Boxed.new ((w1.alloc (.cells #[.int .i64 0] 3)).alloc (.cells #[.int .i64 0] 3)) 3 (.int .i64 0)).alloc (.cells C 3)).alloc (.cells #[.slice (some ⟨w1.heap.size + 3, 0, none⟩) (s.size + 1) (s.size + 1)] 53)
  have e3 : Blk _ _ _ _ := (Blk.new (((w1.alloc (.cells #[.int .i64 0] 3)).alloc (.cells #[.int .i64 0] 3)).alloc (.cells #[.int .i64 0] 3)) C 3).alloc (.cells #[.slice (some ⟨w1.heap.size + 3, 0, none⟩) (s.size + 1) (s.size + 1)] 53)
  have e4 : Boxed _ _ _ _ := Boxed.new ((((w1.alloc (.cells #[.int .i64 0] 3)).alloc (.cells #[.int .i64 0] 3)).alloc (.cells #[.int .i64 0] 3)).alloc (.cells C 3)) 53 (.slice (some ⟨w1.heap.size + 3, 0, none⟩) (s.size + 1) (s.size + 1))
  have hB := (((((Below.refl _ w1).alloc (Nat.le_refl _) (.cells #[.int .i64 0] 3)).alloc (by simp) (.cells #[.int .i64 0] 3)).alloc (by simp; omega) (.cells #[.int .i64 0] 3)).alloc (by simp; omega) (.cells C 3)).alloc (by simp; omega) (.cells #[.slice (some ⟨w1.heap.size + 3, 0, none⟩) (s.size + 1) (s.size + 1)] 53)
  have hz : (((((w1.alloc (.cells #[.int .i64 0] 3)).alloc (.cells #[.int .i64 0] 3)).alloc (.cells #[.int .i64 0] 3)).alloc (.cells C 3)).alloc (.cells #[.slice (some ⟨w1.heap.size + 3, 0, none⟩) (s.size + 1) (s.size + 1)] 53)).heap.size = w1.heap.size + 5 := by simp
  simp only [World.size_alloc, Nat.add_assoc, Nat.reduceAdd] at e1 e2 e3 e4 ⊢
  obtain ⟨V, hV⟩ : ∃ V, (((((w1.alloc (.cells #[.int .i64 0] 3)).alloc (.cells #[.int .i64 0] 3)).alloc (.cells #[.int .i64 0] 3)).alloc (.cells C 3)).alloc (.cells #[.slice (some ⟨w1.heap.size + 3, 0, none⟩) (s.size + 1) (s.size + 1)] 53)) = V := ⟨_, rfl⟩
  rw [hV] at e0 e1 e2 e3 e4 hB hz ⊢
  have hVV := hV
  clear hV

  have eb := hr0 (((w1.alloc (.cells #[.int .i64 0] 3)).alloc (.cells #[.int .i64 0] 3)).alloc (.cells #[.int .i64 0] 3))
  have eb := eb.alloc (.cells #[.slice (some ⟨w1.heap.size + 3, 0, none⟩) (s.size + 1) (s.size + 1)] 53)
  simp only [World.size_alloc, Nat.add_assoc, Nat.reduceAdd] at eb
  rw [hVV] at eb
  have g0 : Boxed V w.heap.size 9 (.string s) := Blk.below' (show Blk _ _ _ _ from c0) hB
  have g1 : Boxed V (w.heap.size + 1) 4 (.bool false) := Blk.below' (show Blk _ _ _ _ from c1) hB
  have hBV := hB1.trans (hB.mono hB1.size)
  obtain ⟨R, hR⟩ : ∃ R, w1.heap.size = R := ⟨_, rfl⟩
  rw [hR] at e0 e1 e2 e4 hz hP eb ⊢
  clear hm hr0 k0 d0 d1 hB hVV c0 c1 hB1 e3 hR
  have hUz : (V.iter s 0).heap.size = R + 6 := by rw [show V.iter s 0 = V.alloc (.stringIter s 0) from rfl, World.size_alloc, hz]
  have hat : WbRel s (R + 3) (R + 5) w (V.iter s 0) (V.iter s 0) := by
    refine ⟨0, [], List.replicate (s.size + 1) 0, rfl, Nat.zero_le _, by simp, (fun p h => by cases h), ?_, ?_, rfl, hBV.alloc hBV.size _, fun _ _ _ _ => rfl⟩
    · rw [show ints (List.replicate (s.size + 1) 0) = List.replicate (s.size + 1) (.int .i64 0) by simp [ints]]
      exact eb.alloc (.stringIter s 0)
    · have := World.iter_heap V s 0
      rw [hz] at this; exact this
  have u0 : Boxed _ _ _ _ := g0.alloc (.stringIter s 0)
  have u1 : Boxed _ _ _ _ := g1.alloc (.stringIter s 0)
  have u2 : Boxed _ _ _ _ := e0.alloc (.stringIter s 0)
  have u3 : Boxed _ _ _ _ := e1.alloc (.stringIter s 0)
  have u4 : Boxed _ _ _ _ := e2.alloc (.stringIter s 0)
  have u5 : Boxed _ _ _ _ := e4.alloc (.stringIter s 0)
  obtain ⟨U, hU⟩ : ∃ U, V.iter s 0 = U := ⟨_, rfl⟩
  rw [show V.alloc (.stringIter s 0) = U from hU] at u0 u1 u2 u3 u4 u5
  rw [hU] at hat hUz ⊢
  clear g0 g1 e0 e1 e2 e4 eb hBV hU hz
  gi_loopw [7] (fun _ wr => WbRel s (R + 3) (R + 5) w U wr) (fun _ wr => s.size - wr.iterPos (R + 5))
  case atStart => exact hat
  case round =>
    clear hat
    obtain ⟨pos, pre, M, hpp, hps, hML, hM1, hown, hit, hsz, hBw, hot⟩ := hrel
    have s4 : Boxed wr (R + 4) 53 (.slice (some ⟨R + 3, 0, none⟩) (s.size + 1) (s.size + 1)) := (hot (R + 4) (by omega) (by omega) (by omega)).trans u5
    by_cases hq : pos < s.size
    · have hnx : ∀ ty, (Instr.next (.pointer (some ⟨R + 5, 0, none⟩)) true ty).run Try.prog wr = _ := fun ty => Lib.run_next_any_at wr (R + 5) s pos ty hit hq
      rw [dec_eq s pos hq] at hnx
      have hit1 := Lib.iterAt_heap wr (R + 5) s pos (pos + wd s pos) hit
      have hB1 : Below w.heap.size w (wr.iterAt (R + 5) s (pos + wd s pos)) := Lib.below_iterAt hBw (by omega) _ _
      have hg := grown_iterAt wr (R + 5) s (pos + wd s pos)
      have hmeas : s.size - (pos + wd s pos) < s.size - wr.iterPos (R + 5) := by
        have := wd_pos s pos
        simp only [World.iterPos, hit]; omega
      have hPz : (wr.iterAt (R + 5) s (pos + wd s pos)).heap.size = wr.heap.size := by simp [World.iterAt]
      have hwf := wd_fits s pos hq
      have hco := posG_cons s pos hq
      obtain ⟨P, hP⟩ : ∃ P, wr.iterAt (R + 5) s (pos + wd s pos) = P := ⟨_, rfl⟩
      rw [hP] at hnx hit1 hB1 hg hPz
      obtain ⟨wq, hwq⟩ : ∃ x, wd s pos = x := ⟨_, rfl⟩
      rw [hwq] at hnx hit1 hmeas hwf hco
      have s5 : Boxed P (R + 4) _ _ := (hg.block (R + 4) (by omega) (by simp)).trans s4
      have hown1 := own_same hown (W := P) (by
        intro g hgo
        have hgo : g = R + 3 := by simpa [Value.ownBlock] using hgo.symm
        exact hg.block g (by omega) (by rw [hgo]; simp))
      have st := (hown1.stored pos (.int .i64 1)).1
      have hz3 := hown1.cellAt pos (by omega)
      have hf3 := hown1.frozenAt pos
      obtain ⟨v0, hv0⟩ : ∃ v, M[pos]? = some v := ⟨_, List.getElem?_eq_getElem (by omega)⟩
      rw [ints_at hv0] at hz3
      rw [ints_set1] at st
      have hc5 := s5.cell
      have i1 : (pos : Int) < ((s.size + 1 : Nat) : Int) := by omega
      have i2 : (0 : Int) ≤ (pos : Int) := by omega
      have i3 : (pos : Int) < (s.size : Int) + 1 := by omega
      have HH := Lib.hid (And.intro st (And.intro hit1 (And.intro hB1 (And.intro hg (And.intro hPz (And.intro hpp (And.intro hco (And.intro hM1 (And.intro hML (And.intro hot hsz))))))))))
      clear st hit1 hB1 hg hPz hpp hco hM1 hML hot hsz hown hown1 hit hBw s4 s5 u0 u1 u2 u3 u4 u5 hP hv0
      gi_wp2
      go_roundw
      case rel =>
        obtain ⟨st, hit1, hB1, hg, hPz, hpp, hco, hM1, hML, hot, hsz⟩ := HH.out
        refine ⟨pos + wq, pre ++ [pos], M.set pos 1, by rw [hpp, hco]; simp, hwf, by simpa using hML, ?_, st, ?_, by simpa [hPz] using hsz, hB1.setCell (p := ⟨R + 3, pos, none⟩) (by dsimp only; omega) _, ?_⟩
        · intro p hp
          by_cases e : pos = p
          · rw [e, List.getElem?_set_self (by omega)]
          · rw [List.getElem?_set_ne e]
            rcases List.mem_append.1 hp with hp | hp
            · exact hM1 p hp
            · exact absurd (List.mem_singleton.1 hp).symm e
        · exact ((grownBy_setCell P (R + 3) pos (.int .i64 1)).block (R + 5) (by omega) (by simp)).trans hit1
        · intro k h1 h2 h3
          exact ((grownBy_setCell P (R + 3) pos (.int .i64 1)).block k (by omega) (by intro e; exact h2 (by simpa using e))).trans ((hg.block k (by omega) (by intro e; exact h3 (by simpa using e))).trans (hot k h1 h2 h3))
      case measure =>
        have I8 := (Below.heap_setCell P ⟨R + 3, pos, none⟩ (.int .i64 1) (R + 5) (by dsimp only; omega)).trans HH.out.2.1
        simp only [World.iterPos, I8] at hmeas ⊢; exact hmeas
    · have hnx : ∀ ty, (Instr.next (.pointer (some ⟨R + 5, 0, none⟩)) true ty).run Try.prog wr = _ := fun ty => Lib.run_next_end_at wr (R + 5) s pos ty hit hq
      have hpre : pre = posG s 0 := by rw [hpp, posG_end s pos (by omega)]; simp
      rw [hpre] at hM1
      have m0 : Boxed wr w.heap.size 9 (.string s) := (hot _ (by omega) (by omega) (by omega)).trans u0
      have m1 : Boxed wr (w.heap.size + 1) 4 (.bool false) := (hot _ (by omega) (by omega) (by omega)).trans u1
      have m2 : Boxed wr R 3 (.int .i64 0) := (hot _ (by omega) (by omega) (by omega)).trans u2
      have m3 : Boxed wr (R + 1) 3 (.int .i64 0) := (hot _ (by omega) (by omega) (by omega)).trans u3
      have m4 : Boxed wr (R + 2) 3 (.int .i64 0) := (hot _ (by omega) (by omega) (by omega)).trans u4
      have st := (hown.stored s.size (.int .i64 1)).1
      have hz3 := hown.cellAt s.size (by omega)
      have hf3 := hown.frozenAt s.size
      obtain ⟨v0, hv0⟩ : ∃ v, M[s.size]? = some v := ⟨_, List.getElem?_eq_getElem (by omega)⟩
      rw [ints_at hv0] at hz3
      rw [ints_set1] at st
      have hM2 : ∀ p, p ∈ posG s 0 → (M.set s.size 1)[p]? = some 1 := fun p hp => by
        have := (posG_ge s 0 p hp).2
        rw [List.getElem?_set_ne (by omega)]; exact hM1 p hp
      have hB2 := hBw.setCell (p := ⟨R + 3, s.size, none⟩) (by dsimp only; omega) (.int .i64 1)
      have bO : ∀ {b : Nat} {T : TypeId} {v : Value}, b ≠ R + 3 → Boxed wr b T v → Boxed (wr.setCell ⟨R + 3, s.size, none⟩ (.int .i64 1)) b T v := fun {b T v} hn h => ((grownBy_setCell wr (R + 3) s.size (.int .i64 1)).block b (Blk.lt (show Blk _ _ _ _ from h)) (by intro e; exact hn (by simpa using e))).trans h
      have n0 := bO (by omega) m0
      have n1 := bO (by omega) m1
      have n2 := bO (by omega) m2
      have n3 := bO (by omega) m3
      have n4 := bO (by omega) m4
      have n5 := bO (by omega) s4
      have hWz : (wr.setCell ⟨R + 3, s.size, none⟩ (.int .i64 1)).heap.size = R + 6 := by simp; omega
      have c0 := m0.cell
      have c4 := s4.cell
      have c1 := n0.cell
      have i1 : (s.size : Int) < ((s.size + 1 : Nat) : Int) := by omega
      have i3 : (s.size : Int) < (s.size : Int) + 1 := by omega
      have i2 : (0 : Int) ≤ (s.size : Int) := by omega
      have HH := Lib.hid (And.intro st (And.intro hM2 (And.intro hB2 (And.intro n0 (And.intro n1 (And.intro n2 (And.intro n3 (And.intro n4 (And.intro n5 (And.intro hML (And.intro hWz (hsz.trans hUz))))))))))))
      clear st hM2 hB2 n0 n1 n2 n3 n4 n5 hWz hown hit hot hpp hpre hM1 hML hsz hBw m0 m1 m2 m3 m4 s4 hv0 u0 u1 u2 u3 u4 u5 bO
      gi_wp2_with (gi_at_call 27; refine (callsIn_wide.2 (each_any _ _)).mono ?_; rintro e w' ⟨rfl, rfl⟩)
      obtain ⟨st, hM2, hB2, n0, n1, n2, n3, n4, n5, hML, hWz, hwz⟩ := HH.out
      clear HH
      have v0 : Boxed _ _ _ _ := n0.alloc (.cells #[.string s] 9)
      have v1 : Boxed _ _ _ _ := n1.alloc (.cells #[.string s] 9)
      have v2 : Boxed _ _ _ _ := n2.alloc (.cells #[.string s] 9)
      have v3 : Boxed _ _ _ _ := n3.alloc (.cells #[.string s] 9)
      have v4 : Boxed _ _ _ _ := n4.alloc (.cells #[.string s] 9)
      have v5 : Boxed _ _ _ _ := n5.alloc (.cells #[.string s] 9)
      have v6 := Boxed.new (wr.setCell ⟨R + 3, s.size, none⟩ (.int .i64 1)) 9 (.string s)
      have vst := st.alloc (.cells #[.string s] 9)
      have hBV := hB2.alloc hB2.size (.cells #[.string s] 9)
      have hVz : ((wr.setCell ⟨R + 3, s.size, none⟩ (.int .i64 1)).alloc (.cells #[.string s] 9)).heap.size = R + 7 := by rw [World.size_alloc, hWz]
      rw [hWz] at v6
      rw [hwz]
      obtain ⟨V, hV⟩ : ∃ V, (wr.setCell ⟨R + 3, s.size, none⟩ (.int .i64 1)).alloc (.cells #[.string s] 9) = V := ⟨_, rfl⟩
      rw [hV] at v0 v1 v2 v3 v4 v5 v6 vst hBV hVz ⊢
      obtain ⟨M2, hMe⟩ : ∃ M2, M.set s.size 1 = M2 := ⟨_, rfl⟩
      rw [hMe] at vst hM2
      have hML2 : M2.length = s.size + 1 := by rw [← hMe]; simpa using hML
      clear hV hMe st n0 n1 n2 n3 n4 n5 hWz hwz hB2 hML c0 c1 c4 hz3 hf3 i1 i2 i3
      refine range_each 8 s (by omega) (R + 6) v6 rfl (fun _ => WhI s R w V) (fun _ _ _ => False) (fun _ => whI_ab s R w V (by omega) (by omega)) (fun _ _ _ _ _ h _ _ => h) ⟨⟨⟨⟨SmS.start hBV, v2⟩, v3⟩, v4⟩, List.nil_prefix⟩ ?assign ?body ?done ?stop
      case assign =>
        intro l x W K hK
        simp only [celV] at hK ⊢
        gi_wp2
        exact hK
      case body =>
        rintro l m pre x Bx X ⟨⟨⟨⟨h0, h1⟩, h2⟩, h3⟩, h4⟩ hm1 hle hbl hbx hdue
        obtain ⟨d1, d2, d3, d4, _, _, d7⟩ := due_cell hdue
        have hcl := due_cols hdue
        have bx : Blk X Bx #[.int .i64 (x.1 : Nat), .int .i64 (x.2.1 : Nat), .int .i64 (x.2.2 : Nat)] 26 := hbx
        have x0 := bx.cell 0
        have x1 := bx.cell 1
        have x2 := bx.cell 2
        simp only [List.getElem?_toArray, List.getElem?_cons_succ, List.getElem?_cons_zero] at x0 x1 x2
        have q0 : Boxed X w.heap.size 9 (.string s) := h0.blk (show Blk V _ _ _ from v0) (by unfold WhS; omega)
        have q5 : Boxed X (R + 4) 53 (.slice (some ⟨R + 3, 0, none⟩) (s.size + 1) (s.size + 1)) := h0.blk (show Blk V _ _ _ from v5) (by unfold WhS; omega)
        have qst := h0.row vst (by
          intro g hgo
          have hgo : g = R + 3 := by simpa [Value.ownBlock] using hgo.symm
          unfold WhS
          omega)
        rw [← d1] at h1
        have hbd := (qst.cellAt x.1 (by omega)).trans (ints_at (hM2 x.1 (cut_pos hdue)))
        have c0 := q0.cell
        have c1 := h1.cell
        have c5 := q5.cell
        have i1 : (x.1 : Int) < ((s.size + 1 : Nat) : Int) := by omega
        have i2 : (0 : Int) ≤ (x.1 : Int) := by omega
        have i3 : (x.1 : Int) < (s.size : Int) + 1 := by omega
        have k1 : ((x.1 : Int) != (x.1 : Int)) = false := by simp
        have k2 : decide ((x.2.1 : Int) ≤ (x.1 : Int)) = false := decide_eq_false (by omega)
        have k3 : decide ((s.size : Int) < (x.2.1 : Int)) = false := decide_eq_false (by omega)
        have k4 : decide ((x.2.2 : Int) < 0) = false := decide_eq_false (by omega)
        have k5 : decide ((2 : Int) < (x.2.2 : Int)) = false := decide_eq_false (by omega)
        have k2n : decide (x.2.1 ≤ x.1) = false := decide_eq_false (by omega)
        have k3n : decide (s.size < x.2.1) = false := decide_eq_false (by omega)
        have k5n : decide (2 < x.2.2) = false := decide_eq_false (by omega)
        have k6 : (x.1 : Int) ≤ (x.2.1 : Int) := by omega
        have k7 : (x.2.1 : Int) ≤ (s.size : Int) := by omega
        have hown := own_cells hdue
        have H := Lib.hid (And.intro h0 (And.intro h1 (And.intro h2 (And.intro h3 (And.intro h4 (And.intro hdue (And.intro d1 (And.intro d2 (And.intro d3 (And.intro hcl (And.intro hown (And.intro bx (And.intro q0 (And.intro q5 d7))))))))))))))
        clear h0 h1 h2 h3 h4 hdue d1 hcl hown bx q0 q5 qst hbx
        simp only [celV, List.setIfInBounds_toArray, List.set_cons_zero, List.set_cons_succ]
        gi_wp2_with (fail)
        obtain ⟨ow, how⟩ : ∃ o, s.extract x.1 x.2.1 = o := ⟨_, rfl⟩
        have hoz : ow.size = x.2.1 - x.1 := by rw [← how, ByteArray.size_extract]; have := H.out; omega
        have hoc : cellsL ow = [(0, ow.size, x.2.2)] := by rw [hoz, ← how]; exact H.out.2.2.2.2.2.2.2.2.2.2.1
        have cC := fun W => cells_any ow (by have := H.out; omega) W
        rw [hoc] at cC
        have hoZ : ow.size ≤ 2147483647 := by have := H.out; omega
        rw [how]
        clear how hoz hoc
        refine wpIn_cutW 15 (α := Nat → Value) (fun _ Y => Below X.heap.size X Y) (fun v => [(79, v 79), (80, v 80), (81, v 81), (82, v 82), (83, v 83), (84, v 84), (85, v 85), (86, v 86), (87, v 87), (88, v 88), (89, .bool false)]) ?_ ?_
        rotate_left
        · rintro v X5 hX5
          simp only [putsG, List.foldl_cons, List.foldl_nil, List.setIfInBounds_toArray, List.set_cons_zero, List.set_cons_succ]
          have y0 := at_below x0 hX5
          have y1 := at_below x1 hX5
          have y2 := at_below x2 hX5
          have y3 := at_below c0 hX5
          clear x0 x1 x2 c0 c1 c5 hbd cC
          gi_wp2_with (fail)
          gi_loopw [10] (fun i wr => WlRel x X5 i wr) (fun i _ => x.2.1 - (intOf i).toNat)
          case atStart => exact ⟨x.1, rfl, Nat.le_refl _, by omega, Below.refl _ _⟩
          case round =>
            obtain ⟨i, rfl, hi1, hi2, hBi⟩ := hrel
            have z0 := at_below y0 hBi
            have z1 := at_below y1 hBi
            have z2 := at_below y2 hBi
            have z3 := at_below y3 hBi
            clear y0 y1 y2 y3
            by_cases hlt : i < x.2.1
            · have iL : (i : Int) < (x.2.1 : Int) := by omega
              have cA := fun W => atC_any s (by omega) (i : Int) W
              have cE := fun W => edge_any s (by omega) (i : Int) W
              rw [at_own H.out.2.2.2.2.2.1 hi1 hlt] at cA
              rw [ed_own H.out.2.2.2.2.2.1 hi1 hlt] at cE
              simp only [optV, celV] at cA
              obtain ⟨bb, hbb⟩ : ∃ b, ((i : Int) == (x.1 : Int)) = b := ⟨_, rfl⟩
              rw [hbb] at cE
              have kk : (bb != bb) = false := by cases bb <;> rfl
              have jj : IntKind.i64.wrap ((i : Int) + 1) = (i : Int) + 1 := IntWalk.i64_in _ (by omega)
              gi_wp2_with (fail)
              refine ((callsIn_wide.2 (cA _)).inRound _).mono ?_
              rintro e X6 ⟨rfl, hb6⟩
              have n := Blk.new X6 #[.int .i64 (x.1 : Nat), .int .i64 (x.2.1 : Nat), .int .i64 (x.2.2 : Nat)] 26
              have hBn := (hBi.trans (hb6.mono hBi.size)).alloc (Nat.le_trans hBi.size hb6.size) (.cells #[.int .i64 (x.1 : Nat), .int .i64 (x.2.1 : Nat), .int .i64 (x.2.2 : Nat)] 26)
              have hbn := hb6.alloc hb6.size (.cells #[.int .i64 (x.1 : Nat), .int .i64 (x.2.1 : Nat), .int .i64 (x.2.2 : Nat)] 26)
              obtain ⟨S6, hS6⟩ : ∃ S, X6.heap.size = S := ⟨_, rfl⟩
              gi_wp2_with (fail)
              have n0 := n.cell 0
              have n1 := n.cell 1
              have n2 := n.cell 2
              simp only [List.getElem?_toArray, List.getElem?_cons_succ, List.getElem?_cons_zero] at n0 n1 n2
              have w0 := at_below z0 hbn
              have w1x := at_below z1 hbn
              have w2x := at_below z2 hbn
              have w3 := at_below z3 hbn
              rw [hS6] at n0 n1 n2
              obtain ⟨X7, hX7⟩ : ∃ Y, X6.alloc (.cells #[.int .i64 (x.1 : Nat), .int .i64 (x.2.1 : Nat), .int .i64 (x.2.2 : Nat)] 26) = Y := ⟨_, rfl⟩
              rw [hX7] at n0 n1 n2 w0 w1x w2x w3 hBn ⊢
              clear hX7 n hb6 hbn z0 z1 z2 z3
              refine round_g (S := untilG [] (fun Y => Below X7.heap.size X7 Y)) (by kernel_rfl) (by kernel_rfl) (noOut (fun _ _ h => h)) ?_
              obtain ⟨X0, hX0⟩ : ∃ Y, X7.drew = Y := ⟨_, rfl⟩
              have T0 : Below X7.heap.size X7 X0 := hX0 ▸ (Below.refl X7.heap.size X7).drew
              rw [hX0]
              clear hX0
              refine wpAnyG_take [0, 1, 2, 3, 4, 5, 6, 7, 8, 9, 10, 11, 12, 13, 14, 15, 16, 17] (i := 0) (v := (.int .i64 0)) rfl (by kernel_rfl) (by kernel_rfl) (by kernel_rfl) (by kernel_rfl) (by kernel_rfl) (by kernel_rfl) (by kernel_rfl) (by kernel_rfl) (fun _ _ _ h => h) (Or.inl ⟨by rfl, ?hy⟩) T0 ?_
              case hy =>
                intro X hX
                go_simp
              try simp only [Act.put, List.getElem_toArray, List.getElem_cons_zero, List.getElem_cons_succ, List.setIfInBounds_toArray, List.set_cons_zero, List.set_cons_succ]
              refine wpAnyG_take [1, 2, 3, 4, 5, 6, 7, 8, 9, 10, 11, 12, 13, 14, 15, 16, 17] (i := 1) (v := (.bool false)) rfl (by kernel_rfl) (by kernel_rfl) (by kernel_rfl) (by kernel_rfl) (by kernel_rfl) (by kernel_rfl) (by kernel_rfl) (by kernel_rfl) (fun _ _ _ h => h) (Or.inl ⟨by rfl, ?hy⟩) T0 ?_
              case hy =>
                intro X hX
                go_simp
              try simp only [Act.put, List.getElem_toArray, List.getElem_cons_zero, List.getElem_cons_succ, List.setIfInBounds_toArray, List.set_cons_zero, List.set_cons_succ]
              refine wpAnyG_take [2, 3, 4, 5, 6, 7, 8, 9, 10, 11, 12, 13, 14, 15, 16, 17] (i := 2) (v := (.bool false)) rfl (by kernel_rfl) (by kernel_rfl) (by kernel_rfl) (by kernel_rfl) (by kernel_rfl) (by kernel_rfl) (by kernel_rfl) (by kernel_rfl) (fun _ _ _ h => h) (Or.inl ⟨by rfl, ?hy⟩) T0 ?_
              case hy =>
                intro X hX
                go_simp
              try simp only [Act.put, List.getElem_toArray, List.getElem_cons_zero, List.getElem_cons_succ, List.setIfInBounds_toArray, List.set_cons_zero, List.set_cons_succ]
              refine wpAnyG_take [3, 5, 6, 7, 8, 9, 10, 11, 12, 13, 14, 15, 16, 17] (i := 3) (v := (.agg #[.int .i64 (x.1 : Nat), .int .i64 (x.2.1 : Nat), .int .i64 (x.2.2 : Nat)])) rfl (by kernel_rfl) (by kernel_rfl) (by kernel_rfl) (by kernel_rfl) (by kernel_rfl) (by kernel_rfl) (by kernel_rfl) (by kernel_rfl) (fun _ _ _ h => h) (Or.inl ⟨by rfl, ?hy⟩) T0 ?_
              case hy =>
                intro X hX
                have e0 := at_below n0 hX
                have e1 := at_below n1 hX
                have e2 := at_below n2 hX
                go_simp
              try simp only [Act.put, List.getElem_toArray, List.getElem_cons_zero, List.getElem_cons_succ, List.setIfInBounds_toArray, List.set_cons_zero, List.set_cons_succ]
              refine wpAnyG_take [4, 5, 6, 7, 8, 9, 10, 11, 12, 13, 14, 15, 16, 17] (i := 4) (v := (.agg #[.int .i64 (x.1 : Nat), .int .i64 (x.2.1 : Nat), .int .i64 (x.2.2 : Nat)])) rfl (by kernel_rfl) (by kernel_rfl) (by kernel_rfl) (by kernel_rfl) (by kernel_rfl) (by kernel_rfl) (by kernel_rfl) (by kernel_rfl) (fun _ _ _ h => h) (Or.inl ⟨by rfl, ?hy⟩) T0 ?_
              case hy =>
                intro X hX
                have e0 := at_below w0 hX
                have e1 := at_below w1x hX
                have e2 := at_below w2x hX
                go_simp
              try simp only [Act.put, List.getElem_toArray, List.getElem_cons_zero, List.getElem_cons_succ, List.setIfInBounds_toArray, List.set_cons_zero, List.set_cons_succ]
              refine wpAnyG_take [5, 6, 7, 8, 9, 10, 11, 12, 13, 14, 15, 16, 17] (i := 5) (v := (.bool false)) rfl (by kernel_rfl) (by kernel_rfl) (by kernel_rfl) (by kernel_rfl) (by kernel_rfl) (by kernel_rfl) (by kernel_rfl) (by kernel_rfl) (fun _ _ _ h => h) (Or.inl ⟨by rfl, ?hy⟩) T0 ?_
              case hy =>
                intro X hX
                go_simp
              try simp only [Act.put, List.getElem_toArray, List.getElem_cons_zero, List.getElem_cons_succ, List.setIfInBounds_toArray, List.set_cons_zero, List.set_cons_succ]
              refine wpAnyG_take [6, 7, 8, 9, 10, 11, 12, 13, 14, 15, 16, 17] (i := 6) (v := (.bool false)) rfl (by kernel_rfl) (by kernel_rfl) (by kernel_rfl) (by kernel_rfl) (by kernel_rfl) (by kernel_rfl) (by kernel_rfl) (by kernel_rfl) (fun _ _ _ h => h) (Or.inl ⟨by rfl, ?hy⟩) T0 ?_
              case hy =>
                intro X hX
                go_simp
              try simp only [Act.put, List.getElem_toArray, List.getElem_cons_zero, List.getElem_cons_succ, List.setIfInBounds_toArray, List.set_cons_zero, List.set_cons_succ]
              refine wpAnyG_take [7, 8, 9, 10, 11, 12, 13, 14, 15, 16, 17] (i := 7) (v := (.bool false)) rfl (by kernel_rfl) (by kernel_rfl) (by kernel_rfl) (by kernel_rfl) (by kernel_rfl) (by kernel_rfl) (by kernel_rfl) (by kernel_rfl) (fun _ _ _ h => h) (Or.inl ⟨by rfl, ?hy⟩) T0 ?_
              case hy =>
                intro X hX
                go_simp
              try simp only [Act.put, List.getElem_toArray, List.getElem_cons_zero, List.getElem_cons_succ, List.setIfInBounds_toArray, List.set_cons_zero, List.set_cons_succ]
              refine wpAnyG_take [8, 10, 16, 17] (i := 8) (v := (.string s)) rfl (by kernel_rfl) (by kernel_rfl) (by kernel_rfl) (by kernel_rfl) (by kernel_rfl) (by kernel_rfl) (by kernel_rfl) (by kernel_rfl) (fun _ _ _ h => h) (Or.inl ⟨by rfl, ?hy⟩) T0 ?_
              case hy =>
                intro X hX
                have e0 := at_below w3 hX
                go_simp
              try simp only [Act.put, List.getElem_toArray, List.getElem_cons_zero, List.getElem_cons_succ, List.setIfInBounds_toArray, List.set_cons_zero, List.set_cons_succ]
              refine wpAnyG_take [9, 10, 16, 17] (i := 9) (v := (.int .i64 i)) rfl (by kernel_rfl) (by kernel_rfl) (by kernel_rfl) (by kernel_rfl) (by kernel_rfl) (by kernel_rfl) (by kernel_rfl) (by kernel_rfl) (fun _ _ _ h => h) (Or.inl ⟨by rfl, ?hy⟩) T0 ?_
              case hy =>
                intro X hX
                go_simp
              try simp only [Act.put, List.getElem_toArray, List.getElem_cons_zero, List.getElem_cons_succ, List.setIfInBounds_toArray, List.set_cons_zero, List.set_cons_succ]
              refine wpAnyG_take [11, 15, 16, 17] (i := 11) (v := (.int .i64 i)) rfl (by kernel_rfl) (by kernel_rfl) (by kernel_rfl) (by kernel_rfl) (by kernel_rfl) (by kernel_rfl) (by kernel_rfl) (by kernel_rfl) (fun _ _ _ h => h) (Or.inl ⟨by rfl, ?hy⟩) T0 ?_
              case hy =>
                intro X hX
                go_simp
              try simp only [Act.put, List.getElem_toArray, List.getElem_cons_zero, List.getElem_cons_succ, List.setIfInBounds_toArray, List.set_cons_zero, List.set_cons_succ]
              refine wpAnyG_take [12, 13, 14, 15, 16, 17] (i := 12) (v := (.pointer (some ⟨Bx, 0, none⟩))) rfl (by kernel_rfl) (by kernel_rfl) (by kernel_rfl) (by kernel_rfl) (by kernel_rfl) (by kernel_rfl) (by kernel_rfl) (by kernel_rfl) (fun _ _ _ h => h) (Or.inl ⟨by rfl, ?hy⟩) T0 ?_
              case hy =>
                intro X hX
                go_simp
              try simp only [Act.put, List.getElem_toArray, List.getElem_cons_zero, List.getElem_cons_succ, List.setIfInBounds_toArray, List.set_cons_zero, List.set_cons_succ]
              refine wpAnyG_take [13, 14, 15, 16, 17] (i := 13) (v := (.pointer (some ⟨Bx, 0, none⟩))) rfl (by kernel_rfl) (by kernel_rfl) (by kernel_rfl) (by kernel_rfl) (by kernel_rfl) (by kernel_rfl) (by kernel_rfl) (by kernel_rfl) (fun _ _ _ h => h) (Or.inl ⟨by rfl, ?hy⟩) T0 ?_
              case hy =>
                intro X hX
                go_simp
              try simp only [Act.put, List.getElem_toArray, List.getElem_cons_zero, List.getElem_cons_succ, List.setIfInBounds_toArray, List.set_cons_zero, List.set_cons_succ]
              refine wpAnyG_take [14, 15, 16, 17] (i := 14) (v := (.int .i64 (x.1 : Nat))) rfl (by kernel_rfl) (by kernel_rfl) (by kernel_rfl) (by kernel_rfl) (by kernel_rfl) (by kernel_rfl) (by kernel_rfl) (by kernel_rfl) (fun _ _ _ h => h) (Or.inl ⟨by rfl, ?hy⟩) T0 ?_
              case hy =>
                intro X hX
                have e0 := at_below w0 hX
                go_simp
              try simp only [Act.put, List.getElem_toArray, List.getElem_cons_zero, List.getElem_cons_succ, List.setIfInBounds_toArray, List.set_cons_zero, List.set_cons_succ]
              refine wpAnyG_take [15, 16, 17] (i := 15) (v := (.bool bb)) rfl (by kernel_rfl) (by kernel_rfl) (by kernel_rfl) (by kernel_rfl) (by kernel_rfl) (by kernel_rfl) (by kernel_rfl) (by kernel_rfl) (fun _ _ _ h => h) (Or.inl ⟨by rfl, ?hy⟩) T0 ?_
              case hy =>
                intro X hX
                go_simp
              try simp only [Act.put, List.getElem_toArray, List.getElem_cons_zero, List.getElem_cons_succ, List.setIfInBounds_toArray, List.set_cons_zero, List.set_cons_succ]
              refine wpAnyG_all (rs := [10]) (by kernel_rfl) (by simp) ?_
              intro i hi
              simp only [List.mem_cons, List.not_mem_nil, or_false] at hi
              subst hi
              refine wpOp_open rfl (by rfl) ?_
              go_simp
              refine (cE _).mono ?_
              rintro e X8 ⟨rfl, hb8⟩
              replace T0 := T0.trans (hb8.mono T0.size)
              refine ⟨fun _ => T0, ?_⟩
              try simp only [Act.put, List.getElem_toArray, List.getElem_cons_zero, List.getElem_cons_succ, List.setIfInBounds_toArray, List.set_cons_zero, List.set_cons_succ]
              refine wpAnyG_take [16, 17] (i := 16) (v := (.bool false)) rfl (by kernel_rfl) (by kernel_rfl) (by kernel_rfl) (by kernel_rfl) (by kernel_rfl) (by kernel_rfl) (by kernel_rfl) (by kernel_rfl) (fun _ _ _ h => h) (Or.inl ⟨by rfl, ?hy⟩) T0 ?_
              case hy =>
                intro X hX
                go_simp
              try simp only [Act.put, List.getElem_toArray, List.getElem_cons_zero, List.getElem_cons_succ, List.setIfInBounds_toArray, List.set_cons_zero, List.set_cons_succ]
              refine wpAnyG_take [17] (i := 17) (v := (.bool false)) rfl (by kernel_rfl) (by kernel_rfl) (by kernel_rfl) (by kernel_rfl) (by kernel_rfl) (by kernel_rfl) (by kernel_rfl) (by kernel_rfl) (fun _ _ _ h => h) (Or.inl ⟨by rfl, ?hy⟩) T0 ?_
              case hy =>
                intro X hX
                go_simp
              try simp only [Act.put, List.getElem_toArray, List.getElem_cons_zero, List.getElem_cons_succ, List.setIfInBounds_toArray, List.set_cons_zero, List.set_cons_succ]
              refine wpAnyG_done (by kernel_rfl) ?_ _
              gi_wp2
              go_roundw
              case rel => exact ⟨i + 1, by go_num, by omega, by omega, hBn.trans (T0.mono hBn.size)⟩
              case measure => simp [intOf]; omega
            · have iL : ¬ (i : Int) < (x.2.1 : Int) := by omega
              obtain ⟨h0, h1, h2, h3, h4, hdue, d1, d2, d3, hcl, hown, bx, q0, q5, d7⟩ := H.out
              have hBX : Below X.heap.size X wr := hX5.trans (hBi.mono hX5.size)
              have e1 := Blk.below' (show Blk _ _ _ _ from h1) hBX
              have e2 := Blk.below' (show Blk _ _ _ _ from h2) hBX
              have e3 := Blk.below' (show Blk _ _ _ _ from h3) hBX
              have ebx := bx.below' hBX
              have bO : ∀ {b : Nat} {cs : Array Value} {T : TypeId} {v : Value}, b ≠ R → Blk wr b cs T → Blk (wr.setCell ⟨R, 0, none⟩ v) b cs T := fun {b cs T v} hn h => h.other hn 0 v
              have f2 := bO (v := .int .i64 (x.2.1 : Nat)) (by omega) e2
              have f3 := bO (v := .int .i64 (x.2.1 : Nat)) (by omega) e3
              have fx := bO (v := .int .i64 (x.2.1 : Nat)) (by omega) ebx
              have g3 := f3.other (B' := R + 1) (by omega) 0 (.int .i64 ((pre.length : Int) + 1))
              have gx := fx.other (B' := R + 1) (by omega) 0 (.int .i64 ((pre.length : Int) + 1))
              have c1 := e1.cell 0
              have c2 := f2.cell 0
              have c3 := g3.cell 0
              have cx := gx.cell 2
              have r1 := e1.frozen 0
              have r2 := f2.frozen 0
              have r3 := g3.frozen 0
              simp only [List.getElem?_toArray, List.getElem?_cons_succ, List.getElem?_cons_zero] at c1 c2 c3 cx
              have hP1 : pre.length + 1 ≤ 1048576 := by omega
              have hP2 : colsL pre + x.2.2 ≤ 1048576 := by omega
              have j1 : IntKind.i64.wrap ((pre.length : Int) + 1) = (pre.length : Int) + 1 := IntWalk.i64_in _ (by omega)
              have j2 : IntKind.i64.wrap ((colsL pre : Int) + (x.2.2 : Int)) = (colsL pre : Int) + (x.2.2 : Int) := IntWalk.i64_in _ (by omega)
              have hwr := h0.below hBX (by omega)
              have kbx : KeepsFrom (R + 7) X wr := kf_below hBX
              have kmx : KpM (R + 6) m X wr := kpM_below hBX (by have := h0.1.1; omega)
              have HE := Lib.hid (And.intro e1 (And.intro e2 (And.intro e3 (And.intro hwr (And.intro kbx (And.intro kmx hdue))))))
              clear h0 h1 h2 h3 h4 hdue hown bx q0 q5 e1 e2 e3 ebx f2 f3 fx g3 gx hwr kbx kmx bO d1 hcl hP1 hP2 hBX
              gi_wp2
              obtain ⟨e1, e2, e3, hwr, kbx, kmx, hdue⟩ := HE.out
              have z1 := ((e1.set 0 (.int .i64 (x.2.1 : Nat))).other (B' := R + 1) (by omega) 0 (.int .i64 ((pre.length : Int) + 1))).other (B' := R + 2) (by omega) 0 (.int .i64 ((colsL pre : Int) + (x.2.2 : Int)))
              have z2 := ((e2.other (B' := R) (by omega) 0 (.int .i64 (x.2.1 : Nat))).set 0 (.int .i64 ((pre.length : Int) + 1))).other (B' := R + 2) (by omega) 0 (.int .i64 ((colsL pre : Int) + (x.2.2 : Int)))
              have z3 := ((e3.other (B' := R) (by omega) 0 (.int .i64 (x.2.1 : Nat))).other (B' := R + 1) (by omega) 0 (.int .i64 ((pre.length : Int) + 1))).set 0 (.int .i64 ((colsL pre : Int) + (x.2.2 : Int)))
              simp only [List.setIfInBounds_toArray, List.set_cons_zero, List.set_cons_succ] at z1 z2 z3
              have hn : (pre ++ [x]).length = pre.length + 1 := by simp
              refine ⟨kbx.trans ((kf_set _ _).trans ((kf_set _ _).trans (kf_set _ _))), kpM_t kmx (kpM_t (kpM_set (by omega) (by omega) _ _) (kpM_t (kpM_set (by omega) (by omega) _ _) (kpM_set (by omega) (by omega) _ _))), ⟨⟨⟨⟨((hwr.set (.inl rfl) (by omega) 0 _).set (.inr (.inl rfl)) (by omega) 0 _).set (.inr (.inr rfl)) (by omega) 0 _, ?_⟩, ?_⟩, ?_⟩, hdue⟩⟩
              · rw [endC_snoc]; exact z1
              · rw [hn]; push_cast; exact z2
              · rw [colsL_snoc]; push_cast; exact z3
        refine round_g (S := untilG [] (fun Y => Below X.heap.size X Y)) (by kernel_rfl) (by kernel_rfl) (noOut (fun _ _ h => by cases h.1)) ?_
        obtain ⟨X0, hX0⟩ : ∃ Y, X.drew = Y := ⟨_, rfl⟩
        have T0 : Below X.heap.size X X0 := hX0 ▸ (Below.refl X.heap.size X).drew
        rw [hX0]
        clear hX0
        refine wpAnyG_take [0, 1, 9, 10] (i := 0) (v := (.string ow)) rfl (by kernel_rfl) (by kernel_rfl) (by kernel_rfl) (by kernel_rfl) (by kernel_rfl) (by kernel_rfl) (by kernel_rfl) (by kernel_rfl) (fun _ _ _ h => by cases h.1) (Or.inl ⟨by rfl, ?hy⟩) T0 ?_
        case hy =>
          intro X hX
          go_simp
        try simp only [Act.put, List.getElem_toArray, List.getElem_cons_zero, List.getElem_cons_succ, List.setIfInBounds_toArray, List.set_cons_zero, List.set_cons_succ]
        refine wpAnyG_take [2, 3, 4, 7, 8, 9, 10] (i := 2) (v := (.string ow)) rfl (by kernel_rfl) (by kernel_rfl) (by kernel_rfl) (by kernel_rfl) (by kernel_rfl) (by kernel_rfl) (by kernel_rfl) (by kernel_rfl) (fun _ _ _ h => by cases h.1) (Or.inl ⟨by rfl, ?hy⟩) T0 ?_
        case hy =>
          intro X hX
          go_simp
        try simp only [Act.put, List.getElem_toArray, List.getElem_cons_zero, List.getElem_cons_succ, List.setIfInBounds_toArray, List.set_cons_zero, List.set_cons_succ]
        refine wpAnyG_take [3, 4, 7, 8, 9, 10] (i := 3) (v := (.int .i64 ow.size)) rfl (by kernel_rfl) (by kernel_rfl) (by kernel_rfl) (by kernel_rfl) (by kernel_rfl) (by kernel_rfl) (by kernel_rfl) (by kernel_rfl) (fun _ _ _ h => by cases h.1) (Or.inl ⟨by rfl, ?hy⟩) T0 ?_
        case hy =>
          intro X hX
          go_simp
        try simp only [Act.put, List.getElem_toArray, List.getElem_cons_zero, List.getElem_cons_succ, List.setIfInBounds_toArray, List.set_cons_zero, List.set_cons_succ]
        refine wpAnyG_take [4, 7, 8, 9, 10] (i := 4) (v := (.agg #[.int .i64 0, .int .i64 ow.size])) rfl (by kernel_rfl) (by kernel_rfl) (by kernel_rfl) (by kernel_rfl) (by kernel_rfl) (by kernel_rfl) (by kernel_rfl) (by kernel_rfl) (fun _ _ _ h => by cases h.1) (Or.inl ⟨by rfl, ?hy⟩) T0 ?_
        case hy =>
          intro X hX
          go_simp
        try simp only [Act.put, List.getElem_toArray, List.getElem_cons_zero, List.getElem_cons_succ, List.setIfInBounds_toArray, List.set_cons_zero, List.set_cons_succ]
        refine wpAnyG_take [5, 6, 7, 8, 9, 10] (i := 5) (v := (.pointer (some ⟨Bx, 2, none⟩))) rfl (by kernel_rfl) (by kernel_rfl) (by kernel_rfl) (by kernel_rfl) (by kernel_rfl) (by kernel_rfl) (by kernel_rfl) (by kernel_rfl) (fun _ _ _ h => by cases h.1) (Or.inl ⟨by rfl, ?hy⟩) T0 ?_
        case hy =>
          intro X hX
          go_simp
        try simp only [Act.put, List.getElem_toArray, List.getElem_cons_zero, List.getElem_cons_succ, List.setIfInBounds_toArray, List.set_cons_zero, List.set_cons_succ]
        refine wpAnyG_take [6, 7, 8, 9, 10] (i := 6) (v := (.int .i64 (x.2.2 : Nat))) rfl (by kernel_rfl) (by kernel_rfl) (by kernel_rfl) (by kernel_rfl) (by kernel_rfl) (by kernel_rfl) (by kernel_rfl) (by kernel_rfl) (fun _ _ _ h => by cases h.1) (Or.inl ⟨by rfl, ?hy⟩) T0 ?_
        case hy =>
          intro X hX
          have e0 := at_below x2 hX
          go_simp
        try simp only [Act.put, List.getElem_toArray, List.getElem_cons_zero, List.getElem_cons_succ, List.setIfInBounds_toArray, List.set_cons_zero, List.set_cons_succ]
        refine wpAnyG_take [7, 8, 9, 10] (i := 7) (v := (.agg #[.int .i64 0, .int .i64 ow.size, .int .i64 (x.2.2 : Nat)])) rfl (by kernel_rfl) (by kernel_rfl) (by kernel_rfl) (by kernel_rfl) (by kernel_rfl) (by kernel_rfl) (by kernel_rfl) (by kernel_rfl) (fun _ _ _ h => by cases h.1) (Or.inl ⟨by rfl, ?hy⟩) T0 ?_
        case hy =>
          intro X hX
          go_simp
        try simp only [Act.put, List.getElem_toArray, List.getElem_cons_zero, List.getElem_cons_succ, List.setIfInBounds_toArray, List.set_cons_zero, List.set_cons_succ]
        refine wpAnyG_all (rs := [1, 8]) (by kernel_rfl) (by simp) ?_
        intro i hi
        simp only [List.mem_cons, List.not_mem_nil, or_false] at hi
        rcases hi with rfl | rfl
        · refine wpOp_now rfl rfl ?_
          go_simp
          refine (cC _).mono ?_
          rintro e X1 ⟨v, rfl, hv, hb⟩
          obtain ⟨o, cap, rfl, ho⟩ := own_slice hv
          have r2 := RowC.of_own hv rfl
          replace T0 := T0.trans (hb.mono T0.size)
          refine ⟨fun _ => T0, ?_⟩
          try simp only [Act.put, List.getElem_toArray, List.getElem_cons_zero, List.getElem_cons_succ, List.setIfInBounds_toArray, List.set_cons_zero, List.set_cons_succ]
          refine wpAnyG_all (rs := [8]) (by kernel_rfl) (by simp) ?_
          intro i hi
          simp only [List.mem_cons, List.not_mem_nil, or_false] at hi
          subst hi
          refine wpOp_now rfl rfl ?_
          go_simp
          have q7 := Blk.new X1 #[.int .i64 0, .int .i64 ow.size, .int .i64 (x.2.2 : Nat)] 26
          have r3 := RowC.of_blk (l := [(0, ow.size, x.2.2)]) q7 rfl
          replace r2 := r2.below ((Below.refl _ X1).alloc (Nat.le_refl _) (.cells #[.int .i64 0, .int .i64 ow.size, .int .i64 (x.2.2 : Nat)] 26))
          replace T0 := T0.alloc T0.size (.cells #[.int .i64 0, .int .i64 ow.size, .int .i64 (x.2.2 : Nat)] 26)
          refine ⟨fun _ => T0, ?_⟩
          try simp only [Act.put, List.getElem_toArray, List.getElem_cons_zero, List.getElem_cons_succ, List.setIfInBounds_toArray, List.set_cons_zero, List.set_cons_succ]
          refine wpAnyG_all (rs := [9]) (by kernel_rfl) (by simp) ?_
          intro i hi
          simp only [List.mem_cons, List.not_mem_nil, or_false] at hi
          subst hi
          refine wpOp_now rfl rfl ?_
          go_simp
          refine (equal_any [(0, ow.size, x.2.2)] [(0, ow.size, x.2.2)] o _ 1 1 cap 1 rfl rfl (by omega) (by omega) _ r2 r3).mono ?_
          rintro e X3 ⟨rfl, hb⟩
          rw [decide_eq_true (rfl : [(0, ow.size, x.2.2)] = [(0, ow.size, x.2.2)])]
          replace T0 := T0.trans (hb.mono T0.size)
          refine ⟨fun _ => T0, ?_⟩
          try simp only [Act.put, List.getElem_toArray, List.getElem_cons_zero, List.getElem_cons_succ, List.setIfInBounds_toArray, List.set_cons_zero, List.set_cons_succ]
          refine wpAnyG_take [10] (i := 10) (v := (.bool false)) rfl (by kernel_rfl) (by kernel_rfl) (by kernel_rfl) (by kernel_rfl) (by kernel_rfl) (by kernel_rfl) (by kernel_rfl) (by kernel_rfl) (fun _ _ _ h => by cases h.1) (Or.inl ⟨by rfl, ?hy⟩) T0 ?_
          case hy =>
            intro X hX
            go_simp
          try simp only [Act.put, List.getElem_toArray, List.getElem_cons_zero, List.getElem_cons_succ, List.setIfInBounds_toArray, List.set_cons_zero, List.set_cons_succ]
          refine wpAnyG_done (by kernel_rfl) ?_ _
          exact cutW_mk (by kernel_rfl) T0
        · refine wpOp_now rfl rfl ?_
          go_simp
          have q7 := Blk.new X0 #[.int .i64 0, .int .i64 ow.size, .int .i64 (x.2.2 : Nat)] 26
          replace T0 := T0.alloc T0.size (.cells #[.int .i64 0, .int .i64 ow.size, .int .i64 (x.2.2 : Nat)] 26)
          refine ⟨fun _ => T0, ?_⟩
          try simp only [Act.put, List.getElem_toArray, List.getElem_cons_zero, List.getElem_cons_succ, List.setIfInBounds_toArray, List.set_cons_zero, List.set_cons_succ]
          refine wpAnyG_all (rs := [1]) (by kernel_rfl) (by simp) ?_
          intro i hi
          simp only [List.mem_cons, List.not_mem_nil, or_false] at hi
          subst hi
          refine wpOp_now rfl rfl ?_
          go_simp
          refine (cC _).mono ?_
          rintro e X1 ⟨v, rfl, hv, hb⟩
          obtain ⟨o, cap, rfl, ho⟩ := own_slice hv
          have r2 := RowC.of_own hv rfl
          have r3 := RowC.of_blk (l := [(0, ow.size, x.2.2)]) (q7.below' hb) rfl
          replace T0 := T0.trans (hb.mono T0.size)
          refine ⟨fun _ => T0, ?_⟩
          try simp only [Act.put, List.getElem_toArray, List.getElem_cons_zero, List.getElem_cons_succ, List.setIfInBounds_toArray, List.set_cons_zero, List.set_cons_succ]
          refine wpAnyG_all (rs := [9]) (by kernel_rfl) (by simp) ?_
          intro i hi
          simp only [List.mem_cons, List.not_mem_nil, or_false] at hi
          subst hi
          refine wpOp_now rfl rfl ?_
          go_simp
          refine (equal_any [(0, ow.size, x.2.2)] [(0, ow.size, x.2.2)] o _ 1 1 cap 1 rfl rfl (by omega) (by omega) _ r2 r3).mono ?_
          rintro e X3 ⟨rfl, hb⟩
          rw [decide_eq_true (rfl : [(0, ow.size, x.2.2)] = [(0, ow.size, x.2.2)])]
          replace T0 := T0.trans (hb.mono T0.size)
          refine ⟨fun _ => T0, ?_⟩
          try simp only [Act.put, List.getElem_toArray, List.getElem_cons_zero, List.getElem_cons_succ, List.setIfInBounds_toArray, List.set_cons_zero, List.set_cons_succ]
          refine wpAnyG_take [10] (i := 10) (v := (.bool false)) rfl (by kernel_rfl) (by kernel_rfl) (by kernel_rfl) (by kernel_rfl) (by kernel_rfl) (by kernel_rfl) (by kernel_rfl) (by kernel_rfl) (fun _ _ _ h => by cases h.1) (Or.inl ⟨by rfl, ?hy⟩) T0 ?_
          case hy =>
            intro X hX
            go_simp
          try simp only [Act.put, List.getElem_toArray, List.getElem_cons_zero, List.getElem_cons_succ, List.setIfInBounds_toArray, List.set_cons_zero, List.set_cons_succ]
          refine wpAnyG_done (by kernel_rfl) ?_ _
          exact cutW_mk (by kernel_rfl) T0
      case done =>
        rintro D m X hDl ⟨⟨⟨⟨h0, h1⟩, h2⟩, h3⟩, _⟩ hm hK
        rw [endC_all] at h1
        have q0 : Boxed X w.heap.size 9 (.string s) := h0.blk (show Blk V _ _ _ from v0) (by unfold WhS; omega)
        have q1 : Boxed X (w.heap.size + 1) 4 (.bool false) := h0.blk (show Blk V _ _ _ from v1) (by unfold WhS; omega)
        have c0 := q0.cell
        have c1 := h1.cell
        have c2 := h2.cell
        have c3 := h3.cell
        have hBX := h0.2
        have hlX := h0.1.1
        have hll := cellsL_len s
        have hcl := colsL_le s (cellsL s) (List.prefix_refl _)
        have cK := fun W => countOf_any s (by omega) W
        have cO := fun W => columnsOf_any s (by omega) W
        have cE := fun W => edge_any s (by omega) (s.size : Int) W
        rw [ed_end] at cE
        obtain ⟨nL, hnL⟩ : ∃ n, (cellsL s).length = n := ⟨_, rfl⟩
        obtain ⟨cL, hcL⟩ : ∃ n, colsL (cellsL s) = n := ⟨_, rfl⟩
        rw [hnL] at c2 cK
        rw [hcL] at c3 cO
        clear hnL hcL h0 h1 h2 h3 hll hcl q0 vst v0 v1 v2 v3 v4 v5 v6 hM2 hML2
        simp only []
        gi_wp2_with (fail)
        refine wpIn_wide.2 ?_
        refine wp_region_noPanic ?_
        refine wp_region_g (S := untilG [25] (fun Y => Below X.heap.size X Y)) (by kernel_rfl) ?_
        obtain ⟨X0, hX0⟩ : ∃ Y, X.drew = Y := ⟨_, rfl⟩
        have T0 : Below X.heap.size X X0 := hX0 ▸ (Below.refl X.heap.size X).drew
        rw [hX0]
        clear hX0
        refine wpAnyG_take [0, 3, 4, 5, 6, 7, 8, 9, 10, 11, 12, 13, 14, 15, 16, 17, 18, 19, 20, 21, 22, 23, 24] (i := 0) (v := (.int .i64 s.size)) rfl (by kernel_rfl) (by kernel_rfl) (by kernel_rfl) (by kernel_rfl) (by kernel_rfl) (by kernel_rfl) (by kernel_rfl) (by kernel_rfl) (fun _ _ _ h => h) (Or.inl ⟨by rfl, ?hy⟩) T0 ?_
        case hy =>
          intro X hX
          have e0 := at_below c1 hX
          go_simp
        try simp only [Act.put, List.getElem_toArray, List.getElem_cons_zero, List.getElem_cons_succ, List.setIfInBounds_toArray, List.set_cons_zero, List.set_cons_succ]
        refine wpAnyG_take [1, 2, 3, 4, 5, 6, 7, 8, 9, 10, 11, 12, 13, 14, 15, 16, 17, 18, 19, 20, 21, 22, 23, 24] (i := 1) (v := (.string s)) rfl (by kernel_rfl) (by kernel_rfl) (by kernel_rfl) (by kernel_rfl) (by kernel_rfl) (by kernel_rfl) (by kernel_rfl) (by kernel_rfl) (fun _ _ _ h => h) (Or.inl ⟨by rfl, ?hy⟩) T0 ?_
        case hy =>
          intro X hX
          have e0 := at_below c0 hX
          go_simp
        try simp only [Act.put, List.getElem_toArray, List.getElem_cons_zero, List.getElem_cons_succ, List.setIfInBounds_toArray, List.set_cons_zero, List.set_cons_succ]
        refine wpAnyG_take [2, 3, 4, 5, 6, 7, 8, 9, 10, 11, 12, 13, 14, 15, 16, 17, 18, 19, 20, 21, 22, 23, 24] (i := 2) (v := (.int .i64 s.size)) rfl (by kernel_rfl) (by kernel_rfl) (by kernel_rfl) (by kernel_rfl) (by kernel_rfl) (by kernel_rfl) (by kernel_rfl) (by kernel_rfl) (fun _ _ _ h => h) (Or.inl ⟨by rfl, ?hy⟩) T0 ?_
        case hy =>
          intro X hX
          go_simp
        try simp only [Act.put, List.getElem_toArray, List.getElem_cons_zero, List.getElem_cons_succ, List.setIfInBounds_toArray, List.set_cons_zero, List.set_cons_succ]
        refine wpAnyG_take [3, 4, 5, 6, 7, 8, 9, 10, 11, 12, 13, 14, 15, 16, 17, 18, 19, 20, 21, 22, 23, 24] (i := 3) (v := (.bool true)) rfl (by kernel_rfl) (by kernel_rfl) (by kernel_rfl) (by kernel_rfl) (by kernel_rfl) (by kernel_rfl) (by kernel_rfl) (by kernel_rfl) (fun _ _ _ h => h) (Or.inl ⟨by rfl, ?hy⟩) T0 ?_
        case hy =>
          intro X hX
          go_simp
        try simp only [Act.put, List.getElem_toArray, List.getElem_cons_zero, List.getElem_cons_succ, List.setIfInBounds_toArray, List.set_cons_zero, List.set_cons_succ]
        refine wpAnyG_take [4, 5, 6, 7, 8, 9, 10, 11, 12, 13, 14, 15, 16, 17, 18, 19, 20, 21, 22, 23, 24] (i := 4) (v := (.bool true)) rfl (by kernel_rfl) (by kernel_rfl) (by kernel_rfl) (by kernel_rfl) (by kernel_rfl) (by kernel_rfl) (by kernel_rfl) (by kernel_rfl) (fun _ _ _ h => h) (Or.inl ⟨by rfl, ?hy⟩) T0 ?_
        case hy =>
          intro X hX
          go_simp
        try simp only [Act.put, List.getElem_toArray, List.getElem_cons_zero, List.getElem_cons_succ, List.setIfInBounds_toArray, List.set_cons_zero, List.set_cons_succ]
        refine wpAnyG_take [5, 8, 9, 10, 11, 12, 13, 14, 15, 16, 17, 18, 19, 20, 21, 22, 23, 24] (i := 5) (v := (.int .i64 nL)) rfl (by kernel_rfl) (by kernel_rfl) (by kernel_rfl) (by kernel_rfl) (by kernel_rfl) (by kernel_rfl) (by kernel_rfl) (by kernel_rfl) (fun _ _ _ h => h) (Or.inl ⟨by rfl, ?hy⟩) T0 ?_
        case hy =>
          intro X hX
          have e0 := at_below c2 hX
          go_simp
        try simp only [Act.put, List.getElem_toArray, List.getElem_cons_zero, List.getElem_cons_succ, List.setIfInBounds_toArray, List.set_cons_zero, List.set_cons_succ]
        refine wpAnyG_take [6, 7, 8, 9, 10, 11, 12, 13, 14, 15, 16, 17, 18, 19, 20, 21, 22, 23, 24] (i := 6) (v := (.string s)) rfl (by kernel_rfl) (by kernel_rfl) (by kernel_rfl) (by kernel_rfl) (by kernel_rfl) (by kernel_rfl) (by kernel_rfl) (by kernel_rfl) (fun _ _ _ h => h) (Or.inl ⟨by rfl, ?hy⟩) T0 ?_
        case hy =>
          intro X hX
          have e0 := at_below c0 hX
          go_simp
        try simp only [Act.put, List.getElem_toArray, List.getElem_cons_zero, List.getElem_cons_succ, List.setIfInBounds_toArray, List.set_cons_zero, List.set_cons_succ]
        refine wpAnyG_all (rs := [7]) (by kernel_rfl) (by simp) ?_
        intro i hi
        simp only [List.mem_cons, List.not_mem_nil, or_false] at hi
        subst hi
        refine wpOp_open rfl (by rfl) ?_
        go_simp
        refine (cK _).mono ?_
        rintro e Y7 ⟨rfl, hb7⟩
        replace T0 := T0.trans (hb7.mono T0.size)
        refine ⟨fun _ => T0, ?_⟩
        try simp only [Act.put, List.getElem_toArray, List.getElem_cons_zero, List.getElem_cons_succ, List.setIfInBounds_toArray, List.set_cons_zero, List.set_cons_succ]
        refine wpAnyG_take [8, 9, 10, 11, 12, 13, 14, 15, 16, 17, 18, 19, 20, 21, 22, 23, 24] (i := 8) (v := (.bool true)) rfl (by kernel_rfl) (by kernel_rfl) (by kernel_rfl) (by kernel_rfl) (by kernel_rfl) (by kernel_rfl) (by kernel_rfl) (by kernel_rfl) (fun _ _ _ h => h) (Or.inl ⟨by rfl, ?hy⟩) T0 ?_
        case hy =>
          intro X hX
          go_simp
        try simp only [Act.put, List.getElem_toArray, List.getElem_cons_zero, List.getElem_cons_succ, List.setIfInBounds_toArray, List.set_cons_zero, List.set_cons_succ]
        refine wpAnyG_take [9, 10, 11, 12, 13, 14, 15, 16, 17, 18, 19, 20, 21, 22, 23, 24] (i := 9) (v := (.bool true)) rfl (by kernel_rfl) (by kernel_rfl) (by kernel_rfl) (by kernel_rfl) (by kernel_rfl) (by kernel_rfl) (by kernel_rfl) (by kernel_rfl) (fun _ _ _ h => h) (Or.inl ⟨by rfl, ?hy⟩) T0 ?_
        case hy =>
          intro X hX
          go_simp
        try simp only [Act.put, List.getElem_toArray, List.getElem_cons_zero, List.getElem_cons_succ, List.setIfInBounds_toArray, List.set_cons_zero, List.set_cons_succ]
        refine wpAnyG_take [10, 11, 12, 13, 14, 15, 16, 17, 18, 19, 20, 21, 22, 23, 24] (i := 10) (v := (.bool true)) rfl (by kernel_rfl) (by kernel_rfl) (by kernel_rfl) (by kernel_rfl) (by kernel_rfl) (by kernel_rfl) (by kernel_rfl) (by kernel_rfl) (fun _ _ _ h => h) (Or.inl ⟨by rfl, ?hy⟩) T0 ?_
        case hy =>
          intro X hX
          go_simp
        try simp only [Act.put, List.getElem_toArray, List.getElem_cons_zero, List.getElem_cons_succ, List.setIfInBounds_toArray, List.set_cons_zero, List.set_cons_succ]
        refine wpAnyG_take [11, 14, 15, 16, 17, 18, 19, 20, 21, 22, 23, 24] (i := 11) (v := (.int .i64 cL)) rfl (by kernel_rfl) (by kernel_rfl) (by kernel_rfl) (by kernel_rfl) (by kernel_rfl) (by kernel_rfl) (by kernel_rfl) (by kernel_rfl) (fun _ _ _ h => h) (Or.inl ⟨by rfl, ?hy⟩) T0 ?_
        case hy =>
          intro X hX
          have e0 := at_below c3 hX
          go_simp
        try simp only [Act.put, List.getElem_toArray, List.getElem_cons_zero, List.getElem_cons_succ, List.setIfInBounds_toArray, List.set_cons_zero, List.set_cons_succ]
        refine wpAnyG_take [12, 13, 14, 15, 16, 17, 18, 19, 20, 21, 22, 23, 24] (i := 12) (v := (.string s)) rfl (by kernel_rfl) (by kernel_rfl) (by kernel_rfl) (by kernel_rfl) (by kernel_rfl) (by kernel_rfl) (by kernel_rfl) (by kernel_rfl) (fun _ _ _ h => h) (Or.inl ⟨by rfl, ?hy⟩) T0 ?_
        case hy =>
          intro X hX
          have e0 := at_below c0 hX
          go_simp
        try simp only [Act.put, List.getElem_toArray, List.getElem_cons_zero, List.getElem_cons_succ, List.setIfInBounds_toArray, List.set_cons_zero, List.set_cons_succ]
        refine wpAnyG_all (rs := [13]) (by kernel_rfl) (by simp) ?_
        intro i hi
        simp only [List.mem_cons, List.not_mem_nil, or_false] at hi
        subst hi
        refine wpOp_open rfl (by rfl) ?_
        go_simp
        refine (cO _).mono ?_
        rintro e Y13 ⟨rfl, hb13⟩
        replace T0 := T0.trans (hb13.mono T0.size)
        refine ⟨fun _ => T0, ?_⟩
        try simp only [Act.put, List.getElem_toArray, List.getElem_cons_zero, List.getElem_cons_succ, List.setIfInBounds_toArray, List.set_cons_zero, List.set_cons_succ]
        refine wpAnyG_take [14, 15, 16, 17, 18, 19, 20, 21, 22, 23, 24] (i := 14) (v := (.bool true)) rfl (by kernel_rfl) (by kernel_rfl) (by kernel_rfl) (by kernel_rfl) (by kernel_rfl) (by kernel_rfl) (by kernel_rfl) (by kernel_rfl) (fun _ _ _ h => h) (Or.inl ⟨by rfl, ?hy⟩) T0 ?_
        case hy =>
          intro X hX
          go_simp
        try simp only [Act.put, List.getElem_toArray, List.getElem_cons_zero, List.getElem_cons_succ, List.setIfInBounds_toArray, List.set_cons_zero, List.set_cons_succ]
        refine wpAnyG_take [15, 16, 17, 18, 19, 20, 21, 22, 23, 24] (i := 15) (v := (.bool true)) rfl (by kernel_rfl) (by kernel_rfl) (by kernel_rfl) (by kernel_rfl) (by kernel_rfl) (by kernel_rfl) (by kernel_rfl) (by kernel_rfl) (fun _ _ _ h => h) (Or.inl ⟨by rfl, ?hy⟩) T0 ?_
        case hy =>
          intro X hX
          go_simp
        try simp only [Act.put, List.getElem_toArray, List.getElem_cons_zero, List.getElem_cons_succ, List.setIfInBounds_toArray, List.set_cons_zero, List.set_cons_succ]
        refine wpAnyG_take [16, 17, 18, 19, 20, 21, 22, 23, 24] (i := 16) (v := (.bool true)) rfl (by kernel_rfl) (by kernel_rfl) (by kernel_rfl) (by kernel_rfl) (by kernel_rfl) (by kernel_rfl) (by kernel_rfl) (by kernel_rfl) (fun _ _ _ h => h) (Or.inl ⟨by rfl, ?hy⟩) T0 ?_
        case hy =>
          intro X hX
          go_simp
        try simp only [Act.put, List.getElem_toArray, List.getElem_cons_zero, List.getElem_cons_succ, List.setIfInBounds_toArray, List.set_cons_zero, List.set_cons_succ]
        refine wpAnyG_take [17, 20, 21, 22, 23, 24] (i := 17) (v := (.string s)) rfl (by kernel_rfl) (by kernel_rfl) (by kernel_rfl) (by kernel_rfl) (by kernel_rfl) (by kernel_rfl) (by kernel_rfl) (by kernel_rfl) (fun _ _ _ h => h) (Or.inl ⟨by rfl, ?hy⟩) T0 ?_
        case hy =>
          intro X hX
          have e0 := at_below c0 hX
          go_simp
        try simp only [Act.put, List.getElem_toArray, List.getElem_cons_zero, List.getElem_cons_succ, List.setIfInBounds_toArray, List.set_cons_zero, List.set_cons_succ]
        refine wpAnyG_take [18, 19, 20, 21, 22, 23, 24] (i := 18) (v := (.string s)) rfl (by kernel_rfl) (by kernel_rfl) (by kernel_rfl) (by kernel_rfl) (by kernel_rfl) (by kernel_rfl) (by kernel_rfl) (by kernel_rfl) (fun _ _ _ h => h) (Or.inl ⟨by rfl, ?hy⟩) T0 ?_
        case hy =>
          intro X hX
          have e0 := at_below c0 hX
          go_simp
        try simp only [Act.put, List.getElem_toArray, List.getElem_cons_zero, List.getElem_cons_succ, List.setIfInBounds_toArray, List.set_cons_zero, List.set_cons_succ]
        refine wpAnyG_take [19, 20, 21, 22, 23, 24] (i := 19) (v := (.int .i64 s.size)) rfl (by kernel_rfl) (by kernel_rfl) (by kernel_rfl) (by kernel_rfl) (by kernel_rfl) (by kernel_rfl) (by kernel_rfl) (by kernel_rfl) (fun _ _ _ h => h) (Or.inl ⟨by rfl, ?hy⟩) T0 ?_
        case hy =>
          intro X hX
          go_simp
        try simp only [Act.put, List.getElem_toArray, List.getElem_cons_zero, List.getElem_cons_succ, List.setIfInBounds_toArray, List.set_cons_zero, List.set_cons_succ]
        refine wpAnyG_all (rs := [20]) (by kernel_rfl) (by simp) ?_
        intro i hi
        simp only [List.mem_cons, List.not_mem_nil, or_false] at hi
        subst hi
        refine wpOp_open rfl (by rfl) ?_
        go_simp
        refine (cE _).mono ?_
        rintro e Y20 ⟨rfl, hb20⟩
        replace T0 := T0.trans (hb20.mono T0.size)
        refine ⟨fun _ => T0, ?_⟩
        try simp only [Act.put, List.getElem_toArray, List.getElem_cons_zero, List.getElem_cons_succ, List.setIfInBounds_toArray, List.set_cons_zero, List.set_cons_succ]
        refine wpAnyG_take [21, 22, 23, 24] (i := 21) (v := (.bool true)) rfl (by kernel_rfl) (by kernel_rfl) (by kernel_rfl) (by kernel_rfl) (by kernel_rfl) (by kernel_rfl) (by kernel_rfl) (by kernel_rfl) (fun _ _ _ h => h) (Or.inl ⟨by rfl, ?hy⟩) T0 ?_
        case hy =>
          intro X hX
          go_simp
        try simp only [Act.put, List.getElem_toArray, List.getElem_cons_zero, List.getElem_cons_succ, List.setIfInBounds_toArray, List.set_cons_zero, List.set_cons_succ]
        refine wpAnyG_take [22, 23, 24] (i := 22) (v := (.bool true)) rfl (by kernel_rfl) (by kernel_rfl) (by kernel_rfl) (by kernel_rfl) (by kernel_rfl) (by kernel_rfl) (by kernel_rfl) (by kernel_rfl) (fun _ _ _ h => h) (Or.inl ⟨by rfl, ?hy⟩) T0 ?_
        case hy =>
          intro X hX
          go_simp
        try simp only [Act.put, List.getElem_toArray, List.getElem_cons_zero, List.getElem_cons_succ, List.setIfInBounds_toArray, List.set_cons_zero, List.set_cons_succ]
        refine wpAnyG_all (rs := [23]) (by kernel_rfl) (by simp) ?_
        intro i hi
        simp only [List.mem_cons, List.not_mem_nil, or_false] at hi
        subst hi
        refine wpOp_open rfl (by rfl) ?_
        go_simp
        refine (works_any _).mono ?_
        rintro e Y23 ⟨rfl, hb23⟩
        replace T0 := T0.trans (hb23.mono T0.size)
        refine ⟨fun _ => T0, ?_⟩
        try simp only [Act.put, List.getElem_toArray, List.getElem_cons_zero, List.getElem_cons_succ, List.setIfInBounds_toArray, List.set_cons_zero, List.set_cons_succ]
        refine wpAnyG_take [24] (i := 24) (v := (.bool true)) rfl (by kernel_rfl) (by kernel_rfl) (by kernel_rfl) (by kernel_rfl) (by kernel_rfl) (by kernel_rfl) (by kernel_rfl) (by kernel_rfl) (fun _ _ _ h => h) (Or.inl ⟨by rfl, ?hy⟩) T0 ?_
        case hy =>
          intro X hX
          go_simp
        try simp only [Act.put, List.getElem_toArray, List.getElem_cons_zero, List.getElem_cons_succ, List.setIfInBounds_toArray, List.set_cons_zero, List.set_cons_succ]
        have g1 := Blk.below' (show Blk _ _ _ _ from q1) T0
        have g2 := g1.cell 0
        have g3 := g1.frozen 0
        simp only [List.getElem?_toArray, List.getElem?_cons_succ, List.getElem?_cons_zero] at g2
        refine wpAnyG_all (rs := [25]) (by kernel_rfl) (by simp) ?_
        intro i hi
        simp only [List.mem_cons, List.not_mem_nil, or_false] at hi
        subst hi
        refine wpOp_now rfl rfl ?_
        go_simp
        refine ⟨fun h => (nomatch (show (false : Bool) = true from h)), ?_⟩
        refine wpAnyG_done (by kernel_rfl) ?_ _
        refine NoPanic.normal ?_
        gi_wp2_with (fail)
        have hl := (Array.getElem?_eq_some_iff.1 hK).1
        have hK3 := (T0.block D hl).trans hK
        have hl3 := (Array.getElem?_eq_some_iff.1 hK3).1
        have hB4 := (hBX.trans (T0.mono hBX.size)).setCell (p := ⟨w.heap.size + 1, 0, none⟩) (by dsimp only; omega) (.bool true)
        have hK4 := ((grownBy_setCell Y23 (w.heap.size + 1) 0 (.bool true)).block D hl3 (by intro e; have e : D = w.heap.size + 1 := (by simpa using e); omega)).trans hK3
        have g4 := g1.set 0 (.bool true)
        have g5 := g4.cell 0
        simp only [List.setIfInBounds_toArray, List.set_cons_zero, List.getElem?_toArray, List.getElem?_cons_zero] at g5
        obtain ⟨Z, hZ⟩ : ∃ Z, Y23.setCell ⟨w.heap.size + 1, 0, none⟩ (.bool true) = Z := ⟨_, rfl⟩
        rw [hZ] at hB4 hK4 g5 ⊢
        have hB5 := hB4.trans (belowK_b (w := w) (Nat.le_refl _) Z D _ (.deferred none) (by omega) hK4 rfl rfl)
        have g6 : (Z.putObj D (.deferred none)).cell? ⟨w.heap.size + 1, 0, none⟩ = _ := (World.cell?_of_block (w := Z) (World.putObj_heap_other (by dsimp only; omega))).trans g5
        refine ⟨by simp, .inl ⟨_, _, rfl, run_takeDeferred (w := Z) hK4, ?_⟩⟩
        refine ⟨.bool true, ?_, rfl, hB5⟩
        simp [results, Try.f7, go_sem, g6]
      case stop => exact fun _ _ _ _ _ _ h _ => h.elim
theorem lwh_any (s : ByteArray) (hs : s.size ≤ 1048576) (w : World) :
    Calls Try.prog 7 #[.string s] w fun e w' => e = .returned (.bool true) ∧ Below w.heap.size w w' := callsIn_wide.1 (lwh_in s hs w)
end Go.Proofs.Ytnbhdgbhmcbeoaa
