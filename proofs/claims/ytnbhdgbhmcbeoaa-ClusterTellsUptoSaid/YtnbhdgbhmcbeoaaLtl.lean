/- ClusterTells: the law's call. -/
import Derived.Test.YtnbhdgbhmcbeoaaTe1
namespace Go.Proofs.Ytnbhdgbhmcbeoaa
set_option linter.unusedVariables false
set_option linter.unusedSimpArgs false
open Go Go.RowKit Go.Shelf
set_option maxRecDepth 100000
attribute [local go_sem] Oper.semAt_some

theorem range_cut {F : Fence} {n : Nat} {P : Program} {c : Code} {Q : Exit → Act → World → Prop} {a : Act} {w : World} (id : Nat) (R : Nat → World → Prop)
    (h : c.wpIn F n P (fun e a' W => (e = .normal ∨ e = .exit id) ∧ ∃ D, R D W ∧ a' = { a with defers := { target := .collected D, args := #[] } :: a.defers }) a w)
    (hid : ∀ a W, Q .normal a W → Q (.exit id) a W) (h2 : ∀ D W, R D W → Q .normal { a with defers := { target := .collected D, args := #[] } :: a.defers } W) : c.wpIn F n P Q a w :=
  wpIn_mono h (fun e a' W ⟨he, D, hR, ha⟩ => by
    subst ha
    rcases he with rfl | rfl
    · exact h2 D W hR
    · exact hid _ _ (h2 D W hR))

theorem put_step {Z w : World} {b D : Nat} {v : Value} (hD : b < D) (hw : w.heap.size ≤ D) (k : Z.heap[D]? = some (.deferred (some []))) (g : Z.cell? ⟨b, 0, none⟩ = some v) (hB : Below w.heap.size w Z) :
    (Z.putObj D (.deferred none)).cell? ⟨b, 0, none⟩ = some v ∧ Below w.heap.size w (Z.putObj D (.deferred none)) ∧ ∀ E, E ≠ D → (Z.putObj D (.deferred none)).heap[E]? = Z.heap[E]? :=
  ⟨(World.cell?_of_block (w := Z) (World.putObj_heap_other (by dsimp only; omega))).trans g, hB.trans (belowK_b (w := w) (Nat.le_refl _) Z D _ (.deferred none) hw k rfl rfl), fun E hE => World.putObj_heap_other hE⟩

theorem opt_form (o : Option Cel) : ∃ (a b c er : Int) (ok : Bool), optV o = .tuple #[.agg #[.int .i64 a, .int .i64 b, .int .i64 c], .int .i64 er] ∧ optB o = .tuple #[.agg #[.int .i64 a, .int .i64 b, .int .i64 c], .bool ok] ∧ ((ok = true ∧ er = 0) ∨ (ok = false ∧ er = 5)) := by
  cases o with
  | none => exact ⟨0, 0, 0, 5, false, rfl, rfl, .inr ⟨rfl, rfl⟩⟩
  | some c => exact ⟨c.1, c.2.1, c.2.2, 0, true, rfl, rfl, .inl ⟨rfl, rfl⟩⟩

set_option maxHeartbeats 16000000 in
theorem ltl_in (s : ByteArray) (at' early : Int) (hs : s.size ≤ 1048576) (hat' : at' ≤ 9223372036854775807) (w : World) :
    CallsIn Fence.wide 12 Try.prog 4 #[.string s, .int .i64 at', .int .i64 early] w fun e w' => e = .returned (.bool true) ∧ Below w.heap.size w w' := by
  have cC := fun W => cells_any s (by omega) W
  have cN := fun W => countOf_any s (by omega) W
  have cO := fun W => columnsOf_any s (by omega) W
  have cOD := fun W => columnsD_any s hs W
  have cE := fun W => edge_any s (by omega) at' W
  have cED := fun W => edgeD_any s hs at' W
  have cR := fun W => rev_any s hs W
  have cRD := fun W => revD_any s hs W
  have cA := fun W => atC_any s (by omega) at' W
  have cAD := fun W => atD_any s hs at' W
  have cU := fun W => under_any s (by omega) at' hat' W
  have cUD := fun W => underD_any s hs at' W
  obtain ⟨qa1, qb1, qc1, er1, ok1, hV1, hW1, hor1⟩ := opt_form (atF s at')
  obtain ⟨qa2, qb2, qc2, er2, ok2, hV2, hW2, hor2⟩ := opt_form (unF s at')
  rw [hV1] at cA
  rw [hW1] at cAD
  rw [hV2] at cU
  rw [hW2] at cUD
  have HO1 := Lib.hid hor1
  have HO2 := Lib.hid hor2
  clear hV1 hW1 hV2 hW2 hor1 hor2
  rw [ed_same] at cE
  obtain ⟨n, hn⟩ : ∃ n, (cellsL s).length = n := ⟨_, rfl⟩
  obtain ⟨cs, hcs⟩ : ∃ n, colsL (cellsL s) = n := ⟨_, rfl⟩
  obtain ⟨eb, heb⟩ : ∃ b, edD s at' = b := ⟨_, rfl⟩
  obtain ⟨rs, hrs⟩ : ∃ b, catR s (revL s) = b := ⟨_, rfl⟩
  have hnz : n ≤ 1048576 := by have := cellsL_len s; omega
  rw [hn] at cC cN
  rw [hcs] at cO cOD
  rw [heb] at cE cED
  rw [hrs] at cR cRD
  have HN := Lib.hid hn
  clear hn hcs heb hrs
  have kb : (eb != eb) = false := by cases eb <;> rfl
  refine callsIn_of_wp_marks Try.func4 rfl trivial ?_ rfl
  simp only [Try.ntmps4, List.size_toArray, List.length_cons, List.length_nil, Nat.reduceAdd, Nat.reduceSub, Array.replicate_succ, Array.replicate_zero, List.push_toArray, List.append_toArray, List.nil_append, List.cons_append]
  have hF : ∀ f, Fence.wide.fn f := fun _ => trivial
  gi_wp2_with (fail)
  refine (callsIn_wide.2 (works_any _)).mono ?_
  rintro e w1 ⟨rfl, hb1⟩
  have b0 : Boxed _ _ _ _ := (Boxed.new w 3 (.int .i64 early)).alloc (.cells #[.bool false] 4)
  have b1 : Boxed _ _ _ _ := Boxed.new (w.alloc (.cells #[.int .i64 early] 3)) 4 (.bool false)
  have hB := ((Below.refl _ w).alloc (Nat.le_refl _) (.cells #[.int .i64 early] 3)).alloc (by simp) (.cells #[.bool false] 4)
  have hz : ((w.alloc (.cells #[.int .i64 early] 3)).alloc (.cells #[.bool false] 4)).heap.size = w.heap.size + 2 := by simp
  simp only [World.size_alloc, Nat.add_assoc, Nat.reduceAdd] at b1 ⊢
  have c0 : Boxed w1 w.heap.size 3 (.int .i64 early) := Blk.below' (show Blk _ _ _ _ from b0) hb1
  have c1 : Boxed w1 (w.heap.size + 1) 4 (.bool false) := Blk.below' (show Blk _ _ _ _ from b1) hb1
  have hB1 := hB.trans (hb1.mono hB.size)
  have hP := hb1.size
  rw [hz] at hP
  clear b0 b1 hb1 hz hB
  gi_wp2_with (fail)
  refine (callsIn_wide.2 (cells5_any s (by omega) _)).mono ?_
  rintro e w2 ⟨vl, rfl, hv, hb2⟩
  obtain ⟨o, cap, rfl, ho⟩ := own_slice hv
  rw [HN.out] at hv ho
  have rL := RowC.of_own hv HN.out
  rw [HN.out]
  have c0 : Boxed w2 _ _ _ := Blk.below' (show Blk _ _ _ _ from c0) hb2
  have c1 : Boxed w2 _ _ _ := Blk.below' (show Blk _ _ _ _ from c1) hb2
  have hB2 := hB1.trans (hb2.mono hB1.size)
  have hQ := hb2.size
  clear hv hb2 hB1
  gi_wp2_with (fail)
  have al := (Below.refl w2.heap.size w2).alloc (Nat.le_refl _) (.cells #[.slice o n cap] 28)
  have d0 : Boxed _ _ _ _ := c0.alloc (.cells #[.slice o n cap] 28)
  have d1 : Boxed _ _ _ _ := c1.alloc (.cells #[.slice o n cap] 28)
  have d7 := Boxed.new w2 28 (.slice o n cap)
  have rL2 := rL.below al
  have hB3 := hB2.trans (al.mono hB2.size)
  obtain ⟨R, hR⟩ : ∃ R, w2.heap.size = R := ⟨_, rfl⟩
  rw [hR] at d7 hQ
  obtain ⟨X, hX⟩ : ∃ X, w2.alloc (.cells #[.slice o n cap] 28) = X := ⟨_, rfl⟩
  rw [hX] at d0 d1 d7 rL2 hB3 ⊢
  rw [hR]
  clear hX hR hB2 c0 c1 rL al
  have p7 := d7.cell
  refine wpIn_wide.2 ?_
  refine wp_region_noPanic ?_
  refine wp_region_g (S := untilG [] (fun Y => Below X.heap.size X Y)) (by kernel_rfl) ?_
  obtain ⟨X0, hX0⟩ : ∃ Y, X.drew = Y := ⟨_, rfl⟩
  have T0 : Below X.heap.size X X0 := hX0 ▸ (Below.refl X.heap.size X).drew
  rw [hX0]
  clear hX0
  refine wpAnyG_take [0, 1, 3, 4, 5, 6, 7, 8, 9, 10, 11, 12, 13, 14, 15, 16, 17, 18, 19, 20, 21, 22, 23, 24, 25, 26, 27, 28, 29, 30, 31, 32, 33, 34] (i := 0) (v := (.string s)) rfl (by kernel_rfl) (by kernel_rfl) (by kernel_rfl) (by kernel_rfl) (by kernel_rfl) (by kernel_rfl) (by kernel_rfl) (by kernel_rfl) (fun _ _ _ h => h) (Or.inl ⟨by rfl, ?hy⟩) T0 ?_
  case hy =>
    intro X hX
    go_simp
  try simp only [Act.put, List.getElem_toArray, List.getElem_cons_zero, List.getElem_cons_succ, List.setIfInBounds_toArray, List.set_cons_zero, List.set_cons_succ]
  refine wpAnyG_take [2, 3, 4, 5, 6, 7, 8, 9, 10, 11, 12, 13, 14, 15, 16, 17, 18, 19, 20, 21, 22, 23, 24, 25, 26, 27, 28, 29, 30, 31, 32, 33, 34] (i := 2) (v := (.slice o n cap)) rfl (by kernel_rfl) (by kernel_rfl) (by kernel_rfl) (by kernel_rfl) (by kernel_rfl) (by kernel_rfl) (by kernel_rfl) (by kernel_rfl) (fun _ _ _ h => h) (Or.inl ⟨by rfl, ?hy⟩) T0 ?_
  case hy =>
    intro X hX
    have e0 := at_below p7 hX
    go_simp
  try simp only [Act.put, List.getElem_toArray, List.getElem_cons_zero, List.getElem_cons_succ, List.setIfInBounds_toArray, List.set_cons_zero, List.set_cons_succ]
  refine wpAnyG_all (rs := [1]) (by kernel_rfl) (by simp) ?_
  intro i hi
  simp only [List.mem_cons, List.not_mem_nil, or_false] at hi
  subst hi
  refine wpOp_now rfl rfl ?_
  go_simp
  refine (cC _).mono ?_
  rintro e Y ⟨v, rfl, hv, hb⟩
  obtain ⟨o2, cap2, rfl, ho2⟩ := own_slice hv
  have rv := RowC.of_own hv HN.out
  have rx := (rL2.below T0).below hb
  replace T0 := T0.trans (hb.mono T0.size)
  clear hv hb ho2
  refine ⟨fun _ => T0, ?_⟩
  try simp only [Act.put, List.getElem_toArray, List.getElem_cons_zero, List.getElem_cons_succ, List.setIfInBounds_toArray, List.set_cons_zero, List.set_cons_succ]
  refine wpAnyG_all (rs := [3]) (by kernel_rfl) (by simp) ?_
  intro i hi
  simp only [List.mem_cons, List.not_mem_nil, or_false] at hi
  subst hi
  refine wpOp_now rfl rfl ?_
  go_simp
  refine (equal_any (cellsL s) (cellsL s) o2 o n n cap2 cap HN.out HN.out (by omega) (by omega) _ rv rx).mono ?_
  rintro e Y2 ⟨rfl, hb⟩
  rw [decide_eq_true (rfl : cellsL s = cellsL s)]
  replace T0 := T0.trans (hb.mono T0.size)
  clear hb rv rx
  refine ⟨fun _ => T0, ?_⟩
  try simp only [Act.put, List.getElem_toArray, List.getElem_cons_zero, List.getElem_cons_succ, List.setIfInBounds_toArray, List.set_cons_zero, List.set_cons_succ]
  refine wpAnyG_all (rs := [4]) (by kernel_rfl) (by simp) ?_
  intro i hi
  simp only [List.mem_cons, List.not_mem_nil, or_false] at hi
  subst hi
  refine wpOp_now rfl rfl ?_
  go_simp
  refine ⟨fun _ => T0, ?_⟩
  try simp only [Act.put, List.getElem_toArray, List.getElem_cons_zero, List.getElem_cons_succ, List.setIfInBounds_toArray, List.set_cons_zero, List.set_cons_succ]
  refine wpAnyG_all (rs := [5]) (by kernel_rfl) (by simp) ?_
  intro i hi
  simp only [List.mem_cons, List.not_mem_nil, or_false] at hi
  subst hi
  refine wpOp_now rfl rfl ?_
  go_simp
  refine ⟨fun _ => T0, ?_⟩
  try simp only [Act.put, List.getElem_toArray, List.getElem_cons_zero, List.getElem_cons_succ, List.setIfInBounds_toArray, List.set_cons_zero, List.set_cons_succ]
  refine wpAnyG_take [6, 7, 10, 11, 12, 13, 14, 15, 16, 17, 18, 19, 20, 21, 22, 23, 24, 25, 26, 27, 28, 29, 30, 31, 32, 33, 34] (i := 6) (v := (.string s)) rfl (by kernel_rfl) (by kernel_rfl) (by kernel_rfl) (by kernel_rfl) (by kernel_rfl) (by kernel_rfl) (by kernel_rfl) (by kernel_rfl) (fun _ _ _ h => h) (Or.inl ⟨by rfl, ?hy⟩) T0 ?_
  case hy =>
    intro X hX
    go_simp
  try simp only [Act.put, List.getElem_toArray, List.getElem_cons_zero, List.getElem_cons_succ, List.setIfInBounds_toArray, List.set_cons_zero, List.set_cons_succ]
  refine wpAnyG_take [8, 9, 10, 11, 12, 13, 14, 15, 16, 17, 18, 19, 20, 21, 22, 23, 24, 25, 26, 27, 28, 29, 30, 31, 32, 33, 34] (i := 8) (v := (.slice o n cap)) rfl (by kernel_rfl) (by kernel_rfl) (by kernel_rfl) (by kernel_rfl) (by kernel_rfl) (by kernel_rfl) (by kernel_rfl) (by kernel_rfl) (fun _ _ _ h => h) (Or.inl ⟨by rfl, ?hy⟩) T0 ?_
  case hy =>
    intro X hX
    have e0 := at_below p7 hX
    go_simp
  try simp only [Act.put, List.getElem_toArray, List.getElem_cons_zero, List.getElem_cons_succ, List.setIfInBounds_toArray, List.set_cons_zero, List.set_cons_succ]
  refine wpAnyG_take [9, 10, 11, 12, 13, 14, 15, 16, 17, 18, 19, 20, 21, 22, 23, 24, 25, 26, 27, 28, 29, 30, 31, 32, 33, 34] (i := 9) (v := (.int .i64 n)) rfl (by kernel_rfl) (by kernel_rfl) (by kernel_rfl) (by kernel_rfl) (by kernel_rfl) (by kernel_rfl) (by kernel_rfl) (by kernel_rfl) (fun _ _ _ h => h) (Or.inl ⟨by rfl, ?hy⟩) T0 ?_
  case hy =>
    intro X hX
    go_simp
  try simp only [Act.put, List.getElem_toArray, List.getElem_cons_zero, List.getElem_cons_succ, List.setIfInBounds_toArray, List.set_cons_zero, List.set_cons_succ]
  refine wpAnyG_all (rs := [7]) (by kernel_rfl) (by simp) ?_
  intro i hi
  simp only [List.mem_cons, List.not_mem_nil, or_false] at hi
  subst hi
  refine wpOp_open rfl (by rfl) ?_
  go_simp
  refine (cN _).mono ?_
  rintro e Y1 ⟨rfl, hb⟩
  replace T0 := T0.trans (hb.mono T0.size)
  clear hb
  refine ⟨fun _ => T0, ?_⟩
  try simp only [Act.put, List.getElem_toArray, List.getElem_cons_zero, List.getElem_cons_succ, List.setIfInBounds_toArray, List.set_cons_zero, List.set_cons_succ]
  refine wpAnyG_all (rs := [10]) (by kernel_rfl) (by simp) ?_
  intro i hi
  simp only [List.mem_cons, List.not_mem_nil, or_false] at hi
  subst hi
  refine wpOp_open rfl (by rfl) ?_
  go_simp
  refine ⟨fun _ => T0, ?_⟩
  try simp only [Act.put, List.getElem_toArray, List.getElem_cons_zero, List.getElem_cons_succ, List.setIfInBounds_toArray, List.set_cons_zero, List.set_cons_succ]
  refine wpAnyG_all (rs := [11]) (by kernel_rfl) (by simp) ?_
  intro i hi
  simp only [List.mem_cons, List.not_mem_nil, or_false] at hi
  subst hi
  refine wpOp_now rfl rfl ?_
  go_simp
  refine ⟨fun _ => T0, ?_⟩
  try simp only [Act.put, List.getElem_toArray, List.getElem_cons_zero, List.getElem_cons_succ, List.setIfInBounds_toArray, List.set_cons_zero, List.set_cons_succ]
  refine wpAnyG_all (rs := [12]) (by kernel_rfl) (by simp) ?_
  intro i hi
  simp only [List.mem_cons, List.not_mem_nil, or_false] at hi
  subst hi
  refine wpOp_now rfl rfl ?_
  go_simp
  refine ⟨fun _ => T0, ?_⟩
  try simp only [Act.put, List.getElem_toArray, List.getElem_cons_zero, List.getElem_cons_succ, List.setIfInBounds_toArray, List.set_cons_zero, List.set_cons_succ]
  refine wpAnyG_take [13, 14, 17, 18, 19, 20, 21, 22, 23, 24, 25, 26, 27, 28, 29, 30, 31, 32, 33, 34] (i := 13) (v := (.string s)) rfl (by kernel_rfl) (by kernel_rfl) (by kernel_rfl) (by kernel_rfl) (by kernel_rfl) (by kernel_rfl) (by kernel_rfl) (by kernel_rfl) (fun _ _ _ h => h) (Or.inl ⟨by rfl, ?hy⟩) T0 ?_
  case hy =>
    intro X hX
    go_simp
  try simp only [Act.put, List.getElem_toArray, List.getElem_cons_zero, List.getElem_cons_succ, List.setIfInBounds_toArray, List.set_cons_zero, List.set_cons_succ]
  refine wpAnyG_take [15, 16, 17, 18, 19, 20, 21, 22, 23, 24, 25, 26, 27, 28, 29, 30, 31, 32, 33, 34] (i := 15) (v := (.string s)) rfl (by kernel_rfl) (by kernel_rfl) (by kernel_rfl) (by kernel_rfl) (by kernel_rfl) (by kernel_rfl) (by kernel_rfl) (by kernel_rfl) (fun _ _ _ h => h) (Or.inl ⟨by rfl, ?hy⟩) T0 ?_
  case hy =>
    intro X hX
    go_simp
  try simp only [Act.put, List.getElem_toArray, List.getElem_cons_zero, List.getElem_cons_succ, List.setIfInBounds_toArray, List.set_cons_zero, List.set_cons_succ]
  refine wpAnyG_all (rs := [14]) (by kernel_rfl) (by simp) ?_
  intro i hi
  simp only [List.mem_cons, List.not_mem_nil, or_false] at hi
  subst hi
  refine wpOp_open rfl (by rfl) ?_
  go_simp
  refine (cO _).mono ?_
  rintro e Y2 ⟨rfl, hb⟩
  replace T0 := T0.trans (hb.mono T0.size)
  clear hb
  refine ⟨fun _ => T0, ?_⟩
  try simp only [Act.put, List.getElem_toArray, List.getElem_cons_zero, List.getElem_cons_succ, List.setIfInBounds_toArray, List.set_cons_zero, List.set_cons_succ]
  refine wpAnyG_all (rs := [16]) (by kernel_rfl) (by simp) ?_
  intro i hi
  simp only [List.mem_cons, List.not_mem_nil, or_false] at hi
  subst hi
  refine wpOp_open rfl (by rfl) ?_
  go_simp
  refine (cOD _).mono ?_
  rintro e Y3 ⟨rfl, hb⟩
  replace T0 := T0.trans (hb.mono T0.size)
  clear hb
  refine ⟨fun _ => T0, ?_⟩
  try simp only [Act.put, List.getElem_toArray, List.getElem_cons_zero, List.getElem_cons_succ, List.setIfInBounds_toArray, List.set_cons_zero, List.set_cons_succ]
  refine wpAnyG_all (rs := [17]) (by kernel_rfl) (by simp) ?_
  intro i hi
  simp only [List.mem_cons, List.not_mem_nil, or_false] at hi
  subst hi
  refine wpOp_open rfl (by rfl) ?_
  go_simp
  refine ⟨fun _ => T0, ?_⟩
  try simp only [Act.put, List.getElem_toArray, List.getElem_cons_zero, List.getElem_cons_succ, List.setIfInBounds_toArray, List.set_cons_zero, List.set_cons_succ]
  refine wpAnyG_all (rs := [18]) (by kernel_rfl) (by simp) ?_
  intro i hi
  simp only [List.mem_cons, List.not_mem_nil, or_false] at hi
  subst hi
  refine wpOp_now rfl rfl ?_
  go_simp
  refine ⟨fun _ => T0, ?_⟩
  try simp only [Act.put, List.getElem_toArray, List.getElem_cons_zero, List.getElem_cons_succ, List.setIfInBounds_toArray, List.set_cons_zero, List.set_cons_succ]
  refine wpAnyG_all (rs := [19]) (by kernel_rfl) (by simp) ?_
  intro i hi
  simp only [List.mem_cons, List.not_mem_nil, or_false] at hi
  subst hi
  refine wpOp_now rfl rfl ?_
  go_simp
  refine ⟨fun _ => T0, ?_⟩
  try simp only [Act.put, List.getElem_toArray, List.getElem_cons_zero, List.getElem_cons_succ, List.setIfInBounds_toArray, List.set_cons_zero, List.set_cons_succ]
  refine wpAnyG_take [20, 22, 26, 27, 28, 29, 30, 31, 32, 33, 34] (i := 20) (v := (.string s)) rfl (by kernel_rfl) (by kernel_rfl) (by kernel_rfl) (by kernel_rfl) (by kernel_rfl) (by kernel_rfl) (by kernel_rfl) (by kernel_rfl) (fun _ _ _ h => h) (Or.inl ⟨by rfl, ?hy⟩) T0 ?_
  case hy =>
    intro X hX
    go_simp
  try simp only [Act.put, List.getElem_toArray, List.getElem_cons_zero, List.getElem_cons_succ, List.setIfInBounds_toArray, List.set_cons_zero, List.set_cons_succ]
  refine wpAnyG_take [21, 22, 26, 27, 28, 29, 30, 31, 32, 33, 34] (i := 21) (v := (.int .i64 at')) rfl (by kernel_rfl) (by kernel_rfl) (by kernel_rfl) (by kernel_rfl) (by kernel_rfl) (by kernel_rfl) (by kernel_rfl) (by kernel_rfl) (fun _ _ _ h => h) (Or.inl ⟨by rfl, ?hy⟩) T0 ?_
  case hy =>
    intro X hX
    go_simp
  try simp only [Act.put, List.getElem_toArray, List.getElem_cons_zero, List.getElem_cons_succ, List.setIfInBounds_toArray, List.set_cons_zero, List.set_cons_succ]
  refine wpAnyG_take [23, 25, 26, 27, 28, 29, 30, 31, 32, 33, 34] (i := 23) (v := (.string s)) rfl (by kernel_rfl) (by kernel_rfl) (by kernel_rfl) (by kernel_rfl) (by kernel_rfl) (by kernel_rfl) (by kernel_rfl) (by kernel_rfl) (fun _ _ _ h => h) (Or.inl ⟨by rfl, ?hy⟩) T0 ?_
  case hy =>
    intro X hX
    go_simp
  try simp only [Act.put, List.getElem_toArray, List.getElem_cons_zero, List.getElem_cons_succ, List.setIfInBounds_toArray, List.set_cons_zero, List.set_cons_succ]
  refine wpAnyG_take [24, 25, 26, 27, 28, 29, 30, 31, 32, 33, 34] (i := 24) (v := (.int .i64 at')) rfl (by kernel_rfl) (by kernel_rfl) (by kernel_rfl) (by kernel_rfl) (by kernel_rfl) (by kernel_rfl) (by kernel_rfl) (by kernel_rfl) (fun _ _ _ h => h) (Or.inl ⟨by rfl, ?hy⟩) T0 ?_
  case hy =>
    intro X hX
    go_simp
  try simp only [Act.put, List.getElem_toArray, List.getElem_cons_zero, List.getElem_cons_succ, List.setIfInBounds_toArray, List.set_cons_zero, List.set_cons_succ]
  refine wpAnyG_all (rs := [22]) (by kernel_rfl) (by simp) ?_
  intro i hi
  simp only [List.mem_cons, List.not_mem_nil, or_false] at hi
  subst hi
  refine wpOp_open rfl (by rfl) ?_
  go_simp
  refine (cE _).mono ?_
  rintro e Y4 ⟨rfl, hb⟩
  replace T0 := T0.trans (hb.mono T0.size)
  clear hb
  refine ⟨fun _ => T0, ?_⟩
  try simp only [Act.put, List.getElem_toArray, List.getElem_cons_zero, List.getElem_cons_succ, List.setIfInBounds_toArray, List.set_cons_zero, List.set_cons_succ]
  refine wpAnyG_all (rs := [25]) (by kernel_rfl) (by simp) ?_
  intro i hi
  simp only [List.mem_cons, List.not_mem_nil, or_false] at hi
  subst hi
  refine wpOp_open rfl (by rfl) ?_
  go_simp
  refine (cED _).mono ?_
  rintro e Y5 ⟨rfl, hb⟩
  replace T0 := T0.trans (hb.mono T0.size)
  clear hb
  refine ⟨fun _ => T0, ?_⟩
  try simp only [Act.put, List.getElem_toArray, List.getElem_cons_zero, List.getElem_cons_succ, List.setIfInBounds_toArray, List.set_cons_zero, List.set_cons_succ]
  refine wpAnyG_all (rs := [26]) (by kernel_rfl) (by simp) ?_
  intro i hi
  simp only [List.mem_cons, List.not_mem_nil, or_false] at hi
  subst hi
  refine wpOp_open rfl (by rfl) ?_
  go_simp
  refine ⟨fun _ => T0, ?_⟩
  try simp only [Act.put, List.getElem_toArray, List.getElem_cons_zero, List.getElem_cons_succ, List.setIfInBounds_toArray, List.set_cons_zero, List.set_cons_succ]
  refine wpAnyG_all (rs := [27]) (by kernel_rfl) (by simp) ?_
  intro i hi
  simp only [List.mem_cons, List.not_mem_nil, or_false] at hi
  subst hi
  refine wpOp_now rfl rfl ?_
  go_simp
  refine ⟨fun _ => T0, ?_⟩
  try simp only [Act.put, List.getElem_toArray, List.getElem_cons_zero, List.getElem_cons_succ, List.setIfInBounds_toArray, List.set_cons_zero, List.set_cons_succ]
  refine wpAnyG_all (rs := [28]) (by kernel_rfl) (by simp) ?_
  intro i hi
  simp only [List.mem_cons, List.not_mem_nil, or_false] at hi
  subst hi
  refine wpOp_now rfl rfl ?_
  go_simp
  refine ⟨fun _ => T0, ?_⟩
  try simp only [Act.put, List.getElem_toArray, List.getElem_cons_zero, List.getElem_cons_succ, List.setIfInBounds_toArray, List.set_cons_zero, List.set_cons_succ]
  refine wpAnyG_take [29, 30, 33, 34] (i := 29) (v := (.string s)) rfl (by kernel_rfl) (by kernel_rfl) (by kernel_rfl) (by kernel_rfl) (by kernel_rfl) (by kernel_rfl) (by kernel_rfl) (by kernel_rfl) (fun _ _ _ h => h) (Or.inl ⟨by rfl, ?hy⟩) T0 ?_
  case hy =>
    intro X hX
    go_simp
  try simp only [Act.put, List.getElem_toArray, List.getElem_cons_zero, List.getElem_cons_succ, List.setIfInBounds_toArray, List.set_cons_zero, List.set_cons_succ]
  refine wpAnyG_take [31, 32, 33, 34] (i := 31) (v := (.string s)) rfl (by kernel_rfl) (by kernel_rfl) (by kernel_rfl) (by kernel_rfl) (by kernel_rfl) (by kernel_rfl) (by kernel_rfl) (by kernel_rfl) (fun _ _ _ h => h) (Or.inl ⟨by rfl, ?hy⟩) T0 ?_
  case hy =>
    intro X hX
    go_simp
  try simp only [Act.put, List.getElem_toArray, List.getElem_cons_zero, List.getElem_cons_succ, List.setIfInBounds_toArray, List.set_cons_zero, List.set_cons_succ]
  refine wpAnyG_all (rs := [30]) (by kernel_rfl) (by simp) ?_
  intro i hi
  simp only [List.mem_cons, List.not_mem_nil, or_false] at hi
  subst hi
  refine wpOp_open rfl (by rfl) ?_
  go_simp
  refine (cR _).mono ?_
  rintro e Y6 ⟨rfl, hb⟩
  replace T0 := T0.trans (hb.mono T0.size)
  clear hb
  refine ⟨fun _ => T0, ?_⟩
  try simp only [Act.put, List.getElem_toArray, List.getElem_cons_zero, List.getElem_cons_succ, List.setIfInBounds_toArray, List.set_cons_zero, List.set_cons_succ]
  refine wpAnyG_all (rs := [32]) (by kernel_rfl) (by simp) ?_
  intro i hi
  simp only [List.mem_cons, List.not_mem_nil, or_false] at hi
  subst hi
  refine wpOp_open rfl (by rfl) ?_
  go_simp
  refine (cRD _).mono ?_
  rintro e Y7 ⟨rfl, hb⟩
  replace T0 := T0.trans (hb.mono T0.size)
  clear hb
  refine ⟨fun _ => T0, ?_⟩
  try simp only [Act.put, List.getElem_toArray, List.getElem_cons_zero, List.getElem_cons_succ, List.setIfInBounds_toArray, List.set_cons_zero, List.set_cons_succ]
  refine wpAnyG_all (rs := [33]) (by kernel_rfl) (by simp) ?_
  intro i hi
  simp only [List.mem_cons, List.not_mem_nil, or_false] at hi
  subst hi
  refine wpOp_open rfl (by rfl) ?_
  go_simp
  refine ⟨fun _ => T0, ?_⟩
  try simp only [Act.put, List.getElem_toArray, List.getElem_cons_zero, List.getElem_cons_succ, List.setIfInBounds_toArray, List.set_cons_zero, List.set_cons_succ]
  refine wpAnyG_all (rs := [34]) (by kernel_rfl) (by simp) ?_
  intro i hi
  simp only [List.mem_cons, List.not_mem_nil, or_false] at hi
  subst hi
  refine wpOp_now rfl rfl ?_
  go_simp
  refine ⟨fun _ => T0, ?_⟩
  try simp only [Act.put, List.getElem_toArray, List.getElem_cons_zero, List.getElem_cons_succ, List.setIfInBounds_toArray, List.set_cons_zero, List.set_cons_succ]
  refine wpAnyG_done (by kernel_rfl) ?_ _
  refine NoPanic.normal ?_
  have d0 := Blk.below' (show Blk _ _ _ _ from d0) T0
  have d1 := Blk.below' (show Blk _ _ _ _ from d1) T0
  have d7 := Blk.below' (show Blk _ _ _ _ from d7) T0
  have rL3 := rL2.below T0
  have hB4 := hB3.trans (T0.mono hB3.size)
  clear rL2 hB3 T0 p7
  gi_wp2_with (first | (gi_at_call 27; refine (callsIn_wide.2 (each_any _ _)).mono ?_; rintro e w' ⟨rfl, rfl⟩) | (gi_at_call 28; refine (callsIn_wide.2 (back_any _ _)).mono ?_; rintro e w' ⟨rfl, rfl⟩))
  obtain ⟨S, hS⟩ : ∃ S, Y7.heap.size = S := ⟨_, rfl⟩
  have tj : TlJ s Y7 S (.int .i64 0) [] (S + 3) (((Y7.alloc (.cells #[.string s] 9)).alloc (.cells #[.string s] 9)).alloc (.cells #[.int .i64 0] 3)) := by
    have x0 : Boxed _ _ _ _ := ((Boxed.new Y7 9 (.string s)).alloc (.cells #[.string s] 9)).alloc (.cells #[.int .i64 0] 3)
    have x1 : Boxed _ _ _ _ := (Boxed.new (Y7.alloc (.cells #[.string s] 9)) 9 (.string s)).alloc (.cells #[.int .i64 0] 3)
    have x2 := Boxed.new ((Y7.alloc (.cells #[.string s] 9)).alloc (.cells #[.string s] 9)) 3 (.int .i64 0)
    simp only [World.size_alloc, Nat.add_assoc, Nat.reduceAdd, hS] at x0 x1 x2
    refine ⟨⟨?_, by simp [hS]⟩, ⟨x0, x1⟩, x2, fun D h => by cases h⟩
    have := (((Below.refl Y7.heap.size Y7).alloc (Nat.le_refl _) (.cells #[.string s] 9)).alloc (by simp) (.cells #[.string s] 9)).alloc (by simp; omega) (.cells #[.int .i64 0] 3)
    rw [hS] at this; exact this
  have hVz : (((Y7.alloc (.cells #[.string s] 9)).alloc (.cells #[.string s] 9)).alloc (.cells #[.int .i64 0] 3)).heap.size = S + 3 := by simp [hS]
  obtain ⟨V, hV⟩ : ∃ V, ((Y7.alloc (.cells #[.string s] 9)).alloc (.cells #[.string s] 9)).alloc (.cells #[.int .i64 0] 3) = V := ⟨_, rfl⟩
  rw [hV] at tj hVz ⊢
  have l0 := d0.lt
  have l1 := d1.lt
  have l7 := d7.lt
  have hYS := Lib.hid hS
  rw [hS] at l0 l1 l7
  have HD := Lib.hid (And.intro d0 (And.intro d1 (And.intro d7 (And.intro rL3 hB4))))
  simp only [hS]
  clear hV hS d0 d1 d7 rL3 hB4
  refine range_cut 0 (fun D W => ∃ v, TlJ s Y7 S v [D] W.heap.size W) ?_ (fun _ _ h => h) ?_
  · refine range_each0 s (by omega) S tj.2.1.1 rfl (fun _ pre X => TlJ s Y7 S (.int .i64 (pre.length : Nat)) [] V.heap.size X ∧ pre <+: cellsL s) (fun c pre X => c = .exit 0 ∧ ∃ v, TlJ s Y7 S v [] V.heap.size X)
      (fun _ => tlJ_abO (f := fun pre => .int .i64 (pre.length : Nat)) (p := fun pre => pre <+: cellsL s) (by omega) hYS.out) (fun c t X Z row h hg hr => ⟨h.1, h.2.imp fun v h => h.grown (by omega) hYS.out hg (fun r e => (hr r e).1)⟩) ⟨by rw [hVz]; exact tj, List.nil_prefix⟩ ?assign ?body ?done ?stop
    case assign =>
      intro l x W K hK
      gi_wp2
      exact hK
    case body =>
      rintro l m pre x X ⟨h1, h2⟩ hm1 hm2 hdue
      have e0 := (h1.old (show Boxed Y7 _ _ _ from HD.out.1) l0).cell
      have e1 := h1.2.2.1.cell
      have e2 := h1.2.2.1.frozen
      have hpl : pre.length + 1 ≤ s.size := (due_cell hdue).2.2.2.2.2.2
      have j1 : IntKind.i64.wrap ((pre.length : Int) + 1) = (pre.length : Int) + 1 := IntWalk.i64_in _ (by omega)
      obtain ⟨bb, hbb⟩ : ∃ b, ((pre.length : Int) == early) = b := ⟨_, rfl⟩
      have HX := Lib.hid (And.intro h1 (And.intro hdue (show (pre ++ [x]).length = pre.length + 1 by simp)))
      clear h1 h2 hdue
      cases bb
      · simp only [celV, List.setIfInBounds_toArray, List.set_cons_zero, List.set_cons_succ]
        gi_wp2
        obtain ⟨h1, hdue, hl⟩ := HX.out
        refine ⟨kf_set _ _, kpM_set (by omega) (by omega) _ _, ?_, hdue⟩
        rw [hl]; push_cast
        exact h1.set _
      · simp only [celV, List.setIfInBounds_toArray, List.set_cons_zero, List.set_cons_succ]
        gi_wp2
        obtain ⟨h1, hdue, hl⟩ := HX.out
        exact ⟨kf_below (Below.refl _ _), rfl, _, h1⟩
    case done =>
      rintro D m W hD ⟨h1, _⟩ _ hK
      exact ⟨.inl rfl, D, ⟨_, h1.next (by omega) hD hK⟩, rfl⟩
    case stop =>
      rintro D c pre W hD _ ⟨rfl, v, h1⟩ hK
      gi_wp2
      exact ⟨_, h1.next (by omega) hD hK⟩
  · rintro D1 W1 ⟨v1, t1⟩
    have p7 := (t1.old (show Boxed Y7 _ _ _ from HD.out.2.2.1) l7).cell
    have pf := t1.2.2.1.frozen
    have pc := t1.2.2.1.cell
    have t2 := t1.set (.int .i64 (n : Int))
    have hz1 : S + 3 ≤ W1.heap.size := by have := t1.2.2.2 D1 (by simp); omega
    have hd1 : S + 2 < D1 ∧ D1 < W1.heap.size := by have := t1.2.2.2 D1 (by simp); omega
    clear t1 tj
    gi_wp2_with (fail)
    have hVz2 : (W1.setCell ⟨S + 2, 0, none⟩ (.int .i64 (n : Int))).heap.size = W1.heap.size := by simp
    obtain ⟨V2, hV2⟩ : ∃ V2, W1.setCell ⟨S + 2, 0, none⟩ (.int .i64 (n : Int)) = V2 := ⟨_, rfl⟩
    rw [hV2] at t2 hVz2 ⊢
    rw [← hVz2] at t2 hz1 hd1
    clear hV2 p7 pf pc hVz2
    refine range_cut 2 (fun D W => D1 < D ∧ ∃ v, TlJ s Y7 S v [D, D1] W.heap.size W) ?_ (fun _ _ h => h) ?_
    · refine range_back0 s (by omega) (S + 1) t2.2.1.2 rfl (fun pre X => TlJ s Y7 S (.int .i64 ((n : Int) - (pre.length : Int))) [D1] V2.heap.size X ∧ pre <+: revL s) (fun c pre X => c = .exit 2 ∧ ∃ v, TlJ s Y7 S v [D1] V2.heap.size X)
        (tlJ_abT (f := fun pre => .int .i64 ((n : Int) - (pre.length : Int))) (p := fun pre => pre <+: revL s) (by omega) hYS.out) (fun c t X Z row h hg hr => ⟨h.1, h.2.imp fun v h => h.grown (by omega) hYS.out hg (fun r e => (hr r e).1)⟩) ⟨by simpa using t2, List.nil_prefix⟩ ?assign ?body ?done ?stop
      case assign =>
        intro l x W K hK
        gi_wp2
        exact hK
      case body =>
        rintro l pre x X ⟨h1, h2⟩ hlen hdue
        have e0 := (h1.old (show Boxed Y7 _ _ _ from HD.out.1) l0).cell
        have e7 := (h1.old (show Boxed Y7 _ _ _ from HD.out.2.2.1) l7).cell
        have e1 := h1.2.2.1.cell
        have e2 := h1.2.2.1.frozen
        have hXz := h1.1.2
        have hpl : pre.length + 1 ≤ n := by have := hdue.length_le; rw [revL_len, HN.out] at this; simpa using this
        obtain ⟨j, hj⟩ : ∃ j, pre.length = j := ⟨_, rfl⟩
        rw [hj] at e1 hpl
        have j1 : IntKind.i64.wrap ((n : Int) - ((n : Int) - (j : Int))) = (j : Int) := by rw [show (n : Int) - ((n : Int) - (j : Int)) = (j : Int) by omega]; exact IntWalk.i64_in _ (by omega)
        have j2 : IntKind.i64.wrap ((n : Int) - (j : Int) - 1) = (n : Int) - (j : Int) - 1 := IntWalk.i64_in _ (by omega)
        obtain ⟨bb, hbb⟩ : ∃ b, ((j : Int) == early) = b := ⟨_, rfl⟩
        have HX := Lib.hid (And.intro h1 (And.intro hdue (show (pre ++ [x]).length = j + 1 by simp [hj])))
        clear h1 h2 hdue hj
        cases bb
        · simp only [celV, List.setIfInBounds_toArray, List.set_cons_zero, List.set_cons_succ]
          gi_wp2
          obtain ⟨h1, hdue, hl⟩ := HX.out
          refine ⟨kf_set _ _, ⟨KeepsWalks.setCell _ _ _, fun k hk _ => Below.heap_setCell _ _ _ _ (by dsimp only; omega)⟩, ?_, hdue⟩
          rw [hl]; push_cast
          rw [show (n : Int) - ((j : Int) + 1) = (n : Int) - (j : Int) - 1 by omega]
          exact h1.set _
        · simp only [celV, List.setIfInBounds_toArray, List.set_cons_zero, List.set_cons_succ]
          gi_wp2
          obtain ⟨h1, hdue, hl⟩ := HX.out
          exact ⟨kf_below (Below.refl _ _), rfl, _, h1⟩
      case done =>
        rintro D W hD ⟨h1, _⟩ hK
        exact ⟨.inl rfl, D, ⟨by omega, _, h1.next (by omega) hD hK⟩, rfl⟩
      case stop =>
        rintro D c pre W hD _ ⟨rfl, v, h1⟩ hK
        gi_wp2
        first | exact ⟨by omega, _, h1.next (by omega) hD hK⟩ | exact ⟨_, h1.next (by omega) hD hK⟩
    · rintro D2 W2 ⟨h12, v2, t3⟩
      have p7 := (t3.old (show Boxed Y7 _ _ _ from HD.out.2.2.1) l7).cell
      have pf := t3.2.2.1.frozen
      have pc := t3.2.2.1.cell
      have t4 := t3.set (.int .i64 (n : Int))
      have hz2 : S + 3 ≤ W2.heap.size := by have := t3.2.2.2 D2 (by simp); omega
      have hd2 : S + 2 < D2 ∧ D2 < W2.heap.size := by have := t3.2.2.2 D2 (by simp); omega
      clear t2 t3
      gi_wp2_with (fail)
      have hVz3 : (W2.setCell ⟨S + 2, 0, none⟩ (.int .i64 (n : Int))).heap.size = W2.heap.size := by simp
      obtain ⟨V3, hV3⟩ : ∃ V3, W2.setCell ⟨S + 2, 0, none⟩ (.int .i64 (n : Int)) = V3 := ⟨_, rfl⟩
      rw [hV3] at t4 hVz3 ⊢
      rw [← hVz3] at t4 hz2 hd2
      clear hV3 p7 pf pc hVz3
      refine range_back 11 s (by omega) (S + 1) t4.2.1.2 rfl (fun pre X => TlJ s Y7 S (.int .i64 ((n - pre.length : Nat) : Int)) [D2, D1] V3.heap.size X ∧ pre <+: revL s) (fun _ _ _ => False)
        (tlJ_abT (f := fun pre => .int .i64 ((n - pre.length : Nat) : Int)) (p := fun pre => pre <+: revL s) (by omega) hYS.out) (fun _ _ _ _ _ h _ _ => h) ⟨by simpa using t4, List.nil_prefix⟩ ?assign ?body ?done ?stop
      case assign =>
        intro l x W K hK
        simp only [celV] at hK ⊢
        gi_wp2
        exact hK
      case stop => exact fun _ _ _ _ _ _ h _ => h.elim
      case body =>
        rintro l pre x Bx X ⟨h1, h2⟩ hle hbx hlen hdue
        have hpl : pre.length + 1 ≤ n := by have := hdue.length_le; rw [revL_len, HN.out] at this; simpa using this
        obtain ⟨i, hi⟩ : ∃ i, n - 1 - pre.length = i := ⟨_, rfl⟩
        have hx : (cellsL s)[i]? = some x := by
          have := pre_at hdue
          rw [revL_at s pre.length (by rw [HN.out]; omega), HN.out, hi] at this
          exact this
        obtain ⟨gg, off, hog, c0, c1, c2⟩ := (h1.row hYS.out HD.out.2.2.2.1) i x hx
        have bx : Blk X Bx #[.int .i64 (x.1 : Nat), .int .i64 (x.2.1 : Nat), .int .i64 (x.2.2 : Nat)] 26 := hbx
        have e7 := (h1.old (show Boxed Y7 _ _ _ from HD.out.2.2.1) l7).cell
        have e1 := h1.2.2.1.cell
        have e2 := h1.2.2.1.frozen
        have hXz := h1.1.2
        have hai : n - pre.length = i + 1 := by omega
        rw [hai] at e1
        have j2 : IntKind.i64.wrap ((i : Int) + 1 - 1) = (i : Int) := by rw [show (i : Int) + 1 - 1 = (i : Int) by omega]; exact IntWalk.i64_in _ (by omega)
        have t5 := h1.set (.int .i64 (i : Int))
        have hgl : gg < S := by
          have := lt_cell (HD.out.2.2.2.1 i x hx).choose_spec.choose_spec.2.1
          obtain ⟨g2, f2, ho2, k0, _, _⟩ := HD.out.2.2.2.1 i x hx
          rw [hog] at ho2
          cases ho2
          have := lt_cell k0
          have := hYS.out
          omega
        have a0 := at_other c0 (show gg ≠ S + 2 by omega) 0 (.int .i64 (i : Int))
        have a1 := at_other c1 (show gg ≠ S + 2 by omega) 0 (.int .i64 (i : Int))
        have a2 := at_other c2 (show gg ≠ S + 2 by omega) 0 (.int .i64 (i : Int))
        have bx2 := bx.other (B' := S + 2) (by omega) 0 (.int .i64 (i : Int))
        have b0 := bx2.cell 0
        have b1 := bx2.cell 1
        have b2 := bx2.cell 2
        have e5 := (t5.old (show Boxed Y7 _ _ _ from HD.out.2.2.1) l7).cell
        have e6 := t5.2.2.1.cell
        simp only [List.getElem?_toArray, List.getElem?_cons_succ, List.getElem?_cons_zero] at b0 b1 b2
        have q1 : (0 : Int) ≤ (i : Int) := by omega
        have q2 : (i : Int) < (n : Int) := by omega
        have HX := Lib.hid (And.intro t5 (And.intro hdue (show n - (pre ++ [x]).length = i by simp; omega)))
        clear h1 h2 hdue hx c0 c1 c2 bx hbx bx2 t5 hi hai e7
        subst hog
        simp only [celV, List.setIfInBounds_toArray, List.set_cons_zero, List.set_cons_succ]
        gi_wp2
        obtain ⟨X1, hX1⟩ : ∃ Y, X.setCell ⟨S + 2, 0, none⟩ (.int .i64 (i : Int)) = Y := ⟨_, rfl⟩
        have HK := Lib.hid (show KeepsFrom V3.heap.size X X1 ∧ KpR (V3.heap.size + 2) X X1 from by
          rw [← hX1]
          exact ⟨kf_set _ _, ⟨KeepsWalks.setCell _ _ _, fun k hk _ => Below.heap_setCell _ _ _ _ (by dsimp only; omega)⟩⟩)
        rw [hX1] at a0 a1 a2 b0 b1 b2 e5 e6 HX ⊢
        clear hX1
        refine round_g (S := untilG [] (fun Y => Below X1.heap.size X1 Y)) (by kernel_rfl) (by kernel_rfl) (noOut (fun _ _ h => h)) ?_
        obtain ⟨X0, hX0⟩ : ∃ Y, X1.drew = Y := ⟨_, rfl⟩
        have T0 : Below X1.heap.size X1 X0 := hX0 ▸ (Below.refl X1.heap.size X1).drew
        rw [hX0]
        clear hX0
        refine wpAnyG_take [0, 1, 2, 3, 4, 5, 6, 7, 8, 9] (i := 0) (v := (.int .i64 i)) rfl (by kernel_rfl) (by kernel_rfl) (by kernel_rfl) (by kernel_rfl) (by kernel_rfl) (by kernel_rfl) (by kernel_rfl) (by kernel_rfl) (fun _ _ _ h => h) (Or.inl ⟨by rfl, ?hy⟩) T0 ?_
        case hy =>
          intro X hX
          have e0 := at_below e6 hX
          go_simp
        try simp only [Act.put, List.getElem_toArray, List.getElem_cons_zero, List.getElem_cons_succ, List.setIfInBounds_toArray, List.set_cons_zero, List.set_cons_succ]
        refine wpAnyG_take [1, 2, 3, 4, 5, 6, 7, 8, 9] (i := 1) (v := (.bool false)) rfl (by kernel_rfl) (by kernel_rfl) (by kernel_rfl) (by kernel_rfl) (by kernel_rfl) (by kernel_rfl) (by kernel_rfl) (by kernel_rfl) (fun _ _ _ h => h) (Or.inl ⟨by rfl, ?hy⟩) T0 ?_
        case hy =>
          intro X hX
          go_simp
        try simp only [Act.put, List.getElem_toArray, List.getElem_cons_zero, List.getElem_cons_succ, List.setIfInBounds_toArray, List.set_cons_zero, List.set_cons_succ]
        refine wpAnyG_take [2, 3, 4, 5, 6, 7, 8, 9] (i := 2) (v := (.bool false)) rfl (by kernel_rfl) (by kernel_rfl) (by kernel_rfl) (by kernel_rfl) (by kernel_rfl) (by kernel_rfl) (by kernel_rfl) (by kernel_rfl) (fun _ _ _ h => h) (Or.inl ⟨by rfl, ?hy⟩) T0 ?_
        case hy =>
          intro X hX
          go_simp
        try simp only [Act.put, List.getElem_toArray, List.getElem_cons_zero, List.getElem_cons_succ, List.setIfInBounds_toArray, List.set_cons_zero, List.set_cons_succ]
        refine wpAnyG_take [3, 8, 9] (i := 3) (v := (.agg #[.int .i64 (x.1 : Nat), .int .i64 (x.2.1 : Nat), .int .i64 (x.2.2 : Nat)])) rfl (by kernel_rfl) (by kernel_rfl) (by kernel_rfl) (by kernel_rfl) (by kernel_rfl) (by kernel_rfl) (by kernel_rfl) (by kernel_rfl) (fun _ _ _ h => h) (Or.inl ⟨by rfl, ?hy⟩) T0 ?_
        case hy =>
          intro X hX
          have e0 := at_below b0 hX
          have e1 := at_below b1 hX
          have e2 := at_below b2 hX
          go_simp
        try simp only [Act.put, List.getElem_toArray, List.getElem_cons_zero, List.getElem_cons_succ, List.setIfInBounds_toArray, List.set_cons_zero, List.set_cons_succ]
        refine wpAnyG_take [4, 6, 7, 8, 9] (i := 4) (v := (.slice (some ⟨gg, off, none⟩) n cap)) rfl (by kernel_rfl) (by kernel_rfl) (by kernel_rfl) (by kernel_rfl) (by kernel_rfl) (by kernel_rfl) (by kernel_rfl) (by kernel_rfl) (fun _ _ _ h => h) (Or.inl ⟨by rfl, ?hy⟩) T0 ?_
        case hy =>
          intro X hX
          have e0 := at_below e5 hX
          go_simp
        try simp only [Act.put, List.getElem_toArray, List.getElem_cons_zero, List.getElem_cons_succ, List.setIfInBounds_toArray, List.set_cons_zero, List.set_cons_succ]
        refine wpAnyG_take [5, 6, 7, 8, 9] (i := 5) (v := (.int .i64 i)) rfl (by kernel_rfl) (by kernel_rfl) (by kernel_rfl) (by kernel_rfl) (by kernel_rfl) (by kernel_rfl) (by kernel_rfl) (by kernel_rfl) (fun _ _ _ h => h) (Or.inl ⟨by rfl, ?hy⟩) T0 ?_
        case hy =>
          intro X hX
          have e0 := at_below e6 hX
          go_simp
        try simp only [Act.put, List.getElem_toArray, List.getElem_cons_zero, List.getElem_cons_succ, List.setIfInBounds_toArray, List.set_cons_zero, List.set_cons_succ]
        refine wpAnyG_take [6, 7, 8, 9] (i := 6) (v := (.pointer (some ⟨gg, off + i * 3, none⟩))) rfl (by kernel_rfl) (by kernel_rfl) (by kernel_rfl) (by kernel_rfl) (by kernel_rfl) (by kernel_rfl) (by kernel_rfl) (by kernel_rfl) (fun _ _ _ h => h) (Or.inl ⟨by rfl, ?hy⟩) T0 ?_
        case hy =>
          intro X hX
          go_simp
        try simp only [Act.put, List.getElem_toArray, List.getElem_cons_zero, List.getElem_cons_succ, List.setIfInBounds_toArray, List.set_cons_zero, List.set_cons_succ]
        refine wpAnyG_take [7, 8, 9] (i := 7) (v := (.agg #[.int .i64 (x.1 : Nat), .int .i64 (x.2.1 : Nat), .int .i64 (x.2.2 : Nat)])) rfl (by kernel_rfl) (by kernel_rfl) (by kernel_rfl) (by kernel_rfl) (by kernel_rfl) (by kernel_rfl) (by kernel_rfl) (by kernel_rfl) (fun _ _ _ h => h) (Or.inl ⟨by rfl, ?hy⟩) T0 ?_
        case hy =>
          intro X hX
          have e0 := at_below a0 hX
          have e1 := at_below a1 hX
          have e2 := at_below a2 hX
          go_simp
        try simp only [Act.put, List.getElem_toArray, List.getElem_cons_zero, List.getElem_cons_succ, List.setIfInBounds_toArray, List.set_cons_zero, List.set_cons_succ]
        refine wpAnyG_take [8, 9] (i := 8) (v := (.bool false)) rfl (by kernel_rfl) (by kernel_rfl) (by kernel_rfl) (by kernel_rfl) (by kernel_rfl) (by kernel_rfl) (by kernel_rfl) (by kernel_rfl) (fun _ _ _ h => h) (Or.inl ⟨by rfl, ?hy⟩) T0 ?_
        case hy =>
          intro X hX
          go_simp
        try simp only [Act.put, List.getElem_toArray, List.getElem_cons_zero, List.getElem_cons_succ, List.setIfInBounds_toArray, List.set_cons_zero, List.set_cons_succ]
        refine wpAnyG_take [9] (i := 9) (v := (.bool false)) rfl (by kernel_rfl) (by kernel_rfl) (by kernel_rfl) (by kernel_rfl) (by kernel_rfl) (by kernel_rfl) (by kernel_rfl) (by kernel_rfl) (fun _ _ _ h => h) (Or.inl ⟨by rfl, ?hy⟩) T0 ?_
        case hy =>
          intro X hX
          go_simp
        try simp only [Act.put, List.getElem_toArray, List.getElem_cons_zero, List.getElem_cons_succ, List.setIfInBounds_toArray, List.set_cons_zero, List.set_cons_succ]
        refine wpAnyG_done (by kernel_rfl) ?_ _
        gi_wp2
        obtain ⟨t5, hdue, hl⟩ := HX.out
        refine ⟨HK.out.1.trans (kf_below T0), kpR_t HK.out.2 ⟨(keeps_below T0).walks, fun k _ hk => T0.block k hk⟩, ?_, hdue⟩
        rw [hl]
        exact t5.grown (by omega) hYS.out (grown_none T0) (fun r e => by cases e)
      case done =>
        rintro D3 W3 hD ⟨h1, _⟩ hK
        have t6 := h1.next (by omega) hD hK
        have hn0 : n - (revL s).length = 0 := by rw [revL_len, HN.out]; omega
        rw [hn0] at t6
        have hz3 : S + 3 ≤ W3.heap.size := by have := t6.2.2.2 D3 (by simp); omega
        have hd3 : D2 < D3 ∧ D3 < W3.heap.size := by have := t6.2.2.2 D3 (by simp); omega
        clear h1 hK hn0 t4
        gi_wp2_with (fail)
        refine range_each 12 s (by omega) S t6.2.1.1 rfl (fun _ pre X => TlJ s Y7 S (.int .i64 (pre.length : Nat)) [D3, D2, D1] W3.heap.size X ∧ pre <+: cellsL s) (fun _ _ _ => False)
          (fun _ => tlJ_abO (f := fun pre => .int .i64 (pre.length : Nat)) (p := fun pre => pre <+: cellsL s) (by omega) hYS.out) (fun _ _ _ _ _ h _ _ => h) ⟨t6, List.nil_prefix⟩ ?assign ?body ?done ?stop
        case assign =>
          intro l x W K hK
          simp only [celV] at hK ⊢
          gi_wp2
          exact hK
        case stop => exact fun _ _ _ _ _ _ h _ => h.elim
        case body =>
          rintro l m pre x Bx X ⟨h1, h2⟩ hm1 hle hbl hbx hdue
          have hpl : pre.length + 1 ≤ n := by have := hdue.length_le; rw [HN.out] at this; simpa using this
          have hx := pre_at hdue
          obtain ⟨j, hj⟩ : ∃ j, pre.length = j := ⟨_, rfl⟩
          rw [hj] at hx hpl
          obtain ⟨gg, off, hog, c0, c1, c2⟩ := (h1.row hYS.out HD.out.2.2.2.1) j x hx
          have bx : Blk X Bx #[.int .i64 (x.1 : Nat), .int .i64 (x.2.1 : Nat), .int .i64 (x.2.2 : Nat)] 26 := hbx
          have b0 := bx.cell 0
          have b1 := bx.cell 1
          have b2 := bx.cell 2
          simp only [List.getElem?_toArray, List.getElem?_cons_succ, List.getElem?_cons_zero] at b0 b1 b2
          have e5 := (h1.old (show Boxed Y7 _ _ _ from HD.out.2.2.1) l7).cell
          have e6 := h1.2.2.1.cell
          rw [hj] at e6
          have q1 : (0 : Int) ≤ (j : Int) := by omega
          have q2 : (j : Int) < (n : Int) := by omega
          have q3 : decide ((n : Int) ≤ (j : Int)) = false := decide_eq_false (by omega)
          have q3n : decide (n ≤ j) = false := decide_eq_false (by omega)
          have j1 : IntKind.i64.wrap ((j : Int) + 1) = (j : Int) + 1 := IntWalk.i64_in _ (by omega)
          have HX := Lib.hid (And.intro h1 (And.intro hdue (show (pre ++ [x]).length = j + 1 by simp [hj])))
          clear h1 h2 hdue hx hj bx hbx
          subst hog
          simp only [celV, List.setIfInBounds_toArray, List.set_cons_zero, List.set_cons_succ]
          gi_wp2_with (fail)
          refine round_g (S := untilG [] (fun Y => Below X.heap.size X Y)) (by kernel_rfl) (by kernel_rfl) (noOut (fun _ _ h => h)) ?_
          obtain ⟨X0, hX0⟩ : ∃ Y, X.drew = Y := ⟨_, rfl⟩
          have T0 : Below X.heap.size X X0 := hX0 ▸ (Below.refl X.heap.size X).drew
          rw [hX0]
          clear hX0
          refine wpAnyG_take [0, 3, 4, 5, 6, 7, 8, 9, 10, 11] (i := 0) (v := (.int .i64 j)) rfl (by kernel_rfl) (by kernel_rfl) (by kernel_rfl) (by kernel_rfl) (by kernel_rfl) (by kernel_rfl) (by kernel_rfl) (by kernel_rfl) (fun _ _ _ h => h) (Or.inl ⟨by rfl, ?hy⟩) T0 ?_
          case hy =>
            intro X hX
            have e0 := at_below e6 hX
            go_simp
          try simp only [Act.put, List.getElem_toArray, List.getElem_cons_zero, List.getElem_cons_succ, List.setIfInBounds_toArray, List.set_cons_zero, List.set_cons_succ]
          refine wpAnyG_take [1, 2, 3, 4, 5, 6, 7, 8, 9, 10, 11] (i := 1) (v := (.slice (some ⟨gg, off, none⟩) n cap)) rfl (by kernel_rfl) (by kernel_rfl) (by kernel_rfl) (by kernel_rfl) (by kernel_rfl) (by kernel_rfl) (by kernel_rfl) (by kernel_rfl) (fun _ _ _ h => h) (Or.inl ⟨by rfl, ?hy⟩) T0 ?_
          case hy =>
            intro X hX
            have e0 := at_below e5 hX
            go_simp
          try simp only [Act.put, List.getElem_toArray, List.getElem_cons_zero, List.getElem_cons_succ, List.setIfInBounds_toArray, List.set_cons_zero, List.set_cons_succ]
          refine wpAnyG_take [2, 3, 4, 5, 6, 7, 8, 9, 10, 11] (i := 2) (v := (.int .i64 n)) rfl (by kernel_rfl) (by kernel_rfl) (by kernel_rfl) (by kernel_rfl) (by kernel_rfl) (by kernel_rfl) (by kernel_rfl) (by kernel_rfl) (fun _ _ _ h => h) (Or.inl ⟨by rfl, ?hy⟩) T0 ?_
          case hy =>
            intro X hX
            go_simp
          try simp only [Act.put, List.getElem_toArray, List.getElem_cons_zero, List.getElem_cons_succ, List.setIfInBounds_toArray, List.set_cons_zero, List.set_cons_succ]
          refine wpAnyG_take [3, 4, 5, 6, 7, 8, 9, 10, 11] (i := 3) (v := (.bool false)) rfl (by kernel_rfl) (by kernel_rfl) (by kernel_rfl) (by kernel_rfl) (by kernel_rfl) (by kernel_rfl) (by kernel_rfl) (by kernel_rfl) (fun _ _ _ h => h) (Or.inl ⟨by rfl, ?hy⟩) T0 ?_
          case hy =>
            intro X hX
            go_simp
          try simp only [Act.put, List.getElem_toArray, List.getElem_cons_zero, List.getElem_cons_succ, List.setIfInBounds_toArray, List.set_cons_zero, List.set_cons_succ]
          refine wpAnyG_take [4, 5, 6, 7, 8, 9, 10, 11] (i := 4) (v := (.bool false)) rfl (by kernel_rfl) (by kernel_rfl) (by kernel_rfl) (by kernel_rfl) (by kernel_rfl) (by kernel_rfl) (by kernel_rfl) (by kernel_rfl) (fun _ _ _ h => h) (Or.inl ⟨by rfl, ?hy⟩) T0 ?_
          case hy =>
            intro X hX
            go_simp
          try simp only [Act.put, List.getElem_toArray, List.getElem_cons_zero, List.getElem_cons_succ, List.setIfInBounds_toArray, List.set_cons_zero, List.set_cons_succ]
          refine wpAnyG_take [5, 10, 11] (i := 5) (v := (.agg #[.int .i64 (x.1 : Nat), .int .i64 (x.2.1 : Nat), .int .i64 (x.2.2 : Nat)])) rfl (by kernel_rfl) (by kernel_rfl) (by kernel_rfl) (by kernel_rfl) (by kernel_rfl) (by kernel_rfl) (by kernel_rfl) (by kernel_rfl) (fun _ _ _ h => h) (Or.inl ⟨by rfl, ?hy⟩) T0 ?_
          case hy =>
            intro X hX
            have e0 := at_below b0 hX
            have e1 := at_below b1 hX
            have e2 := at_below b2 hX
            go_simp
          try simp only [Act.put, List.getElem_toArray, List.getElem_cons_zero, List.getElem_cons_succ, List.setIfInBounds_toArray, List.set_cons_zero, List.set_cons_succ]
          refine wpAnyG_take [6, 8, 9, 10, 11] (i := 6) (v := (.slice (some ⟨gg, off, none⟩) n cap)) rfl (by kernel_rfl) (by kernel_rfl) (by kernel_rfl) (by kernel_rfl) (by kernel_rfl) (by kernel_rfl) (by kernel_rfl) (by kernel_rfl) (fun _ _ _ h => h) (Or.inl ⟨by rfl, ?hy⟩) T0 ?_
          case hy =>
            intro X hX
            have e0 := at_below e5 hX
            go_simp
          try simp only [Act.put, List.getElem_toArray, List.getElem_cons_zero, List.getElem_cons_succ, List.setIfInBounds_toArray, List.set_cons_zero, List.set_cons_succ]
          refine wpAnyG_take [7, 8, 9, 10, 11] (i := 7) (v := (.int .i64 j)) rfl (by kernel_rfl) (by kernel_rfl) (by kernel_rfl) (by kernel_rfl) (by kernel_rfl) (by kernel_rfl) (by kernel_rfl) (by kernel_rfl) (fun _ _ _ h => h) (Or.inl ⟨by rfl, ?hy⟩) T0 ?_
          case hy =>
            intro X hX
            have e0 := at_below e6 hX
            go_simp
          try simp only [Act.put, List.getElem_toArray, List.getElem_cons_zero, List.getElem_cons_succ, List.setIfInBounds_toArray, List.set_cons_zero, List.set_cons_succ]
          refine wpAnyG_take [8, 9, 10, 11] (i := 8) (v := (.pointer (some ⟨gg, off + j * 3, none⟩))) rfl (by kernel_rfl) (by kernel_rfl) (by kernel_rfl) (by kernel_rfl) (by kernel_rfl) (by kernel_rfl) (by kernel_rfl) (by kernel_rfl) (fun _ _ _ h => h) (Or.inl ⟨by rfl, ?hy⟩) T0 ?_
          case hy =>
            intro X hX
            go_simp
          try simp only [Act.put, List.getElem_toArray, List.getElem_cons_zero, List.getElem_cons_succ, List.setIfInBounds_toArray, List.set_cons_zero, List.set_cons_succ]
          refine wpAnyG_take [9, 10, 11] (i := 9) (v := (.agg #[.int .i64 (x.1 : Nat), .int .i64 (x.2.1 : Nat), .int .i64 (x.2.2 : Nat)])) rfl (by kernel_rfl) (by kernel_rfl) (by kernel_rfl) (by kernel_rfl) (by kernel_rfl) (by kernel_rfl) (by kernel_rfl) (by kernel_rfl) (fun _ _ _ h => h) (Or.inl ⟨by rfl, ?hy⟩) T0 ?_
          case hy =>
            intro X hX
            have e0 := at_below c0 hX
            have e1 := at_below c1 hX
            have e2 := at_below c2 hX
            go_simp
          try simp only [Act.put, List.getElem_toArray, List.getElem_cons_zero, List.getElem_cons_succ, List.setIfInBounds_toArray, List.set_cons_zero, List.set_cons_succ]
          refine wpAnyG_take [10, 11] (i := 10) (v := (.bool false)) rfl (by kernel_rfl) (by kernel_rfl) (by kernel_rfl) (by kernel_rfl) (by kernel_rfl) (by kernel_rfl) (by kernel_rfl) (by kernel_rfl) (fun _ _ _ h => h) (Or.inl ⟨by rfl, ?hy⟩) T0 ?_
          case hy =>
            intro X hX
            go_simp
          try simp only [Act.put, List.getElem_toArray, List.getElem_cons_zero, List.getElem_cons_succ, List.setIfInBounds_toArray, List.set_cons_zero, List.set_cons_succ]
          refine wpAnyG_take [11] (i := 11) (v := (.bool false)) rfl (by kernel_rfl) (by kernel_rfl) (by kernel_rfl) (by kernel_rfl) (by kernel_rfl) (by kernel_rfl) (by kernel_rfl) (by kernel_rfl) (fun _ _ _ h => h) (Or.inl ⟨by rfl, ?hy⟩) T0 ?_
          case hy =>
            intro X hX
            go_simp
          try simp only [Act.put, List.getElem_toArray, List.getElem_cons_zero, List.getElem_cons_succ, List.setIfInBounds_toArray, List.set_cons_zero, List.set_cons_succ]
          refine wpAnyG_done (by kernel_rfl) ?_ _
          have t7 := HX.out.1.grown (by omega) hYS.out (grown_none T0) (fun r e => by cases e)
          have v1 := t7.2.2.1.cell
          have v2 := t7.2.2.1.frozen
          have hlj : pre.length = j := by have := HX.out.2.2; simp at this; omega
          rw [hlj] at v1
          have HT7 := Lib.hid (And.intro t7 hlj)
          have HTB := Lib.hid T0
          have hXS := HX.out.1.1.2
          clear t7 hlj T0 b0 b1 b2 e5 e6
          gi_wp2
          obtain ⟨t7, hlj⟩ := HT7.out
          refine ⟨(kf_below HTB.out).trans (kf_set _ _), kpM_t (kpM_below HTB.out (by omega)) (kpM_set (by omega) (by omega) _ _), ?_, HX.out.2.1⟩
          rw [HX.out.2.2]; push_cast
          exact t7.set _
        case done =>
          rintro D4 m W4 hD4 ⟨h1, _⟩ _ hK
          have t8 := h1.next (by omega) hD4 hK
          rw [HN.out] at t8
          have hz4 : S + 3 ≤ W4.heap.size := by have := t8.2.2.2 D4 (by simp); omega
          have hd4 : D3 < D4 := by omega
          clear h1 hK hD4 t6
          gi_wp2_with (fail)
          refine (callsIn_wide.2 (cA _)).mono ?_
          rintro e z1 ⟨rfl, hb⟩
          have t8 := t8.grown (by omega) hYS.out (grown_none hb) (fun r e => by cases e)
          clear hb
          have q1 := Blk.new z1 #[.int .i64 qa1, .int .i64 qb1, .int .i64 qc1] 26
          have t8 := t8.grown (by omega) hYS.out (grown_none ((Below.refl z1.heap.size z1).alloc (Nat.le_refl _) (.cells #[.int .i64 qa1, .int .i64 qb1, .int .i64 qc1] 26))) (fun r e => by cases e)
          gi_wp2_with (fail)
          refine (callsIn_wide.2 (cAD _)).mono ?_
          rintro e z2 ⟨rfl, hb⟩
          have t8 := t8.grown (by omega) hYS.out (grown_none hb) (fun r e => by cases e)
          have q1 := Blk.below' q1 hb
          clear hb
          have q2 := Blk.new z2 #[.int .i64 qa1, .int .i64 qb1, .int .i64 qc1] 26
          have q1 := q1.alloc (.cells #[.int .i64 qa1, .int .i64 qb1, .int .i64 qc1] 26)
          have t8 := t8.grown (by omega) hYS.out (grown_none ((Below.refl z2.heap.size z2).alloc (Nat.le_refl _) (.cells #[.int .i64 qa1, .int .i64 qb1, .int .i64 qc1] 26))) (fun r e => by cases e)
          gi_wp2_with (fail)
          refine (callsIn_wide.2 (cU _)).mono ?_
          rintro e z3 ⟨rfl, hb⟩
          have t8 := t8.grown (by omega) hYS.out (grown_none hb) (fun r e => by cases e)
          have q1 := Blk.below' q1 hb
          have q2 := Blk.below' q2 hb
          clear hb
          have q3 := Blk.new z3 #[.int .i64 qa2, .int .i64 qb2, .int .i64 qc2] 26
          have q1 := q1.alloc (.cells #[.int .i64 qa2, .int .i64 qb2, .int .i64 qc2] 26)
          have q2 := q2.alloc (.cells #[.int .i64 qa2, .int .i64 qb2, .int .i64 qc2] 26)
          have t8 := t8.grown (by omega) hYS.out (grown_none ((Below.refl z3.heap.size z3).alloc (Nat.le_refl _) (.cells #[.int .i64 qa2, .int .i64 qb2, .int .i64 qc2] 26))) (fun r e => by cases e)
          gi_wp2_with (fail)
          refine (callsIn_wide.2 (cUD _)).mono ?_
          rintro e z4 ⟨rfl, hb⟩
          have t8 := t8.grown (by omega) hYS.out (grown_none hb) (fun r e => by cases e)
          have q1 := Blk.below' q1 hb
          have q2 := Blk.below' q2 hb
          have q3 := Blk.below' q3 hb
          clear hb
          have q4 := Blk.new z4 #[.int .i64 qa2, .int .i64 qb2, .int .i64 qc2] 26
          have q1 := q1.alloc (.cells #[.int .i64 qa2, .int .i64 qb2, .int .i64 qc2] 26)
          have q2 := q2.alloc (.cells #[.int .i64 qa2, .int .i64 qb2, .int .i64 qc2] 26)
          have q3 := q3.alloc (.cells #[.int .i64 qa2, .int .i64 qb2, .int .i64 qc2] 26)
          have t8 := t8.grown (by omega) hYS.out (grown_none ((Below.refl z4.heap.size z4).alloc (Nat.le_refl _) (.cells #[.int .i64 qa2, .int .i64 qb2, .int .i64 qc2] 26))) (fun r e => by cases e)
          have v10 := q1.cell 0
          have v11 := q1.cell 1
          have v12 := q1.cell 2
          have v20 := q2.cell 0
          have v21 := q2.cell 1
          have v22 := q2.cell 2
          have v30 := q3.cell 0
          have v31 := q3.cell 1
          have v32 := q3.cell 2
          have v40 := q4.cell 0
          have v41 := q4.cell 1
          have v42 := q4.cell 2
          simp only [List.getElem?_toArray, List.getElem?_cons_succ, List.getElem?_cons_zero] at v10 v11 v12 v20 v21 v22 v30 v31 v32 v40 v41 v42
          have e10 := t8.2.2.1.cell
          have e7 := (t8.old (show Boxed Y7 _ _ _ from HD.out.2.2.1) l7).cell
          have HT := Lib.hid t8
          clear t8 q1 q2 q3 q4
          have ho1 := HO1.out
          have ho2 := HO2.out
          rcases ho1 with ⟨rfl, rfl⟩ | ⟨rfl, rfl⟩ <;> rcases ho2 with ⟨rfl, rfl⟩ | ⟨rfl, rfl⟩
          · gi_wp2_with (fail)
            refine (callsIn_wide.2 (works_any _)).mono ?_
            rintro e Z1 ⟨rfl, T0⟩
            have t9 := HT.out.grown (by omega) hYS.out (grown_none T0) (fun r e => by cases e)
            have g8 := t9.old (show Boxed Y7 _ _ _ from HD.out.2.1) l1
            have g8c := g8.cell
            have g8f := g8.frozen
            gi_wp2_with (fail)
            have g9 := g8.set (.bool true)
            have hB9 := (HD.out.2.2.2.2.trans (t9.1.1.mono (show w.heap.size ≤ S by omega))).setCell (p := ⟨w.heap.size + 1, 0, none⟩) (by dsimp only; omega) (.bool true)
            obtain ⟨m1, _, k1⟩ := t9.2.2.2 D1 (by simp)
            obtain ⟨m2, _, k2⟩ := t9.2.2.2 D2 (by simp)
            obtain ⟨m3, _, k3⟩ := t9.2.2.2 D3 (by simp)
            obtain ⟨m4, _, k4⟩ := t9.2.2.2 D4 (by simp)
            replace k1 := (Below.heap_setCell Z1 ⟨w.heap.size + 1, 0, none⟩ (.bool true) D1 (by dsimp only; omega)).trans k1
            replace k2 := (Below.heap_setCell Z1 ⟨w.heap.size + 1, 0, none⟩ (.bool true) D2 (by dsimp only; omega)).trans k2
            replace k3 := (Below.heap_setCell Z1 ⟨w.heap.size + 1, 0, none⟩ (.bool true) D3 (by dsimp only; omega)).trans k3
            replace k4 := (Below.heap_setCell Z1 ⟨w.heap.size + 1, 0, none⟩ (.bool true) D4 (by dsimp only; omega)).trans k4
            have g9 := g9.cell
            obtain ⟨Z, hZ⟩ : ∃ Z, Z1.setCell ⟨w.heap.size + 1, 0, none⟩ (.bool true) = Z := ⟨_, rfl⟩
            rw [hZ] at g9 hB9 k1 k2 k3 k4 ⊢
            clear hZ t9 T0
            obtain ⟨g10, hB10, o10⟩ := put_step (show w.heap.size + 1 < D4 by omega) (by omega) k4 g9 hB9
            obtain ⟨g11, hB11, o11⟩ := put_step (show w.heap.size + 1 < D3 by omega) (by omega) ((o10 D3 (by omega)).trans k3) g10 hB10
            obtain ⟨g12, hB12, o12⟩ := put_step (show w.heap.size + 1 < D2 by omega) (by omega) ((o11 D2 (by omega)).trans ((o10 D2 (by omega)).trans k2)) g11 hB11
            obtain ⟨g13, hB13, o13⟩ := put_step (show w.heap.size + 1 < D1 by omega) (by omega) ((o12 D1 (by omega)).trans ((o11 D1 (by omega)).trans ((o10 D1 (by omega)).trans k1))) g12 hB12
            refine ⟨by simp, .inl ⟨_, _, rfl, run_takeDeferred (w := Z) k4, ?_⟩⟩
            refine ⟨by simp, .inl ⟨_, _, rfl, run_takeDeferred ((o10 D3 (by omega)).trans k3), ?_⟩⟩
            refine ⟨by simp, .inl ⟨_, _, rfl, run_takeDeferred ((o11 D2 (by omega)).trans ((o10 D2 (by omega)).trans k2)), ?_⟩⟩
            refine ⟨by simp, .inl ⟨_, _, rfl, run_takeDeferred ((o12 D1 (by omega)).trans ((o11 D1 (by omega)).trans ((o10 D1 (by omega)).trans k1))), ?_⟩⟩
            refine ⟨.bool true, ?_, rfl, hB13⟩
            simp [results, Try.f4, go_sem, g13]
          · gi_wp2_with (fail)
            refine (callsIn_wide.2 (works_any _)).mono ?_
            rintro e Z1 ⟨rfl, T0⟩
            have t9 := HT.out.grown (by omega) hYS.out (grown_none T0) (fun r e => by cases e)
            have g8 := t9.old (show Boxed Y7 _ _ _ from HD.out.2.1) l1
            have g8c := g8.cell
            have g8f := g8.frozen
            gi_wp2_with (fail)
            have g9 := g8.set (.bool true)
            have hB9 := (HD.out.2.2.2.2.trans (t9.1.1.mono (show w.heap.size ≤ S by omega))).setCell (p := ⟨w.heap.size + 1, 0, none⟩) (by dsimp only; omega) (.bool true)
            obtain ⟨m1, _, k1⟩ := t9.2.2.2 D1 (by simp)
            obtain ⟨m2, _, k2⟩ := t9.2.2.2 D2 (by simp)
            obtain ⟨m3, _, k3⟩ := t9.2.2.2 D3 (by simp)
            obtain ⟨m4, _, k4⟩ := t9.2.2.2 D4 (by simp)
            replace k1 := (Below.heap_setCell Z1 ⟨w.heap.size + 1, 0, none⟩ (.bool true) D1 (by dsimp only; omega)).trans k1
            replace k2 := (Below.heap_setCell Z1 ⟨w.heap.size + 1, 0, none⟩ (.bool true) D2 (by dsimp only; omega)).trans k2
            replace k3 := (Below.heap_setCell Z1 ⟨w.heap.size + 1, 0, none⟩ (.bool true) D3 (by dsimp only; omega)).trans k3
            replace k4 := (Below.heap_setCell Z1 ⟨w.heap.size + 1, 0, none⟩ (.bool true) D4 (by dsimp only; omega)).trans k4
            have g9 := g9.cell
            obtain ⟨Z, hZ⟩ : ∃ Z, Z1.setCell ⟨w.heap.size + 1, 0, none⟩ (.bool true) = Z := ⟨_, rfl⟩
            rw [hZ] at g9 hB9 k1 k2 k3 k4 ⊢
            clear hZ t9 T0
            obtain ⟨g10, hB10, o10⟩ := put_step (show w.heap.size + 1 < D4 by omega) (by omega) k4 g9 hB9
            obtain ⟨g11, hB11, o11⟩ := put_step (show w.heap.size + 1 < D3 by omega) (by omega) ((o10 D3 (by omega)).trans k3) g10 hB10
            obtain ⟨g12, hB12, o12⟩ := put_step (show w.heap.size + 1 < D2 by omega) (by omega) ((o11 D2 (by omega)).trans ((o10 D2 (by omega)).trans k2)) g11 hB11
            obtain ⟨g13, hB13, o13⟩ := put_step (show w.heap.size + 1 < D1 by omega) (by omega) ((o12 D1 (by omega)).trans ((o11 D1 (by omega)).trans ((o10 D1 (by omega)).trans k1))) g12 hB12
            refine ⟨by simp, .inl ⟨_, _, rfl, run_takeDeferred (w := Z) k4, ?_⟩⟩
            refine ⟨by simp, .inl ⟨_, _, rfl, run_takeDeferred ((o10 D3 (by omega)).trans k3), ?_⟩⟩
            refine ⟨by simp, .inl ⟨_, _, rfl, run_takeDeferred ((o11 D2 (by omega)).trans ((o10 D2 (by omega)).trans k2)), ?_⟩⟩
            refine ⟨by simp, .inl ⟨_, _, rfl, run_takeDeferred ((o12 D1 (by omega)).trans ((o11 D1 (by omega)).trans ((o10 D1 (by omega)).trans k1))), ?_⟩⟩
            refine ⟨.bool true, ?_, rfl, hB13⟩
            simp [results, Try.f4, go_sem, g13]
          · gi_wp2_with (fail)
            refine (callsIn_wide.2 (works_any _)).mono ?_
            rintro e Z1 ⟨rfl, T0⟩
            have t9 := HT.out.grown (by omega) hYS.out (grown_none T0) (fun r e => by cases e)
            have g8 := t9.old (show Boxed Y7 _ _ _ from HD.out.2.1) l1
            have g8c := g8.cell
            have g8f := g8.frozen
            gi_wp2_with (fail)
            have g9 := g8.set (.bool true)
            have hB9 := (HD.out.2.2.2.2.trans (t9.1.1.mono (show w.heap.size ≤ S by omega))).setCell (p := ⟨w.heap.size + 1, 0, none⟩) (by dsimp only; omega) (.bool true)
            obtain ⟨m1, _, k1⟩ := t9.2.2.2 D1 (by simp)
            obtain ⟨m2, _, k2⟩ := t9.2.2.2 D2 (by simp)
            obtain ⟨m3, _, k3⟩ := t9.2.2.2 D3 (by simp)
            obtain ⟨m4, _, k4⟩ := t9.2.2.2 D4 (by simp)
            replace k1 := (Below.heap_setCell Z1 ⟨w.heap.size + 1, 0, none⟩ (.bool true) D1 (by dsimp only; omega)).trans k1
            replace k2 := (Below.heap_setCell Z1 ⟨w.heap.size + 1, 0, none⟩ (.bool true) D2 (by dsimp only; omega)).trans k2
            replace k3 := (Below.heap_setCell Z1 ⟨w.heap.size + 1, 0, none⟩ (.bool true) D3 (by dsimp only; omega)).trans k3
            replace k4 := (Below.heap_setCell Z1 ⟨w.heap.size + 1, 0, none⟩ (.bool true) D4 (by dsimp only; omega)).trans k4
            have g9 := g9.cell
            obtain ⟨Z, hZ⟩ : ∃ Z, Z1.setCell ⟨w.heap.size + 1, 0, none⟩ (.bool true) = Z := ⟨_, rfl⟩
            rw [hZ] at g9 hB9 k1 k2 k3 k4 ⊢
            clear hZ t9 T0
            obtain ⟨g10, hB10, o10⟩ := put_step (show w.heap.size + 1 < D4 by omega) (by omega) k4 g9 hB9
            obtain ⟨g11, hB11, o11⟩ := put_step (show w.heap.size + 1 < D3 by omega) (by omega) ((o10 D3 (by omega)).trans k3) g10 hB10
            obtain ⟨g12, hB12, o12⟩ := put_step (show w.heap.size + 1 < D2 by omega) (by omega) ((o11 D2 (by omega)).trans ((o10 D2 (by omega)).trans k2)) g11 hB11
            obtain ⟨g13, hB13, o13⟩ := put_step (show w.heap.size + 1 < D1 by omega) (by omega) ((o12 D1 (by omega)).trans ((o11 D1 (by omega)).trans ((o10 D1 (by omega)).trans k1))) g12 hB12
            refine ⟨by simp, .inl ⟨_, _, rfl, run_takeDeferred (w := Z) k4, ?_⟩⟩
            refine ⟨by simp, .inl ⟨_, _, rfl, run_takeDeferred ((o10 D3 (by omega)).trans k3), ?_⟩⟩
            refine ⟨by simp, .inl ⟨_, _, rfl, run_takeDeferred ((o11 D2 (by omega)).trans ((o10 D2 (by omega)).trans k2)), ?_⟩⟩
            refine ⟨by simp, .inl ⟨_, _, rfl, run_takeDeferred ((o12 D1 (by omega)).trans ((o11 D1 (by omega)).trans ((o10 D1 (by omega)).trans k1))), ?_⟩⟩
            refine ⟨.bool true, ?_, rfl, hB13⟩
            simp [results, Try.f4, go_sem, g13]
          · gi_wp2_with (fail)
            refine (callsIn_wide.2 (works_any _)).mono ?_
            rintro e Z1 ⟨rfl, T0⟩
            have t9 := HT.out.grown (by omega) hYS.out (grown_none T0) (fun r e => by cases e)
            have g8 := t9.old (show Boxed Y7 _ _ _ from HD.out.2.1) l1
            have g8c := g8.cell
            have g8f := g8.frozen
            gi_wp2_with (fail)
            have g9 := g8.set (.bool true)
            have hB9 := (HD.out.2.2.2.2.trans (t9.1.1.mono (show w.heap.size ≤ S by omega))).setCell (p := ⟨w.heap.size + 1, 0, none⟩) (by dsimp only; omega) (.bool true)
            obtain ⟨m1, _, k1⟩ := t9.2.2.2 D1 (by simp)
            obtain ⟨m2, _, k2⟩ := t9.2.2.2 D2 (by simp)
            obtain ⟨m3, _, k3⟩ := t9.2.2.2 D3 (by simp)
            obtain ⟨m4, _, k4⟩ := t9.2.2.2 D4 (by simp)
            replace k1 := (Below.heap_setCell Z1 ⟨w.heap.size + 1, 0, none⟩ (.bool true) D1 (by dsimp only; omega)).trans k1
            replace k2 := (Below.heap_setCell Z1 ⟨w.heap.size + 1, 0, none⟩ (.bool true) D2 (by dsimp only; omega)).trans k2
            replace k3 := (Below.heap_setCell Z1 ⟨w.heap.size + 1, 0, none⟩ (.bool true) D3 (by dsimp only; omega)).trans k3
            replace k4 := (Below.heap_setCell Z1 ⟨w.heap.size + 1, 0, none⟩ (.bool true) D4 (by dsimp only; omega)).trans k4
            have g9 := g9.cell
            obtain ⟨Z, hZ⟩ : ∃ Z, Z1.setCell ⟨w.heap.size + 1, 0, none⟩ (.bool true) = Z := ⟨_, rfl⟩
            rw [hZ] at g9 hB9 k1 k2 k3 k4 ⊢
            clear hZ t9 T0
            obtain ⟨g10, hB10, o10⟩ := put_step (show w.heap.size + 1 < D4 by omega) (by omega) k4 g9 hB9
            obtain ⟨g11, hB11, o11⟩ := put_step (show w.heap.size + 1 < D3 by omega) (by omega) ((o10 D3 (by omega)).trans k3) g10 hB10
            obtain ⟨g12, hB12, o12⟩ := put_step (show w.heap.size + 1 < D2 by omega) (by omega) ((o11 D2 (by omega)).trans ((o10 D2 (by omega)).trans k2)) g11 hB11
            obtain ⟨g13, hB13, o13⟩ := put_step (show w.heap.size + 1 < D1 by omega) (by omega) ((o12 D1 (by omega)).trans ((o11 D1 (by omega)).trans ((o10 D1 (by omega)).trans k1))) g12 hB12
            refine ⟨by simp, .inl ⟨_, _, rfl, run_takeDeferred (w := Z) k4, ?_⟩⟩
            refine ⟨by simp, .inl ⟨_, _, rfl, run_takeDeferred ((o10 D3 (by omega)).trans k3), ?_⟩⟩
            refine ⟨by simp, .inl ⟨_, _, rfl, run_takeDeferred ((o11 D2 (by omega)).trans ((o10 D2 (by omega)).trans k2)), ?_⟩⟩
            refine ⟨by simp, .inl ⟨_, _, rfl, run_takeDeferred ((o12 D1 (by omega)).trans ((o11 D1 (by omega)).trans ((o10 D1 (by omega)).trans k1))), ?_⟩⟩
            refine ⟨.bool true, ?_, rfl, hB13⟩
            simp [results, Try.f4, go_sem, g13]
theorem wf_max {a : Int} (h : (Lit.int .i64 a).wf = true) : a ≤ 9223372036854775807 := by
  have h2 : IntKind.i64.min ≤ a ∧ a ≤ IntKind.i64.max := by simpa [Lit.wf] using h
  have h3 : IntKind.i64.max = 9223372036854775807 := by decide
  omega
end Go.Proofs.Ytnbhdgbhmcbeoaa
