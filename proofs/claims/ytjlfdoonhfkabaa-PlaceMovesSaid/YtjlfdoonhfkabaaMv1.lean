/- Places: down. -/
import Derived.Test.YtjlfdoonhfkabaaMv0
import Derived.Test.YtjlfdoonhfkabaaCg
namespace Go.Proofs.Ytjlfdoonhfkabaa
set_option linter.unusedVariables false
set_option linter.unusedSimpArgs false
open Go Go.RowKit Go.Shelf
set_option maxRecDepth 100000

theorem field_b (a b c d e : Value) (X : World) : (Instr.field 28 (.agg #[a, b, c, d, e]) 0).run Try.prog X = .ok a X := by kernel_rfl
theorem field_c (a b c d e : Value) (X : World) : (Instr.field 28 (.agg #[a, b, c, d, e]) 4).run Try.prog X = .ok e X := by kernel_rfl

set_option maxHeartbeats 2000000 in
theorem down_lo (s : ByteArray) (hs : s.size ≤ 65536) (m : Nat) (w : World) (hM : MapAt s m w) (pb pk pu pl pc : Nat) (hpl : pl ≤ 65536) (n : Int) (hn : n < -(pl : Int)) :
    Calls Try.prog 39 #[.pointer (some ⟨m, 0, none⟩), .agg #[.int .i64 pb, .int .i64 pk, .int .i64 pu, .int .i64 pl, .int .i64 pc], .int .i64 n] w fun e w' => e = .returned (plV (pK s 0)) ∧ Below w.heap.size w w' := by
  have hnP := nP_le s
  have hrl := rws_len s
  have q0 := (Blk.new w #[.int .i64 pb, .int .i64 pk, .int .i64 pu, .int .i64 pl, .int .i64 pc] 28).alloc (.cells #[.int .i64 0, .int .i64 0, .int .i64 0, .int .i64 0, .int .i64 0] 28)
  have q1 := Blk.new (w.alloc (.cells #[.int .i64 pb, .int .i64 pk, .int .i64 pu, .int .i64 pl, .int .i64 pc] 28)) #[.int .i64 0, .int .i64 0, .int .i64 0, .int .i64 0, .int .i64 0] 28
  simp only [World.size_alloc] at q1
  have qB : Below w.heap.size w ((w.alloc (.cells #[.int .i64 pb, .int .i64 pk, .int .i64 pu, .int .i64 pl, .int .i64 pc] 28)).alloc (.cells #[.int .i64 0, .int .i64 0, .int .i64 0, .int .i64 0, .int .i64 0] 28)) := ((Below.refl _ w).alloc (Nat.le_refl _) _).alloc (by simp) _
  have hM1 := mapAt_below hM qB
  obtain ⟨ga, ca, gb, cb', h1, h2, h3⟩ := hM
  have hmc := h1.cell 1
  simp only [List.getElem?_toArray, List.getElem?_cons_succ, List.getElem?_cons_zero] at hmc
  obtain ⟨d0, d1, d2, d3, d4⟩ := map_cells (W := (w.alloc (.cells #[.int .i64 pb, .int .i64 pk, .int .i64 pu, .int .i64 pl, .int .i64 pc] 28)).alloc (.cells #[.int .i64 0, .int .i64 0, .int .i64 0, .int .i64 0, .int .i64 0] 28)) (s := s) (ga := ga) (k := 0) (fun j hj => cell_le (plS_len s _) h2 qB j hj) (Nat.zero_le _)
  have hm1 := at_below hmc qB
  have i0 : IntKind.i64.wrap (-(pl : Int)) = -(pl : Int) := IntWalk.i64_in _ (by omega)
  have i1 : decide (n < -(pl : Int)) = true := decide_eq_true hn
  have i2 : (0 : Int) < (nP s : Int) + 1 := by omega
  simp only [pK] at d0 d1 d2 d3 d4
  simp only [plV, pK]
  have c0 := q0.cell
  have c1 := q1.cell
  have c2 := q1.frozen
  have c3 := q1.lt
  have c4 := q0.lt
  clear h1 h2 h3
  go_enter Try.func39, Try.ntmps39
  go_wp2
  refine bodyPost_ret (v := .agg #[.int .i64 0, .int .i64 0, .int .i64 0, .int .i64 0, .int .i64 0]) (by simp [results, Try.f39, go_sem, c1, c3]) rfl ⟨rfl, ?_⟩
  exact qB

set_option maxHeartbeats 2000000 in
theorem down_hi (s : ByteArray) (hs : s.size ≤ 65536) (m : Nat) (w : World) (hM : MapAt s m w) (pb pk pu pl pc : Nat) (hpl : pl ≤ 65536) (n : Int) (hn0 : -(pl : Int) ≤ n) (hn : ((rws s).length : Int) - pl ≤ n) :
    Calls Try.prog 39 #[.pointer (some ⟨m, 0, none⟩), .agg #[.int .i64 pb, .int .i64 pk, .int .i64 pu, .int .i64 pl, .int .i64 pc], .int .i64 n] w fun e w' => e = .returned (plV (pK s (nP s))) ∧ Below w.heap.size w w' := by
  have hnP := nP_le s
  have hrl := rws_len s
  have q0 := (Blk.new w #[.int .i64 pb, .int .i64 pk, .int .i64 pu, .int .i64 pl, .int .i64 pc] 28).alloc (.cells #[.int .i64 0, .int .i64 0, .int .i64 0, .int .i64 0, .int .i64 0] 28)
  have q1 := Blk.new (w.alloc (.cells #[.int .i64 pb, .int .i64 pk, .int .i64 pu, .int .i64 pl, .int .i64 pc] 28)) #[.int .i64 0, .int .i64 0, .int .i64 0, .int .i64 0, .int .i64 0] 28
  simp only [World.size_alloc] at q1
  have qB : Below w.heap.size w ((w.alloc (.cells #[.int .i64 pb, .int .i64 pk, .int .i64 pu, .int .i64 pl, .int .i64 pc] 28)).alloc (.cells #[.int .i64 0, .int .i64 0, .int .i64 0, .int .i64 0, .int .i64 0] 28)) := ((Below.refl _ w).alloc (Nat.le_refl _) _).alloc (by simp) _
  have hM1 := mapAt_below hM qB
  obtain ⟨ga, ca, gb, cb', h1, h2, h3⟩ := hM
  have hmr := h1.cell 2
  simp only [List.getElem?_toArray, List.getElem?_cons_succ, List.getElem?_cons_zero] at hmr
  have hm2 := at_below hmr qB
  have i0 : IntKind.i64.wrap (-(pl : Int)) = -(pl : Int) := IntWalk.i64_in _ (by omega)
  have i1 : decide (n < -(pl : Int)) = false := decide_eq_false (by omega)
  have i3 : IntKind.i64.wrap (((rws s).length : Int) - (pl : Int)) = ((rws s).length : Int) - (pl : Int) := IntWalk.i64_in _ (by omega)
  have c0 := q0.cell
  have i2 : decide (((rws s).length : Int) - (pl : Int) ≤ n) = true := decide_eq_true hn
  clear h1 h2 h3 hn0 hn
  have hE := fun W hM => end_any s hs m W hM
  obtain ⟨r, hr⟩ : ∃ r, pK s (nP s) = r := ⟨_, rfl⟩
  rw [hr] at hE ⊢
  clear hr
  obtain ⟨rb, rk, ru, rl, rc⟩ := r
  simp only [plV] at hE ⊢
  go_enter Try.func39, Try.ntmps39
  go_wp2
  obtain ⟨X1, hX1⟩ : ∃ X, (w.alloc (.cells #[.int .i64 pb, .int .i64 pk, .int .i64 pu, .int .i64 pl, .int .i64 pc] 28)).alloc (.cells #[.int .i64 0, .int .i64 0, .int .i64 0, .int .i64 0, .int .i64 0] 28) = X := ⟨_, rfl⟩
  rw [hX1] at q0 q1 qB hM1 hm2 c0 ⊢
  clear hX1
  refine wp_region_noPanic ?_
  refine wp_region_g (S := untilG [] (fun X => Below X1.heap.size X1 X)) (by kernel_rfl) ?_
  have T0 : Below X1.heap.size X1 X1.drew := (Below.refl X1.heap.size X1).drew
  have e3 := c0 3
  simp only [List.getElem?_toArray, List.getElem?_cons_succ, List.getElem?_cons_zero] at e3
  refine wpAnyG_take [0, 9, 10] (i := 0) (v := (.int .i64 n)) rfl (by kernel_rfl) (by kernel_rfl) (by kernel_rfl) (by kernel_rfl) (by kernel_rfl) (by kernel_rfl) (by kernel_rfl) (by kernel_rfl) (fun _ _ _ h => h) (Or.inl ⟨by rfl, ?hy⟩) T0 ?_
  case hy =>
    intro X hX
    go_simp
  try simp only [Act.put, List.getElem_toArray, List.getElem_cons_zero, List.getElem_cons_succ, List.setIfInBounds_toArray, List.set_cons_zero, List.set_cons_succ]
  refine wpAnyG_take [1, 2, 3, 4, 5, 8, 9, 10] (i := 1) (v := (.pointer (some ⟨m, 0, none⟩))) rfl (by kernel_rfl) (by kernel_rfl) (by kernel_rfl) (by kernel_rfl) (by kernel_rfl) (by kernel_rfl) (by kernel_rfl) (by kernel_rfl) (fun _ _ _ h => h) (Or.inl ⟨by rfl, ?hy⟩) T0 ?_
  case hy =>
    intro X hX
    go_simp
  try simp only [Act.put, List.getElem_toArray, List.getElem_cons_zero, List.getElem_cons_succ, List.setIfInBounds_toArray, List.set_cons_zero, List.set_cons_succ]
  refine wpAnyG_take [2, 3, 4, 5, 8, 9, 10] (i := 2) (v := (.pointer (some ⟨m, 0, none⟩))) rfl (by kernel_rfl) (by kernel_rfl) (by kernel_rfl) (by kernel_rfl) (by kernel_rfl) (by kernel_rfl) (by kernel_rfl) (by kernel_rfl) (fun _ _ _ h => h) (Or.inl ⟨by rfl, ?hy⟩) T0 ?_
  case hy =>
    intro X hX
    go_simp
  try simp only [Act.put, List.getElem_toArray, List.getElem_cons_zero, List.getElem_cons_succ, List.setIfInBounds_toArray, List.set_cons_zero, List.set_cons_succ]
  refine wpAnyG_take [3, 4, 5, 8, 9, 10] (i := 3) (v := (.pointer (some ⟨m, 2, none⟩))) rfl (by kernel_rfl) (by kernel_rfl) (by kernel_rfl) (by kernel_rfl) (by kernel_rfl) (by kernel_rfl) (by kernel_rfl) (by kernel_rfl) (fun _ _ _ h => h) (Or.inl ⟨by rfl, ?hy⟩) T0 ?_
  case hy =>
    intro X hX
    go_simp
  try simp only [Act.put, List.getElem_toArray, List.getElem_cons_zero, List.getElem_cons_succ, List.setIfInBounds_toArray, List.set_cons_zero, List.set_cons_succ]
  refine wpAnyG_take [4, 5, 8, 9, 10] (i := 4) (v := (.slice (some ⟨gb, 0, none⟩) (rws s).length cb')) rfl (by kernel_rfl) (by kernel_rfl) (by kernel_rfl) (by kernel_rfl) (by kernel_rfl) (by kernel_rfl) (by kernel_rfl) (by kernel_rfl) (fun _ _ _ h => h) (Or.inl ⟨by rfl, ?hy⟩) T0 ?_
  case hy =>
    intro X hX
    have e0 := at_below hm2 hX
    go_simp
  try simp only [Act.put, List.getElem_toArray, List.getElem_cons_zero, List.getElem_cons_succ, List.setIfInBounds_toArray, List.set_cons_zero, List.set_cons_succ]
  refine wpAnyG_take [5, 8, 9, 10] (i := 5) (v := (.int .i64 (rws s).length)) rfl (by kernel_rfl) (by kernel_rfl) (by kernel_rfl) (by kernel_rfl) (by kernel_rfl) (by kernel_rfl) (by kernel_rfl) (by kernel_rfl) (fun _ _ _ h => h) (Or.inl ⟨by rfl, ?hy⟩) T0 ?_
  case hy =>
    intro X hX
    go_simp
  try simp only [Act.put, List.getElem_toArray, List.getElem_cons_zero, List.getElem_cons_succ, List.setIfInBounds_toArray, List.set_cons_zero, List.set_cons_succ]
  refine wpAnyG_take [6, 7, 8, 9, 10] (i := 6) (v := (.pointer (some ⟨w.heap.size, 3, none⟩))) rfl (by kernel_rfl) (by kernel_rfl) (by kernel_rfl) (by kernel_rfl) (by kernel_rfl) (by kernel_rfl) (by kernel_rfl) (by kernel_rfl) (fun _ _ _ h => h) (Or.inl ⟨by rfl, ?hy⟩) T0 ?_
  case hy =>
    intro X hX
    go_simp
  try simp only [Act.put, List.getElem_toArray, List.getElem_cons_zero, List.getElem_cons_succ, List.setIfInBounds_toArray, List.set_cons_zero, List.set_cons_succ]
  refine wpAnyG_take [7, 8, 9, 10] (i := 7) (v := (.int .i64 pl)) rfl (by kernel_rfl) (by kernel_rfl) (by kernel_rfl) (by kernel_rfl) (by kernel_rfl) (by kernel_rfl) (by kernel_rfl) (by kernel_rfl) (fun _ _ _ h => h) (Or.inl ⟨by rfl, ?hy⟩) T0 ?_
  case hy =>
    intro X hX
    have e0 := at_below e3 hX
    go_simp
  try simp only [Act.put, List.getElem_toArray, List.getElem_cons_zero, List.getElem_cons_succ, List.setIfInBounds_toArray, List.set_cons_zero, List.set_cons_succ]
  refine wpAnyG_take [8, 9, 10] (i := 8) (v := (.int .i64 ((rws s).length - pl))) rfl (by kernel_rfl) (by kernel_rfl) (by kernel_rfl) (by kernel_rfl) (by kernel_rfl) (by kernel_rfl) (by kernel_rfl) (by kernel_rfl) (fun _ _ _ h => h) (Or.inl ⟨by rfl, ?hy⟩) T0 ?_
  case hy =>
    intro X hX
    go_simp
  try simp only [Act.put, List.getElem_toArray, List.getElem_cons_zero, List.getElem_cons_succ, List.setIfInBounds_toArray, List.set_cons_zero, List.set_cons_succ]
  refine wpAnyG_take [9, 10] (i := 9) (v := (.bool true)) rfl (by kernel_rfl) (by kernel_rfl) (by kernel_rfl) (by kernel_rfl) (by kernel_rfl) (by kernel_rfl) (by kernel_rfl) (by kernel_rfl) (fun _ _ _ h => h) (Or.inl ⟨by rfl, ?hy⟩) T0 ?_
  case hy =>
    intro X hX
    go_simp
  try simp only [Act.put, List.getElem_toArray, List.getElem_cons_zero, List.getElem_cons_succ, List.setIfInBounds_toArray, List.set_cons_zero, List.set_cons_succ]
  refine wpAnyG_take [10] (i := 10) (v := (.bool true)) rfl (by kernel_rfl) (by kernel_rfl) (by kernel_rfl) (by kernel_rfl) (by kernel_rfl) (by kernel_rfl) (by kernel_rfl) (by kernel_rfl) (fun _ _ _ h => h) (Or.inl ⟨by rfl, ?hy⟩) T0 ?_
  case hy =>
    intro X hX
    go_simp
  try simp only [Act.put, List.getElem_toArray, List.getElem_cons_zero, List.getElem_cons_succ, List.setIfInBounds_toArray, List.set_cons_zero, List.set_cons_succ]
  refine wpAnyG_done (by kernel_rfl) ?_ _
  refine NoPanic.normal ?_
  have q2 := q0.drew
  have q3 := q1.drew
  have qB2 := qB.drew
  have hM2 := mapAt_below hM1 T0
  obtain ⟨X2, hX2⟩ : ∃ X, X1.drew = X := ⟨_, rfl⟩
  rw [hX2] at q2 q3 qB2 hM2 ⊢
  clear hX2 q0 q1 qB hM1 T0 hm2 hmr
  go_wp2_with (fail)
  refine (hE X2 hM2).mono ?_
  rintro e w3 ⟨rfl, hb3⟩
  have hB2 := qB2.trans (hb3.mono qB2.size)
  have q4 := q3.below' hb3
  have c1 := q4.cell
  have c2 := q4.frozen
  have c3 := q4.lt
  go_wp2
  refine bodyPost_ret (v := .agg #[.int .i64 rb, .int .i64 rk, .int .i64 ru, .int .i64 rl, .int .i64 rc]) (by simp [results, Try.f39, go_sem, c1, c3]) rfl ⟨rfl, ?_⟩
  exact ((((hB2.setCell (p := ⟨w.heap.size + 1, 0, none⟩) (by dsimp only; omega) _).setCell (p := ⟨w.heap.size + 1, 1, none⟩) (by dsimp only; omega) _).setCell (p := ⟨w.heap.size + 1, 2, none⟩) (by dsimp only; omega) _).setCell (p := ⟨w.heap.size + 1, 3, none⟩) (by dsimp only; omega) _).setCell (p := ⟨w.heap.size + 1, 4, none⟩) (by dsimp only; omega) _

set_option maxHeartbeats 40000000 in
theorem down_any (s : ByteArray) (hs : s.size ≤ 65536) (m : Nat) (w : World) (hM : MapAt s m w) (pb pk pu pl pc : Nat) (hpl : pl ≤ 65536) (hpc : pc ≤ 65536) (n : Int) (k fr tt ee : Nat) (hn : (pl : Int) + n = k) (hk : (rws s)[k]? = some (fr, tt, ee)) (j g : Nat) (hj : j ≤ nP s) (hg : g ≤ nP s) (hjb : (pK s j).b = fr) (hgb : (pK s g).b = tt) :
    Calls Try.prog 39 #[.pointer (some ⟨m, 0, none⟩), .agg #[.int .i64 pb, .int .i64 pk, .int .i64 pu, .int .i64 pl, .int .i64 pc], .int .i64 n] w fun e w' => e = .returned (plV (pK s (min (j + pc) g))) ∧ Below w.heap.size w w' := by
  have hnP := nP_le s
  have hrl := rws_len s
  have hkl : k < (rws s).length := (List.getElem?_eq_some_iff.1 hk).1
  have q0 := (Blk.new w #[.int .i64 pb, .int .i64 pk, .int .i64 pu, .int .i64 pl, .int .i64 pc] 28).alloc (.cells #[.int .i64 0, .int .i64 0, .int .i64 0, .int .i64 0, .int .i64 0] 28)
  have q1 := Blk.new (w.alloc (.cells #[.int .i64 pb, .int .i64 pk, .int .i64 pu, .int .i64 pl, .int .i64 pc] 28)) #[.int .i64 0, .int .i64 0, .int .i64 0, .int .i64 0, .int .i64 0] 28
  simp only [World.size_alloc] at q1
  have qB : Below w.heap.size w ((w.alloc (.cells #[.int .i64 pb, .int .i64 pk, .int .i64 pu, .int .i64 pl, .int .i64 pc] 28)).alloc (.cells #[.int .i64 0, .int .i64 0, .int .i64 0, .int .i64 0, .int .i64 0] 28)) := ((Below.refl _ w).alloc (Nat.le_refl _) _).alloc (by simp) _
  have hM1 := mapAt_below hM qB
  obtain ⟨ga, ca, gb, cb', h1, h2, h3⟩ := hM
  have hmr := h1.cell 2
  simp only [List.getElem?_toArray, List.getElem?_cons_succ, List.getElem?_cons_zero] at hmr
  have hm2 := at_below hmr qB
  have r1 := (rwC_get _ _ _ hk).2.1
  have ht1 := (h3 (k * 3 + 1) (by omega)).trans r1
  have ht2 := at_below ht1 qB
  have hmc := h1.cell 1
  simp only [List.getElem?_toArray, List.getElem?_cons_succ, List.getElem?_cons_zero] at hmc
  have hm1 := at_below hmc qB
  have hcx := fun J (hJ : J ≤ nP s) X (hX : Below w.heap.size w X) => map_cells (s := s) (ga := ga) (k := J) (W := X) (fun i hi => cell_le (plS_len s _) h2 hX i hi) hJ
  have i0 : IntKind.i64.wrap (-(pl : Int)) = -(pl : Int) := IntWalk.i64_in _ (by omega)
  have i1 : decide (n < -(pl : Int)) = false := decide_eq_false (by omega)
  have i3 : IntKind.i64.wrap (((rws s).length : Int) - (pl : Int)) = ((rws s).length : Int) - (pl : Int) := IntWalk.i64_in _ (by omega)
  have c0 := q0.cell
  have i2 : decide (((rws s).length : Int) - (pl : Int) ≤ n) = false := decide_eq_false (by omega)
  have i4 : IntKind.i64.wrap (k : Int) = (k : Int) := IntWalk.i64_in _ (by omega)
  have i5 : (0 : Int) ≤ (k : Int) := by omega
  have i6 : (k : Int) < ((rws s).length : Int) := by omega
  clear h1 h2 h3 ht1 r1
  have hF := fun (W0 : World) (hM0 : MapAt s m W0) => first_any s hs m W0 hM0 k fr tt ee hk j hj (by omega) (fun _ => by rw [← hjb]; exact pK_b_succ s j)
  have hL := fun (W0 : World) (hM0 : MapAt s m W0) (b : Nat) (hb : W0.cell? ⟨b, 0, none⟩ = some (.int .i64 tt)) => last_byte hs hM0 (asks_down s b tt W0 hb) hg (by omega) (fun _ => by rw [← hgb]; exact pK_b_succ s g)
  have hjk := pK_k s j
  have hgk := pK_k s g
  obtain ⟨J, hJ⟩ : ∃ J, min (j + pc) g = J := ⟨_, rfl⟩
  have hJn : J ≤ nP s := by omega
  have hcJ := hcx J hJn
  obtain ⟨f, hf⟩ : ∃ f, pK s j = f := ⟨_, rfl⟩
  obtain ⟨h, hh⟩ : ∃ f, pK s g = f := ⟨_, rfl⟩
  obtain ⟨r, hr⟩ : ∃ f, pK s J = f := ⟨_, rfl⟩
  rw [hf] at hF hjk
  rw [hh] at hL hgk
  rw [hr] at hcJ
  rw [hJ, hr]
  clear hf hh hr hcx hjb hgb hk
  obtain ⟨fb, fk, fu, fl, fc⟩ := f
  obtain ⟨hb, hk, hu, hl, hc⟩ := h
  obtain ⟨rb, rk, ru, rl, rc⟩ := r
  simp only [plV] at hF hL hcJ hjk hgk ⊢
  subst hjk hgk

  have i8 : IntKind.i64.wrap ((fk : Int) + (pc : Int)) = (fk : Int) + (pc : Int) := IntWalk.i64_in _ (by omega)
  have i9 : min ((fk : Int) + (pc : Int)) (hk : Int) = (J : Int) := by omega
  have i10 : (if (hk : Int) < (fk : Int) + (pc : Int) then (hk : Int) else (fk : Int) + (pc : Int)) = (J : Int) := by split <;> omega
  have j0 : (0 : Int) ≤ (J : Int) := by omega
  have j1 : (J : Int) < (nP s : Int) + 1 := by omega
  go_enter Try.func39, Try.ntmps39
  go_wp2
  obtain ⟨X1, hX1⟩ : ∃ X, (w.alloc (.cells #[.int .i64 pb, .int .i64 pk, .int .i64 pu, .int .i64 pl, .int .i64 pc] 28)).alloc (.cells #[.int .i64 0, .int .i64 0, .int .i64 0, .int .i64 0, .int .i64 0] 28) = X := ⟨_, rfl⟩
  rw [hX1] at q0 q1 qB hM1 hm2 c0 hm1 ht2 ⊢
  clear hX1
  refine wp_region_noPanic ?_
  refine wp_region_g (S := untilG [] (fun X => Below X1.heap.size X1 X)) (by kernel_rfl) ?_
  have T0 : Below X1.heap.size X1 X1.drew := (Below.refl X1.heap.size X1).drew
  have e3 := c0 3
  simp only [List.getElem?_toArray, List.getElem?_cons_succ, List.getElem?_cons_zero] at e3
  refine wpAnyG_take [0, 9, 10] (i := 0) (v := (.int .i64 n)) rfl (by kernel_rfl) (by kernel_rfl) (by kernel_rfl) (by kernel_rfl) (by kernel_rfl) (by kernel_rfl) (by kernel_rfl) (by kernel_rfl) (fun _ _ _ h => h) (Or.inl ⟨by rfl, ?hy⟩) T0 ?_
  case hy =>
    intro X hX
    go_simp
  try simp only [Act.put, List.getElem_toArray, List.getElem_cons_zero, List.getElem_cons_succ, List.setIfInBounds_toArray, List.set_cons_zero, List.set_cons_succ]
  refine wpAnyG_take [1, 2, 3, 4, 5, 8, 9, 10] (i := 1) (v := (.pointer (some ⟨m, 0, none⟩))) rfl (by kernel_rfl) (by kernel_rfl) (by kernel_rfl) (by kernel_rfl) (by kernel_rfl) (by kernel_rfl) (by kernel_rfl) (by kernel_rfl) (fun _ _ _ h => h) (Or.inl ⟨by rfl, ?hy⟩) T0 ?_
  case hy =>
    intro X hX
    go_simp
  try simp only [Act.put, List.getElem_toArray, List.getElem_cons_zero, List.getElem_cons_succ, List.setIfInBounds_toArray, List.set_cons_zero, List.set_cons_succ]
  refine wpAnyG_take [2, 3, 4, 5, 8, 9, 10] (i := 2) (v := (.pointer (some ⟨m, 0, none⟩))) rfl (by kernel_rfl) (by kernel_rfl) (by kernel_rfl) (by kernel_rfl) (by kernel_rfl) (by kernel_rfl) (by kernel_rfl) (by kernel_rfl) (fun _ _ _ h => h) (Or.inl ⟨by rfl, ?hy⟩) T0 ?_
  case hy =>
    intro X hX
    go_simp
  try simp only [Act.put, List.getElem_toArray, List.getElem_cons_zero, List.getElem_cons_succ, List.setIfInBounds_toArray, List.set_cons_zero, List.set_cons_succ]
  refine wpAnyG_take [3, 4, 5, 8, 9, 10] (i := 3) (v := (.pointer (some ⟨m, 2, none⟩))) rfl (by kernel_rfl) (by kernel_rfl) (by kernel_rfl) (by kernel_rfl) (by kernel_rfl) (by kernel_rfl) (by kernel_rfl) (by kernel_rfl) (fun _ _ _ h => h) (Or.inl ⟨by rfl, ?hy⟩) T0 ?_
  case hy =>
    intro X hX
    go_simp
  try simp only [Act.put, List.getElem_toArray, List.getElem_cons_zero, List.getElem_cons_succ, List.setIfInBounds_toArray, List.set_cons_zero, List.set_cons_succ]
  refine wpAnyG_take [4, 5, 8, 9, 10] (i := 4) (v := (.slice (some ⟨gb, 0, none⟩) (rws s).length cb')) rfl (by kernel_rfl) (by kernel_rfl) (by kernel_rfl) (by kernel_rfl) (by kernel_rfl) (by kernel_rfl) (by kernel_rfl) (by kernel_rfl) (fun _ _ _ h => h) (Or.inl ⟨by rfl, ?hy⟩) T0 ?_
  case hy =>
    intro X hX
    have e0 := at_below hm2 hX
    go_simp
  try simp only [Act.put, List.getElem_toArray, List.getElem_cons_zero, List.getElem_cons_succ, List.setIfInBounds_toArray, List.set_cons_zero, List.set_cons_succ]
  refine wpAnyG_take [5, 8, 9, 10] (i := 5) (v := (.int .i64 (rws s).length)) rfl (by kernel_rfl) (by kernel_rfl) (by kernel_rfl) (by kernel_rfl) (by kernel_rfl) (by kernel_rfl) (by kernel_rfl) (by kernel_rfl) (fun _ _ _ h => h) (Or.inl ⟨by rfl, ?hy⟩) T0 ?_
  case hy =>
    intro X hX
    go_simp
  try simp only [Act.put, List.getElem_toArray, List.getElem_cons_zero, List.getElem_cons_succ, List.setIfInBounds_toArray, List.set_cons_zero, List.set_cons_succ]
  refine wpAnyG_take [6, 7, 8, 9, 10] (i := 6) (v := (.pointer (some ⟨w.heap.size, 3, none⟩))) rfl (by kernel_rfl) (by kernel_rfl) (by kernel_rfl) (by kernel_rfl) (by kernel_rfl) (by kernel_rfl) (by kernel_rfl) (by kernel_rfl) (fun _ _ _ h => h) (Or.inl ⟨by rfl, ?hy⟩) T0 ?_
  case hy =>
    intro X hX
    go_simp
  try simp only [Act.put, List.getElem_toArray, List.getElem_cons_zero, List.getElem_cons_succ, List.setIfInBounds_toArray, List.set_cons_zero, List.set_cons_succ]
  refine wpAnyG_take [7, 8, 9, 10] (i := 7) (v := (.int .i64 pl)) rfl (by kernel_rfl) (by kernel_rfl) (by kernel_rfl) (by kernel_rfl) (by kernel_rfl) (by kernel_rfl) (by kernel_rfl) (by kernel_rfl) (fun _ _ _ h => h) (Or.inl ⟨by rfl, ?hy⟩) T0 ?_
  case hy =>
    intro X hX
    have e0 := at_below e3 hX
    go_simp
  try simp only [Act.put, List.getElem_toArray, List.getElem_cons_zero, List.getElem_cons_succ, List.setIfInBounds_toArray, List.set_cons_zero, List.set_cons_succ]
  refine wpAnyG_take [8, 9, 10] (i := 8) (v := (.int .i64 ((rws s).length - pl))) rfl (by kernel_rfl) (by kernel_rfl) (by kernel_rfl) (by kernel_rfl) (by kernel_rfl) (by kernel_rfl) (by kernel_rfl) (by kernel_rfl) (fun _ _ _ h => h) (Or.inl ⟨by rfl, ?hy⟩) T0 ?_
  case hy =>
    intro X hX
    go_simp
  try simp only [Act.put, List.getElem_toArray, List.getElem_cons_zero, List.getElem_cons_succ, List.setIfInBounds_toArray, List.set_cons_zero, List.set_cons_succ]
  refine wpAnyG_take [9, 10] (i := 9) (v := (.bool false)) rfl (by kernel_rfl) (by kernel_rfl) (by kernel_rfl) (by kernel_rfl) (by kernel_rfl) (by kernel_rfl) (by kernel_rfl) (by kernel_rfl) (fun _ _ _ h => h) (Or.inl ⟨by rfl, ?hy⟩) T0 ?_
  case hy =>
    intro X hX
    go_simp
  try simp only [Act.put, List.getElem_toArray, List.getElem_cons_zero, List.getElem_cons_succ, List.setIfInBounds_toArray, List.set_cons_zero, List.set_cons_succ]
  refine wpAnyG_take [10] (i := 10) (v := (.bool false)) rfl (by kernel_rfl) (by kernel_rfl) (by kernel_rfl) (by kernel_rfl) (by kernel_rfl) (by kernel_rfl) (by kernel_rfl) (by kernel_rfl) (fun _ _ _ h => h) (Or.inl ⟨by rfl, ?hy⟩) T0 ?_
  case hy =>
    intro X hX
    go_simp
  try simp only [Act.put, List.getElem_toArray, List.getElem_cons_zero, List.getElem_cons_succ, List.setIfInBounds_toArray, List.set_cons_zero, List.set_cons_succ]
  refine wpAnyG_done (by kernel_rfl) ?_ _
  refine NoPanic.normal ?_
  go_wp2
  refine wp_cutV (α := Nat × Nat) (fun v X => Blk X v.1 #[.int .i64 fb, .int .i64 fk, .int .i64 fu, .int .i64 fl, .int .i64 fc] 28 ∧ Blk X v.2 #[.int .i64 tt] 3 ∧ Below X1.heap.size X1 X ∧ X1.heap.size ≤ v.1) (fun v => [(35, (.pointer (some ⟨m, 0, none⟩))), (36, (.pointer (some ⟨w.heap.size, 3, none⟩))), (37, (.int .i64 pl)), (38, (.int .i64 n)), (39, (.int .i64 k)), (41, (.pointer (some ⟨m, 0, none⟩))), (42, (.pointer (some ⟨m, 0, none⟩))), (43, (.pointer (some ⟨m, 2, none⟩))), (44, (.slice (some ⟨gb, 0, none⟩) (rws s).length cb')), (45, (.pointer (some ⟨w.heap.size, 3, none⟩))), (46, (.int .i64 pl)), (47, (.int .i64 n)), (48, (.int .i64 k)), (49, (.pointer (some ⟨gb, k * 3, none⟩))), (50, (.pointer (some ⟨gb, k * 3, none⟩))), (51, (.pointer (some ⟨gb, k * 3 + 1, none⟩))), (52, (.int .i64 tt)), (40, (.agg #[.int .i64 fb, .int .i64 fk, .int .i64 fu, .int .i64 fl, .int .i64 fc])), (7, (.pointer (some ⟨v.1, 0, none⟩))), (8, (.pointer (some ⟨v.2, 0, none⟩)))]) ?_ ?_
  · refine wp_region_noPanic ?_
    refine wp_region_g (S := untilG [] (fun X => Below X1.heap.size X1 X)) (by kernel_rfl) ?_
    replace T0 : Below X1.heap.size X1 X1.drew.drew := T0.drew
    obtain ⟨X2, hX2⟩ : ∃ X, X1.drew.drew = X := ⟨_, rfl⟩
    rw [hX2] at T0 ⊢
    clear hX2
    refine wpAnyG_take [0, 5, 20] (i := 0) (v := (.pointer (some ⟨m, 0, none⟩))) rfl (by kernel_rfl) (by kernel_rfl) (by kernel_rfl) (by kernel_rfl) (by kernel_rfl) (by kernel_rfl) (by kernel_rfl) (by kernel_rfl) (fun _ _ _ h => h) (Or.inl ⟨by rfl, ?hy⟩) T0 ?_
    case hy =>
      intro X hX
      go_simp
    try simp only [Act.put, List.getElem_toArray, List.getElem_cons_zero, List.getElem_cons_succ, List.setIfInBounds_toArray, List.set_cons_zero, List.set_cons_succ]
    refine wpAnyG_take [1, 2, 4, 5, 20] (i := 1) (v := (.pointer (some ⟨w.heap.size, 3, none⟩))) rfl (by kernel_rfl) (by kernel_rfl) (by kernel_rfl) (by kernel_rfl) (by kernel_rfl) (by kernel_rfl) (by kernel_rfl) (by kernel_rfl) (fun _ _ _ h => h) (Or.inl ⟨by rfl, ?hy⟩) T0 ?_
    case hy =>
      intro X hX
      go_simp
    try simp only [Act.put, List.getElem_toArray, List.getElem_cons_zero, List.getElem_cons_succ, List.setIfInBounds_toArray, List.set_cons_zero, List.set_cons_succ]
    refine wpAnyG_take [2, 4, 5, 20] (i := 2) (v := (.int .i64 pl)) rfl (by kernel_rfl) (by kernel_rfl) (by kernel_rfl) (by kernel_rfl) (by kernel_rfl) (by kernel_rfl) (by kernel_rfl) (by kernel_rfl) (fun _ _ _ h => h) (Or.inl ⟨by rfl, ?hy⟩) T0 ?_
    case hy =>
      intro X hX
      have e0 := at_below e3 hX
      go_simp
    try simp only [Act.put, List.getElem_toArray, List.getElem_cons_zero, List.getElem_cons_succ, List.setIfInBounds_toArray, List.set_cons_zero, List.set_cons_succ]
    refine wpAnyG_take [3, 4, 5, 20] (i := 3) (v := (.int .i64 n)) rfl (by kernel_rfl) (by kernel_rfl) (by kernel_rfl) (by kernel_rfl) (by kernel_rfl) (by kernel_rfl) (by kernel_rfl) (by kernel_rfl) (fun _ _ _ h => h) (Or.inl ⟨by rfl, ?hy⟩) T0 ?_
    case hy =>
      intro X hX
      go_simp
    try simp only [Act.put, List.getElem_toArray, List.getElem_cons_zero, List.getElem_cons_succ, List.setIfInBounds_toArray, List.set_cons_zero, List.set_cons_succ]
    refine wpAnyG_take [4, 5, 20] (i := 4) (v := (.int .i64 k)) rfl (by kernel_rfl) (by kernel_rfl) (by kernel_rfl) (by kernel_rfl) (by kernel_rfl) (by kernel_rfl) (by kernel_rfl) (by kernel_rfl) (fun _ _ _ h => h) (Or.inl ⟨by rfl, ?hy⟩) T0 ?_
    case hy =>
      intro X hX
      go_simp
    try simp only [Act.put, List.getElem_toArray, List.getElem_cons_zero, List.getElem_cons_succ, List.setIfInBounds_toArray, List.set_cons_zero, List.set_cons_succ]
    refine wpAnyG_take [6, 7, 8, 9, 14, 15, 16, 17, 21] (i := 6) (v := (.pointer (some ⟨m, 0, none⟩))) rfl (by kernel_rfl) (by kernel_rfl) (by kernel_rfl) (by kernel_rfl) (by kernel_rfl) (by kernel_rfl) (by kernel_rfl) (by kernel_rfl) (fun _ _ _ h => h) (Or.inl ⟨by rfl, ?hy⟩) T0 ?_
    case hy =>
      intro X hX
      go_simp
    try simp only [Act.put, List.getElem_toArray, List.getElem_cons_zero, List.getElem_cons_succ, List.setIfInBounds_toArray, List.set_cons_zero, List.set_cons_succ]
    refine wpAnyG_take [7, 8, 9, 14, 15, 16, 17, 21] (i := 7) (v := (.pointer (some ⟨m, 0, none⟩))) rfl (by kernel_rfl) (by kernel_rfl) (by kernel_rfl) (by kernel_rfl) (by kernel_rfl) (by kernel_rfl) (by kernel_rfl) (by kernel_rfl) (fun _ _ _ h => h) (Or.inl ⟨by rfl, ?hy⟩) T0 ?_
    case hy =>
      intro X hX
      go_simp
    try simp only [Act.put, List.getElem_toArray, List.getElem_cons_zero, List.getElem_cons_succ, List.setIfInBounds_toArray, List.set_cons_zero, List.set_cons_succ]
    refine wpAnyG_take [8, 9, 14, 15, 16, 17, 21] (i := 8) (v := (.pointer (some ⟨m, 2, none⟩))) rfl (by kernel_rfl) (by kernel_rfl) (by kernel_rfl) (by kernel_rfl) (by kernel_rfl) (by kernel_rfl) (by kernel_rfl) (by kernel_rfl) (fun _ _ _ h => h) (Or.inl ⟨by rfl, ?hy⟩) T0 ?_
    case hy =>
      intro X hX
      go_simp
    try simp only [Act.put, List.getElem_toArray, List.getElem_cons_zero, List.getElem_cons_succ, List.setIfInBounds_toArray, List.set_cons_zero, List.set_cons_succ]
    refine wpAnyG_take [9, 14, 15, 16, 17, 21] (i := 9) (v := (.slice (some ⟨gb, 0, none⟩) (rws s).length cb')) rfl (by kernel_rfl) (by kernel_rfl) (by kernel_rfl) (by kernel_rfl) (by kernel_rfl) (by kernel_rfl) (by kernel_rfl) (by kernel_rfl) (fun _ _ _ h => h) (Or.inl ⟨by rfl, ?hy⟩) T0 ?_
    case hy =>
      intro X hX
      have e0 := at_below hm2 hX
      go_simp
    try simp only [Act.put, List.getElem_toArray, List.getElem_cons_zero, List.getElem_cons_succ, List.setIfInBounds_toArray, List.set_cons_zero, List.set_cons_succ]
    refine wpAnyG_take [10, 11, 13, 14, 15, 16, 17, 21] (i := 10) (v := (.pointer (some ⟨w.heap.size, 3, none⟩))) rfl (by kernel_rfl) (by kernel_rfl) (by kernel_rfl) (by kernel_rfl) (by kernel_rfl) (by kernel_rfl) (by kernel_rfl) (by kernel_rfl) (fun _ _ _ h => h) (Or.inl ⟨by rfl, ?hy⟩) T0 ?_
    case hy =>
      intro X hX
      go_simp
    try simp only [Act.put, List.getElem_toArray, List.getElem_cons_zero, List.getElem_cons_succ, List.setIfInBounds_toArray, List.set_cons_zero, List.set_cons_succ]
    refine wpAnyG_take [11, 13, 14, 15, 16, 17, 21] (i := 11) (v := (.int .i64 pl)) rfl (by kernel_rfl) (by kernel_rfl) (by kernel_rfl) (by kernel_rfl) (by kernel_rfl) (by kernel_rfl) (by kernel_rfl) (by kernel_rfl) (fun _ _ _ h => h) (Or.inl ⟨by rfl, ?hy⟩) T0 ?_
    case hy =>
      intro X hX
      have e0 := at_below e3 hX
      go_simp
    try simp only [Act.put, List.getElem_toArray, List.getElem_cons_zero, List.getElem_cons_succ, List.setIfInBounds_toArray, List.set_cons_zero, List.set_cons_succ]
    refine wpAnyG_take [12, 13, 14, 15, 16, 17, 21] (i := 12) (v := (.int .i64 n)) rfl (by kernel_rfl) (by kernel_rfl) (by kernel_rfl) (by kernel_rfl) (by kernel_rfl) (by kernel_rfl) (by kernel_rfl) (by kernel_rfl) (fun _ _ _ h => h) (Or.inl ⟨by rfl, ?hy⟩) T0 ?_
    case hy =>
      intro X hX
      go_simp
    try simp only [Act.put, List.getElem_toArray, List.getElem_cons_zero, List.getElem_cons_succ, List.setIfInBounds_toArray, List.set_cons_zero, List.set_cons_succ]
    refine wpAnyG_take [13, 14, 15, 16, 17, 21] (i := 13) (v := (.int .i64 k)) rfl (by kernel_rfl) (by kernel_rfl) (by kernel_rfl) (by kernel_rfl) (by kernel_rfl) (by kernel_rfl) (by kernel_rfl) (by kernel_rfl) (fun _ _ _ h => h) (Or.inl ⟨by rfl, ?hy⟩) T0 ?_
    case hy =>
      intro X hX
      go_simp
    try simp only [Act.put, List.getElem_toArray, List.getElem_cons_zero, List.getElem_cons_succ, List.setIfInBounds_toArray, List.set_cons_zero, List.set_cons_succ]
    refine wpAnyG_take [14, 15, 16, 17, 21] (i := 14) (v := (.pointer (some ⟨gb, k * 3, none⟩))) rfl (by kernel_rfl) (by kernel_rfl) (by kernel_rfl) (by kernel_rfl) (by kernel_rfl) (by kernel_rfl) (by kernel_rfl) (by kernel_rfl) (fun _ _ _ h => h) (Or.inl ⟨by rfl, ?hy⟩) T0 ?_
    case hy =>
      intro X hX
      go_simp
    try simp only [Act.put, List.getElem_toArray, List.getElem_cons_zero, List.getElem_cons_succ, List.setIfInBounds_toArray, List.set_cons_zero, List.set_cons_succ]
    refine wpAnyG_take [15, 16, 17, 21] (i := 15) (v := (.pointer (some ⟨gb, k * 3, none⟩))) rfl (by kernel_rfl) (by kernel_rfl) (by kernel_rfl) (by kernel_rfl) (by kernel_rfl) (by kernel_rfl) (by kernel_rfl) (by kernel_rfl) (fun _ _ _ h => h) (Or.inl ⟨by rfl, ?hy⟩) T0 ?_
    case hy =>
      intro X hX
      go_simp
    try simp only [Act.put, List.getElem_toArray, List.getElem_cons_zero, List.getElem_cons_succ, List.setIfInBounds_toArray, List.set_cons_zero, List.set_cons_succ]
    refine wpAnyG_take [16, 17, 21] (i := 16) (v := (.pointer (some ⟨gb, k * 3 + 1, none⟩))) rfl (by kernel_rfl) (by kernel_rfl) (by kernel_rfl) (by kernel_rfl) (by kernel_rfl) (by kernel_rfl) (by kernel_rfl) (by kernel_rfl) (fun _ _ _ h => h) (Or.inl ⟨by rfl, ?hy⟩) T0 ?_
    case hy =>
      intro X hX
      go_simp
    try simp only [Act.put, List.getElem_toArray, List.getElem_cons_zero, List.getElem_cons_succ, List.setIfInBounds_toArray, List.set_cons_zero, List.set_cons_succ]
    refine wpAnyG_take [17, 21] (i := 17) (v := (.int .i64 tt)) rfl (by kernel_rfl) (by kernel_rfl) (by kernel_rfl) (by kernel_rfl) (by kernel_rfl) (by kernel_rfl) (by kernel_rfl) (by kernel_rfl) (fun _ _ _ h => h) (Or.inl ⟨by rfl, ?hy⟩) T0 ?_
    case hy =>
      intro X hX
      have e0 := at_below ht2 hX
      go_simp
    try simp only [Act.put, List.getElem_toArray, List.getElem_cons_zero, List.getElem_cons_succ, List.setIfInBounds_toArray, List.set_cons_zero, List.set_cons_succ]
    refine wpAnyG_all (rs := [5, 18, 19]) (by kernel_rfl) (by simp) ?_
    intro i hi
    simp only [List.mem_cons, List.not_mem_nil, or_false] at hi
    rcases hi with rfl | rfl | rfl
    · refine wpOp_open rfl (by rfl) ?_
      go_simp
      refine (hF X2 (mapAt_below hM1 T0)).mono ?_
      rintro e V3 ⟨rfl, hb3⟩
      replace T0 := T0.trans (hb3.mono T0.size)
      refine ⟨fun _ => T0, ?_⟩
      try simp only [Act.put, List.getElem_toArray, List.getElem_cons_zero, List.getElem_cons_succ, List.setIfInBounds_toArray, List.set_cons_zero, List.set_cons_succ]
      refine wpAnyG_all (rs := [18, 19]) (by kernel_rfl) (by simp) ?_
      intro i hi
      simp only [List.mem_cons, List.not_mem_nil, or_false] at hi
      rcases hi with rfl | rfl
      · refine wpOp_now rfl rfl ?_
        go_simp
        have d7 := Blk.new V3 #[.int .i64 0, .int .i64 0, .int .i64 0, .int .i64 0, .int .i64 0] 28
        have l7 : X1.heap.size ≤ V3.heap.size := T0.size
        obtain ⟨b7, hb7⟩ : ∃ b, V3.heap.size = b := ⟨_, rfl⟩
        rw [hb7] at d7 l7
        replace T0 := T0.alloc T0.size (.cells #[.int .i64 0, .int .i64 0, .int .i64 0, .int .i64 0, .int .i64 0] 28)
        obtain ⟨V4, hV4⟩ : ∃ X, V3.alloc (.cells #[.int .i64 0, .int .i64 0, .int .i64 0, .int .i64 0, .int .i64 0] 28) = X := ⟨_, rfl⟩
        rw [hV4] at T0 d7
        try rw [hV4, hb7]
        refine ⟨fun _ => T0, ?_⟩
        try simp only [Act.put, List.getElem_toArray, List.getElem_cons_zero, List.getElem_cons_succ, List.setIfInBounds_toArray, List.set_cons_zero, List.set_cons_succ]
        refine wpAnyG_all (rs := [19]) (by kernel_rfl) (by simp) ?_
        intro i hi
        simp only [List.mem_cons, List.not_mem_nil, or_false] at hi
        subst hi
        refine wpOp_now rfl rfl ?_
        go_simp
        have d8 := Blk.new V4 #[.int .i64 0] 3
        have ne := d7.lt
        replace d7 := d7.alloc (.cells #[.int .i64 0] 3)
        have l8 : X1.heap.size ≤ V4.heap.size := T0.size
        obtain ⟨b8, hb8⟩ : ∃ b, V4.heap.size = b := ⟨_, rfl⟩
        rw [hb8] at d8 l8 ne
        replace T0 := T0.alloc T0.size (.cells #[.int .i64 0] 3)
        obtain ⟨V5, hV5⟩ : ∃ X, V4.alloc (.cells #[.int .i64 0] 3) = X := ⟨_, rfl⟩
        rw [hV5] at T0 d8 d7
        try rw [hV5, hb8]
        refine ⟨fun _ => T0, ?_⟩
        try simp only [Act.put, List.getElem_toArray, List.getElem_cons_zero, List.getElem_cons_succ, List.setIfInBounds_toArray, List.set_cons_zero, List.set_cons_succ]
        have u1 := d7.cell
        have u2 := d7.frozen
        have u3 := d7.lt
        have u4 := d8.cell
        have u5 := d8.frozen
        have u6 := d8.lt
        have u7 : b7 ≠ b8 := by omega
        refine wpAnyG_all (rs := [20]) (by kernel_rfl) (by simp) ?_
        intro i hi
        simp only [List.mem_cons, List.not_mem_nil, or_false] at hi
        subst hi
        refine wpOp_now rfl rfl ?_
        go_simp
        replace T0 := ((((T0.setCell (p := ⟨b7, 0, none⟩) (by dsimp only; omega) (.int .i64 fb)).setCell (p := ⟨b7, 1, none⟩) (by dsimp only; omega) (.int .i64 fk)).setCell (p := ⟨b7, 2, none⟩) (by dsimp only; omega) (.int .i64 fu)).setCell (p := ⟨b7, 3, none⟩) (by dsimp only; omega) (.int .i64 fl)).setCell (p := ⟨b7, 4, none⟩) (by dsimp only; omega) (.int .i64 fc)
        replace d8 := ((((d8.other (B' := b7) (by omega) 0 (.int .i64 fb)).other (B' := b7) (by omega) 1 (.int .i64 fk)).other (B' := b7) (by omega) 2 (.int .i64 fu)).other (B' := b7) (by omega) 3 (.int .i64 fl)).other (B' := b7) (by omega) 4 (.int .i64 fc)
        replace d7 := ((((d7.set 0 (.int .i64 fb)).set 1 (.int .i64 fk)).set 2 (.int .i64 fu)).set 3 (.int .i64 fl)).set 4 (.int .i64 fc)
        simp only [List.setIfInBounds_toArray, List.set_cons_zero, List.set_cons_succ] at d7
        obtain ⟨U, hU⟩ : ∃ U, ((((V5.setCell ⟨b7, 0, none⟩ (.int .i64 fb)).setCell ⟨b7, 1, none⟩ (.int .i64 fk)).setCell ⟨b7, 2, none⟩ (.int .i64 fu)).setCell ⟨b7, 3, none⟩ (.int .i64 fl)).setCell ⟨b7, 4, none⟩ (.int .i64 fc) = U := ⟨_, rfl⟩
        rw [hU] at T0 d7 d8
        rw [hU]
        refine ⟨fun _ => T0, ?_⟩
        try simp only [Act.put, List.getElem_toArray, List.getElem_cons_zero, List.getElem_cons_succ, List.setIfInBounds_toArray, List.set_cons_zero, List.set_cons_succ]
        have u4 := d8.cell
        have u5 := d8.frozen
        have u6 := d8.lt
        refine wpAnyG_all (rs := [21]) (by kernel_rfl) (by simp) ?_
        intro i hi
        simp only [List.mem_cons, List.not_mem_nil, or_false] at hi
        subst hi
        refine wpOp_now rfl rfl ?_
        go_simp
        replace T0 := T0.setCell (p := ⟨b8, 0, none⟩) (by dsimp only; omega) (.int .i64 tt)
        replace d7 := d7.other (B' := b8) (by omega) 0 (.int .i64 tt)
        replace d8 := d8.set 0 (.int .i64 tt)
        simp only [List.setIfInBounds_toArray, List.set_cons_zero, List.set_cons_succ] at d8
        refine ⟨fun _ => T0, ?_⟩
        try simp only [Act.put, List.getElem_toArray, List.getElem_cons_zero, List.getElem_cons_succ, List.setIfInBounds_toArray, List.set_cons_zero, List.set_cons_succ]
        refine wpAnyG_done (by kernel_rfl) ?_ _
        refine NoPanic.normal ?_
        exact ⟨rfl, (b7, b8), by kernel_rfl, d7, d8, T0, l7⟩
      · refine wpOp_now rfl rfl ?_
        go_simp
        have d8 := Blk.new V3 #[.int .i64 0] 3
        have l8 : X1.heap.size ≤ V3.heap.size := T0.size
        obtain ⟨b8, hb8⟩ : ∃ b, V3.heap.size = b := ⟨_, rfl⟩
        rw [hb8] at d8 l8
        replace T0 := T0.alloc T0.size (.cells #[.int .i64 0] 3)
        obtain ⟨V4, hV4⟩ : ∃ X, V3.alloc (.cells #[.int .i64 0] 3) = X := ⟨_, rfl⟩
        rw [hV4] at T0 d8
        try rw [hV4, hb8]
        refine ⟨fun _ => T0, ?_⟩
        try simp only [Act.put, List.getElem_toArray, List.getElem_cons_zero, List.getElem_cons_succ, List.setIfInBounds_toArray, List.set_cons_zero, List.set_cons_succ]
        refine wpAnyG_all (rs := [18]) (by kernel_rfl) (by simp) ?_
        intro i hi
        simp only [List.mem_cons, List.not_mem_nil, or_false] at hi
        subst hi
        refine wpOp_now rfl rfl ?_
        go_simp
        have d7 := Blk.new V4 #[.int .i64 0, .int .i64 0, .int .i64 0, .int .i64 0, .int .i64 0] 28
        have ne := d8.lt
        replace d8 := d8.alloc (.cells #[.int .i64 0, .int .i64 0, .int .i64 0, .int .i64 0, .int .i64 0] 28)
        have l7 : X1.heap.size ≤ V4.heap.size := T0.size
        obtain ⟨b7, hb7⟩ : ∃ b, V4.heap.size = b := ⟨_, rfl⟩
        rw [hb7] at d7 l7 ne
        replace T0 := T0.alloc T0.size (.cells #[.int .i64 0, .int .i64 0, .int .i64 0, .int .i64 0, .int .i64 0] 28)
        obtain ⟨V5, hV5⟩ : ∃ X, V4.alloc (.cells #[.int .i64 0, .int .i64 0, .int .i64 0, .int .i64 0, .int .i64 0] 28) = X := ⟨_, rfl⟩
        rw [hV5] at T0 d7 d8
        try rw [hV5, hb7]
        refine ⟨fun _ => T0, ?_⟩
        try simp only [Act.put, List.getElem_toArray, List.getElem_cons_zero, List.getElem_cons_succ, List.setIfInBounds_toArray, List.set_cons_zero, List.set_cons_succ]
        have u1 := d7.cell
        have u2 := d7.frozen
        have u3 := d7.lt
        have u4 := d8.cell
        have u5 := d8.frozen
        have u6 := d8.lt
        have u7 : b7 ≠ b8 := by omega
        refine wpAnyG_all (rs := [20]) (by kernel_rfl) (by simp) ?_
        intro i hi
        simp only [List.mem_cons, List.not_mem_nil, or_false] at hi
        subst hi
        refine wpOp_now rfl rfl ?_
        go_simp
        replace T0 := ((((T0.setCell (p := ⟨b7, 0, none⟩) (by dsimp only; omega) (.int .i64 fb)).setCell (p := ⟨b7, 1, none⟩) (by dsimp only; omega) (.int .i64 fk)).setCell (p := ⟨b7, 2, none⟩) (by dsimp only; omega) (.int .i64 fu)).setCell (p := ⟨b7, 3, none⟩) (by dsimp only; omega) (.int .i64 fl)).setCell (p := ⟨b7, 4, none⟩) (by dsimp only; omega) (.int .i64 fc)
        replace d8 := ((((d8.other (B' := b7) (by omega) 0 (.int .i64 fb)).other (B' := b7) (by omega) 1 (.int .i64 fk)).other (B' := b7) (by omega) 2 (.int .i64 fu)).other (B' := b7) (by omega) 3 (.int .i64 fl)).other (B' := b7) (by omega) 4 (.int .i64 fc)
        replace d7 := ((((d7.set 0 (.int .i64 fb)).set 1 (.int .i64 fk)).set 2 (.int .i64 fu)).set 3 (.int .i64 fl)).set 4 (.int .i64 fc)
        simp only [List.setIfInBounds_toArray, List.set_cons_zero, List.set_cons_succ] at d7
        obtain ⟨U, hU⟩ : ∃ U, ((((V5.setCell ⟨b7, 0, none⟩ (.int .i64 fb)).setCell ⟨b7, 1, none⟩ (.int .i64 fk)).setCell ⟨b7, 2, none⟩ (.int .i64 fu)).setCell ⟨b7, 3, none⟩ (.int .i64 fl)).setCell ⟨b7, 4, none⟩ (.int .i64 fc) = U := ⟨_, rfl⟩
        rw [hU] at T0 d7 d8
        rw [hU]
        refine ⟨fun _ => T0, ?_⟩
        try simp only [Act.put, List.getElem_toArray, List.getElem_cons_zero, List.getElem_cons_succ, List.setIfInBounds_toArray, List.set_cons_zero, List.set_cons_succ]
        have u4 := d8.cell
        have u5 := d8.frozen
        have u6 := d8.lt
        refine wpAnyG_all (rs := [21]) (by kernel_rfl) (by simp) ?_
        intro i hi
        simp only [List.mem_cons, List.not_mem_nil, or_false] at hi
        subst hi
        refine wpOp_now rfl rfl ?_
        go_simp
        replace T0 := T0.setCell (p := ⟨b8, 0, none⟩) (by dsimp only; omega) (.int .i64 tt)
        replace d7 := d7.other (B' := b8) (by omega) 0 (.int .i64 tt)
        replace d8 := d8.set 0 (.int .i64 tt)
        simp only [List.setIfInBounds_toArray, List.set_cons_zero, List.set_cons_succ] at d8
        refine ⟨fun _ => T0, ?_⟩
        try simp only [Act.put, List.getElem_toArray, List.getElem_cons_zero, List.getElem_cons_succ, List.setIfInBounds_toArray, List.set_cons_zero, List.set_cons_succ]
        refine wpAnyG_done (by kernel_rfl) ?_ _
        refine NoPanic.normal ?_
        exact ⟨rfl, (b7, b8), by kernel_rfl, d7, d8, T0, l7⟩
    · refine wpOp_now rfl rfl ?_
      go_simp
      have d7 := Blk.new X2 #[.int .i64 0, .int .i64 0, .int .i64 0, .int .i64 0, .int .i64 0] 28
      have l7 : X1.heap.size ≤ X2.heap.size := T0.size
      obtain ⟨b7, hb7⟩ : ∃ b, X2.heap.size = b := ⟨_, rfl⟩
      rw [hb7] at d7 l7
      replace T0 := T0.alloc T0.size (.cells #[.int .i64 0, .int .i64 0, .int .i64 0, .int .i64 0, .int .i64 0] 28)
      obtain ⟨V3, hV3⟩ : ∃ X, X2.alloc (.cells #[.int .i64 0, .int .i64 0, .int .i64 0, .int .i64 0, .int .i64 0] 28) = X := ⟨_, rfl⟩
      rw [hV3] at T0 d7
      try rw [hV3, hb7]
      refine ⟨fun _ => T0, ?_⟩
      try simp only [Act.put, List.getElem_toArray, List.getElem_cons_zero, List.getElem_cons_succ, List.setIfInBounds_toArray, List.set_cons_zero, List.set_cons_succ]
      refine wpAnyG_all (rs := [5, 19]) (by kernel_rfl) (by simp) ?_
      intro i hi
      simp only [List.mem_cons, List.not_mem_nil, or_false] at hi
      rcases hi with rfl | rfl
      · refine wpOp_open rfl (by rfl) ?_
        go_simp
        refine (hF V3 (mapAt_below hM1 T0)).mono ?_
        rintro e V4 ⟨rfl, hb4⟩
        replace T0 := T0.trans (hb4.mono T0.size)
        replace d7 := d7.below' hb4
        refine ⟨fun _ => T0, ?_⟩
        try simp only [Act.put, List.getElem_toArray, List.getElem_cons_zero, List.getElem_cons_succ, List.setIfInBounds_toArray, List.set_cons_zero, List.set_cons_succ]
        refine wpAnyG_all (rs := [19]) (by kernel_rfl) (by simp) ?_
        intro i hi
        simp only [List.mem_cons, List.not_mem_nil, or_false] at hi
        subst hi
        refine wpOp_now rfl rfl ?_
        go_simp
        have d8 := Blk.new V4 #[.int .i64 0] 3
        have ne := d7.lt
        replace d7 := d7.alloc (.cells #[.int .i64 0] 3)
        have l8 : X1.heap.size ≤ V4.heap.size := T0.size
        obtain ⟨b8, hb8⟩ : ∃ b, V4.heap.size = b := ⟨_, rfl⟩
        rw [hb8] at d8 l8 ne
        replace T0 := T0.alloc T0.size (.cells #[.int .i64 0] 3)
        obtain ⟨V5, hV5⟩ : ∃ X, V4.alloc (.cells #[.int .i64 0] 3) = X := ⟨_, rfl⟩
        rw [hV5] at T0 d8 d7
        try rw [hV5, hb8]
        refine ⟨fun _ => T0, ?_⟩
        try simp only [Act.put, List.getElem_toArray, List.getElem_cons_zero, List.getElem_cons_succ, List.setIfInBounds_toArray, List.set_cons_zero, List.set_cons_succ]
        have u1 := d7.cell
        have u2 := d7.frozen
        have u3 := d7.lt
        have u4 := d8.cell
        have u5 := d8.frozen
        have u6 := d8.lt
        have u7 : b7 ≠ b8 := by omega
        refine wpAnyG_all (rs := [20]) (by kernel_rfl) (by simp) ?_
        intro i hi
        simp only [List.mem_cons, List.not_mem_nil, or_false] at hi
        subst hi
        refine wpOp_now rfl rfl ?_
        go_simp
        replace T0 := ((((T0.setCell (p := ⟨b7, 0, none⟩) (by dsimp only; omega) (.int .i64 fb)).setCell (p := ⟨b7, 1, none⟩) (by dsimp only; omega) (.int .i64 fk)).setCell (p := ⟨b7, 2, none⟩) (by dsimp only; omega) (.int .i64 fu)).setCell (p := ⟨b7, 3, none⟩) (by dsimp only; omega) (.int .i64 fl)).setCell (p := ⟨b7, 4, none⟩) (by dsimp only; omega) (.int .i64 fc)
        replace d8 := ((((d8.other (B' := b7) (by omega) 0 (.int .i64 fb)).other (B' := b7) (by omega) 1 (.int .i64 fk)).other (B' := b7) (by omega) 2 (.int .i64 fu)).other (B' := b7) (by omega) 3 (.int .i64 fl)).other (B' := b7) (by omega) 4 (.int .i64 fc)
        replace d7 := ((((d7.set 0 (.int .i64 fb)).set 1 (.int .i64 fk)).set 2 (.int .i64 fu)).set 3 (.int .i64 fl)).set 4 (.int .i64 fc)
        simp only [List.setIfInBounds_toArray, List.set_cons_zero, List.set_cons_succ] at d7
        obtain ⟨U, hU⟩ : ∃ U, ((((V5.setCell ⟨b7, 0, none⟩ (.int .i64 fb)).setCell ⟨b7, 1, none⟩ (.int .i64 fk)).setCell ⟨b7, 2, none⟩ (.int .i64 fu)).setCell ⟨b7, 3, none⟩ (.int .i64 fl)).setCell ⟨b7, 4, none⟩ (.int .i64 fc) = U := ⟨_, rfl⟩
        rw [hU] at T0 d7 d8
        rw [hU]
        refine ⟨fun _ => T0, ?_⟩
        try simp only [Act.put, List.getElem_toArray, List.getElem_cons_zero, List.getElem_cons_succ, List.setIfInBounds_toArray, List.set_cons_zero, List.set_cons_succ]
        have u4 := d8.cell
        have u5 := d8.frozen
        have u6 := d8.lt
        refine wpAnyG_all (rs := [21]) (by kernel_rfl) (by simp) ?_
        intro i hi
        simp only [List.mem_cons, List.not_mem_nil, or_false] at hi
        subst hi
        refine wpOp_now rfl rfl ?_
        go_simp
        replace T0 := T0.setCell (p := ⟨b8, 0, none⟩) (by dsimp only; omega) (.int .i64 tt)
        replace d7 := d7.other (B' := b8) (by omega) 0 (.int .i64 tt)
        replace d8 := d8.set 0 (.int .i64 tt)
        simp only [List.setIfInBounds_toArray, List.set_cons_zero, List.set_cons_succ] at d8
        refine ⟨fun _ => T0, ?_⟩
        try simp only [Act.put, List.getElem_toArray, List.getElem_cons_zero, List.getElem_cons_succ, List.setIfInBounds_toArray, List.set_cons_zero, List.set_cons_succ]
        refine wpAnyG_done (by kernel_rfl) ?_ _
        refine NoPanic.normal ?_
        exact ⟨rfl, (b7, b8), by kernel_rfl, d7, d8, T0, l7⟩
      · refine wpOp_now rfl rfl ?_
        go_simp
        have d8 := Blk.new V3 #[.int .i64 0] 3
        have ne := d7.lt
        replace d7 := d7.alloc (.cells #[.int .i64 0] 3)
        have l8 : X1.heap.size ≤ V3.heap.size := T0.size
        obtain ⟨b8, hb8⟩ : ∃ b, V3.heap.size = b := ⟨_, rfl⟩
        rw [hb8] at d8 l8 ne
        replace T0 := T0.alloc T0.size (.cells #[.int .i64 0] 3)
        obtain ⟨V4, hV4⟩ : ∃ X, V3.alloc (.cells #[.int .i64 0] 3) = X := ⟨_, rfl⟩
        rw [hV4] at T0 d8 d7
        try rw [hV4, hb8]
        refine ⟨fun _ => T0, ?_⟩
        try simp only [Act.put, List.getElem_toArray, List.getElem_cons_zero, List.getElem_cons_succ, List.setIfInBounds_toArray, List.set_cons_zero, List.set_cons_succ]
        refine wpAnyG_all (rs := [5]) (by kernel_rfl) (by simp) ?_
        intro i hi
        simp only [List.mem_cons, List.not_mem_nil, or_false] at hi
        subst hi
        refine wpOp_open rfl (by rfl) ?_
        go_simp
        refine (hF V4 (mapAt_below hM1 T0)).mono ?_
        rintro e V5 ⟨rfl, hb5⟩
        replace T0 := T0.trans (hb5.mono T0.size)
        replace d7 := d7.below' hb5
        replace d8 := d8.below' hb5
        refine ⟨fun _ => T0, ?_⟩
        try simp only [Act.put, List.getElem_toArray, List.getElem_cons_zero, List.getElem_cons_succ, List.setIfInBounds_toArray, List.set_cons_zero, List.set_cons_succ]
        have u1 := d7.cell
        have u2 := d7.frozen
        have u3 := d7.lt
        have u4 := d8.cell
        have u5 := d8.frozen
        have u6 := d8.lt
        have u7 : b7 ≠ b8 := by omega
        refine wpAnyG_all (rs := [20]) (by kernel_rfl) (by simp) ?_
        intro i hi
        simp only [List.mem_cons, List.not_mem_nil, or_false] at hi
        subst hi
        refine wpOp_now rfl rfl ?_
        go_simp
        replace T0 := ((((T0.setCell (p := ⟨b7, 0, none⟩) (by dsimp only; omega) (.int .i64 fb)).setCell (p := ⟨b7, 1, none⟩) (by dsimp only; omega) (.int .i64 fk)).setCell (p := ⟨b7, 2, none⟩) (by dsimp only; omega) (.int .i64 fu)).setCell (p := ⟨b7, 3, none⟩) (by dsimp only; omega) (.int .i64 fl)).setCell (p := ⟨b7, 4, none⟩) (by dsimp only; omega) (.int .i64 fc)
        replace d8 := ((((d8.other (B' := b7) (by omega) 0 (.int .i64 fb)).other (B' := b7) (by omega) 1 (.int .i64 fk)).other (B' := b7) (by omega) 2 (.int .i64 fu)).other (B' := b7) (by omega) 3 (.int .i64 fl)).other (B' := b7) (by omega) 4 (.int .i64 fc)
        replace d7 := ((((d7.set 0 (.int .i64 fb)).set 1 (.int .i64 fk)).set 2 (.int .i64 fu)).set 3 (.int .i64 fl)).set 4 (.int .i64 fc)
        simp only [List.setIfInBounds_toArray, List.set_cons_zero, List.set_cons_succ] at d7
        obtain ⟨U, hU⟩ : ∃ U, ((((V5.setCell ⟨b7, 0, none⟩ (.int .i64 fb)).setCell ⟨b7, 1, none⟩ (.int .i64 fk)).setCell ⟨b7, 2, none⟩ (.int .i64 fu)).setCell ⟨b7, 3, none⟩ (.int .i64 fl)).setCell ⟨b7, 4, none⟩ (.int .i64 fc) = U := ⟨_, rfl⟩
        rw [hU] at T0 d7 d8
        rw [hU]
        refine ⟨fun _ => T0, ?_⟩
        try simp only [Act.put, List.getElem_toArray, List.getElem_cons_zero, List.getElem_cons_succ, List.setIfInBounds_toArray, List.set_cons_zero, List.set_cons_succ]
        have u4 := d8.cell
        have u5 := d8.frozen
        have u6 := d8.lt
        refine wpAnyG_all (rs := [21]) (by kernel_rfl) (by simp) ?_
        intro i hi
        simp only [List.mem_cons, List.not_mem_nil, or_false] at hi
        subst hi
        refine wpOp_now rfl rfl ?_
        go_simp
        replace T0 := T0.setCell (p := ⟨b8, 0, none⟩) (by dsimp only; omega) (.int .i64 tt)
        replace d7 := d7.other (B' := b8) (by omega) 0 (.int .i64 tt)
        replace d8 := d8.set 0 (.int .i64 tt)
        simp only [List.setIfInBounds_toArray, List.set_cons_zero, List.set_cons_succ] at d8
        refine ⟨fun _ => T0, ?_⟩
        try simp only [Act.put, List.getElem_toArray, List.getElem_cons_zero, List.getElem_cons_succ, List.setIfInBounds_toArray, List.set_cons_zero, List.set_cons_succ]
        refine wpAnyG_done (by kernel_rfl) ?_ _
        refine NoPanic.normal ?_
        exact ⟨rfl, (b7, b8), by kernel_rfl, d7, d8, T0, l7⟩
    · refine wpOp_now rfl rfl ?_
      go_simp
      have d8 := Blk.new X2 #[.int .i64 0] 3
      have l8 : X1.heap.size ≤ X2.heap.size := T0.size
      obtain ⟨b8, hb8⟩ : ∃ b, X2.heap.size = b := ⟨_, rfl⟩
      rw [hb8] at d8 l8
      replace T0 := T0.alloc T0.size (.cells #[.int .i64 0] 3)
      obtain ⟨V3, hV3⟩ : ∃ X, X2.alloc (.cells #[.int .i64 0] 3) = X := ⟨_, rfl⟩
      rw [hV3] at T0 d8
      try rw [hV3, hb8]
      refine ⟨fun _ => T0, ?_⟩
      try simp only [Act.put, List.getElem_toArray, List.getElem_cons_zero, List.getElem_cons_succ, List.setIfInBounds_toArray, List.set_cons_zero, List.set_cons_succ]
      refine wpAnyG_all (rs := [5, 18]) (by kernel_rfl) (by simp) ?_
      intro i hi
      simp only [List.mem_cons, List.not_mem_nil, or_false] at hi
      rcases hi with rfl | rfl
      · refine wpOp_open rfl (by rfl) ?_
        go_simp
        refine (hF V3 (mapAt_below hM1 T0)).mono ?_
        rintro e V4 ⟨rfl, hb4⟩
        replace T0 := T0.trans (hb4.mono T0.size)
        replace d8 := d8.below' hb4
        refine ⟨fun _ => T0, ?_⟩
        try simp only [Act.put, List.getElem_toArray, List.getElem_cons_zero, List.getElem_cons_succ, List.setIfInBounds_toArray, List.set_cons_zero, List.set_cons_succ]
        refine wpAnyG_all (rs := [18]) (by kernel_rfl) (by simp) ?_
        intro i hi
        simp only [List.mem_cons, List.not_mem_nil, or_false] at hi
        subst hi
        refine wpOp_now rfl rfl ?_
        go_simp
        have d7 := Blk.new V4 #[.int .i64 0, .int .i64 0, .int .i64 0, .int .i64 0, .int .i64 0] 28
        have ne := d8.lt
        replace d8 := d8.alloc (.cells #[.int .i64 0, .int .i64 0, .int .i64 0, .int .i64 0, .int .i64 0] 28)
        have l7 : X1.heap.size ≤ V4.heap.size := T0.size
        obtain ⟨b7, hb7⟩ : ∃ b, V4.heap.size = b := ⟨_, rfl⟩
        rw [hb7] at d7 l7 ne
        replace T0 := T0.alloc T0.size (.cells #[.int .i64 0, .int .i64 0, .int .i64 0, .int .i64 0, .int .i64 0] 28)
        obtain ⟨V5, hV5⟩ : ∃ X, V4.alloc (.cells #[.int .i64 0, .int .i64 0, .int .i64 0, .int .i64 0, .int .i64 0] 28) = X := ⟨_, rfl⟩
        rw [hV5] at T0 d7 d8
        try rw [hV5, hb7]
        refine ⟨fun _ => T0, ?_⟩
        try simp only [Act.put, List.getElem_toArray, List.getElem_cons_zero, List.getElem_cons_succ, List.setIfInBounds_toArray, List.set_cons_zero, List.set_cons_succ]
        have u1 := d7.cell
        have u2 := d7.frozen
        have u3 := d7.lt
        have u4 := d8.cell
        have u5 := d8.frozen
        have u6 := d8.lt
        have u7 : b7 ≠ b8 := by omega
        refine wpAnyG_all (rs := [20]) (by kernel_rfl) (by simp) ?_
        intro i hi
        simp only [List.mem_cons, List.not_mem_nil, or_false] at hi
        subst hi
        refine wpOp_now rfl rfl ?_
        go_simp
        replace T0 := ((((T0.setCell (p := ⟨b7, 0, none⟩) (by dsimp only; omega) (.int .i64 fb)).setCell (p := ⟨b7, 1, none⟩) (by dsimp only; omega) (.int .i64 fk)).setCell (p := ⟨b7, 2, none⟩) (by dsimp only; omega) (.int .i64 fu)).setCell (p := ⟨b7, 3, none⟩) (by dsimp only; omega) (.int .i64 fl)).setCell (p := ⟨b7, 4, none⟩) (by dsimp only; omega) (.int .i64 fc)
        replace d8 := ((((d8.other (B' := b7) (by omega) 0 (.int .i64 fb)).other (B' := b7) (by omega) 1 (.int .i64 fk)).other (B' := b7) (by omega) 2 (.int .i64 fu)).other (B' := b7) (by omega) 3 (.int .i64 fl)).other (B' := b7) (by omega) 4 (.int .i64 fc)
        replace d7 := ((((d7.set 0 (.int .i64 fb)).set 1 (.int .i64 fk)).set 2 (.int .i64 fu)).set 3 (.int .i64 fl)).set 4 (.int .i64 fc)
        simp only [List.setIfInBounds_toArray, List.set_cons_zero, List.set_cons_succ] at d7
        obtain ⟨U, hU⟩ : ∃ U, ((((V5.setCell ⟨b7, 0, none⟩ (.int .i64 fb)).setCell ⟨b7, 1, none⟩ (.int .i64 fk)).setCell ⟨b7, 2, none⟩ (.int .i64 fu)).setCell ⟨b7, 3, none⟩ (.int .i64 fl)).setCell ⟨b7, 4, none⟩ (.int .i64 fc) = U := ⟨_, rfl⟩
        rw [hU] at T0 d7 d8
        rw [hU]
        refine ⟨fun _ => T0, ?_⟩
        try simp only [Act.put, List.getElem_toArray, List.getElem_cons_zero, List.getElem_cons_succ, List.setIfInBounds_toArray, List.set_cons_zero, List.set_cons_succ]
        have u4 := d8.cell
        have u5 := d8.frozen
        have u6 := d8.lt
        refine wpAnyG_all (rs := [21]) (by kernel_rfl) (by simp) ?_
        intro i hi
        simp only [List.mem_cons, List.not_mem_nil, or_false] at hi
        subst hi
        refine wpOp_now rfl rfl ?_
        go_simp
        replace T0 := T0.setCell (p := ⟨b8, 0, none⟩) (by dsimp only; omega) (.int .i64 tt)
        replace d7 := d7.other (B' := b8) (by omega) 0 (.int .i64 tt)
        replace d8 := d8.set 0 (.int .i64 tt)
        simp only [List.setIfInBounds_toArray, List.set_cons_zero, List.set_cons_succ] at d8
        refine ⟨fun _ => T0, ?_⟩
        try simp only [Act.put, List.getElem_toArray, List.getElem_cons_zero, List.getElem_cons_succ, List.setIfInBounds_toArray, List.set_cons_zero, List.set_cons_succ]
        refine wpAnyG_done (by kernel_rfl) ?_ _
        refine NoPanic.normal ?_
        exact ⟨rfl, (b7, b8), by kernel_rfl, d7, d8, T0, l7⟩
      · refine wpOp_now rfl rfl ?_
        go_simp
        have d7 := Blk.new V3 #[.int .i64 0, .int .i64 0, .int .i64 0, .int .i64 0, .int .i64 0] 28
        have ne := d8.lt
        replace d8 := d8.alloc (.cells #[.int .i64 0, .int .i64 0, .int .i64 0, .int .i64 0, .int .i64 0] 28)
        have l7 : X1.heap.size ≤ V3.heap.size := T0.size
        obtain ⟨b7, hb7⟩ : ∃ b, V3.heap.size = b := ⟨_, rfl⟩
        rw [hb7] at d7 l7 ne
        replace T0 := T0.alloc T0.size (.cells #[.int .i64 0, .int .i64 0, .int .i64 0, .int .i64 0, .int .i64 0] 28)
        obtain ⟨V4, hV4⟩ : ∃ X, V3.alloc (.cells #[.int .i64 0, .int .i64 0, .int .i64 0, .int .i64 0, .int .i64 0] 28) = X := ⟨_, rfl⟩
        rw [hV4] at T0 d7 d8
        try rw [hV4, hb7]
        refine ⟨fun _ => T0, ?_⟩
        try simp only [Act.put, List.getElem_toArray, List.getElem_cons_zero, List.getElem_cons_succ, List.setIfInBounds_toArray, List.set_cons_zero, List.set_cons_succ]
        refine wpAnyG_all (rs := [5]) (by kernel_rfl) (by simp) ?_
        intro i hi
        simp only [List.mem_cons, List.not_mem_nil, or_false] at hi
        subst hi
        refine wpOp_open rfl (by rfl) ?_
        go_simp
        refine (hF V4 (mapAt_below hM1 T0)).mono ?_
        rintro e V5 ⟨rfl, hb5⟩
        replace T0 := T0.trans (hb5.mono T0.size)
        replace d7 := d7.below' hb5
        replace d8 := d8.below' hb5
        refine ⟨fun _ => T0, ?_⟩
        try simp only [Act.put, List.getElem_toArray, List.getElem_cons_zero, List.getElem_cons_succ, List.setIfInBounds_toArray, List.set_cons_zero, List.set_cons_succ]
        have u1 := d7.cell
        have u2 := d7.frozen
        have u3 := d7.lt
        have u4 := d8.cell
        have u5 := d8.frozen
        have u6 := d8.lt
        have u7 : b7 ≠ b8 := by omega
        refine wpAnyG_all (rs := [20]) (by kernel_rfl) (by simp) ?_
        intro i hi
        simp only [List.mem_cons, List.not_mem_nil, or_false] at hi
        subst hi
        refine wpOp_now rfl rfl ?_
        go_simp
        replace T0 := ((((T0.setCell (p := ⟨b7, 0, none⟩) (by dsimp only; omega) (.int .i64 fb)).setCell (p := ⟨b7, 1, none⟩) (by dsimp only; omega) (.int .i64 fk)).setCell (p := ⟨b7, 2, none⟩) (by dsimp only; omega) (.int .i64 fu)).setCell (p := ⟨b7, 3, none⟩) (by dsimp only; omega) (.int .i64 fl)).setCell (p := ⟨b7, 4, none⟩) (by dsimp only; omega) (.int .i64 fc)
        replace d8 := ((((d8.other (B' := b7) (by omega) 0 (.int .i64 fb)).other (B' := b7) (by omega) 1 (.int .i64 fk)).other (B' := b7) (by omega) 2 (.int .i64 fu)).other (B' := b7) (by omega) 3 (.int .i64 fl)).other (B' := b7) (by omega) 4 (.int .i64 fc)
        replace d7 := ((((d7.set 0 (.int .i64 fb)).set 1 (.int .i64 fk)).set 2 (.int .i64 fu)).set 3 (.int .i64 fl)).set 4 (.int .i64 fc)
        simp only [List.setIfInBounds_toArray, List.set_cons_zero, List.set_cons_succ] at d7
        obtain ⟨U, hU⟩ : ∃ U, ((((V5.setCell ⟨b7, 0, none⟩ (.int .i64 fb)).setCell ⟨b7, 1, none⟩ (.int .i64 fk)).setCell ⟨b7, 2, none⟩ (.int .i64 fu)).setCell ⟨b7, 3, none⟩ (.int .i64 fl)).setCell ⟨b7, 4, none⟩ (.int .i64 fc) = U := ⟨_, rfl⟩
        rw [hU] at T0 d7 d8
        rw [hU]
        refine ⟨fun _ => T0, ?_⟩
        try simp only [Act.put, List.getElem_toArray, List.getElem_cons_zero, List.getElem_cons_succ, List.setIfInBounds_toArray, List.set_cons_zero, List.set_cons_succ]
        have u4 := d8.cell
        have u5 := d8.frozen
        have u6 := d8.lt
        refine wpAnyG_all (rs := [21]) (by kernel_rfl) (by simp) ?_
        intro i hi
        simp only [List.mem_cons, List.not_mem_nil, or_false] at hi
        subst hi
        refine wpOp_now rfl rfl ?_
        go_simp
        replace T0 := T0.setCell (p := ⟨b8, 0, none⟩) (by dsimp only; omega) (.int .i64 tt)
        replace d7 := d7.other (B' := b8) (by omega) 0 (.int .i64 tt)
        replace d8 := d8.set 0 (.int .i64 tt)
        simp only [List.setIfInBounds_toArray, List.set_cons_zero, List.set_cons_succ] at d8
        refine ⟨fun _ => T0, ?_⟩
        try simp only [Act.put, List.getElem_toArray, List.getElem_cons_zero, List.getElem_cons_succ, List.setIfInBounds_toArray, List.set_cons_zero, List.set_cons_succ]
        refine wpAnyG_done (by kernel_rfl) ?_ _
        refine NoPanic.normal ?_
        exact ⟨rfl, (b7, b8), by kernel_rfl, d7, d8, T0, l7⟩
  · rintro ⟨b7, b8⟩ Y ⟨y7, y8, yB, yl⟩
    simp only [putsG, List.foldl_cons, List.foldl_nil, List.setIfInBounds_toArray, List.set_cons_zero, List.set_cons_succ]
    have y8c := y8.cell 0
    simp only [List.getElem?_toArray, List.getElem?_cons_zero] at y8c
    have hMY := mapAt_below hM1 yB
    go_wp2_with (fail)
    refine (hL Y hMY b8 y8c).mono ?_
    rintro e Y2 ⟨rfl, hb2⟩
    have yB2 := yB.trans (hb2.mono yB.size)
    have z7 := y7.below' hb2
    have z0 := q0.below' yB2
    have z1 := q1.below' yB2
    have z9 := Blk.new Y2 #[.int .i64 hb, .int .i64 hk, .int .i64 hu, .int .i64 hl, .int .i64 hc] 28
    have zB := yB2.alloc yB2.size (.cells #[.int .i64 hb, .int .i64 hk, .int .i64 hu, .int .i64 hl, .int .i64 hc] 28)
    replace z7 := z7.alloc (.cells #[.int .i64 hb, .int .i64 hk, .int .i64 hu, .int .i64 hl, .int .i64 hc] 28)
    replace z0 := z0.alloc (.cells #[.int .i64 hb, .int .i64 hk, .int .i64 hu, .int .i64 hl, .int .i64 hc] 28)
    replace z1 := z1.alloc (.cells #[.int .i64 hb, .int .i64 hk, .int .i64 hu, .int .i64 hl, .int .i64 hc] 28)
    go_wp2
    obtain ⟨b9, hb9⟩ : ∃ b, Y2.heap.size = b := ⟨_, rfl⟩
    rw [hb9] at z9
    obtain ⟨Z, hZ⟩ : ∃ Z, Y2.alloc (.cells #[.int .i64 hb, .int .i64 hk, .int .i64 hu, .int .i64 hl, .int .i64 hc] 28) = Z := ⟨_, rfl⟩
    rw [hZ] at z7 z0 z1 z9 zB
    try rw [hZ]
    try rw [hb9]
    have l9 : w.heap.size + 1 < b9 := by have := z1.lt; rw [← hZ] at this; simp at this; have := q1.lt; have := yB2.size; omega
    have zB2 := qB.trans (zB.mono qB.size)
    clear hZ hb9 yB2 hb2 hMY y7 y8 yB yl y8c
    refine wp_region_noPanic ?_
    refine wp_region_g (S := untilG [14] (fun X => Below Z.heap.size Z X)) (by kernel_rfl) ?_
    have T0 : Below Z.heap.size Z Z.drew := (Below.refl Z.heap.size Z).drew
    obtain ⟨Z0, hZ0⟩ : ∃ X, Z.drew = X := ⟨_, rfl⟩
    rw [hZ0] at T0 ⊢
    clear hZ0
    have v1 := at_below hm1 zB
    have v7 := z7.cell 1
    have v0 := z0.cell 4
    have v9 := z9.cell 1
    obtain ⟨v20, v21, v22, v23, v24⟩ := hcJ Z zB2
    simp only [List.getElem?_toArray, List.getElem?_cons_succ, List.getElem?_cons_zero] at v7 v0 v9
    have y1 := (z1.below' T0).cell
    have y2 := (z1.below' T0).frozen
    have y3 := (z1.below' T0).lt
    refine wpAnyG_take [0, 1, 2, 3, 12, 13] (i := 0) (v := (.pointer (some ⟨m, 0, none⟩))) rfl (by kernel_rfl) (by kernel_rfl) (by kernel_rfl) (by kernel_rfl) (by kernel_rfl) (by kernel_rfl) (by kernel_rfl) (by kernel_rfl) (fun _ _ _ h => h) (Or.inl ⟨by rfl, ?hy⟩) T0 ?_
    case hy =>
      intro X hX
      go_simp
    try simp only [Act.put, List.getElem_toArray, List.getElem_cons_zero, List.getElem_cons_succ, List.setIfInBounds_toArray, List.set_cons_zero, List.set_cons_succ]
    refine wpAnyG_take [1, 2, 3, 12, 13] (i := 1) (v := (.pointer (some ⟨m, 0, none⟩))) rfl (by kernel_rfl) (by kernel_rfl) (by kernel_rfl) (by kernel_rfl) (by kernel_rfl) (by kernel_rfl) (by kernel_rfl) (by kernel_rfl) (fun _ _ _ h => h) (Or.inl ⟨by rfl, ?hy⟩) T0 ?_
    case hy =>
      intro X hX
      go_simp
    try simp only [Act.put, List.getElem_toArray, List.getElem_cons_zero, List.getElem_cons_succ, List.setIfInBounds_toArray, List.set_cons_zero, List.set_cons_succ]
    refine wpAnyG_take [2, 3, 12, 13] (i := 2) (v := (.pointer (some ⟨m, 1, none⟩))) rfl (by kernel_rfl) (by kernel_rfl) (by kernel_rfl) (by kernel_rfl) (by kernel_rfl) (by kernel_rfl) (by kernel_rfl) (by kernel_rfl) (fun _ _ _ h => h) (Or.inl ⟨by rfl, ?hy⟩) T0 ?_
    case hy =>
      intro X hX
      go_simp
    try simp only [Act.put, List.getElem_toArray, List.getElem_cons_zero, List.getElem_cons_succ, List.setIfInBounds_toArray, List.set_cons_zero, List.set_cons_succ]
    refine wpAnyG_take [3, 12, 13] (i := 3) (v := (.slice (some ⟨ga, 0, none⟩) (nP s + 1) ca)) rfl (by kernel_rfl) (by kernel_rfl) (by kernel_rfl) (by kernel_rfl) (by kernel_rfl) (by kernel_rfl) (by kernel_rfl) (by kernel_rfl) (fun _ _ _ h => h) (Or.inl ⟨by rfl, ?hy⟩) T0 ?_
    case hy =>
      intro X hX
      have e0 := at_below v1 hX
      go_simp
    try simp only [Act.put, List.getElem_toArray, List.getElem_cons_zero, List.getElem_cons_succ, List.setIfInBounds_toArray, List.set_cons_zero, List.set_cons_succ]
    refine wpAnyG_take [4, 5, 8, 11, 12, 13] (i := 4) (v := (.pointer (some ⟨b7, 1, none⟩))) rfl (by kernel_rfl) (by kernel_rfl) (by kernel_rfl) (by kernel_rfl) (by kernel_rfl) (by kernel_rfl) (by kernel_rfl) (by kernel_rfl) (fun _ _ _ h => h) (Or.inl ⟨by rfl, ?hy⟩) T0 ?_
    case hy =>
      intro X hX
      go_simp
    try simp only [Act.put, List.getElem_toArray, List.getElem_cons_zero, List.getElem_cons_succ, List.setIfInBounds_toArray, List.set_cons_zero, List.set_cons_succ]
    refine wpAnyG_take [5, 8, 11, 12, 13] (i := 5) (v := (.int .i64 fk)) rfl (by kernel_rfl) (by kernel_rfl) (by kernel_rfl) (by kernel_rfl) (by kernel_rfl) (by kernel_rfl) (by kernel_rfl) (by kernel_rfl) (fun _ _ _ h => h) (Or.inl ⟨by rfl, ?hy⟩) T0 ?_
    case hy =>
      intro X hX
      have e0 := at_below v7 hX
      go_simp
    try simp only [Act.put, List.getElem_toArray, List.getElem_cons_zero, List.getElem_cons_succ, List.setIfInBounds_toArray, List.set_cons_zero, List.set_cons_succ]
    refine wpAnyG_take [6, 7, 8, 11, 12, 13] (i := 6) (v := (.pointer (some ⟨w.heap.size, 4, none⟩))) rfl (by kernel_rfl) (by kernel_rfl) (by kernel_rfl) (by kernel_rfl) (by kernel_rfl) (by kernel_rfl) (by kernel_rfl) (by kernel_rfl) (fun _ _ _ h => h) (Or.inl ⟨by rfl, ?hy⟩) T0 ?_
    case hy =>
      intro X hX
      go_simp
    try simp only [Act.put, List.getElem_toArray, List.getElem_cons_zero, List.getElem_cons_succ, List.setIfInBounds_toArray, List.set_cons_zero, List.set_cons_succ]
    refine wpAnyG_take [7, 8, 11, 12, 13] (i := 7) (v := (.int .i64 pc)) rfl (by kernel_rfl) (by kernel_rfl) (by kernel_rfl) (by kernel_rfl) (by kernel_rfl) (by kernel_rfl) (by kernel_rfl) (by kernel_rfl) (fun _ _ _ h => h) (Or.inl ⟨by rfl, ?hy⟩) T0 ?_
    case hy =>
      intro X hX
      have e0 := at_below v0 hX
      go_simp
    try simp only [Act.put, List.getElem_toArray, List.getElem_cons_zero, List.getElem_cons_succ, List.setIfInBounds_toArray, List.set_cons_zero, List.set_cons_succ]
    refine wpAnyG_take [8, 11, 12, 13] (i := 8) (v := (.int .i64 ((fk : Int) + (pc : Int)))) rfl (by kernel_rfl) (by kernel_rfl) (by kernel_rfl) (by kernel_rfl) (by kernel_rfl) (by kernel_rfl) (by kernel_rfl) (by kernel_rfl) (fun _ _ _ h => h) (Or.inl ⟨by rfl, ?hy⟩) T0 ?_
    case hy =>
      intro X hX
      go_simp
    try simp only [Act.put, List.getElem_toArray, List.getElem_cons_zero, List.getElem_cons_succ, List.setIfInBounds_toArray, List.set_cons_zero, List.set_cons_succ]
    refine wpAnyG_take [9, 10, 11, 12, 13] (i := 9) (v := (.pointer (some ⟨b9, 1, none⟩))) rfl (by kernel_rfl) (by kernel_rfl) (by kernel_rfl) (by kernel_rfl) (by kernel_rfl) (by kernel_rfl) (by kernel_rfl) (by kernel_rfl) (fun _ _ _ h => h) (Or.inl ⟨by rfl, ?hy⟩) T0 ?_
    case hy =>
      intro X hX
      go_simp
    try simp only [Act.put, List.getElem_toArray, List.getElem_cons_zero, List.getElem_cons_succ, List.setIfInBounds_toArray, List.set_cons_zero, List.set_cons_succ]
    refine wpAnyG_take [10, 11, 12, 13] (i := 10) (v := (.int .i64 hk)) rfl (by kernel_rfl) (by kernel_rfl) (by kernel_rfl) (by kernel_rfl) (by kernel_rfl) (by kernel_rfl) (by kernel_rfl) (by kernel_rfl) (fun _ _ _ h => h) (Or.inl ⟨by rfl, ?hy⟩) T0 ?_
    case hy =>
      intro X hX
      have e0 := at_below v9 hX
      go_simp
    try simp only [Act.put, List.getElem_toArray, List.getElem_cons_zero, List.getElem_cons_succ, List.setIfInBounds_toArray, List.set_cons_zero, List.set_cons_succ]
    refine wpAnyG_take [11, 12, 13] (i := 11) (v := (.int .i64 J)) rfl (by kernel_rfl) (by kernel_rfl) (by kernel_rfl) (by kernel_rfl) (by kernel_rfl) (by kernel_rfl) (by kernel_rfl) (by kernel_rfl) (fun _ _ _ h => h) (Or.inl ⟨by rfl, ?hy⟩) T0 ?_
    case hy =>
      intro X hX
      go_simp
    try simp only [Act.put, List.getElem_toArray, List.getElem_cons_zero, List.getElem_cons_succ, List.setIfInBounds_toArray, List.set_cons_zero, List.set_cons_succ]
    refine wpAnyG_take [12, 13] (i := 12) (v := (.pointer (some ⟨ga, J * 5, none⟩))) rfl (by kernel_rfl) (by kernel_rfl) (by kernel_rfl) (by kernel_rfl) (by kernel_rfl) (by kernel_rfl) (by kernel_rfl) (by kernel_rfl) (fun _ _ _ h => h) (Or.inl ⟨by rfl, ?hy⟩) T0 ?_
    case hy =>
      intro X hX
      go_simp
    try simp only [Act.put, List.getElem_toArray, List.getElem_cons_zero, List.getElem_cons_succ, List.setIfInBounds_toArray, List.set_cons_zero, List.set_cons_succ]
    refine wpAnyG_take [13] (i := 13) (v := (.agg #[.int .i64 rb, .int .i64 rk, .int .i64 ru, .int .i64 rl, .int .i64 rc])) rfl (by kernel_rfl) (by kernel_rfl) (by kernel_rfl) (by kernel_rfl) (by kernel_rfl) (by kernel_rfl) (by kernel_rfl) (by kernel_rfl) (fun _ _ _ h => h) (Or.inl ⟨by rfl, ?hy⟩) T0 ?_
    case hy =>
      intro X hX
      have e0 := at_below v20 hX
      have e1 := at_below v21 hX
      have e2 := at_below v22 hX
      have e3 := at_below v23 hX
      have e4 := at_below v24 hX
      go_simp
    try simp only [Act.put, List.getElem_toArray, List.getElem_cons_zero, List.getElem_cons_succ, List.setIfInBounds_toArray, List.set_cons_zero, List.set_cons_succ]
    refine wpAnyG_all (rs := [14]) (by kernel_rfl) (by simp) ?_
    intro i hi
    simp only [List.mem_cons, List.not_mem_nil, or_false] at hi
    subst hi
    refine wpOp_now rfl rfl ?_
    go_simp
    refine ⟨fun h => (nomatch (show (false : Bool) = true from h)), ?_⟩
    refine wpAnyG_done (by kernel_rfl) ?_ _
    refine NoPanic.normal ?_
    have g1 := ((((((z1.below' T0).set 0 (.int .i64 rb)).set 1 (.int .i64 rk)).set 2 (.int .i64 ru)).set 3 (.int .i64 rl)).set 4 (.int .i64 rc)).cell
    have g2 := ((((((z1.below' T0).set 0 (.int .i64 rb)).set 1 (.int .i64 rk)).set 2 (.int .i64 ru)).set 3 (.int .i64 rl)).set 4 (.int .i64 rc)).lt
    have gB := (((((zB2.trans (T0.mono zB2.size)).setCell (p := ⟨w.heap.size + 1, 0, none⟩) (by dsimp only; omega) (.int .i64 rb)).setCell (p := ⟨w.heap.size + 1, 1, none⟩) (by dsimp only; omega) (.int .i64 rk)).setCell (p := ⟨w.heap.size + 1, 2, none⟩) (by dsimp only; omega) (.int .i64 ru)).setCell (p := ⟨w.heap.size + 1, 3, none⟩) (by dsimp only; omega) (.int .i64 rl)).setCell (p := ⟨w.heap.size + 1, 4, none⟩) (by dsimp only; omega) (.int .i64 rc)
    obtain ⟨G, hG⟩ : ∃ G, ((((Z0.setCell ⟨w.heap.size + 1, 0, none⟩ (.int .i64 rb)).setCell ⟨w.heap.size + 1, 1, none⟩ (.int .i64 rk)).setCell ⟨w.heap.size + 1, 2, none⟩ (.int .i64 ru)).setCell ⟨w.heap.size + 1, 3, none⟩ (.int .i64 rl)).setCell ⟨w.heap.size + 1, 4, none⟩ (.int .i64 rc) = G := ⟨_, rfl⟩
    rw [hG] at g1 g2 gB ⊢
    clear hG
    simp at g1
    go_wp2
    refine bodyPost_ret (v := .agg #[.int .i64 rb, .int .i64 rk, .int .i64 ru, .int .i64 rl, .int .i64 rc]) (by simp [results, Try.f39, go_sem, g1, g2]) rfl ⟨rfl, gB⟩
end Go.Proofs.Ytjlfdoonhfkabaa
