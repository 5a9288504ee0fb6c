/- Places: Move. -/
import Derived.Test.YtjlfdoonhfkabaaMv1
namespace Go.Proofs.Ytjlfdoonhfkabaa
set_option linter.unusedVariables false
set_option linter.unusedSimpArgs false
open Go Go.RowKit Go.Shelf
set_option maxRecDepth 100000

set_option maxHeartbeats 4000000 in
theorem move_rune (s : ByteArray) (hs : s.size ≤ 65536) (m : Nat) (w : World) (hM : MapAt s m w) (at' x : Nat) (hat : at' ≤ s.size) (hx : x ≤ nP s) (h1 : (pK s x).b ≤ at') (h2 : x < nP s → at' < (pK s (x + 1)).b) (n : Int) :
    Calls Try.prog 15 #[.pointer (some ⟨m, 0, none⟩), .int .i64 at', .int .i64 1, .int .i64 n] w fun e w' => e = .returned (.tuple #[plV (pK s (clampI x n (nP s))), .int .i64 0]) ∧ Below w.heap.size w w' := by
  have hnP := nP_le s
  have cB := fun W hM => byte_any s hs m W hM at' hat x hx h1 h2
  have hxk := pK_k s x
  have hxu := pK_u_bound s x
  have hxu2 := pK_u_le s hx
  have hEu := pK_u_bound s (nP s)
  have hEk := pK_k s (nP s)
  have cE := fun W hM => end_any s hs m W hM
  obtain ⟨E, hE⟩ : ∃ E, pK s (nP s) = E := ⟨_, rfl⟩
  rw [hE] at cE hEk hEu hxu2 
  clear hE
  obtain ⟨p, hp⟩ : ∃ p, pK s x = p := ⟨_, rfl⟩
  rw [hp] at cB hxk hxu hxu2 
  clear hp h2 h1
  obtain ⟨pb, pk, pu, pl, pc⟩ := p
  obtain ⟨eb, ek, eu, el, ec⟩ := E
  simp only [plV] at cB cE hxk hxu hEk hEu hxu2 
  subst hxk
  obtain ⟨ga, ca, gb, cb', m1, m2, m3⟩ := hM
  have hmc := m1.cell 1
  simp only [List.getElem?_toArray, List.getElem?_cons_succ, List.getElem?_cons_zero] at hmc
  have hM : MapAt s m w := ⟨ga, ca, gb, cb', m1, m2, m3⟩
  have cW := fun W => within_any pk ek n (by omega) (by omega) W
  obtain ⟨J, hJ⟩ : ∃ J, clampI pk n ek = J := ⟨_, rfl⟩
  have hJn : J ≤ ek := by rw [← hJ]; exact clampI_le
  have hJn2 : J ≤ nP s := by omega
  have hcJ := fun X (hX : Below w.heap.size w X) => map_cells (s := s) (ga := ga) (k := J) (W := X) (fun i hi => cell_le (plS_len s _) m2 hX i hi) hJn2
  rw [show clampI pk n (nP s) = J by rw [← hJ, hEk]]
  rw [hJ] at cW
  obtain ⟨r, hr⟩ : ∃ f, pK s J = f := ⟨_, rfl⟩
  rw [hr] at hcJ ⊢
  obtain ⟨rb, rk, ru, rl, rc⟩ := r
  simp only [plV] at hcJ ⊢
  have j0 : (0 : Int) ≤ (J : Int) := by omega
  have j1 : (J : Int) < (nP s : Int) + 1 := by omega
  clear hr hJ m1 m2 m3 hEk hJn hJn2
  have b0 := Blk.new w #[.int .i64 0, .int .i64 0, .int .i64 0, .int .i64 0, .int .i64 0] 28
  have bB : Below w.heap.size w (w.alloc (.cells #[.int .i64 0, .int .i64 0, .int .i64 0, .int .i64 0, .int .i64 0] 28)) := (Below.refl _ w).alloc (Nat.le_refl _) _
  go_enter Try.func15, Try.ntmps15
  go_wp2_with (fail)
  refine (cB _ (mapAt_below hM bB)).mono ?_
  rintro e w1 ⟨rfl, hb1⟩
  have hB1 := bB.trans (hb1.mono bB.size)
  have c0 := (b0.below' hb1).alloc (.cells #[.int .i64 pb, .int .i64 pk, .int .i64 pu, .int .i64 pl, .int .i64 pc] 28)
  have c1 := Blk.new w1 #[.int .i64 pb, .int .i64 pk, .int .i64 pu, .int .i64 pl, .int .i64 pc] 28
  have cBB := hB1.alloc hB1.size (.cells #[.int .i64 pb, .int .i64 pk, .int .i64 pu, .int .i64 pl, .int .i64 pc] 28)
  have l1 : w.heap.size < w1.heap.size := (b0.below' hb1).lt
  obtain ⟨b10, hb10⟩ : ∃ b, w1.heap.size = b := ⟨_, rfl⟩
  rw [hb10] at c1 l1
  obtain ⟨X1, hX1⟩ : ∃ X, w1.alloc (.cells #[.int .i64 pb, .int .i64 pk, .int .i64 pu, .int .i64 pl, .int .i64 pc] 28) = X := ⟨_, rfl⟩
  rw [hX1] at c0 c1 cBB
  clear b0 bB hb1 hB1 cB
  go_wp2_with (fail)
  try rw [hX1]
  clear hX1 hb10
  refine wp_region_noPanic ?_
  refine wp_region_g (S := untilG [] (fun X => Below w.heap.size w X ∧ Blk X b10 #[.int .i64 pb, .int .i64 pk, .int .i64 pu, .int .i64 pl, .int .i64 pc] 28)) (by kernel_rfl) ?_
  have T0 : Below w.heap.size w X1.drew ∧ Blk X1.drew b10 #[.int .i64 pb, .int .i64 pk, .int .i64 pu, .int .i64 pl, .int .i64 pc] 28 := ⟨cBB.drew, c1.drew⟩
  have q0 := c0.drew
  obtain ⟨X2, hX2⟩ : ∃ X, X1.drew = X := ⟨_, rfl⟩
  rw [hX2] at T0 q0 ⊢
  clear hX2 c0 c1 cBB
  refine wpAnyG_take [0, 1, 2, 3, 11, 12, 13] (i := 0) (v := (.pointer (some ⟨m, 0, none⟩))) rfl (by kernel_rfl) (by kernel_rfl) (by kernel_rfl) (by kernel_rfl) (by kernel_rfl) (by kernel_rfl) (by kernel_rfl) (by kernel_rfl) (fun _ _ _ h => h) (Or.inl ⟨by rfl, ?hy⟩) T0 ?_
  case hy =>
    intro X hX
    go_simp
  try simp only [Act.put, List.getElem_toArray, List.getElem_cons_zero, List.getElem_cons_succ, List.setIfInBounds_toArray, List.set_cons_zero, List.set_cons_succ]
  refine wpAnyG_take [1, 2, 3, 11, 12, 13] (i := 1) (v := (.pointer (some ⟨m, 0, none⟩))) rfl (by kernel_rfl) (by kernel_rfl) (by kernel_rfl) (by kernel_rfl) (by kernel_rfl) (by kernel_rfl) (by kernel_rfl) (by kernel_rfl) (fun _ _ _ h => h) (Or.inl ⟨by rfl, ?hy⟩) T0 ?_
  case hy =>
    intro X hX
    go_simp
  try simp only [Act.put, List.getElem_toArray, List.getElem_cons_zero, List.getElem_cons_succ, List.setIfInBounds_toArray, List.set_cons_zero, List.set_cons_succ]
  refine wpAnyG_take [2, 3, 11, 12, 13] (i := 2) (v := (.pointer (some ⟨m, 1, none⟩))) rfl (by kernel_rfl) (by kernel_rfl) (by kernel_rfl) (by kernel_rfl) (by kernel_rfl) (by kernel_rfl) (by kernel_rfl) (by kernel_rfl) (fun _ _ _ h => h) (Or.inl ⟨by rfl, ?hy⟩) T0 ?_
  case hy =>
    intro X hX
    go_simp
  try simp only [Act.put, List.getElem_toArray, List.getElem_cons_zero, List.getElem_cons_succ, List.setIfInBounds_toArray, List.set_cons_zero, List.set_cons_succ]
  refine wpAnyG_take [3, 11, 12, 13] (i := 3) (v := (.slice (some ⟨ga, 0, none⟩) (nP s + 1) ca)) rfl (by kernel_rfl) (by kernel_rfl) (by kernel_rfl) (by kernel_rfl) (by kernel_rfl) (by kernel_rfl) (by kernel_rfl) (by kernel_rfl) (fun _ _ _ h => h) (Or.inl ⟨by rfl, ?hy⟩) T0 ?_
  case hy =>
    intro X hX
    have e0 := at_below hmc hX.1
    go_simp
  try simp only [Act.put, List.getElem_toArray, List.getElem_cons_zero, List.getElem_cons_succ, List.setIfInBounds_toArray, List.set_cons_zero, List.set_cons_succ]
  refine wpAnyG_take [4, 5, 10, 11, 12, 13] (i := 4) (v := (.pointer (some ⟨b10, 1, none⟩))) rfl (by kernel_rfl) (by kernel_rfl) (by kernel_rfl) (by kernel_rfl) (by kernel_rfl) (by kernel_rfl) (by kernel_rfl) (by kernel_rfl) (fun _ _ _ h => h) (Or.inl ⟨by rfl, ?hy⟩) T0 ?_
  case hy =>
    intro X hX
    go_simp
  try simp only [Act.put, List.getElem_toArray, List.getElem_cons_zero, List.getElem_cons_succ, List.setIfInBounds_toArray, List.set_cons_zero, List.set_cons_succ]
  refine wpAnyG_take [5, 10, 11, 12, 13] (i := 5) (v := (.int .i64 pk)) rfl (by kernel_rfl) (by kernel_rfl) (by kernel_rfl) (by kernel_rfl) (by kernel_rfl) (by kernel_rfl) (by kernel_rfl) (by kernel_rfl) (fun _ _ _ h => h) (Or.inl ⟨by rfl, ?hy⟩) T0 ?_
  case hy =>
    intro X hX
    have e0 := hX.2.cell 1
    simp only [List.getElem?_toArray, List.getElem?_cons_succ, List.getElem?_cons_zero] at e0
    go_simp
  try simp only [Act.put, List.getElem_toArray, List.getElem_cons_zero, List.getElem_cons_succ, List.setIfInBounds_toArray, List.set_cons_zero, List.set_cons_succ]
  refine wpAnyG_take [6, 10, 11, 12, 13] (i := 6) (v := (.int .i64 n)) rfl (by kernel_rfl) (by kernel_rfl) (by kernel_rfl) (by kernel_rfl) (by kernel_rfl) (by kernel_rfl) (by kernel_rfl) (by kernel_rfl) (fun _ _ _ h => h) (Or.inl ⟨by rfl, ?hy⟩) T0 ?_
  case hy =>
    intro X hX
    go_simp
  try simp only [Act.put, List.getElem_toArray, List.getElem_cons_zero, List.getElem_cons_succ, List.setIfInBounds_toArray, List.set_cons_zero, List.set_cons_succ]
  refine wpAnyG_take [7, 8, 9, 10, 11, 12, 13] (i := 7) (v := (.pointer (some ⟨m, 0, none⟩))) rfl (by kernel_rfl) (by kernel_rfl) (by kernel_rfl) (by kernel_rfl) (by kernel_rfl) (by kernel_rfl) (by kernel_rfl) (by kernel_rfl) (fun _ _ _ h => h) (Or.inl ⟨by rfl, ?hy⟩) T0 ?_
  case hy =>
    intro X hX
    go_simp
  try simp only [Act.put, List.getElem_toArray, List.getElem_cons_zero, List.getElem_cons_succ, List.setIfInBounds_toArray, List.set_cons_zero, List.set_cons_succ]
  refine wpAnyG_all (rs := [8]) (by kernel_rfl) (by simp) ?_
  intro i hi
  simp only [List.mem_cons, List.not_mem_nil, or_false] at hi
  subst hi
  refine wpOp_open rfl (by rfl) ?_
  go_simp
  refine (cE _ (mapAt_below hM T0.1)).mono ?_
  rintro e Y1 ⟨rfl, hb1⟩
  have k0 := q0.below' hb1
  replace T0 : Below w.heap.size w Y1 ∧ Blk Y1 b10 #[.int .i64 pb, .int .i64 pk, .int .i64 pu, .int .i64 pl, .int .i64 pc] 28 := ⟨T0.1.trans (hb1.mono T0.1.size), T0.2.below' hb1⟩
  refine ⟨fun _ => T0, ?_⟩
  try simp only [Act.put, List.getElem_toArray, List.getElem_cons_zero, List.getElem_cons_succ, List.setIfInBounds_toArray, List.set_cons_zero, List.set_cons_succ]
  refine wpAnyG_take [9, 10, 11, 12, 13] (i := 9) (v := (.int .i64 ek)) rfl (by kernel_rfl) (by kernel_rfl) (by kernel_rfl) (by kernel_rfl) (by kernel_rfl) (by kernel_rfl) (by kernel_rfl) (by kernel_rfl) (fun _ _ _ h => h) (Or.inl ⟨by rfl, ?hy⟩) T0 ?_
  case hy =>
    intro X hX
    have e9 := fun (X : World) => field_k (.int .i64 eb) (.int .i64 ek) (.int .i64 eu) (.int .i64 el) (.int .i64 ec) X
    go_simp
  try simp only [Act.put, List.getElem_toArray, List.getElem_cons_zero, List.getElem_cons_succ, List.setIfInBounds_toArray, List.set_cons_zero, List.set_cons_succ]
  refine wpAnyG_all (rs := [10]) (by kernel_rfl) (by simp) ?_
  intro i hi
  simp only [List.mem_cons, List.not_mem_nil, or_false] at hi
  subst hi
  refine wpOp_open rfl (by rfl) ?_
  go_simp
  refine (cW _).mono ?_
  rintro e Y2 ⟨rfl, rfl⟩
  refine ⟨fun _ => T0, ?_⟩
  try simp only [Act.put, List.getElem_toArray, List.getElem_cons_zero, List.getElem_cons_succ, List.setIfInBounds_toArray, List.set_cons_zero, List.set_cons_succ]
  refine wpAnyG_take [11, 12, 13] (i := 11) (v := (.pointer (some ⟨ga, J * 5, none⟩))) rfl (by kernel_rfl) (by kernel_rfl) (by kernel_rfl) (by kernel_rfl) (by kernel_rfl) (by kernel_rfl) (by kernel_rfl) (by kernel_rfl) (fun _ _ _ h => h) (Or.inl ⟨by rfl, ?hy⟩) T0 ?_
  case hy =>
    intro X hX
    go_simp
  try simp only [Act.put, List.getElem_toArray, List.getElem_cons_zero, List.getElem_cons_succ, List.setIfInBounds_toArray, List.set_cons_zero, List.set_cons_succ]
  refine wpAnyG_take [12, 13] (i := 12) (v := (.agg #[.int .i64 rb, .int .i64 rk, .int .i64 ru, .int .i64 rl, .int .i64 rc])) rfl (by kernel_rfl) (by kernel_rfl) (by kernel_rfl) (by kernel_rfl) (by kernel_rfl) (by kernel_rfl) (by kernel_rfl) (by kernel_rfl) (fun _ _ _ h => h) (Or.inl ⟨by rfl, ?hy⟩) T0 ?_
  case hy =>
    intro X hX
    obtain ⟨e0, e1, e2, e3, e4⟩ := hcJ X hX.1
    go_simp
  try simp only [Act.put, List.getElem_toArray, List.getElem_cons_zero, List.getElem_cons_succ, List.setIfInBounds_toArray, List.set_cons_zero, List.set_cons_succ]
  have f1 := k0.cell
  have f2 := k0.frozen
  have f3 := k0.lt
  refine wpAnyG_all (rs := [13]) (by kernel_rfl) (by simp) ?_
  intro i hi
  simp only [List.mem_cons, List.not_mem_nil, or_false] at hi
  subst hi
  refine wpOp_now rfl rfl ?_
  go_simp
  have g1 := ((((k0.set 0 (.int .i64 rb)).set 1 (.int .i64 rk)).set 2 (.int .i64 ru)).set 3 (.int .i64 rl)).set 4 (.int .i64 rc)
  have gp := ((((T0.2.other (B' := w.heap.size) (by omega) 0 (.int .i64 rb)).other (B' := w.heap.size) (by omega) 1 (.int .i64 rk)).other (B' := w.heap.size) (by omega) 2 (.int .i64 ru)).other (B' := w.heap.size) (by omega) 3 (.int .i64 rl)).other (B' := w.heap.size) (by omega) 4 (.int .i64 rc)
  have gB := ((((T0.1.setCell (p := ⟨w.heap.size, 0, none⟩) (by dsimp only; omega) (.int .i64 rb)).setCell (p := ⟨w.heap.size, 1, none⟩) (by dsimp only; omega) (.int .i64 rk)).setCell (p := ⟨w.heap.size, 2, none⟩) (by dsimp only; omega) (.int .i64 ru)).setCell (p := ⟨w.heap.size, 3, none⟩) (by dsimp only; omega) (.int .i64 rl)).setCell (p := ⟨w.heap.size, 4, none⟩) (by dsimp only; omega) (.int .i64 rc)
  obtain ⟨G, hG⟩ : ∃ G, ((((Y1.setCell ⟨w.heap.size, 0, none⟩ (.int .i64 rb)).setCell ⟨w.heap.size, 1, none⟩ (.int .i64 rk)).setCell ⟨w.heap.size, 2, none⟩ (.int .i64 ru)).setCell ⟨w.heap.size, 3, none⟩ (.int .i64 rl)).setCell ⟨w.heap.size, 4, none⟩ (.int .i64 rc) = G := ⟨_, rfl⟩
  rw [hG] at g1 gB gp ⊢
  clear hG
  replace T0 : Below w.heap.size w G ∧ Blk G b10 #[.int .i64 pb, .int .i64 pk, .int .i64 pu, .int .i64 pl, .int .i64 pc] 28 := ⟨gB, gp⟩
  refine ⟨fun _ => T0, ?_⟩
  try simp only [Act.put, List.getElem_toArray, List.getElem_cons_zero, List.getElem_cons_succ, List.setIfInBounds_toArray, List.set_cons_zero, List.set_cons_succ]
  refine wpAnyG_take [14] (i := 14) (v := (.int .i64 0)) rfl (by kernel_rfl) (by kernel_rfl) (by kernel_rfl) (by kernel_rfl) (by kernel_rfl) (by kernel_rfl) (by kernel_rfl) (by kernel_rfl) (fun _ _ _ h => h) (Or.inl ⟨by rfl, ?hy⟩) T0 ?_
  case hy =>
    intro X hX
    go_simp
  try simp only [Act.put, List.getElem_toArray, List.getElem_cons_zero, List.getElem_cons_succ, List.setIfInBounds_toArray, List.set_cons_zero, List.set_cons_succ]
  refine wpAnyG_done (by kernel_rfl) ?_ _
  refine NoPanic.normal ?_
  have k1 := g1.cell
  have k2 := g1.lt
  simp at k1
  go_wp2
  exact bodyPost_ret (v := .tuple #[.agg #[.int .i64 rb, .int .i64 rk, .int .i64 ru, .int .i64 rl, .int .i64 rc], .int .i64 0]) (by simp [results, Try.f15, go_sem, k1, k2]) rfl ⟨rfl, gB⟩

set_option maxHeartbeats 4000000 in
theorem move_line (s : ByteArray) (hs : s.size ≤ 65536) (m : Nat) (w : World) (hM : MapAt s m w) (at' x : Nat) (hat : at' ≤ s.size) (hx : x ≤ nP s) (h1 : (pK s x).b ≤ at') (h2 : x < nP s → at' < (pK s (x + 1)).b) (n : Int) (y : Nat)
    (hD : ∀ W, MapAt s m W → Calls Try.prog 39 #[.pointer (some ⟨m, 0, none⟩), plV (pK s x), .int .i64 n] W fun e w' => e = .returned (plV (pK s y)) ∧ Below W.heap.size W w') :
    Calls Try.prog 15 #[.pointer (some ⟨m, 0, none⟩), .int .i64 at', .int .i64 3, .int .i64 n] w fun e w' => e = .returned (.tuple #[plV (pK s y), .int .i64 0]) ∧ Below w.heap.size w w' := by
  have hnP := nP_le s
  have cB := fun W hM => byte_any s hs m W hM at' hat x hx h1 h2
  have hxk := pK_k s x
  have hxu := pK_u_bound s x
  have hxu2 := pK_u_le s hx
  have hEu := pK_u_bound s (nP s)
  have hEk := pK_k s (nP s)
  have cE := fun W hM => end_any s hs m W hM
  obtain ⟨E, hE⟩ : ∃ E, pK s (nP s) = E := ⟨_, rfl⟩
  rw [hE] at cE hEk hEu hxu2 
  clear hE
  obtain ⟨p, hp⟩ : ∃ p, pK s x = p := ⟨_, rfl⟩
  rw [hp] at cB hxk hxu hxu2 hD
  clear hp h2 h1
  obtain ⟨pb, pk, pu, pl, pc⟩ := p
  obtain ⟨eb, ek, eu, el, ec⟩ := E
  simp only [plV] at cB cE hxk hxu hEk hEu hxu2 hD
  subst hxk
  obtain ⟨r, hr⟩ : ∃ f, pK s y = f := ⟨_, rfl⟩
  rw [hr] at hD ⊢
  clear hr cE
  obtain ⟨rb, rk, ru, rl, rc⟩ := r
  simp only [plV] at hD ⊢
  have b0 := Blk.new w #[.int .i64 0, .int .i64 0, .int .i64 0, .int .i64 0, .int .i64 0] 28
  have bB : Below w.heap.size w (w.alloc (.cells #[.int .i64 0, .int .i64 0, .int .i64 0, .int .i64 0, .int .i64 0] 28)) := (Below.refl _ w).alloc (Nat.le_refl _) _
  go_enter Try.func15, Try.ntmps15
  go_wp2_with (fail)
  refine (cB _ (mapAt_below hM bB)).mono ?_
  rintro e w1 ⟨rfl, hb1⟩
  have hB1 := bB.trans (hb1.mono bB.size)
  have c0 := (b0.below' hb1).alloc (.cells #[.int .i64 pb, .int .i64 pk, .int .i64 pu, .int .i64 pl, .int .i64 pc] 28)
  have c1 := Blk.new w1 #[.int .i64 pb, .int .i64 pk, .int .i64 pu, .int .i64 pl, .int .i64 pc] 28
  have cBB := hB1.alloc hB1.size (.cells #[.int .i64 pb, .int .i64 pk, .int .i64 pu, .int .i64 pl, .int .i64 pc] 28)
  have l1 : w.heap.size < w1.heap.size := (b0.below' hb1).lt
  obtain ⟨b10, hb10⟩ : ∃ b, w1.heap.size = b := ⟨_, rfl⟩
  rw [hb10] at c1 l1
  obtain ⟨X1, hX1⟩ : ∃ X, w1.alloc (.cells #[.int .i64 pb, .int .i64 pk, .int .i64 pu, .int .i64 pl, .int .i64 pc] 28) = X := ⟨_, rfl⟩
  rw [hX1] at c0 c1 cBB
  clear b0 bB hb1 hB1 cB
  have e1 := c1.cell
  have hMX := mapAt_below hM cBB
  go_wp2_with (fail)
  try rw [hX1]
  refine (hD _ hMX).mono ?_
  rintro e w2 ⟨rfl, hb2⟩
  have k0 := c0.below' hb2
  have hB2 := cBB.trans (hb2.mono cBB.size)
  have f1 := k0.cell
  have f2 := k0.frozen
  have f3 := k0.lt
  go_wp2
  refine bodyPost_ret (v := .tuple #[.agg #[.int .i64 rb, .int .i64 rk, .int .i64 ru, .int .i64 rl, .int .i64 rc], .int .i64 0]) (by simp [results, Try.f15, go_sem, f1, f3]) rfl ⟨rfl, ?_⟩
  exact ((((hB2.setCell (p := ⟨w.heap.size, 0, none⟩) (by dsimp only; omega) _).setCell (p := ⟨w.heap.size, 1, none⟩) (by dsimp only; omega) _).setCell (p := ⟨w.heap.size, 2, none⟩) (by dsimp only; omega) _).setCell (p := ⟨w.heap.size, 3, none⟩) (by dsimp only; omega) _).setCell (p := ⟨w.heap.size, 4, none⟩) (by dsimp only; omega) _

end Go.Proofs.Ytjlfdoonhfkabaa
