/- Stage 31: cmp.Or, the order of voices' notes. -/
import Derived.Test.YtdlbopaefkbmhaaCh1
import Derived.Sort.Grow
namespace Go.Proofs.Ytdlbopaefkbmhaa
set_option linter.unusedVariables false
set_option linter.unusedSimpArgs false
open Go Go.RowKit Go.Shelf
open Go.Sort (grow alloc_eq_grow grow_grow)
set_option maxRecDepth 100000

set_option maxHeartbeats 1000000 in
theorem or_any (a b c : Int) (X : World) (g : Nat) (h : Blk X g #[.int .i64 a, .int .i64 b, .int .i64 c] 3) : Calls Try.prog 26 #[.slice (some ⟨g, 0, none⟩) 3 3] X fun e w' => e = .returned (.int .i64 (or3 a b c)) ∧ w' = X := by
  have c0 := h.cell 0
  have c1 := h.cell 1
  have c2 := h.cell 2
  simp only [List.getElem?_toArray, List.getElem?_cons_succ, List.getElem?_cons_zero] at c0 c1 c2
  clear h
  go_enter Try.func26, Try.ntmps26
  go_wp2
  go_loop [8] (fun i => ∃ k : Nat, k ≤ 3 ∧ i = .int .i64 k ∧ (0 < k → a = 0) ∧ (1 < k → b = 0) ∧ (2 < k → c = 0)) (fun i => 3 - (intOf i).toNat)
  case atStart => exact ⟨0, by omega, rfl, by omega, by omega, by omega⟩
  case round =>
    obtain ⟨k, hk, rfl, ha, hb, hc⟩ := hrel
    have hk4 : k = 0 ∨ k = 1 ∨ k = 2 ∨ k = 3 := by omega
    rcases hk4 with rfl | rfl | rfl | rfl
    · by_cases h : a = 0
      · have e : ((a : Int) != 0) = false := by simp [h]
        go_wp2
        go_round
        case rel => exact ⟨1, by omega, rfl, fun _ => h, by omega, by omega⟩
        case measure => simp [intOf]
      · have e : ((a : Int) != 0) = true := by simp [h]
        go_wp2
        go_ret
        exact ⟨ret_intK (by unfold or3; rw [if_pos h]), rfl⟩
    · have ha := ha (by omega)
      by_cases h : b = 0
      · have e : ((b : Int) != 0) = false := by simp [h]
        go_wp2
        go_round
        case rel => exact ⟨2, by omega, rfl, fun _ => ha, fun _ => h, by omega⟩
        case measure => simp [intOf]
      · have e : ((b : Int) != 0) = true := by simp [h]
        have HA := Lib.hid ha
        clear ha
        go_wp2
        go_ret
        exact ⟨ret_intK (by unfold or3; rw [if_neg (by simp [HA.out]), if_pos h]), rfl⟩
    · have ha := ha (by omega)
      have hb := hb (by omega)
      by_cases h : c = 0
      · have e : ((c : Int) != 0) = false := by simp [h]
        go_wp2
        go_round
        case rel => exact ⟨3, by omega, rfl, fun _ => ha, fun _ => hb, fun _ => h⟩
        case measure => simp [intOf]
      · have e : ((c : Int) != 0) = true := by simp [h]
        have HA := Lib.hid (And.intro ha hb)
        clear ha hb
        go_wp2
        go_ret
        exact ⟨ret_intK (by unfold or3; rw [if_neg (by simp [HA.out.1]), if_neg (by simp [HA.out.2])]), rfl⟩
    · have HA := Lib.hid (And.intro (ha (by omega)) (And.intro (hb (by omega)) (hc (by omega))))
      clear ha hb hc
      go_wp2
      go_ret
      exact ⟨ret_intK (by unfold or3; rw [if_neg (by simp [HA.out.1]), if_neg (by simp [HA.out.2.1]), HA.out.2.2]), rfl⟩

theorem grow_three (w : World) (o1 o2 o3 : Obj) : ((w.alloc o1).alloc o2).drew.alloc o3 = grow (w.drewN 1) #[o1, o2, o3] := by
  have h1 : ∀ (u : World) (os : Array Obj), (grow u os).drew = grow (u.drewN 1) os := fun _ _ => rfl
  rw [alloc_eq_grow w o1, alloc_eq_grow (grow w #[o1]) o2, grow_grow, h1, alloc_eq_grow, grow_grow]
  rfl

set_option maxHeartbeats 4000000 in
theorem order_any (x y : Sg) (w : World) : Calls Try.prog 22 #[.agg (encS x).toArray, .agg (encS y).toArray] w fun e w' => e = .returned (.int .i64 (cmS x y)) ∧ ∃ q os', w' = grow (w.drewN q) os' := by
  obtain ⟨xv, xk, ⟨xl, xb, xw, xs, xa, xo⟩⟩ := x
  obtain ⟨yv, yk, ⟨yl, yb, yw, ys, ya, yo⟩⟩ := y
  have cM := fun W => moments_any xa ya W
  have cV := fun W => cmp_any xv yv W
  have cK := fun W => cmp_any xk yk W
  have hs : cmS ⟨xv, xk, ⟨xl, xb, xw, xs, xa, xo⟩⟩ ⟨yv, yk, ⟨yl, yb, yw, ys, ya, yo⟩⟩ = or3 (cmF xa ya) (Lib.compareInt xv yv) (Lib.compareInt xk yk) := rfl
  rw [hs]
  clear hs
  simp only [encS]
  generalize cmF xa ya = r1 at *
  generalize Lib.compareInt xv yv = r2 at *
  generalize Lib.compareInt xk yk = r3 at *
  go_enter Try.func22, Try.ntmps22
  go_wp2_with (fail)
  have b0 : Blk _ _ _ _ := (Blk.new w #[.int .i64 xv, .int .i64 xk, .int .i64 xl, .int .i64 xb, .int .i64 xw, .bool xs, .float .f64 xa, .float .f64 xo] 39).alloc (.cells #[.int .i64 yv, .int .i64 yk, .int .i64 yl, .int .i64 yb, .int .i64 yw, .bool ys, .float .f64 ya, .float .f64 yo] 39)
  have b1 : Blk _ _ _ _ := Blk.new (w.alloc (.cells #[.int .i64 xv, .int .i64 xk, .int .i64 xl, .int .i64 xb, .int .i64 xw, .bool xs, .float .f64 xa, .float .f64 xo] 39)) #[.int .i64 yv, .int .i64 yk, .int .i64 yl, .int .i64 yb, .int .i64 yw, .bool ys, .float .f64 ya, .float .f64 yo] 39
  rw [World.size_alloc] at b1
  obtain ⟨W2, hW2⟩ : ∃ Z, (w.alloc (.cells #[.int .i64 xv, .int .i64 xk, .int .i64 xl, .int .i64 xb, .int .i64 xw, .bool xs, .float .f64 xa, .float .f64 xo] 39)).alloc (.cells #[.int .i64 yv, .int .i64 yk, .int .i64 yl, .int .i64 yb, .int .i64 yw, .bool ys, .float .f64 ya, .float .f64 yo] 39) = Z := ⟨_, rfl⟩
  rw [hW2] at b0 b1 ⊢
  have p0 := b0.cell 0
  have p1 := b0.cell 1
  have p6 := b0.cell 6
  have q0 := b1.cell 0
  have q1 := b1.cell 1
  have q6 := b1.cell 6
  simp only [List.getElem?_toArray, List.getElem?_cons_succ, List.getElem?_cons_zero] at p0 p1 p6 q0 q1 q6
  have HW := Lib.hid hW2
  clear hW2 b0 b1
  refine wp_region_noPanic ?_
  refine wp_region_g (S := untilG [] (fun Y => Below W2.heap.size W2 Y)) (by kernel_rfl) ?_
  obtain ⟨X0, hX0⟩ : ∃ Y, W2.drew = Y := ⟨_, rfl⟩
  have T0 : Below W2.heap.size W2 X0 := hX0 ▸ (Below.refl W2.heap.size W2).drew
  rw [hX0]
  have HX := Lib.hid hX0
  clear hX0
  refine wpAnyG_take [0, 1, 2, 6, 17, 18, 19] (i := 0) (v := (.pointer (some ⟨w.heap.size, 2, none⟩))) rfl (by kernel_rfl) (by kernel_rfl) (by kernel_rfl) (by kernel_rfl) (by kernel_rfl) (by kernel_rfl) (by kernel_rfl) (by kernel_rfl) (fun _ _ _ h => h) (Or.inl ⟨by rfl, ?hy⟩) T0 ?_
  case hy =>
    intro X hX
    go_simp
  try simp only [Act.put, List.getElem_toArray, List.getElem_cons_zero, List.getElem_cons_succ, List.setIfInBounds_toArray, List.set_cons_zero, List.set_cons_succ]
  refine wpAnyG_take [1, 2, 6, 17, 18, 19] (i := 1) (v := (.pointer (some ⟨w.heap.size, 6, none⟩))) rfl (by kernel_rfl) (by kernel_rfl) (by kernel_rfl) (by kernel_rfl) (by kernel_rfl) (by kernel_rfl) (by kernel_rfl) (by kernel_rfl) (fun _ _ _ h => h) (Or.inl ⟨by rfl, ?hy⟩) T0 ?_
  case hy =>
    intro X hX
    go_simp
  try simp only [Act.put, List.getElem_toArray, List.getElem_cons_zero, List.getElem_cons_succ, List.setIfInBounds_toArray, List.set_cons_zero, List.set_cons_succ]
  refine wpAnyG_take [2, 6, 17, 18, 19] (i := 2) (v := (.float .f64 xa)) rfl (by kernel_rfl) (by kernel_rfl) (by kernel_rfl) (by kernel_rfl) (by kernel_rfl) (by kernel_rfl) (by kernel_rfl) (by kernel_rfl) (fun _ _ _ h => h) (Or.inl ⟨by rfl, ?hy⟩) T0 ?_
  case hy =>
    intro X hX
    have e0 := at_below p6 hX
    go_simp
  try simp only [Act.put, List.getElem_toArray, List.getElem_cons_zero, List.getElem_cons_succ, List.setIfInBounds_toArray, List.set_cons_zero, List.set_cons_succ]
  refine wpAnyG_take [3, 4, 5, 6, 17, 18, 19] (i := 3) (v := (.pointer (some ⟨w.heap.size + 1, 2, none⟩))) rfl (by kernel_rfl) (by kernel_rfl) (by kernel_rfl) (by kernel_rfl) (by kernel_rfl) (by kernel_rfl) (by kernel_rfl) (by kernel_rfl) (fun _ _ _ h => h) (Or.inl ⟨by rfl, ?hy⟩) T0 ?_
  case hy =>
    intro X hX
    go_simp
  try simp only [Act.put, List.getElem_toArray, List.getElem_cons_zero, List.getElem_cons_succ, List.setIfInBounds_toArray, List.set_cons_zero, List.set_cons_succ]
  refine wpAnyG_take [4, 5, 6, 17, 18, 19] (i := 4) (v := (.pointer (some ⟨w.heap.size + 1, 6, none⟩))) rfl (by kernel_rfl) (by kernel_rfl) (by kernel_rfl) (by kernel_rfl) (by kernel_rfl) (by kernel_rfl) (by kernel_rfl) (by kernel_rfl) (fun _ _ _ h => h) (Or.inl ⟨by rfl, ?hy⟩) T0 ?_
  case hy =>
    intro X hX
    go_simp
  try simp only [Act.put, List.getElem_toArray, List.getElem_cons_zero, List.getElem_cons_succ, List.setIfInBounds_toArray, List.set_cons_zero, List.set_cons_succ]
  refine wpAnyG_take [5, 6, 17, 18, 19] (i := 5) (v := (.float .f64 ya)) rfl (by kernel_rfl) (by kernel_rfl) (by kernel_rfl) (by kernel_rfl) (by kernel_rfl) (by kernel_rfl) (by kernel_rfl) (by kernel_rfl) (fun _ _ _ h => h) (Or.inl ⟨by rfl, ?hy⟩) T0 ?_
  case hy =>
    intro X hX
    have e0 := at_below q6 hX
    go_simp
  try simp only [Act.put, List.getElem_toArray, List.getElem_cons_zero, List.getElem_cons_succ, List.setIfInBounds_toArray, List.set_cons_zero, List.set_cons_succ]
  refine wpAnyG_take [7, 8, 11, 17, 18, 19] (i := 7) (v := (.pointer (some ⟨w.heap.size, 0, none⟩))) rfl (by kernel_rfl) (by kernel_rfl) (by kernel_rfl) (by kernel_rfl) (by kernel_rfl) (by kernel_rfl) (by kernel_rfl) (by kernel_rfl) (fun _ _ _ h => h) (Or.inl ⟨by rfl, ?hy⟩) T0 ?_
  case hy =>
    intro X hX
    go_simp
  try simp only [Act.put, List.getElem_toArray, List.getElem_cons_zero, List.getElem_cons_succ, List.setIfInBounds_toArray, List.set_cons_zero, List.set_cons_succ]
  refine wpAnyG_take [8, 11, 17, 18, 19] (i := 8) (v := (.int .i64 xv)) rfl (by kernel_rfl) (by kernel_rfl) (by kernel_rfl) (by kernel_rfl) (by kernel_rfl) (by kernel_rfl) (by kernel_rfl) (by kernel_rfl) (fun _ _ _ h => h) (Or.inl ⟨by rfl, ?hy⟩) T0 ?_
  case hy =>
    intro X hX
    have e0 := at_below p0 hX
    go_simp
  try simp only [Act.put, List.getElem_toArray, List.getElem_cons_zero, List.getElem_cons_succ, List.setIfInBounds_toArray, List.set_cons_zero, List.set_cons_succ]
  refine wpAnyG_take [9, 10, 11, 17, 18, 19] (i := 9) (v := (.pointer (some ⟨w.heap.size + 1, 0, none⟩))) rfl (by kernel_rfl) (by kernel_rfl) (by kernel_rfl) (by kernel_rfl) (by kernel_rfl) (by kernel_rfl) (by kernel_rfl) (by kernel_rfl) (fun _ _ _ h => h) (Or.inl ⟨by rfl, ?hy⟩) T0 ?_
  case hy =>
    intro X hX
    go_simp
  try simp only [Act.put, List.getElem_toArray, List.getElem_cons_zero, List.getElem_cons_succ, List.setIfInBounds_toArray, List.set_cons_zero, List.set_cons_succ]
  refine wpAnyG_take [10, 11, 17, 18, 19] (i := 10) (v := (.int .i64 yv)) rfl (by kernel_rfl) (by kernel_rfl) (by kernel_rfl) (by kernel_rfl) (by kernel_rfl) (by kernel_rfl) (by kernel_rfl) (by kernel_rfl) (fun _ _ _ h => h) (Or.inl ⟨by rfl, ?hy⟩) T0 ?_
  case hy =>
    intro X hX
    have e0 := at_below q0 hX
    go_simp
  try simp only [Act.put, List.getElem_toArray, List.getElem_cons_zero, List.getElem_cons_succ, List.setIfInBounds_toArray, List.set_cons_zero, List.set_cons_succ]
  refine wpAnyG_take [12, 13, 16, 17, 18, 19] (i := 12) (v := (.pointer (some ⟨w.heap.size, 1, none⟩))) rfl (by kernel_rfl) (by kernel_rfl) (by kernel_rfl) (by kernel_rfl) (by kernel_rfl) (by kernel_rfl) (by kernel_rfl) (by kernel_rfl) (fun _ _ _ h => h) (Or.inl ⟨by rfl, ?hy⟩) T0 ?_
  case hy =>
    intro X hX
    go_simp
  try simp only [Act.put, List.getElem_toArray, List.getElem_cons_zero, List.getElem_cons_succ, List.setIfInBounds_toArray, List.set_cons_zero, List.set_cons_succ]
  refine wpAnyG_take [13, 16, 17, 18, 19] (i := 13) (v := (.int .i64 xk)) rfl (by kernel_rfl) (by kernel_rfl) (by kernel_rfl) (by kernel_rfl) (by kernel_rfl) (by kernel_rfl) (by kernel_rfl) (by kernel_rfl) (fun _ _ _ h => h) (Or.inl ⟨by rfl, ?hy⟩) T0 ?_
  case hy =>
    intro X hX
    have e0 := at_below p1 hX
    go_simp
  try simp only [Act.put, List.getElem_toArray, List.getElem_cons_zero, List.getElem_cons_succ, List.setIfInBounds_toArray, List.set_cons_zero, List.set_cons_succ]
  refine wpAnyG_take [14, 15, 16, 17, 18, 19] (i := 14) (v := (.pointer (some ⟨w.heap.size + 1, 1, none⟩))) rfl (by kernel_rfl) (by kernel_rfl) (by kernel_rfl) (by kernel_rfl) (by kernel_rfl) (by kernel_rfl) (by kernel_rfl) (by kernel_rfl) (fun _ _ _ h => h) (Or.inl ⟨by rfl, ?hy⟩) T0 ?_
  case hy =>
    intro X hX
    go_simp
  try simp only [Act.put, List.getElem_toArray, List.getElem_cons_zero, List.getElem_cons_succ, List.setIfInBounds_toArray, List.set_cons_zero, List.set_cons_succ]
  refine wpAnyG_take [15, 16, 17, 18, 19] (i := 15) (v := (.int .i64 yk)) rfl (by kernel_rfl) (by kernel_rfl) (by kernel_rfl) (by kernel_rfl) (by kernel_rfl) (by kernel_rfl) (by kernel_rfl) (by kernel_rfl) (fun _ _ _ h => h) (Or.inl ⟨by rfl, ?hy⟩) T0 ?_
  case hy =>
    intro X hX
    have e0 := at_below q1 hX
    go_simp
  try simp only [Act.put, List.getElem_toArray, List.getElem_cons_zero, List.getElem_cons_succ, List.setIfInBounds_toArray, List.set_cons_zero, List.set_cons_succ]
  refine wpAnyG_all (rs := [6]) (by kernel_rfl) (by simp) ?_
  intro i hi
  simp only [List.mem_cons, List.not_mem_nil, or_false] at hi
  subst hi
  refine wpOp_now rfl rfl ?_
  go_simp
  refine (cM _).mono ?_
  rintro e Y6 ⟨rfl, hY⟩
  subst hY
  refine ⟨fun _ => T0, ?_⟩
  try simp only [Act.put, List.getElem_toArray, List.getElem_cons_zero, List.getElem_cons_succ, List.setIfInBounds_toArray, List.set_cons_zero, List.set_cons_succ]
  refine wpAnyG_all (rs := [11]) (by kernel_rfl) (by simp) ?_
  intro i hi
  simp only [List.mem_cons, List.not_mem_nil, or_false] at hi
  subst hi
  refine wpOp_now rfl rfl ?_
  go_simp
  refine (cV _).mono ?_
  rintro e Y11 ⟨rfl, hY⟩
  subst hY
  refine ⟨fun _ => T0, ?_⟩
  try simp only [Act.put, List.getElem_toArray, List.getElem_cons_zero, List.getElem_cons_succ, List.setIfInBounds_toArray, List.set_cons_zero, List.set_cons_succ]
  refine wpAnyG_all (rs := [16]) (by kernel_rfl) (by simp) ?_
  intro i hi
  simp only [List.mem_cons, List.not_mem_nil, or_false] at hi
  subst hi
  refine wpOp_now rfl rfl ?_
  go_simp
  refine (cK _).mono ?_
  rintro e Y16 ⟨rfl, hY⟩
  subst hY
  refine ⟨fun _ => T0, ?_⟩
  try simp only [Act.put, List.getElem_toArray, List.getElem_cons_zero, List.getElem_cons_succ, List.setIfInBounds_toArray, List.set_cons_zero, List.set_cons_succ]
  refine wpAnyG_all (rs := [17]) (by kernel_rfl) (by simp) ?_
  intro i hi
  simp only [List.mem_cons, List.not_mem_nil, or_false] at hi
  subst hi
  refine wpOp_now rfl rfl ?_
  go_simp
  refine ⟨fun _ => T0.alloc T0.size _, ?_⟩
  try simp only [Act.put, List.getElem_toArray, List.getElem_cons_zero, List.getElem_cons_succ, List.setIfInBounds_toArray, List.set_cons_zero, List.set_cons_succ]
  refine wpAnyG_all (rs := [18]) (by kernel_rfl) (by simp) ?_
  intro i hi
  simp only [List.mem_cons, List.not_mem_nil, or_false] at hi
  subst hi
  refine wpOp_now rfl rfl ?_
  go_simp
  refine (or_any _ _ _ _ _ (Blk.new _ _ _)).mono ?_
  rintro e Y18 ⟨rfl, hY⟩
  subst hY
  refine ⟨fun _ => T0.alloc T0.size _, ?_⟩
  try simp only [Act.put, List.getElem_toArray, List.getElem_cons_zero, List.getElem_cons_succ, List.setIfInBounds_toArray, List.set_cons_zero, List.set_cons_succ]
  refine wpAnyG_all (rs := [19]) (by kernel_rfl) (by simp) ?_
  intro i hi
  simp only [List.mem_cons, List.not_mem_nil, or_false] at hi
  subst hi
  refine wpOp_now rfl rfl ?_
  go_simp
  refine ⟨fun _ => T0.alloc T0.size _, ?_⟩
  try simp only [Act.put, List.getElem_toArray, List.getElem_cons_zero, List.getElem_cons_succ, List.setIfInBounds_toArray, List.set_cons_zero, List.set_cons_succ]
  refine wpAnyG_done (by kernel_rfl) ?_ _
  refine NoPanic.normal ?_
  go_wp2
  go_ret
  refine ⟨rfl, 1, #[.cells #[.int .i64 xv, .int .i64 xk, .int .i64 xl, .int .i64 xb, .int .i64 xw, .bool xs, .float .f64 xa, .float .f64 xo] 39, .cells #[.int .i64 yv, .int .i64 yk, .int .i64 yl, .int .i64 yb, .int .i64 yw, .bool ys, .float .f64 ya, .float .f64 yo] 39, .cells #[.int .i64 r1, .int .i64 r2, .int .i64 r3] 3], ?_⟩
  rw [← HX.out, ← HW.out]
  exact grow_three ..
end Go.Proofs.Ytdlbopaefkbmhaa
