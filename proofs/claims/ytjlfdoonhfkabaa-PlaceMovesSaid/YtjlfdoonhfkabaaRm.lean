/- The document's Move of layer 2. -/
import Derived.Test.YtjlfdoonhfkabaaRb
import Derived.Test.YtjlfdoonhfkabaaRs
namespace Go.Proofs.Ytjlfdoonhfkabaa
set_option linter.unusedVariables false
set_option linter.unusedSimpArgs false
open Go Go.RowKit Go.Shelf
set_option maxRecDepth 100000

set_option maxHeartbeats 8000000 in
theorem rMove_1lo (s : ByteArray) (hs : s.size ≤ 65536) (w : World) (at' x : Nat) (hat : at' ≤ s.size) (hx : x ≤ nP s) (h1 : (pK s x).b ≤ at') (h2 : x < nP s → at' < (pK s (x + 1)).b) (n : Int) (hn : n < -((pK s x).k : Int)) :
    Calls Try.prog 32 #[.string s, .int .i64 at', .int .i64 1, .int .i64 n] w fun e w' => e = .returned (plV (pK s 0)) ∧ Below w.heap.size w w' := by
  have hnP := nP_le s
  have cB := fun W => rByte_ok s hs W at' hat x hx h1 h2
  have hxk := pK_k s x
  have hEk := pK_k s (nP s)
  have hul := pK_b_le s hx
  have hub := pK_u_bound s (nP s)
  have hlb := pK_l_bound s (nP s)
  have hcb := pK_c_bound s x
  obtain ⟨Y, hY⟩ : ∃ Y, 0 = Y := ⟨_, rfl⟩
  have hYn : Y ≤ nP s := by omega
  rw [hY]
  have HY := Lib.hid hY
  obtain ⟨R, hR⟩ : ∃ R, pK s Y = R := ⟨_, rfl⟩
  have HR := Lib.hid hR
  rw [hR]
  obtain ⟨E, hE⟩ : ∃ E, pK s (nP s) = E := ⟨_, rfl⟩
  have HE := Lib.hid hE
  obtain ⟨p, hp⟩ : ∃ p, pK s x = p := ⟨_, rfl⟩
  have HP := Lib.hid hp
  rw [hE] at hEk hul hub hlb 
  rw [hp] at cB hxk hul hcb hn
  clear hE hp hR hY h1 h2
  obtain ⟨rb, rk, ru, rl, rc⟩ := R
  obtain ⟨eb, ek, eu, el, ec⟩ := E
  obtain ⟨pb, pk, pu, pl, pc⟩ := p
  simp only at hxk hEk hul hub hlb hcb hn
  simp only [plV] at cB  ⊢
  subst hxk

  have hale : pk ≤ ek := by omega
  have cS := fun W => sum_any pk ek n hale (by omega) W
  simp only [show ((if (ek : Int) - (pk : Int) < n then (ek : Int) + 1 else if n < -(pk : Int) then -1 else (pk : Int) + n) : Int) = -1 by rw [if_neg (by omega), if_pos hn]] at cS
  have b4 := Blk.new w #[.int .i64 0, .int .i64 0, .int .i64 0, .int .i64 0, .int .i64 0] 28
  have bB : Below w.heap.size w (w.alloc (.cells #[.int .i64 0, .int .i64 0, .int .i64 0, .int .i64 0, .int .i64 0] 28)) := (Below.refl _ w).alloc (Nat.le_refl _) _
  go_enter Try.func32, Try.ntmps32
  go_wp2_with (fail)
  refine (placesD_any s hs _).mono ?_
  rintro e w1 ⟨v, base, rfl, hbase, hv, hB1⟩
  obtain ⟨gv, cap, rfl⟩ := ownsRow_succ hv
  have c8 := b4.below' hB1
  have l8 : w.heap.size < w1.heap.size := c8.lt
  have HB0 := bB.trans (hB1.mono bB.size)
  have hrow := fun X hX k (hk : k ≤ nP s) => row_pl (X := X) hv hX hk
  have HROW := Lib.hid hrow
  obtain ⟨y0, y1, y2, y3, y4⟩ := hrow w1 (Below.refl _ _) (nP s) (Nat.le_refl _)
  rw [HE.out] at y0 y1 y2 y3 y4
  simp only at y0 y1 y2 y3 y4
  obtain ⟨n', hn'⟩ : ∃ z, nP s = z := ⟨_, rfl⟩
  have HN := Lib.hid hn'
  rw [hn'] at y0 y1 y2 y3 y4 hnP hYn hEk hub hlb ⊢
  clear hrow b4 bB hB1 hv hbase hn'
  subst hEk
  have n0 : IntKind.i64.wrap (ek : Int) = (ek : Int) := IntWalk.i64_in _ (by omega)
  have n1 : (0 : Int) ≤ (ek : Int) := by omega
  have n2 : (ek : Int) < (ek : Int) + 1 := by omega
  have n3 : (ek : Int) + 1 - 1 = (ek : Int) := by omega
  go_wp2_with (fail)
  refine (cB _).mono ?_
  rintro e w2 ⟨rfl, hb2⟩
  have HB1 := (Below.refl w1.heap.size w1).alloc (Nat.le_refl _) (.cells #[.int .i64 eb, .int .i64 ek, .int .i64 eu, .int .i64 el, .int .i64 ec] 28)
  have c10 := ((Blk.new w1 #[.int .i64 eb, .int .i64 ek, .int .i64 eu, .int .i64 el, .int .i64 ec] 28).below' hb2).alloc (.cells #[.int .i64 pb, .int .i64 pk, .int .i64 pu, .int .i64 pl, .int .i64 pc] 28)
  have c11 := Blk.new w2 #[.int .i64 pb, .int .i64 pk, .int .i64 pu, .int .i64 pl, .int .i64 pc] 28
  replace c8 := ((c8.alloc (.cells #[.int .i64 eb, .int .i64 ek, .int .i64 eu, .int .i64 el, .int .i64 ec] 28)).below' hb2).alloc (.cells #[.int .i64 pb, .int .i64 pk, .int .i64 pu, .int .i64 pl, .int .i64 pc] 28)
  have HB2 := HB1.trans (hb2.mono HB1.size)
  have HB := HB2.alloc HB2.size (.cells #[.int .i64 pb, .int .i64 pk, .int .i64 pu, .int .i64 pl, .int .i64 pc] 28)
  have l10 : w1.heap.size < w2.heap.size := ((Blk.new w1 #[.int .i64 eb, .int .i64 ek, .int .i64 eu, .int .i64 el, .int .i64 ec] 28).below' hb2).lt
  obtain ⟨b10, hb10⟩ : ∃ b, w1.heap.size = b := ⟨_, rfl⟩
  obtain ⟨b11, hb11⟩ : ∃ b, w2.heap.size = b := ⟨_, rfl⟩
  rw [hb10] at c10 l10 l8
  rw [hb11] at c11 l10
  obtain ⟨X2, hX2⟩ : ∃ X, w2.alloc (.cells #[.int .i64 pb, .int .i64 pk, .int .i64 pu, .int .i64 pl, .int .i64 pc] 28) = X := ⟨_, rfl⟩
  rw [hX2] at c8 c10 c11 HB
  clear y0 y1 y2 y3 y4 HB1 HB2 hb2
  go_wp2_with (fail)
  try rw [hX2]
  clear hX2
  have t1 := c11.cell 1
  have t2 := c10.cell 1
  simp only [List.getElem?_toArray, List.getElem?_cons_succ, List.getElem?_cons_zero] at t1 t2
  refine wp_region_noPanic ?_
  refine wp_region_g (S := untilG [] (fun X => Below X2.heap.size X2 X)) (by kernel_rfl) ?_
  obtain ⟨X2d, hX2d⟩ : ∃ X, X2.drew = X := ⟨_, rfl⟩
  have T0 : Below X2.heap.size X2 X2d := hX2d ▸ (Below.refl X2.heap.size X2).drew
  rw [hX2d]
  clear hX2d
  refine wpAnyG_take [0, 1, 4] (i := 0) (v := (.pointer (some ⟨b11, 1, none⟩))) rfl (by kernel_rfl) (by kernel_rfl) (by kernel_rfl) (by kernel_rfl) (by kernel_rfl) (by kernel_rfl) (by kernel_rfl) (by kernel_rfl) (fun _ _ _ h => h) (Or.inl ⟨by rfl, ?hy⟩) T0 ?_
  case hy =>
    intro X hX
    go_simp
  try simp only [Act.put, List.getElem_toArray, List.getElem_cons_zero, List.getElem_cons_succ, List.setIfInBounds_toArray, List.set_cons_zero, List.set_cons_succ]
  refine wpAnyG_take [1, 4] (i := 1) (v := (.int .i64 pk)) rfl (by kernel_rfl) (by kernel_rfl) (by kernel_rfl) (by kernel_rfl) (by kernel_rfl) (by kernel_rfl) (by kernel_rfl) (by kernel_rfl) (fun _ _ _ h => h) (Or.inl ⟨by rfl, ?hy⟩) T0 ?_
  case hy =>
    intro X hX
    have e0 := at_below t1 hX
    go_simp
  try simp only [Act.put, List.getElem_toArray, List.getElem_cons_zero, List.getElem_cons_succ, List.setIfInBounds_toArray, List.set_cons_zero, List.set_cons_succ]
  refine wpAnyG_take [2, 3, 5] (i := 2) (v := (.pointer (some ⟨b10, 1, none⟩))) rfl (by kernel_rfl) (by kernel_rfl) (by kernel_rfl) (by kernel_rfl) (by kernel_rfl) (by kernel_rfl) (by kernel_rfl) (by kernel_rfl) (fun _ _ _ h => h) (Or.inl ⟨by rfl, ?hy⟩) T0 ?_
  case hy =>
    intro X hX
    go_simp
  try simp only [Act.put, List.getElem_toArray, List.getElem_cons_zero, List.getElem_cons_succ, List.setIfInBounds_toArray, List.set_cons_zero, List.set_cons_succ]
  refine wpAnyG_take [3, 5] (i := 3) (v := (.int .i64 ek)) rfl (by kernel_rfl) (by kernel_rfl) (by kernel_rfl) (by kernel_rfl) (by kernel_rfl) (by kernel_rfl) (by kernel_rfl) (by kernel_rfl) (fun _ _ _ h => h) (Or.inl ⟨by rfl, ?hy⟩) T0 ?_
  case hy =>
    intro X hX
    have e0 := at_below t2 hX
    go_simp
  try simp only [Act.put, List.getElem_toArray, List.getElem_cons_zero, List.getElem_cons_succ, List.setIfInBounds_toArray, List.set_cons_zero, List.set_cons_succ]
  refine wpAnyG_take [4] (i := 4) (v := (.int .i64 pk)) rfl (by kernel_rfl) (by kernel_rfl) (by kernel_rfl) (by kernel_rfl) (by kernel_rfl) (by kernel_rfl) (by kernel_rfl) (by kernel_rfl) (fun _ _ _ h => h) (Or.inl ⟨by rfl, ?hy⟩) T0 ?_
  case hy =>
    intro X hX
    go_simp
  try simp only [Act.put, List.getElem_toArray, List.getElem_cons_zero, List.getElem_cons_succ, List.setIfInBounds_toArray, List.set_cons_zero, List.set_cons_succ]
  refine wpAnyG_take [5] (i := 5) (v := (.int .i64 ek)) rfl (by kernel_rfl) (by kernel_rfl) (by kernel_rfl) (by kernel_rfl) (by kernel_rfl) (by kernel_rfl) (by kernel_rfl) (by kernel_rfl) (fun _ _ _ h => h) (Or.inl ⟨by rfl, ?hy⟩) T0 ?_
  case hy =>
    intro X hX
    go_simp
  try simp only [Act.put, List.getElem_toArray, List.getElem_cons_zero, List.getElem_cons_succ, List.setIfInBounds_toArray, List.set_cons_zero, List.set_cons_succ]
  refine wpAnyG_done (by kernel_rfl) ?_ _
  refine NoPanic.normal ?_
  replace c8 := c8.below' T0
  replace c10 := c10.below' T0
  replace c11 := c11.below' T0
  replace HB := HB.trans (T0.mono HB.size)
  clear T0 t1 t2
  go_wp2_with (fail)
  refine (cS _).mono ?_
  rintro e w5 ⟨rfl, rfl⟩
  obtain ⟨z0, z1, z2, z3, z4⟩ := HROW.out X2d HB Y (by rw [HN.out]; exact hYn)
  rw [HR.out] at z0 z1 z2 z3 z4
  simp only at z0 z1 z2 z3 z4
  have hY0 := HY.out
  subst hY0
  simp only [Nat.zero_mul, Nat.zero_add] at z0 z1 z2 z3 z4
  have d9 : (0 : Int) < (ek : Int) + 1 := by omega
  have k1 := c8.cell
  have k2 := c8.frozen
  have k3 := c8.lt
  have HB9 := HB0.trans (HB.mono HB0.size)
  go_wp2
  refine bodyPost_ret (v := .agg #[.int .i64 rb, .int .i64 rk, .int .i64 ru, .int .i64 rl, .int .i64 rc]) (by simp [results, Try.f32, go_sem, k1, k3]) rfl ⟨rfl, ((((HB9.setCell (p := ⟨w.heap.size, 0, none⟩) (by dsimp only; omega) _).setCell (p := ⟨w.heap.size, 1, none⟩) (by dsimp only; omega) _).setCell (p := ⟨w.heap.size, 2, none⟩) (by dsimp only; omega) _).setCell (p := ⟨w.heap.size, 3, none⟩) (by dsimp only; omega) _).setCell (p := ⟨w.heap.size, 4, none⟩) (by dsimp only; omega) _⟩

set_option maxHeartbeats 8000000 in
theorem rMove_1hi (s : ByteArray) (hs : s.size ≤ 65536) (w : World) (at' x : Nat) (hat : at' ≤ s.size) (hx : x ≤ nP s) (h1 : (pK s x).b ≤ at') (h2 : x < nP s → at' < (pK s (x + 1)).b) (n : Int) (hn : ((pK s (nP s)).k : Int) - (pK s x).k < n) :
    Calls Try.prog 32 #[.string s, .int .i64 at', .int .i64 1, .int .i64 n] w fun e w' => e = .returned (plV (pK s (nP s))) ∧ Below w.heap.size w w' := by
  have hnP := nP_le s
  have cB := fun W => rByte_ok s hs W at' hat x hx h1 h2
  have hxk := pK_k s x
  have hEk := pK_k s (nP s)
  have hul := pK_b_le s hx
  have hub := pK_u_bound s (nP s)
  have hlb := pK_l_bound s (nP s)
  have hcb := pK_c_bound s x
  obtain ⟨Y, hY⟩ : ∃ Y, (nP s) = Y := ⟨_, rfl⟩
  have hYn : Y ≤ nP s := by omega
  rw [hY]
  have HY := Lib.hid hY
  obtain ⟨R, hR⟩ : ∃ R, pK s Y = R := ⟨_, rfl⟩
  have HR := Lib.hid hR
  rw [hR]
  obtain ⟨E, hE⟩ : ∃ E, pK s (nP s) = E := ⟨_, rfl⟩
  have HE := Lib.hid hE
  obtain ⟨p, hp⟩ : ∃ p, pK s x = p := ⟨_, rfl⟩
  have HP := Lib.hid hp
  rw [hE] at hEk hul hub hlb hn
  rw [hp] at cB hxk hul hcb hn
  clear hE hp hR hY h1 h2
  obtain ⟨rb, rk, ru, rl, rc⟩ := R
  obtain ⟨eb, ek, eu, el, ec⟩ := E
  obtain ⟨pb, pk, pu, pl, pc⟩ := p
  simp only at hxk hEk hul hub hlb hcb hn
  simp only [plV] at cB  ⊢
  subst hxk

  have hale : pk ≤ ek := by omega
  have cS := fun W => sum_any pk ek n hale (by omega) W
  simp only [show ((if (ek : Int) - (pk : Int) < n then (ek : Int) + 1 else if n < -(pk : Int) then -1 else (pk : Int) + n) : Int) = (ek : Int) + 1 by rw [if_pos hn]] at cS
  have b4 := Blk.new w #[.int .i64 0, .int .i64 0, .int .i64 0, .int .i64 0, .int .i64 0] 28
  have bB : Below w.heap.size w (w.alloc (.cells #[.int .i64 0, .int .i64 0, .int .i64 0, .int .i64 0, .int .i64 0] 28)) := (Below.refl _ w).alloc (Nat.le_refl _) _
  go_enter Try.func32, Try.ntmps32
  go_wp2_with (fail)
  refine (placesD_any s hs _).mono ?_
  rintro e w1 ⟨v, base, rfl, hbase, hv, hB1⟩
  obtain ⟨gv, cap, rfl⟩ := ownsRow_succ hv
  have c8 := b4.below' hB1
  have l8 : w.heap.size < w1.heap.size := c8.lt
  have HB0 := bB.trans (hB1.mono bB.size)
  have hrow := fun X hX k (hk : k ≤ nP s) => row_pl (X := X) hv hX hk
  have HROW := Lib.hid hrow
  obtain ⟨y0, y1, y2, y3, y4⟩ := hrow w1 (Below.refl _ _) (nP s) (Nat.le_refl _)
  rw [HE.out] at y0 y1 y2 y3 y4
  simp only at y0 y1 y2 y3 y4
  obtain ⟨n', hn'⟩ : ∃ z, nP s = z := ⟨_, rfl⟩
  have HN := Lib.hid hn'
  rw [hn'] at y0 y1 y2 y3 y4 hnP hYn hEk hub hlb ⊢
  clear hrow b4 bB hB1 hv hbase hn'
  subst hEk
  have n0 : IntKind.i64.wrap (ek : Int) = (ek : Int) := IntWalk.i64_in _ (by omega)
  have n1 : (0 : Int) ≤ (ek : Int) := by omega
  have n2 : (ek : Int) < (ek : Int) + 1 := by omega
  have n3 : (ek : Int) + 1 - 1 = (ek : Int) := by omega
  go_wp2_with (fail)
  refine (cB _).mono ?_
  rintro e w2 ⟨rfl, hb2⟩
  have HB1 := (Below.refl w1.heap.size w1).alloc (Nat.le_refl _) (.cells #[.int .i64 eb, .int .i64 ek, .int .i64 eu, .int .i64 el, .int .i64 ec] 28)
  have c10 := ((Blk.new w1 #[.int .i64 eb, .int .i64 ek, .int .i64 eu, .int .i64 el, .int .i64 ec] 28).below' hb2).alloc (.cells #[.int .i64 pb, .int .i64 pk, .int .i64 pu, .int .i64 pl, .int .i64 pc] 28)
  have c11 := Blk.new w2 #[.int .i64 pb, .int .i64 pk, .int .i64 pu, .int .i64 pl, .int .i64 pc] 28
  replace c8 := ((c8.alloc (.cells #[.int .i64 eb, .int .i64 ek, .int .i64 eu, .int .i64 el, .int .i64 ec] 28)).below' hb2).alloc (.cells #[.int .i64 pb, .int .i64 pk, .int .i64 pu, .int .i64 pl, .int .i64 pc] 28)
  have HB2 := HB1.trans (hb2.mono HB1.size)
  have HB := HB2.alloc HB2.size (.cells #[.int .i64 pb, .int .i64 pk, .int .i64 pu, .int .i64 pl, .int .i64 pc] 28)
  have l10 : w1.heap.size < w2.heap.size := ((Blk.new w1 #[.int .i64 eb, .int .i64 ek, .int .i64 eu, .int .i64 el, .int .i64 ec] 28).below' hb2).lt
  obtain ⟨b10, hb10⟩ : ∃ b, w1.heap.size = b := ⟨_, rfl⟩
  obtain ⟨b11, hb11⟩ : ∃ b, w2.heap.size = b := ⟨_, rfl⟩
  rw [hb10] at c10 l10 l8
  rw [hb11] at c11 l10
  obtain ⟨X2, hX2⟩ : ∃ X, w2.alloc (.cells #[.int .i64 pb, .int .i64 pk, .int .i64 pu, .int .i64 pl, .int .i64 pc] 28) = X := ⟨_, rfl⟩
  rw [hX2] at c8 c10 c11 HB
  clear y0 y1 y2 y3 y4 HB1 HB2 hb2
  go_wp2_with (fail)
  try rw [hX2]
  clear hX2
  have t1 := c11.cell 1
  have t2 := c10.cell 1
  simp only [List.getElem?_toArray, List.getElem?_cons_succ, List.getElem?_cons_zero] at t1 t2
  refine wp_region_noPanic ?_
  refine wp_region_g (S := untilG [] (fun X => Below X2.heap.size X2 X)) (by kernel_rfl) ?_
  obtain ⟨X2d, hX2d⟩ : ∃ X, X2.drew = X := ⟨_, rfl⟩
  have T0 : Below X2.heap.size X2 X2d := hX2d ▸ (Below.refl X2.heap.size X2).drew
  rw [hX2d]
  clear hX2d
  refine wpAnyG_take [0, 1, 4] (i := 0) (v := (.pointer (some ⟨b11, 1, none⟩))) rfl (by kernel_rfl) (by kernel_rfl) (by kernel_rfl) (by kernel_rfl) (by kernel_rfl) (by kernel_rfl) (by kernel_rfl) (by kernel_rfl) (fun _ _ _ h => h) (Or.inl ⟨by rfl, ?hy⟩) T0 ?_
  case hy =>
    intro X hX
    go_simp
  try simp only [Act.put, List.getElem_toArray, List.getElem_cons_zero, List.getElem_cons_succ, List.setIfInBounds_toArray, List.set_cons_zero, List.set_cons_succ]
  refine wpAnyG_take [1, 4] (i := 1) (v := (.int .i64 pk)) rfl (by kernel_rfl) (by kernel_rfl) (by kernel_rfl) (by kernel_rfl) (by kernel_rfl) (by kernel_rfl) (by kernel_rfl) (by kernel_rfl) (fun _ _ _ h => h) (Or.inl ⟨by rfl, ?hy⟩) T0 ?_
  case hy =>
    intro X hX
    have e0 := at_below t1 hX
    go_simp
  try simp only [Act.put, List.getElem_toArray, List.getElem_cons_zero, List.getElem_cons_succ, List.setIfInBounds_toArray, List.set_cons_zero, List.set_cons_succ]
  refine wpAnyG_take [2, 3, 5] (i := 2) (v := (.pointer (some ⟨b10, 1, none⟩))) rfl (by kernel_rfl) (by kernel_rfl) (by kernel_rfl) (by kernel_rfl) (by kernel_rfl) (by kernel_rfl) (by kernel_rfl) (by kernel_rfl) (fun _ _ _ h => h) (Or.inl ⟨by rfl, ?hy⟩) T0 ?_
  case hy =>
    intro X hX
    go_simp
  try simp only [Act.put, List.getElem_toArray, List.getElem_cons_zero, List.getElem_cons_succ, List.setIfInBounds_toArray, List.set_cons_zero, List.set_cons_succ]
  refine wpAnyG_take [3, 5] (i := 3) (v := (.int .i64 ek)) rfl (by kernel_rfl) (by kernel_rfl) (by kernel_rfl) (by kernel_rfl) (by kernel_rfl) (by kernel_rfl) (by kernel_rfl) (by kernel_rfl) (fun _ _ _ h => h) (Or.inl ⟨by rfl, ?hy⟩) T0 ?_
  case hy =>
    intro X hX
    have e0 := at_below t2 hX
    go_simp
  try simp only [Act.put, List.getElem_toArray, List.getElem_cons_zero, List.getElem_cons_succ, List.setIfInBounds_toArray, List.set_cons_zero, List.set_cons_succ]
  refine wpAnyG_take [4] (i := 4) (v := (.int .i64 pk)) rfl (by kernel_rfl) (by kernel_rfl) (by kernel_rfl) (by kernel_rfl) (by kernel_rfl) (by kernel_rfl) (by kernel_rfl) (by kernel_rfl) (fun _ _ _ h => h) (Or.inl ⟨by rfl, ?hy⟩) T0 ?_
  case hy =>
    intro X hX
    go_simp
  try simp only [Act.put, List.getElem_toArray, List.getElem_cons_zero, List.getElem_cons_succ, List.setIfInBounds_toArray, List.set_cons_zero, List.set_cons_succ]
  refine wpAnyG_take [5] (i := 5) (v := (.int .i64 ek)) rfl (by kernel_rfl) (by kernel_rfl) (by kernel_rfl) (by kernel_rfl) (by kernel_rfl) (by kernel_rfl) (by kernel_rfl) (by kernel_rfl) (fun _ _ _ h => h) (Or.inl ⟨by rfl, ?hy⟩) T0 ?_
  case hy =>
    intro X hX
    go_simp
  try simp only [Act.put, List.getElem_toArray, List.getElem_cons_zero, List.getElem_cons_succ, List.setIfInBounds_toArray, List.set_cons_zero, List.set_cons_succ]
  refine wpAnyG_done (by kernel_rfl) ?_ _
  refine NoPanic.normal ?_
  replace c8 := c8.below' T0
  replace c10 := c10.below' T0
  replace c11 := c11.below' T0
  replace HB := HB.trans (T0.mono HB.size)
  clear T0 t1 t2
  go_wp2_with (fail)
  refine (cS _).mono ?_
  rintro e w5 ⟨rfl, rfl⟩
  have hYe : Y = ek := by rw [← HN.out]; exact HY.out.symm
  have h9 := HR.out
  rw [hYe, ← HN.out, HE.out] at h9
  simp only [Pl.mk.injEq] at h9
  obtain ⟨rfl, rfl, rfl, rfl, rfl⟩ := h9
  have q1 := c10.cell
  have d9 : decide ((ek : Int) < (ek : Int) + 1) = true := decide_eq_true (by omega)
  have d8 : decide ((ek : Int) + 1 < 0) = false := decide_eq_false (by omega)
  have k1 := c8.cell
  have k2 := c8.frozen
  have k3 := c8.lt
  have HB9 := HB0.trans (HB.mono HB0.size)
  go_wp2
  refine bodyPost_ret (v := .agg #[.int .i64 eb, .int .i64 ek, .int .i64 eu, .int .i64 el, .int .i64 ec]) (by simp [results, Try.f32, go_sem, k1, k3]) rfl ⟨rfl, ((((HB9.setCell (p := ⟨w.heap.size, 0, none⟩) (by dsimp only; omega) _).setCell (p := ⟨w.heap.size, 1, none⟩) (by dsimp only; omega) _).setCell (p := ⟨w.heap.size, 2, none⟩) (by dsimp only; omega) _).setCell (p := ⟨w.heap.size, 3, none⟩) (by dsimp only; omega) _).setCell (p := ⟨w.heap.size, 4, none⟩) (by dsimp only; omega) _⟩

set_option maxHeartbeats 8000000 in
theorem rMove_1mid (s : ByteArray) (hs : s.size ≤ 65536) (w : World) (at' x : Nat) (hat : at' ≤ s.size) (hx : x ≤ nP s) (h1 : (pK s x).b ≤ at') (h2 : x < nP s → at' < (pK s (x + 1)).b) (n : Int) (K : Nat) (hK : ((pK s x).k : Int) + n = K) (hKm : K ≤ (pK s (nP s)).k)  :
    Calls Try.prog 32 #[.string s, .int .i64 at', .int .i64 1, .int .i64 n] w fun e w' => e = .returned (plV (pK s K)) ∧ Below w.heap.size w w' := by
  have hnP := nP_le s
  have cB := fun W => rByte_ok s hs W at' hat x hx h1 h2
  have hxk := pK_k s x
  have hEk := pK_k s (nP s)
  have hul := pK_b_le s hx
  have hub := pK_u_bound s (nP s)
  have hlb := pK_l_bound s (nP s)
  have hcb := pK_c_bound s x
  obtain ⟨Y, hY⟩ : ∃ Y, K = Y := ⟨_, rfl⟩
  have hYn : Y ≤ nP s := by rw [← hY]; have := hKm; rw [hEk] at this; exact this
  rw [hY]
  have HY := Lib.hid hY
  obtain ⟨R, hR⟩ : ∃ R, pK s Y = R := ⟨_, rfl⟩
  have HR := Lib.hid hR
  rw [hR]
  obtain ⟨E, hE⟩ : ∃ E, pK s (nP s) = E := ⟨_, rfl⟩
  have HE := Lib.hid hE
  obtain ⟨p, hp⟩ : ∃ p, pK s x = p := ⟨_, rfl⟩
  have HP := Lib.hid hp
  rw [hE] at hEk hul hub hlb hKm
  rw [hp] at cB hxk hul hcb hK
  clear hE hp hR hY h1 h2
  obtain ⟨rb, rk, ru, rl, rc⟩ := R
  obtain ⟨eb, ek, eu, el, ec⟩ := E
  obtain ⟨pb, pk, pu, pl, pc⟩ := p
  simp only at hxk hEk hul hub hlb hcb hK hKm
  simp only [plV] at cB  ⊢
  subst hxk

  have hale : pk ≤ ek := by omega
  have cS := fun W => sum_any pk ek n hale (by omega) W
  simp only [show ((if (ek : Int) - (pk : Int) < n then (ek : Int) + 1 else if n < -(pk : Int) then -1 else (pk : Int) + n) : Int) = (K : Int) by rw [if_neg (by omega), if_neg (by omega), hK]] at cS
  have b4 := Blk.new w #[.int .i64 0, .int .i64 0, .int .i64 0, .int .i64 0, .int .i64 0] 28
  have bB : Below w.heap.size w (w.alloc (.cells #[.int .i64 0, .int .i64 0, .int .i64 0, .int .i64 0, .int .i64 0] 28)) := (Below.refl _ w).alloc (Nat.le_refl _) _
  go_enter Try.func32, Try.ntmps32
  go_wp2_with (fail)
  refine (placesD_any s hs _).mono ?_
  rintro e w1 ⟨v, base, rfl, hbase, hv, hB1⟩
  obtain ⟨gv, cap, rfl⟩ := ownsRow_succ hv
  have c8 := b4.below' hB1
  have l8 : w.heap.size < w1.heap.size := c8.lt
  have HB0 := bB.trans (hB1.mono bB.size)
  have hrow := fun X hX k (hk : k ≤ nP s) => row_pl (X := X) hv hX hk
  have HROW := Lib.hid hrow
  obtain ⟨y0, y1, y2, y3, y4⟩ := hrow w1 (Below.refl _ _) (nP s) (Nat.le_refl _)
  rw [HE.out] at y0 y1 y2 y3 y4
  simp only at y0 y1 y2 y3 y4
  obtain ⟨n', hn'⟩ : ∃ z, nP s = z := ⟨_, rfl⟩
  have HN := Lib.hid hn'
  rw [hn'] at y0 y1 y2 y3 y4 hnP hYn hEk hub hlb ⊢
  clear hrow b4 bB hB1 hv hbase hn'
  subst hEk
  have n0 : IntKind.i64.wrap (ek : Int) = (ek : Int) := IntWalk.i64_in _ (by omega)
  have n1 : (0 : Int) ≤ (ek : Int) := by omega
  have n2 : (ek : Int) < (ek : Int) + 1 := by omega
  have n3 : (ek : Int) + 1 - 1 = (ek : Int) := by omega
  go_wp2_with (fail)
  refine (cB _).mono ?_
  rintro e w2 ⟨rfl, hb2⟩
  have HB1 := (Below.refl w1.heap.size w1).alloc (Nat.le_refl _) (.cells #[.int .i64 eb, .int .i64 ek, .int .i64 eu, .int .i64 el, .int .i64 ec] 28)
  have c10 := ((Blk.new w1 #[.int .i64 eb, .int .i64 ek, .int .i64 eu, .int .i64 el, .int .i64 ec] 28).below' hb2).alloc (.cells #[.int .i64 pb, .int .i64 pk, .int .i64 pu, .int .i64 pl, .int .i64 pc] 28)
  have c11 := Blk.new w2 #[.int .i64 pb, .int .i64 pk, .int .i64 pu, .int .i64 pl, .int .i64 pc] 28
  replace c8 := ((c8.alloc (.cells #[.int .i64 eb, .int .i64 ek, .int .i64 eu, .int .i64 el, .int .i64 ec] 28)).below' hb2).alloc (.cells #[.int .i64 pb, .int .i64 pk, .int .i64 pu, .int .i64 pl, .int .i64 pc] 28)
  have HB2 := HB1.trans (hb2.mono HB1.size)
  have HB := HB2.alloc HB2.size (.cells #[.int .i64 pb, .int .i64 pk, .int .i64 pu, .int .i64 pl, .int .i64 pc] 28)
  have l10 : w1.heap.size < w2.heap.size := ((Blk.new w1 #[.int .i64 eb, .int .i64 ek, .int .i64 eu, .int .i64 el, .int .i64 ec] 28).below' hb2).lt
  obtain ⟨b10, hb10⟩ : ∃ b, w1.heap.size = b := ⟨_, rfl⟩
  obtain ⟨b11, hb11⟩ : ∃ b, w2.heap.size = b := ⟨_, rfl⟩
  rw [hb10] at c10 l10 l8
  rw [hb11] at c11 l10
  obtain ⟨X2, hX2⟩ : ∃ X, w2.alloc (.cells #[.int .i64 pb, .int .i64 pk, .int .i64 pu, .int .i64 pl, .int .i64 pc] 28) = X := ⟨_, rfl⟩
  rw [hX2] at c8 c10 c11 HB
  clear y0 y1 y2 y3 y4 HB1 HB2 hb2
  go_wp2_with (fail)
  try rw [hX2]
  clear hX2
  have t1 := c11.cell 1
  have t2 := c10.cell 1
  simp only [List.getElem?_toArray, List.getElem?_cons_succ, List.getElem?_cons_zero] at t1 t2
  refine wp_region_noPanic ?_
  refine wp_region_g (S := untilG [] (fun X => Below X2.heap.size X2 X)) (by kernel_rfl) ?_
  obtain ⟨X2d, hX2d⟩ : ∃ X, X2.drew = X := ⟨_, rfl⟩
  have T0 : Below X2.heap.size X2 X2d := hX2d ▸ (Below.refl X2.heap.size X2).drew
  rw [hX2d]
  clear hX2d
  refine wpAnyG_take [0, 1, 4] (i := 0) (v := (.pointer (some ⟨b11, 1, none⟩))) rfl (by kernel_rfl) (by kernel_rfl) (by kernel_rfl) (by kernel_rfl) (by kernel_rfl) (by kernel_rfl) (by kernel_rfl) (by kernel_rfl) (fun _ _ _ h => h) (Or.inl ⟨by rfl, ?hy⟩) T0 ?_
  case hy =>
    intro X hX
    go_simp
  try simp only [Act.put, List.getElem_toArray, List.getElem_cons_zero, List.getElem_cons_succ, List.setIfInBounds_toArray, List.set_cons_zero, List.set_cons_succ]
  refine wpAnyG_take [1, 4] (i := 1) (v := (.int .i64 pk)) rfl (by kernel_rfl) (by kernel_rfl) (by kernel_rfl) (by kernel_rfl) (by kernel_rfl) (by kernel_rfl) (by kernel_rfl) (by kernel_rfl) (fun _ _ _ h => h) (Or.inl ⟨by rfl, ?hy⟩) T0 ?_
  case hy =>
    intro X hX
    have e0 := at_below t1 hX
    go_simp
  try simp only [Act.put, List.getElem_toArray, List.getElem_cons_zero, List.getElem_cons_succ, List.setIfInBounds_toArray, List.set_cons_zero, List.set_cons_succ]
  refine wpAnyG_take [2, 3, 5] (i := 2) (v := (.pointer (some ⟨b10, 1, none⟩))) rfl (by kernel_rfl) (by kernel_rfl) (by kernel_rfl) (by kernel_rfl) (by kernel_rfl) (by kernel_rfl) (by kernel_rfl) (by kernel_rfl) (fun _ _ _ h => h) (Or.inl ⟨by rfl, ?hy⟩) T0 ?_
  case hy =>
    intro X hX
    go_simp
  try simp only [Act.put, List.getElem_toArray, List.getElem_cons_zero, List.getElem_cons_succ, List.setIfInBounds_toArray, List.set_cons_zero, List.set_cons_succ]
  refine wpAnyG_take [3, 5] (i := 3) (v := (.int .i64 ek)) rfl (by kernel_rfl) (by kernel_rfl) (by kernel_rfl) (by kernel_rfl) (by kernel_rfl) (by kernel_rfl) (by kernel_rfl) (by kernel_rfl) (fun _ _ _ h => h) (Or.inl ⟨by rfl, ?hy⟩) T0 ?_
  case hy =>
    intro X hX
    have e0 := at_below t2 hX
    go_simp
  try simp only [Act.put, List.getElem_toArray, List.getElem_cons_zero, List.getElem_cons_succ, List.setIfInBounds_toArray, List.set_cons_zero, List.set_cons_succ]
  refine wpAnyG_take [4] (i := 4) (v := (.int .i64 pk)) rfl (by kernel_rfl) (by kernel_rfl) (by kernel_rfl) (by kernel_rfl) (by kernel_rfl) (by kernel_rfl) (by kernel_rfl) (by kernel_rfl) (fun _ _ _ h => h) (Or.inl ⟨by rfl, ?hy⟩) T0 ?_
  case hy =>
    intro X hX
    go_simp
  try simp only [Act.put, List.getElem_toArray, List.getElem_cons_zero, List.getElem_cons_succ, List.setIfInBounds_toArray, List.set_cons_zero, List.set_cons_succ]
  refine wpAnyG_take [5] (i := 5) (v := (.int .i64 ek)) rfl (by kernel_rfl) (by kernel_rfl) (by kernel_rfl) (by kernel_rfl) (by kernel_rfl) (by kernel_rfl) (by kernel_rfl) (by kernel_rfl) (fun _ _ _ h => h) (Or.inl ⟨by rfl, ?hy⟩) T0 ?_
  case hy =>
    intro X hX
    go_simp
  try simp only [Act.put, List.getElem_toArray, List.getElem_cons_zero, List.getElem_cons_succ, List.setIfInBounds_toArray, List.set_cons_zero, List.set_cons_succ]
  refine wpAnyG_done (by kernel_rfl) ?_ _
  refine NoPanic.normal ?_
  replace c8 := c8.below' T0
  replace c10 := c10.below' T0
  replace c11 := c11.below' T0
  replace HB := HB.trans (T0.mono HB.size)
  clear T0 t1 t2
  go_wp2_with (fail)
  refine (cS _).mono ?_
  rintro e w5 ⟨rfl, rfl⟩
  obtain ⟨z0, z1, z2, z3, z4⟩ := HROW.out X2d HB Y (by rw [HN.out]; exact hYn)
  rw [HR.out] at z0 z1 z2 z3 z4
  simp only at z0 z1 z2 z3 z4
  have hYK : K = Y := HY.out
  subst hYK
  have d8 : decide ((K : Int) < 0) = false := decide_eq_false (by omega)
  have d9 : decide ((ek : Int) < (K : Int)) = false := decide_eq_false (by omega)
  have d7 : (0 : Int) ≤ (K : Int) := by omega
  have d6 : (K : Int) < (ek : Int) + 1 := by omega
  have k1 := c8.cell
  have k2 := c8.frozen
  have k3 := c8.lt
  have HB9 := HB0.trans (HB.mono HB0.size)
  go_wp2
  refine bodyPost_ret (v := .agg #[.int .i64 rb, .int .i64 rk, .int .i64 ru, .int .i64 rl, .int .i64 rc]) (by simp [results, Try.f32, go_sem, k1, k3]) rfl ⟨rfl, ((((HB9.setCell (p := ⟨w.heap.size, 0, none⟩) (by dsimp only; omega) _).setCell (p := ⟨w.heap.size, 1, none⟩) (by dsimp only; omega) _).setCell (p := ⟨w.heap.size, 2, none⟩) (by dsimp only; omega) _).setCell (p := ⟨w.heap.size, 3, none⟩) (by dsimp only; omega) _).setCell (p := ⟨w.heap.size, 4, none⟩) (by dsimp only; omega) _⟩

set_option maxHeartbeats 8000000 in
theorem rMove_2lo (s : ByteArray) (hs : s.size ≤ 65536) (w : World) (at' x : Nat) (hat : at' ≤ s.size) (hx : x ≤ nP s) (h1 : (pK s x).b ≤ at') (h2 : x < nP s → at' < (pK s (x + 1)).b) (n : Int) (hn : n < -((pK s x).u : Int)) :
    Calls Try.prog 32 #[.string s, .int .i64 at', .int .i64 2, .int .i64 n] w fun e w' => e = .returned (plV (pK s 0)) ∧ Below w.heap.size w w' := by
  have hnP := nP_le s
  have cB := fun W => rByte_ok s hs W at' hat x hx h1 h2
  have hxk := pK_k s x
  have hEk := pK_k s (nP s)
  have hul := pK_u_le s hx
  have hub := pK_u_bound s (nP s)
  have hlb := pK_l_bound s (nP s)
  have hcb := pK_c_bound s x
  obtain ⟨Y, hY⟩ : ∃ Y, 0 = Y := ⟨_, rfl⟩
  have hYn : Y ≤ nP s := by omega
  rw [hY]
  have HY := Lib.hid hY
  obtain ⟨R, hR⟩ : ∃ R, pK s Y = R := ⟨_, rfl⟩
  have HR := Lib.hid hR
  rw [hR]
  obtain ⟨E, hE⟩ : ∃ E, pK s (nP s) = E := ⟨_, rfl⟩
  have HE := Lib.hid hE
  obtain ⟨p, hp⟩ : ∃ p, pK s x = p := ⟨_, rfl⟩
  have HP := Lib.hid hp
  rw [hE] at hEk hul hub hlb 
  rw [hp] at cB hxk hul hcb hn
  clear hE hp hR hY h1 h2
  obtain ⟨rb, rk, ru, rl, rc⟩ := R
  obtain ⟨eb, ek, eu, el, ec⟩ := E
  obtain ⟨pb, pk, pu, pl, pc⟩ := p
  simp only at hxk hEk hul hub hlb hcb hn
  simp only [plV] at cB  ⊢
  subst hxk

  have hale : pu ≤ eu := by omega
  have cS := fun W => sum_any pu eu n hale (by omega) W
  simp only [show ((if (eu : Int) - (pu : Int) < n then (eu : Int) + 1 else if n < -(pu : Int) then -1 else (pu : Int) + n) : Int) = -1 by rw [if_neg (by omega), if_pos hn]] at cS
  have b4 := Blk.new w #[.int .i64 0, .int .i64 0, .int .i64 0, .int .i64 0, .int .i64 0] 28
  have bB : Below w.heap.size w (w.alloc (.cells #[.int .i64 0, .int .i64 0, .int .i64 0, .int .i64 0, .int .i64 0] 28)) := (Below.refl _ w).alloc (Nat.le_refl _) _
  go_enter Try.func32, Try.ntmps32
  go_wp2_with (fail)
  refine (placesD_any s hs _).mono ?_
  rintro e w1 ⟨v, base, rfl, hbase, hv, hB1⟩
  obtain ⟨gv, cap, rfl⟩ := ownsRow_succ hv
  have c8 := b4.below' hB1
  have l8 : w.heap.size < w1.heap.size := c8.lt
  have HB0 := bB.trans (hB1.mono bB.size)
  have hrow := fun X hX k (hk : k ≤ nP s) => row_pl (X := X) hv hX hk
  have HROW := Lib.hid hrow
  obtain ⟨y0, y1, y2, y3, y4⟩ := hrow w1 (Below.refl _ _) (nP s) (Nat.le_refl _)
  rw [HE.out] at y0 y1 y2 y3 y4
  simp only at y0 y1 y2 y3 y4
  obtain ⟨n', hn'⟩ : ∃ z, nP s = z := ⟨_, rfl⟩
  have HN := Lib.hid hn'
  rw [hn'] at y0 y1 y2 y3 y4 hnP hYn hEk hub hlb ⊢
  clear hrow b4 bB hB1 hv hbase hn'
  subst hEk
  have n0 : IntKind.i64.wrap (ek : Int) = (ek : Int) := IntWalk.i64_in _ (by omega)
  have n1 : (0 : Int) ≤ (ek : Int) := by omega
  have n2 : (ek : Int) < (ek : Int) + 1 := by omega
  have n3 : (ek : Int) + 1 - 1 = (ek : Int) := by omega
  go_wp2_with (fail)
  refine (cB _).mono ?_
  rintro e w2 ⟨rfl, hb2⟩
  have HB1 := (Below.refl w1.heap.size w1).alloc (Nat.le_refl _) (.cells #[.int .i64 eb, .int .i64 ek, .int .i64 eu, .int .i64 el, .int .i64 ec] 28)
  have c10 := ((Blk.new w1 #[.int .i64 eb, .int .i64 ek, .int .i64 eu, .int .i64 el, .int .i64 ec] 28).below' hb2).alloc (.cells #[.int .i64 pb, .int .i64 pk, .int .i64 pu, .int .i64 pl, .int .i64 pc] 28)
  have c11 := Blk.new w2 #[.int .i64 pb, .int .i64 pk, .int .i64 pu, .int .i64 pl, .int .i64 pc] 28
  replace c8 := ((c8.alloc (.cells #[.int .i64 eb, .int .i64 ek, .int .i64 eu, .int .i64 el, .int .i64 ec] 28)).below' hb2).alloc (.cells #[.int .i64 pb, .int .i64 pk, .int .i64 pu, .int .i64 pl, .int .i64 pc] 28)
  have HB2 := HB1.trans (hb2.mono HB1.size)
  have HB := HB2.alloc HB2.size (.cells #[.int .i64 pb, .int .i64 pk, .int .i64 pu, .int .i64 pl, .int .i64 pc] 28)
  have l10 : w1.heap.size < w2.heap.size := ((Blk.new w1 #[.int .i64 eb, .int .i64 ek, .int .i64 eu, .int .i64 el, .int .i64 ec] 28).below' hb2).lt
  obtain ⟨b10, hb10⟩ : ∃ b, w1.heap.size = b := ⟨_, rfl⟩
  obtain ⟨b11, hb11⟩ : ∃ b, w2.heap.size = b := ⟨_, rfl⟩
  rw [hb10] at c10 l10 l8
  rw [hb11] at c11 l10
  obtain ⟨X2, hX2⟩ : ∃ X, w2.alloc (.cells #[.int .i64 pb, .int .i64 pk, .int .i64 pu, .int .i64 pl, .int .i64 pc] 28) = X := ⟨_, rfl⟩
  rw [hX2] at c8 c10 c11 HB
  clear y0 y1 y2 y3 y4 HB1 HB2 hb2
  go_wp2_with (fail)
  try rw [hX2]
  clear hX2
  have t1 := c11.cell 1
  have t2 := c10.cell 1
  simp only [List.getElem?_toArray, List.getElem?_cons_succ, List.getElem?_cons_zero] at t1 t2
  refine wp_region_noPanic ?_
  refine wp_region_g (S := untilG [] (fun X => Below X2.heap.size X2 X)) (by kernel_rfl) ?_
  obtain ⟨X2d, hX2d⟩ : ∃ X, X2.drew = X := ⟨_, rfl⟩
  have T0 : Below X2.heap.size X2 X2d := hX2d ▸ (Below.refl X2.heap.size X2).drew
  rw [hX2d]
  clear hX2d
  refine wpAnyG_take [0, 1, 4] (i := 0) (v := (.pointer (some ⟨b11, 1, none⟩))) rfl (by kernel_rfl) (by kernel_rfl) (by kernel_rfl) (by kernel_rfl) (by kernel_rfl) (by kernel_rfl) (by kernel_rfl) (by kernel_rfl) (fun _ _ _ h => h) (Or.inl ⟨by rfl, ?hy⟩) T0 ?_
  case hy =>
    intro X hX
    go_simp
  try simp only [Act.put, List.getElem_toArray, List.getElem_cons_zero, List.getElem_cons_succ, List.setIfInBounds_toArray, List.set_cons_zero, List.set_cons_succ]
  refine wpAnyG_take [1, 4] (i := 1) (v := (.int .i64 pk)) rfl (by kernel_rfl) (by kernel_rfl) (by kernel_rfl) (by kernel_rfl) (by kernel_rfl) (by kernel_rfl) (by kernel_rfl) (by kernel_rfl) (fun _ _ _ h => h) (Or.inl ⟨by rfl, ?hy⟩) T0 ?_
  case hy =>
    intro X hX
    have e0 := at_below t1 hX
    go_simp
  try simp only [Act.put, List.getElem_toArray, List.getElem_cons_zero, List.getElem_cons_succ, List.setIfInBounds_toArray, List.set_cons_zero, List.set_cons_succ]
  refine wpAnyG_take [2, 3, 5] (i := 2) (v := (.pointer (some ⟨b10, 1, none⟩))) rfl (by kernel_rfl) (by kernel_rfl) (by kernel_rfl) (by kernel_rfl) (by kernel_rfl) (by kernel_rfl) (by kernel_rfl) (by kernel_rfl) (fun _ _ _ h => h) (Or.inl ⟨by rfl, ?hy⟩) T0 ?_
  case hy =>
    intro X hX
    go_simp
  try simp only [Act.put, List.getElem_toArray, List.getElem_cons_zero, List.getElem_cons_succ, List.setIfInBounds_toArray, List.set_cons_zero, List.set_cons_succ]
  refine wpAnyG_take [3, 5] (i := 3) (v := (.int .i64 ek)) rfl (by kernel_rfl) (by kernel_rfl) (by kernel_rfl) (by kernel_rfl) (by kernel_rfl) (by kernel_rfl) (by kernel_rfl) (by kernel_rfl) (fun _ _ _ h => h) (Or.inl ⟨by rfl, ?hy⟩) T0 ?_
  case hy =>
    intro X hX
    have e0 := at_below t2 hX
    go_simp
  try simp only [Act.put, List.getElem_toArray, List.getElem_cons_zero, List.getElem_cons_succ, List.setIfInBounds_toArray, List.set_cons_zero, List.set_cons_succ]
  refine wpAnyG_take [4] (i := 4) (v := (.int .i64 pk)) rfl (by kernel_rfl) (by kernel_rfl) (by kernel_rfl) (by kernel_rfl) (by kernel_rfl) (by kernel_rfl) (by kernel_rfl) (by kernel_rfl) (fun _ _ _ h => h) (Or.inl ⟨by rfl, ?hy⟩) T0 ?_
  case hy =>
    intro X hX
    go_simp
  try simp only [Act.put, List.getElem_toArray, List.getElem_cons_zero, List.getElem_cons_succ, List.setIfInBounds_toArray, List.set_cons_zero, List.set_cons_succ]
  refine wpAnyG_take [5] (i := 5) (v := (.int .i64 ek)) rfl (by kernel_rfl) (by kernel_rfl) (by kernel_rfl) (by kernel_rfl) (by kernel_rfl) (by kernel_rfl) (by kernel_rfl) (by kernel_rfl) (fun _ _ _ h => h) (Or.inl ⟨by rfl, ?hy⟩) T0 ?_
  case hy =>
    intro X hX
    go_simp
  try simp only [Act.put, List.getElem_toArray, List.getElem_cons_zero, List.getElem_cons_succ, List.setIfInBounds_toArray, List.set_cons_zero, List.set_cons_succ]
  refine wpAnyG_done (by kernel_rfl) ?_ _
  refine NoPanic.normal ?_
  replace c8 := c8.below' T0
  replace c10 := c10.below' T0
  replace c11 := c11.below' T0
  replace HB := HB.trans (T0.mono HB.size)
  clear T0 t1 t2
  go_wp2_with (fail)
  have t1 := c11.cell 2
  have t2 := c10.cell 2
  simp only [List.getElem?_toArray, List.getElem?_cons_succ, List.getElem?_cons_zero] at t1 t2
  refine wp_region_noPanic ?_
  refine wp_region_g (S := untilG [] (fun X => Below X2d.heap.size X2d X)) (by kernel_rfl) ?_
  obtain ⟨X2dd, hX2dd⟩ : ∃ X, X2d.drew = X := ⟨_, rfl⟩
  have T0 : Below X2d.heap.size X2d X2dd := hX2dd ▸ (Below.refl X2d.heap.size X2d).drew
  rw [hX2dd]
  clear hX2dd
  refine wpAnyG_take [0, 1, 4] (i := 0) (v := (.pointer (some ⟨b11, 2, none⟩))) rfl (by kernel_rfl) (by kernel_rfl) (by kernel_rfl) (by kernel_rfl) (by kernel_rfl) (by kernel_rfl) (by kernel_rfl) (by kernel_rfl) (fun _ _ _ h => h) (Or.inl ⟨by rfl, ?hy⟩) T0 ?_
  case hy =>
    intro X hX
    go_simp
  try simp only [Act.put, List.getElem_toArray, List.getElem_cons_zero, List.getElem_cons_succ, List.setIfInBounds_toArray, List.set_cons_zero, List.set_cons_succ]
  refine wpAnyG_take [1, 4] (i := 1) (v := (.int .i64 pu)) rfl (by kernel_rfl) (by kernel_rfl) (by kernel_rfl) (by kernel_rfl) (by kernel_rfl) (by kernel_rfl) (by kernel_rfl) (by kernel_rfl) (fun _ _ _ h => h) (Or.inl ⟨by rfl, ?hy⟩) T0 ?_
  case hy =>
    intro X hX
    have e0 := at_below t1 hX
    go_simp
  try simp only [Act.put, List.getElem_toArray, List.getElem_cons_zero, List.getElem_cons_succ, List.setIfInBounds_toArray, List.set_cons_zero, List.set_cons_succ]
  refine wpAnyG_take [2, 3, 5] (i := 2) (v := (.pointer (some ⟨b10, 2, none⟩))) rfl (by kernel_rfl) (by kernel_rfl) (by kernel_rfl) (by kernel_rfl) (by kernel_rfl) (by kernel_rfl) (by kernel_rfl) (by kernel_rfl) (fun _ _ _ h => h) (Or.inl ⟨by rfl, ?hy⟩) T0 ?_
  case hy =>
    intro X hX
    go_simp
  try simp only [Act.put, List.getElem_toArray, List.getElem_cons_zero, List.getElem_cons_succ, List.setIfInBounds_toArray, List.set_cons_zero, List.set_cons_succ]
  refine wpAnyG_take [3, 5] (i := 3) (v := (.int .i64 eu)) rfl (by kernel_rfl) (by kernel_rfl) (by kernel_rfl) (by kernel_rfl) (by kernel_rfl) (by kernel_rfl) (by kernel_rfl) (by kernel_rfl) (fun _ _ _ h => h) (Or.inl ⟨by rfl, ?hy⟩) T0 ?_
  case hy =>
    intro X hX
    have e0 := at_below t2 hX
    go_simp
  try simp only [Act.put, List.getElem_toArray, List.getElem_cons_zero, List.getElem_cons_succ, List.setIfInBounds_toArray, List.set_cons_zero, List.set_cons_succ]
  refine wpAnyG_take [4] (i := 4) (v := (.int .i64 pu)) rfl (by kernel_rfl) (by kernel_rfl) (by kernel_rfl) (by kernel_rfl) (by kernel_rfl) (by kernel_rfl) (by kernel_rfl) (by kernel_rfl) (fun _ _ _ h => h) (Or.inl ⟨by rfl, ?hy⟩) T0 ?_
  case hy =>
    intro X hX
    go_simp
  try simp only [Act.put, List.getElem_toArray, List.getElem_cons_zero, List.getElem_cons_succ, List.setIfInBounds_toArray, List.set_cons_zero, List.set_cons_succ]
  refine wpAnyG_take [5] (i := 5) (v := (.int .i64 eu)) rfl (by kernel_rfl) (by kernel_rfl) (by kernel_rfl) (by kernel_rfl) (by kernel_rfl) (by kernel_rfl) (by kernel_rfl) (by kernel_rfl) (fun _ _ _ h => h) (Or.inl ⟨by rfl, ?hy⟩) T0 ?_
  case hy =>
    intro X hX
    go_simp
  try simp only [Act.put, List.getElem_toArray, List.getElem_cons_zero, List.getElem_cons_succ, List.setIfInBounds_toArray, List.set_cons_zero, List.set_cons_succ]
  refine wpAnyG_done (by kernel_rfl) ?_ _
  refine NoPanic.normal ?_
  replace c8 := c8.below' T0
  replace c10 := c10.below' T0
  replace c11 := c11.below' T0
  replace HB := HB.trans (T0.mono HB.size)
  clear T0 t1 t2
  go_wp2_with (fail)
  refine (cS _).mono ?_
  rintro e w5 ⟨rfl, rfl⟩
  obtain ⟨z0, z1, z2, z3, z4⟩ := HROW.out X2dd HB Y (by rw [HN.out]; exact hYn)
  rw [HR.out] at z0 z1 z2 z3 z4
  simp only at z0 z1 z2 z3 z4
  have hY0 := HY.out
  subst hY0
  simp only [Nat.zero_mul, Nat.zero_add] at z0 z1 z2 z3 z4
  have d9 : (0 : Int) < (ek : Int) + 1 := by omega
  have k1 := c8.cell
  have k2 := c8.frozen
  have k3 := c8.lt
  have HB9 := HB0.trans (HB.mono HB0.size)
  go_wp2
  refine bodyPost_ret (v := .agg #[.int .i64 rb, .int .i64 rk, .int .i64 ru, .int .i64 rl, .int .i64 rc]) (by simp [results, Try.f32, go_sem, k1, k3]) rfl ⟨rfl, ((((HB9.setCell (p := ⟨w.heap.size, 0, none⟩) (by dsimp only; omega) _).setCell (p := ⟨w.heap.size, 1, none⟩) (by dsimp only; omega) _).setCell (p := ⟨w.heap.size, 2, none⟩) (by dsimp only; omega) _).setCell (p := ⟨w.heap.size, 3, none⟩) (by dsimp only; omega) _).setCell (p := ⟨w.heap.size, 4, none⟩) (by dsimp only; omega) _⟩

set_option maxHeartbeats 8000000 in
theorem rMove_2hi (s : ByteArray) (hs : s.size ≤ 65536) (w : World) (at' x : Nat) (hat : at' ≤ s.size) (hx : x ≤ nP s) (h1 : (pK s x).b ≤ at') (h2 : x < nP s → at' < (pK s (x + 1)).b) (n : Int) (hn : ((pK s (nP s)).u : Int) - (pK s x).u < n) :
    Calls Try.prog 32 #[.string s, .int .i64 at', .int .i64 2, .int .i64 n] w fun e w' => e = .returned (plV (pK s (nP s))) ∧ Below w.heap.size w w' := by
  have hnP := nP_le s
  have cB := fun W => rByte_ok s hs W at' hat x hx h1 h2
  have hxk := pK_k s x
  have hEk := pK_k s (nP s)
  have hul := pK_u_le s hx
  have hub := pK_u_bound s (nP s)
  have hlb := pK_l_bound s (nP s)
  have hcb := pK_c_bound s x
  obtain ⟨Y, hY⟩ : ∃ Y, (nP s) = Y := ⟨_, rfl⟩
  have hYn : Y ≤ nP s := by omega
  rw [hY]
  have HY := Lib.hid hY
  obtain ⟨R, hR⟩ : ∃ R, pK s Y = R := ⟨_, rfl⟩
  have HR := Lib.hid hR
  rw [hR]
  obtain ⟨E, hE⟩ : ∃ E, pK s (nP s) = E := ⟨_, rfl⟩
  have HE := Lib.hid hE
  obtain ⟨p, hp⟩ : ∃ p, pK s x = p := ⟨_, rfl⟩
  have HP := Lib.hid hp
  rw [hE] at hEk hul hub hlb hn
  rw [hp] at cB hxk hul hcb hn
  clear hE hp hR hY h1 h2
  obtain ⟨rb, rk, ru, rl, rc⟩ := R
  obtain ⟨eb, ek, eu, el, ec⟩ := E
  obtain ⟨pb, pk, pu, pl, pc⟩ := p
  simp only at hxk hEk hul hub hlb hcb hn
  simp only [plV] at cB  ⊢
  subst hxk

  have hale : pu ≤ eu := by omega
  have cS := fun W => sum_any pu eu n hale (by omega) W
  simp only [show ((if (eu : Int) - (pu : Int) < n then (eu : Int) + 1 else if n < -(pu : Int) then -1 else (pu : Int) + n) : Int) = (eu : Int) + 1 by rw [if_pos hn]] at cS
  have b4 := Blk.new w #[.int .i64 0, .int .i64 0, .int .i64 0, .int .i64 0, .int .i64 0] 28
  have bB : Below w.heap.size w (w.alloc (.cells #[.int .i64 0, .int .i64 0, .int .i64 0, .int .i64 0, .int .i64 0] 28)) := (Below.refl _ w).alloc (Nat.le_refl _) _
  go_enter Try.func32, Try.ntmps32
  go_wp2_with (fail)
  refine (placesD_any s hs _).mono ?_
  rintro e w1 ⟨v, base, rfl, hbase, hv, hB1⟩
  obtain ⟨gv, cap, rfl⟩ := ownsRow_succ hv
  have c8 := b4.below' hB1
  have l8 : w.heap.size < w1.heap.size := c8.lt
  have HB0 := bB.trans (hB1.mono bB.size)
  have hrow := fun X hX k (hk : k ≤ nP s) => row_pl (X := X) hv hX hk
  have HROW := Lib.hid hrow
  obtain ⟨y0, y1, y2, y3, y4⟩ := hrow w1 (Below.refl _ _) (nP s) (Nat.le_refl _)
  rw [HE.out] at y0 y1 y2 y3 y4
  simp only at y0 y1 y2 y3 y4
  obtain ⟨n', hn'⟩ : ∃ z, nP s = z := ⟨_, rfl⟩
  have HN := Lib.hid hn'
  rw [hn'] at y0 y1 y2 y3 y4 hnP hYn hEk hub hlb ⊢
  clear hrow b4 bB hB1 hv hbase hn'
  subst hEk
  have n0 : IntKind.i64.wrap (ek : Int) = (ek : Int) := IntWalk.i64_in _ (by omega)
  have n1 : (0 : Int) ≤ (ek : Int) := by omega
  have n2 : (ek : Int) < (ek : Int) + 1 := by omega
  have n3 : (ek : Int) + 1 - 1 = (ek : Int) := by omega
  go_wp2_with (fail)
  refine (cB _).mono ?_
  rintro e w2 ⟨rfl, hb2⟩
  have HB1 := (Below.refl w1.heap.size w1).alloc (Nat.le_refl _) (.cells #[.int .i64 eb, .int .i64 ek, .int .i64 eu, .int .i64 el, .int .i64 ec] 28)
  have c10 := ((Blk.new w1 #[.int .i64 eb, .int .i64 ek, .int .i64 eu, .int .i64 el, .int .i64 ec] 28).below' hb2).alloc (.cells #[.int .i64 pb, .int .i64 pk, .int .i64 pu, .int .i64 pl, .int .i64 pc] 28)
  have c11 := Blk.new w2 #[.int .i64 pb, .int .i64 pk, .int .i64 pu, .int .i64 pl, .int .i64 pc] 28
  replace c8 := ((c8.alloc (.cells #[.int .i64 eb, .int .i64 ek, .int .i64 eu, .int .i64 el, .int .i64 ec] 28)).below' hb2).alloc (.cells #[.int .i64 pb, .int .i64 pk, .int .i64 pu, .int .i64 pl, .int .i64 pc] 28)
  have HB2 := HB1.trans (hb2.mono HB1.size)
  have HB := HB2.alloc HB2.size (.cells #[.int .i64 pb, .int .i64 pk, .int .i64 pu, .int .i64 pl, .int .i64 pc] 28)
  have l10 : w1.heap.size < w2.heap.size := ((Blk.new w1 #[.int .i64 eb, .int .i64 ek, .int .i64 eu, .int .i64 el, .int .i64 ec] 28).below' hb2).lt
  obtain ⟨b10, hb10⟩ : ∃ b, w1.heap.size = b := ⟨_, rfl⟩
  obtain ⟨b11, hb11⟩ : ∃ b, w2.heap.size = b := ⟨_, rfl⟩
  rw [hb10] at c10 l10 l8
  rw [hb11] at c11 l10
  obtain ⟨X2, hX2⟩ : ∃ X, w2.alloc (.cells #[.int .i64 pb, .int .i64 pk, .int .i64 pu, .int .i64 pl, .int .i64 pc] 28) = X := ⟨_, rfl⟩
  rw [hX2] at c8 c10 c11 HB
  clear y0 y1 y2 y3 y4 HB1 HB2 hb2
  go_wp2_with (fail)
  try rw [hX2]
  clear hX2
  have t1 := c11.cell 1
  have t2 := c10.cell 1
  simp only [List.getElem?_toArray, List.getElem?_cons_succ, List.getElem?_cons_zero] at t1 t2
  refine wp_region_noPanic ?_
  refine wp_region_g (S := untilG [] (fun X => Below X2.heap.size X2 X)) (by kernel_rfl) ?_
  obtain ⟨X2d, hX2d⟩ : ∃ X, X2.drew = X := ⟨_, rfl⟩
  have T0 : Below X2.heap.size X2 X2d := hX2d ▸ (Below.refl X2.heap.size X2).drew
  rw [hX2d]
  clear hX2d
  refine wpAnyG_take [0, 1, 4] (i := 0) (v := (.pointer (some ⟨b11, 1, none⟩))) rfl (by kernel_rfl) (by kernel_rfl) (by kernel_rfl) (by kernel_rfl) (by kernel_rfl) (by kernel_rfl) (by kernel_rfl) (by kernel_rfl) (fun _ _ _ h => h) (Or.inl ⟨by rfl, ?hy⟩) T0 ?_
  case hy =>
    intro X hX
    go_simp
  try simp only [Act.put, List.getElem_toArray, List.getElem_cons_zero, List.getElem_cons_succ, List.setIfInBounds_toArray, List.set_cons_zero, List.set_cons_succ]
  refine wpAnyG_take [1, 4] (i := 1) (v := (.int .i64 pk)) rfl (by kernel_rfl) (by kernel_rfl) (by kernel_rfl) (by kernel_rfl) (by kernel_rfl) (by kernel_rfl) (by kernel_rfl) (by kernel_rfl) (fun _ _ _ h => h) (Or.inl ⟨by rfl, ?hy⟩) T0 ?_
  case hy =>
    intro X hX
    have e0 := at_below t1 hX
    go_simp
  try simp only [Act.put, List.getElem_toArray, List.getElem_cons_zero, List.getElem_cons_succ, List.setIfInBounds_toArray, List.set_cons_zero, List.set_cons_succ]
  refine wpAnyG_take [2, 3, 5] (i := 2) (v := (.pointer (some ⟨b10, 1, none⟩))) rfl (by kernel_rfl) (by kernel_rfl) (by kernel_rfl) (by kernel_rfl) (by kernel_rfl) (by kernel_rfl) (by kernel_rfl) (by kernel_rfl) (fun _ _ _ h => h) (Or.inl ⟨by rfl, ?hy⟩) T0 ?_
  case hy =>
    intro X hX
    go_simp
  try simp only [Act.put, List.getElem_toArray, List.getElem_cons_zero, List.getElem_cons_succ, List.setIfInBounds_toArray, List.set_cons_zero, List.set_cons_succ]
  refine wpAnyG_take [3, 5] (i := 3) (v := (.int .i64 ek)) rfl (by kernel_rfl) (by kernel_rfl) (by kernel_rfl) (by kernel_rfl) (by kernel_rfl) (by kernel_rfl) (by kernel_rfl) (by kernel_rfl) (fun _ _ _ h => h) (Or.inl ⟨by rfl, ?hy⟩) T0 ?_
  case hy =>
    intro X hX
    have e0 := at_below t2 hX
    go_simp
  try simp only [Act.put, List.getElem_toArray, List.getElem_cons_zero, List.getElem_cons_succ, List.setIfInBounds_toArray, List.set_cons_zero, List.set_cons_succ]
  refine wpAnyG_take [4] (i := 4) (v := (.int .i64 pk)) rfl (by kernel_rfl) (by kernel_rfl) (by kernel_rfl) (by kernel_rfl) (by kernel_rfl) (by kernel_rfl) (by kernel_rfl) (by kernel_rfl) (fun _ _ _ h => h) (Or.inl ⟨by rfl, ?hy⟩) T0 ?_
  case hy =>
    intro X hX
    go_simp
  try simp only [Act.put, List.getElem_toArray, List.getElem_cons_zero, List.getElem_cons_succ, List.setIfInBounds_toArray, List.set_cons_zero, List.set_cons_succ]
  refine wpAnyG_take [5] (i := 5) (v := (.int .i64 ek)) rfl (by kernel_rfl) (by kernel_rfl) (by kernel_rfl) (by kernel_rfl) (by kernel_rfl) (by kernel_rfl) (by kernel_rfl) (by kernel_rfl) (fun _ _ _ h => h) (Or.inl ⟨by rfl, ?hy⟩) T0 ?_
  case hy =>
    intro X hX
    go_simp
  try simp only [Act.put, List.getElem_toArray, List.getElem_cons_zero, List.getElem_cons_succ, List.setIfInBounds_toArray, List.set_cons_zero, List.set_cons_succ]
  refine wpAnyG_done (by kernel_rfl) ?_ _
  refine NoPanic.normal ?_
  replace c8 := c8.below' T0
  replace c10 := c10.below' T0
  replace c11 := c11.below' T0
  replace HB := HB.trans (T0.mono HB.size)
  clear T0 t1 t2
  go_wp2_with (fail)
  have t1 := c11.cell 2
  have t2 := c10.cell 2
  simp only [List.getElem?_toArray, List.getElem?_cons_succ, List.getElem?_cons_zero] at t1 t2
  refine wp_region_noPanic ?_
  refine wp_region_g (S := untilG [] (fun X => Below X2d.heap.size X2d X)) (by kernel_rfl) ?_
  obtain ⟨X2dd, hX2dd⟩ : ∃ X, X2d.drew = X := ⟨_, rfl⟩
  have T0 : Below X2d.heap.size X2d X2dd := hX2dd ▸ (Below.refl X2d.heap.size X2d).drew
  rw [hX2dd]
  clear hX2dd
  refine wpAnyG_take [0, 1, 4] (i := 0) (v := (.pointer (some ⟨b11, 2, none⟩))) rfl (by kernel_rfl) (by kernel_rfl) (by kernel_rfl) (by kernel_rfl) (by kernel_rfl) (by kernel_rfl) (by kernel_rfl) (by kernel_rfl) (fun _ _ _ h => h) (Or.inl ⟨by rfl, ?hy⟩) T0 ?_
  case hy =>
    intro X hX
    go_simp
  try simp only [Act.put, List.getElem_toArray, List.getElem_cons_zero, List.getElem_cons_succ, List.setIfInBounds_toArray, List.set_cons_zero, List.set_cons_succ]
  refine wpAnyG_take [1, 4] (i := 1) (v := (.int .i64 pu)) rfl (by kernel_rfl) (by kernel_rfl) (by kernel_rfl) (by kernel_rfl) (by kernel_rfl) (by kernel_rfl) (by kernel_rfl) (by kernel_rfl) (fun _ _ _ h => h) (Or.inl ⟨by rfl, ?hy⟩) T0 ?_
  case hy =>
    intro X hX
    have e0 := at_below t1 hX
    go_simp
  try simp only [Act.put, List.getElem_toArray, List.getElem_cons_zero, List.getElem_cons_succ, List.setIfInBounds_toArray, List.set_cons_zero, List.set_cons_succ]
  refine wpAnyG_take [2, 3, 5] (i := 2) (v := (.pointer (some ⟨b10, 2, none⟩))) rfl (by kernel_rfl) (by kernel_rfl) (by kernel_rfl) (by kernel_rfl) (by kernel_rfl) (by kernel_rfl) (by kernel_rfl) (by kernel_rfl) (fun _ _ _ h => h) (Or.inl ⟨by rfl, ?hy⟩) T0 ?_
  case hy =>
    intro X hX
    go_simp
  try simp only [Act.put, List.getElem_toArray, List.getElem_cons_zero, List.getElem_cons_succ, List.setIfInBounds_toArray, List.set_cons_zero, List.set_cons_succ]
  refine wpAnyG_take [3, 5] (i := 3) (v := (.int .i64 eu)) rfl (by kernel_rfl) (by kernel_rfl) (by kernel_rfl) (by kernel_rfl) (by kernel_rfl) (by kernel_rfl) (by kernel_rfl) (by kernel_rfl) (fun _ _ _ h => h) (Or.inl ⟨by rfl, ?hy⟩) T0 ?_
  case hy =>
    intro X hX
    have e0 := at_below t2 hX
    go_simp
  try simp only [Act.put, List.getElem_toArray, List.getElem_cons_zero, List.getElem_cons_succ, List.setIfInBounds_toArray, List.set_cons_zero, List.set_cons_succ]
  refine wpAnyG_take [4] (i := 4) (v := (.int .i64 pu)) rfl (by kernel_rfl) (by kernel_rfl) (by kernel_rfl) (by kernel_rfl) (by kernel_rfl) (by kernel_rfl) (by kernel_rfl) (by kernel_rfl) (fun _ _ _ h => h) (Or.inl ⟨by rfl, ?hy⟩) T0 ?_
  case hy =>
    intro X hX
    go_simp
  try simp only [Act.put, List.getElem_toArray, List.getElem_cons_zero, List.getElem_cons_succ, List.setIfInBounds_toArray, List.set_cons_zero, List.set_cons_succ]
  refine wpAnyG_take [5] (i := 5) (v := (.int .i64 eu)) rfl (by kernel_rfl) (by kernel_rfl) (by kernel_rfl) (by kernel_rfl) (by kernel_rfl) (by kernel_rfl) (by kernel_rfl) (by kernel_rfl) (fun _ _ _ h => h) (Or.inl ⟨by rfl, ?hy⟩) T0 ?_
  case hy =>
    intro X hX
    go_simp
  try simp only [Act.put, List.getElem_toArray, List.getElem_cons_zero, List.getElem_cons_succ, List.setIfInBounds_toArray, List.set_cons_zero, List.set_cons_succ]
  refine wpAnyG_done (by kernel_rfl) ?_ _
  refine NoPanic.normal ?_
  replace c8 := c8.below' T0
  replace c10 := c10.below' T0
  replace c11 := c11.below' T0
  replace HB := HB.trans (T0.mono HB.size)
  clear T0 t1 t2
  go_wp2_with (fail)
  refine (cS _).mono ?_
  rintro e w5 ⟨rfl, rfl⟩
  have hYe : Y = ek := by rw [← HN.out]; exact HY.out.symm
  have h9 := HR.out
  rw [hYe, ← HN.out, HE.out] at h9
  simp only [Pl.mk.injEq] at h9
  obtain ⟨rfl, rfl, rfl, rfl, rfl⟩ := h9
  have q1 := c10.cell
  have d9 : decide ((eu : Int) < (eu : Int) + 1) = true := decide_eq_true (by omega)
  have d8 : decide ((eu : Int) + 1 < 0) = false := decide_eq_false (by omega)
  have k1 := c8.cell
  have k2 := c8.frozen
  have k3 := c8.lt
  have HB9 := HB0.trans (HB.mono HB0.size)
  go_wp2
  refine bodyPost_ret (v := .agg #[.int .i64 eb, .int .i64 ek, .int .i64 eu, .int .i64 el, .int .i64 ec]) (by simp [results, Try.f32, go_sem, k1, k3]) rfl ⟨rfl, ((((HB9.setCell (p := ⟨w.heap.size, 0, none⟩) (by dsimp only; omega) _).setCell (p := ⟨w.heap.size, 1, none⟩) (by dsimp only; omega) _).setCell (p := ⟨w.heap.size, 2, none⟩) (by dsimp only; omega) _).setCell (p := ⟨w.heap.size, 3, none⟩) (by dsimp only; omega) _).setCell (p := ⟨w.heap.size, 4, none⟩) (by dsimp only; omega) _⟩

set_option maxHeartbeats 8000000 in
theorem rMove_2mid (s : ByteArray) (hs : s.size ≤ 65536) (w : World) (at' x : Nat) (hat : at' ≤ s.size) (hx : x ≤ nP s) (h1 : (pK s x).b ≤ at') (h2 : x < nP s → at' < (pK s (x + 1)).b) (n : Int) (K : Nat) (hK : ((pK s x).u : Int) + n = K) (hKm : K ≤ (pK s (nP s)).u) (y : Nat) (hy : y ≤ nP s) (hy1 : (pK s y).u ≤ K) (hy2 : y < nP s → K < (pK s (y + 1)).u) :
    Calls Try.prog 32 #[.string s, .int .i64 at', .int .i64 2, .int .i64 n] w fun e w' => e = .returned (plV (pK s y)) ∧ Below w.heap.size w w' := by
  have hnP := nP_le s
  have cB := fun W => rByte_ok s hs W at' hat x hx h1 h2
  have cU := fun W => rUnit_ok s hs W K hKm y hy hy1 hy2
  have hxk := pK_k s x
  have hEk := pK_k s (nP s)
  have hul := pK_u_le s hx
  have hub := pK_u_bound s (nP s)
  have hlb := pK_l_bound s (nP s)
  have hcb := pK_c_bound s x
  obtain ⟨Y, hY⟩ : ∃ Y, y = Y := ⟨_, rfl⟩
  have hYn : Y ≤ nP s := by omega
  rw [hY] at cU
  rw [hY]
  have HY := Lib.hid hY
  obtain ⟨R, hR⟩ : ∃ R, pK s Y = R := ⟨_, rfl⟩
  have HR := Lib.hid hR
  rw [hR]
  rw [hR] at cU
  obtain ⟨E, hE⟩ : ∃ E, pK s (nP s) = E := ⟨_, rfl⟩
  have HE := Lib.hid hE
  obtain ⟨p, hp⟩ : ∃ p, pK s x = p := ⟨_, rfl⟩
  have HP := Lib.hid hp
  rw [hE] at hEk hul hub hlb hKm
  rw [hp] at cB hxk hul hcb hK
  clear hE hp hR hY h1 h2
  obtain ⟨rb, rk, ru, rl, rc⟩ := R
  obtain ⟨eb, ek, eu, el, ec⟩ := E
  obtain ⟨pb, pk, pu, pl, pc⟩ := p
  simp only at hxk hEk hul hub hlb hcb hK hKm
  simp only [plV] at cB cU ⊢
  subst hxk

  have hale : pu ≤ eu := by omega
  have cS := fun W => sum_any pu eu n hale (by omega) W
  simp only [show ((if (eu : Int) - (pu : Int) < n then (eu : Int) + 1 else if n < -(pu : Int) then -1 else (pu : Int) + n) : Int) = (K : Int) by rw [if_neg (by omega), if_neg (by omega), hK]] at cS
  have b4 := Blk.new w #[.int .i64 0, .int .i64 0, .int .i64 0, .int .i64 0, .int .i64 0] 28
  have bB : Below w.heap.size w (w.alloc (.cells #[.int .i64 0, .int .i64 0, .int .i64 0, .int .i64 0, .int .i64 0] 28)) := (Below.refl _ w).alloc (Nat.le_refl _) _
  go_enter Try.func32, Try.ntmps32
  go_wp2_with (fail)
  refine (placesD_any s hs _).mono ?_
  rintro e w1 ⟨v, base, rfl, hbase, hv, hB1⟩
  obtain ⟨gv, cap, rfl⟩ := ownsRow_succ hv
  have c8 := b4.below' hB1
  have l8 : w.heap.size < w1.heap.size := c8.lt
  have HB0 := bB.trans (hB1.mono bB.size)
  have hrow := fun X hX k (hk : k ≤ nP s) => row_pl (X := X) hv hX hk
  have HROW := Lib.hid hrow
  obtain ⟨y0, y1, y2, y3, y4⟩ := hrow w1 (Below.refl _ _) (nP s) (Nat.le_refl _)
  rw [HE.out] at y0 y1 y2 y3 y4
  simp only at y0 y1 y2 y3 y4
  obtain ⟨n', hn'⟩ : ∃ z, nP s = z := ⟨_, rfl⟩
  have HN := Lib.hid hn'
  rw [hn'] at y0 y1 y2 y3 y4 hnP hYn hEk hub hlb ⊢
  clear hrow b4 bB hB1 hv hbase hn'
  subst hEk
  have n0 : IntKind.i64.wrap (ek : Int) = (ek : Int) := IntWalk.i64_in _ (by omega)
  have n1 : (0 : Int) ≤ (ek : Int) := by omega
  have n2 : (ek : Int) < (ek : Int) + 1 := by omega
  have n3 : (ek : Int) + 1 - 1 = (ek : Int) := by omega
  go_wp2_with (fail)
  refine (cB _).mono ?_
  rintro e w2 ⟨rfl, hb2⟩
  have HB1 := (Below.refl w1.heap.size w1).alloc (Nat.le_refl _) (.cells #[.int .i64 eb, .int .i64 ek, .int .i64 eu, .int .i64 el, .int .i64 ec] 28)
  have c10 := ((Blk.new w1 #[.int .i64 eb, .int .i64 ek, .int .i64 eu, .int .i64 el, .int .i64 ec] 28).below' hb2).alloc (.cells #[.int .i64 pb, .int .i64 pk, .int .i64 pu, .int .i64 pl, .int .i64 pc] 28)
  have c11 := Blk.new w2 #[.int .i64 pb, .int .i64 pk, .int .i64 pu, .int .i64 pl, .int .i64 pc] 28
  replace c8 := ((c8.alloc (.cells #[.int .i64 eb, .int .i64 ek, .int .i64 eu, .int .i64 el, .int .i64 ec] 28)).below' hb2).alloc (.cells #[.int .i64 pb, .int .i64 pk, .int .i64 pu, .int .i64 pl, .int .i64 pc] 28)
  have HB2 := HB1.trans (hb2.mono HB1.size)
  have HB := HB2.alloc HB2.size (.cells #[.int .i64 pb, .int .i64 pk, .int .i64 pu, .int .i64 pl, .int .i64 pc] 28)
  have l10 : w1.heap.size < w2.heap.size := ((Blk.new w1 #[.int .i64 eb, .int .i64 ek, .int .i64 eu, .int .i64 el, .int .i64 ec] 28).below' hb2).lt
  obtain ⟨b10, hb10⟩ : ∃ b, w1.heap.size = b := ⟨_, rfl⟩
  obtain ⟨b11, hb11⟩ : ∃ b, w2.heap.size = b := ⟨_, rfl⟩
  rw [hb10] at c10 l10 l8
  rw [hb11] at c11 l10
  obtain ⟨X2, hX2⟩ : ∃ X, w2.alloc (.cells #[.int .i64 pb, .int .i64 pk, .int .i64 pu, .int .i64 pl, .int .i64 pc] 28) = X := ⟨_, rfl⟩
  rw [hX2] at c8 c10 c11 HB
  clear y0 y1 y2 y3 y4 HB1 HB2 hb2
  go_wp2_with (fail)
  try rw [hX2]
  clear hX2
  have t1 := c11.cell 1
  have t2 := c10.cell 1
  simp only [List.getElem?_toArray, List.getElem?_cons_succ, List.getElem?_cons_zero] at t1 t2
  refine wp_region_noPanic ?_
  refine wp_region_g (S := untilG [] (fun X => Below X2.heap.size X2 X)) (by kernel_rfl) ?_
  obtain ⟨X2d, hX2d⟩ : ∃ X, X2.drew = X := ⟨_, rfl⟩
  have T0 : Below X2.heap.size X2 X2d := hX2d ▸ (Below.refl X2.heap.size X2).drew
  rw [hX2d]
  clear hX2d
  refine wpAnyG_take [0, 1, 4] (i := 0) (v := (.pointer (some ⟨b11, 1, none⟩))) rfl (by kernel_rfl) (by kernel_rfl) (by kernel_rfl) (by kernel_rfl) (by kernel_rfl) (by kernel_rfl) (by kernel_rfl) (by kernel_rfl) (fun _ _ _ h => h) (Or.inl ⟨by rfl, ?hy⟩) T0 ?_
  case hy =>
    intro X hX
    go_simp
  try simp only [Act.put, List.getElem_toArray, List.getElem_cons_zero, List.getElem_cons_succ, List.setIfInBounds_toArray, List.set_cons_zero, List.set_cons_succ]
  refine wpAnyG_take [1, 4] (i := 1) (v := (.int .i64 pk)) rfl (by kernel_rfl) (by kernel_rfl) (by kernel_rfl) (by kernel_rfl) (by kernel_rfl) (by kernel_rfl) (by kernel_rfl) (by kernel_rfl) (fun _ _ _ h => h) (Or.inl ⟨by rfl, ?hy⟩) T0 ?_
  case hy =>
    intro X hX
    have e0 := at_below t1 hX
    go_simp
  try simp only [Act.put, List.getElem_toArray, List.getElem_cons_zero, List.getElem_cons_succ, List.setIfInBounds_toArray, List.set_cons_zero, List.set_cons_succ]
  refine wpAnyG_take [2, 3, 5] (i := 2) (v := (.pointer (some ⟨b10, 1, none⟩))) rfl (by kernel_rfl) (by kernel_rfl) (by kernel_rfl) (by kernel_rfl) (by kernel_rfl) (by kernel_rfl) (by kernel_rfl) (by kernel_rfl) (fun _ _ _ h => h) (Or.inl ⟨by rfl, ?hy⟩) T0 ?_
  case hy =>
    intro X hX
    go_simp
  try simp only [Act.put, List.getElem_toArray, List.getElem_cons_zero, List.getElem_cons_succ, List.setIfInBounds_toArray, List.set_cons_zero, List.set_cons_succ]
  refine wpAnyG_take [3, 5] (i := 3) (v := (.int .i64 ek)) rfl (by kernel_rfl) (by kernel_rfl) (by kernel_rfl) (by kernel_rfl) (by kernel_rfl) (by kernel_rfl) (by kernel_rfl) (by kernel_rfl) (fun _ _ _ h => h) (Or.inl ⟨by rfl, ?hy⟩) T0 ?_
  case hy =>
    intro X hX
    have e0 := at_below t2 hX
    go_simp
  try simp only [Act.put, List.getElem_toArray, List.getElem_cons_zero, List.getElem_cons_succ, List.setIfInBounds_toArray, List.set_cons_zero, List.set_cons_succ]
  refine wpAnyG_take [4] (i := 4) (v := (.int .i64 pk)) rfl (by kernel_rfl) (by kernel_rfl) (by kernel_rfl) (by kernel_rfl) (by kernel_rfl) (by kernel_rfl) (by kernel_rfl) (by kernel_rfl) (fun _ _ _ h => h) (Or.inl ⟨by rfl, ?hy⟩) T0 ?_
  case hy =>
    intro X hX
    go_simp
  try simp only [Act.put, List.getElem_toArray, List.getElem_cons_zero, List.getElem_cons_succ, List.setIfInBounds_toArray, List.set_cons_zero, List.set_cons_succ]
  refine wpAnyG_take [5] (i := 5) (v := (.int .i64 ek)) rfl (by kernel_rfl) (by kernel_rfl) (by kernel_rfl) (by kernel_rfl) (by kernel_rfl) (by kernel_rfl) (by kernel_rfl) (by kernel_rfl) (fun _ _ _ h => h) (Or.inl ⟨by rfl, ?hy⟩) T0 ?_
  case hy =>
    intro X hX
    go_simp
  try simp only [Act.put, List.getElem_toArray, List.getElem_cons_zero, List.getElem_cons_succ, List.setIfInBounds_toArray, List.set_cons_zero, List.set_cons_succ]
  refine wpAnyG_done (by kernel_rfl) ?_ _
  refine NoPanic.normal ?_
  replace c8 := c8.below' T0
  replace c10 := c10.below' T0
  replace c11 := c11.below' T0
  replace HB := HB.trans (T0.mono HB.size)
  clear T0 t1 t2
  go_wp2_with (fail)
  have t1 := c11.cell 2
  have t2 := c10.cell 2
  simp only [List.getElem?_toArray, List.getElem?_cons_succ, List.getElem?_cons_zero] at t1 t2
  refine wp_region_noPanic ?_
  refine wp_region_g (S := untilG [] (fun X => Below X2d.heap.size X2d X)) (by kernel_rfl) ?_
  obtain ⟨X2dd, hX2dd⟩ : ∃ X, X2d.drew = X := ⟨_, rfl⟩
  have T0 : Below X2d.heap.size X2d X2dd := hX2dd ▸ (Below.refl X2d.heap.size X2d).drew
  rw [hX2dd]
  clear hX2dd
  refine wpAnyG_take [0, 1, 4] (i := 0) (v := (.pointer (some ⟨b11, 2, none⟩))) rfl (by kernel_rfl) (by kernel_rfl) (by kernel_rfl) (by kernel_rfl) (by kernel_rfl) (by kernel_rfl) (by kernel_rfl) (by kernel_rfl) (fun _ _ _ h => h) (Or.inl ⟨by rfl, ?hy⟩) T0 ?_
  case hy =>
    intro X hX
    go_simp
  try simp only [Act.put, List.getElem_toArray, List.getElem_cons_zero, List.getElem_cons_succ, List.setIfInBounds_toArray, List.set_cons_zero, List.set_cons_succ]
  refine wpAnyG_take [1, 4] (i := 1) (v := (.int .i64 pu)) rfl (by kernel_rfl) (by kernel_rfl) (by kernel_rfl) (by kernel_rfl) (by kernel_rfl) (by kernel_rfl) (by kernel_rfl) (by kernel_rfl) (fun _ _ _ h => h) (Or.inl ⟨by rfl, ?hy⟩) T0 ?_
  case hy =>
    intro X hX
    have e0 := at_below t1 hX
    go_simp
  try simp only [Act.put, List.getElem_toArray, List.getElem_cons_zero, List.getElem_cons_succ, List.setIfInBounds_toArray, List.set_cons_zero, List.set_cons_succ]
  refine wpAnyG_take [2, 3, 5] (i := 2) (v := (.pointer (some ⟨b10, 2, none⟩))) rfl (by kernel_rfl) (by kernel_rfl) (by kernel_rfl) (by kernel_rfl) (by kernel_rfl) (by kernel_rfl) (by kernel_rfl) (by kernel_rfl) (fun _ _ _ h => h) (Or.inl ⟨by rfl, ?hy⟩) T0 ?_
  case hy =>
    intro X hX
    go_simp
  try simp only [Act.put, List.getElem_toArray, List.getElem_cons_zero, List.getElem_cons_succ, List.setIfInBounds_toArray, List.set_cons_zero, List.set_cons_succ]
  refine wpAnyG_take [3, 5] (i := 3) (v := (.int .i64 eu)) rfl (by kernel_rfl) (by kernel_rfl) (by kernel_rfl) (by kernel_rfl) (by kernel_rfl) (by kernel_rfl) (by kernel_rfl) (by kernel_rfl) (fun _ _ _ h => h) (Or.inl ⟨by rfl, ?hy⟩) T0 ?_
  case hy =>
    intro X hX
    have e0 := at_below t2 hX
    go_simp
  try simp only [Act.put, List.getElem_toArray, List.getElem_cons_zero, List.getElem_cons_succ, List.setIfInBounds_toArray, List.set_cons_zero, List.set_cons_succ]
  refine wpAnyG_take [4] (i := 4) (v := (.int .i64 pu)) rfl (by kernel_rfl) (by kernel_rfl) (by kernel_rfl) (by kernel_rfl) (by kernel_rfl) (by kernel_rfl) (by kernel_rfl) (by kernel_rfl) (fun _ _ _ h => h) (Or.inl ⟨by rfl, ?hy⟩) T0 ?_
  case hy =>
    intro X hX
    go_simp
  try simp only [Act.put, List.getElem_toArray, List.getElem_cons_zero, List.getElem_cons_succ, List.setIfInBounds_toArray, List.set_cons_zero, List.set_cons_succ]
  refine wpAnyG_take [5] (i := 5) (v := (.int .i64 eu)) rfl (by kernel_rfl) (by kernel_rfl) (by kernel_rfl) (by kernel_rfl) (by kernel_rfl) (by kernel_rfl) (by kernel_rfl) (by kernel_rfl) (fun _ _ _ h => h) (Or.inl ⟨by rfl, ?hy⟩) T0 ?_
  case hy =>
    intro X hX
    go_simp
  try simp only [Act.put, List.getElem_toArray, List.getElem_cons_zero, List.getElem_cons_succ, List.setIfInBounds_toArray, List.set_cons_zero, List.set_cons_succ]
  refine wpAnyG_done (by kernel_rfl) ?_ _
  refine NoPanic.normal ?_
  replace c8 := c8.below' T0
  replace c10 := c10.below' T0
  replace c11 := c11.below' T0
  replace HB := HB.trans (T0.mono HB.size)
  clear T0 t1 t2
  go_wp2_with (fail)
  refine (cS _).mono ?_
  rintro e w5 ⟨rfl, rfl⟩
  have d8 : decide ((K : Int) < 0) = false := decide_eq_false (by omega)
  have d9 : decide ((eu : Int) < (K : Int)) = false := decide_eq_false (by omega)
  have d9n : ¬ eu < K := by omega
  go_wp2_with (fail)
  refine (cU _).mono ?_
  rintro e w6 ⟨rfl, hb6⟩
  have HB9 := (HB0.trans (HB.mono HB0.size)).trans (hb6.mono (HB0.trans (HB.mono HB0.size)).size)
  replace c8 := (c8.below' hb6).alloc (.cells #[.int .i64 rb, .int .i64 rk, .int .i64 ru, .int .i64 rl, .int .i64 rc] 28)
  have q17 := Blk.new w6 #[.int .i64 rb, .int .i64 rk, .int .i64 ru, .int .i64 rl, .int .i64 rc] 28
  replace HB9 := HB9.alloc HB9.size (.cells #[.int .i64 rb, .int .i64 rk, .int .i64 ru, .int .i64 rl, .int .i64 rc] 28)
  obtain ⟨X7, hX7⟩ : ∃ X, w6.alloc (.cells #[.int .i64 rb, .int .i64 rk, .int .i64 ru, .int .i64 rl, .int .i64 rc] 28) = X := ⟨_, rfl⟩
  rw [hX7] at c8 q17 HB9
  have q1 := q17.cell
  have k1 := c8.cell
  have k2 := c8.frozen
  have k3 := c8.lt
  go_wp2
  refine bodyPost_ret (v := .agg #[.int .i64 rb, .int .i64 rk, .int .i64 ru, .int .i64 rl, .int .i64 rc]) (by simp [results, Try.f32, go_sem, k1, k3]) rfl ⟨rfl, ((((HB9.setCell (p := ⟨w.heap.size, 0, none⟩) (by dsimp only; omega) _).setCell (p := ⟨w.heap.size, 1, none⟩) (by dsimp only; omega) _).setCell (p := ⟨w.heap.size, 2, none⟩) (by dsimp only; omega) _).setCell (p := ⟨w.heap.size, 3, none⟩) (by dsimp only; omega) _).setCell (p := ⟨w.heap.size, 4, none⟩) (by dsimp only; omega) _⟩

set_option maxHeartbeats 8000000 in
theorem rMove_3lo (s : ByteArray) (hs : s.size ≤ 65536) (w : World) (at' x : Nat) (hat : at' ≤ s.size) (hx : x ≤ nP s) (h1 : (pK s x).b ≤ at') (h2 : x < nP s → at' < (pK s (x + 1)).b) (n : Int) (hn : n < -((pK s x).l : Int)) :
    Calls Try.prog 32 #[.string s, .int .i64 at', .int .i64 3, .int .i64 n] w fun e w' => e = .returned (plV (pK s 0)) ∧ Below w.heap.size w w' := by
  have hnP := nP_le s
  have cB := fun W => rByte_ok s hs W at' hat x hx h1 h2
  have hxk := pK_k s x
  have hEk := pK_k s (nP s)
  have hul := pK_l_le s hx
  have hub := pK_u_bound s (nP s)
  have hlb := pK_l_bound s (nP s)
  have hcb := pK_c_bound s x
  obtain ⟨Y, hY⟩ : ∃ Y, 0 = Y := ⟨_, rfl⟩
  have hYn : Y ≤ nP s := by omega
  rw [hY]
  have HY := Lib.hid hY
  obtain ⟨R, hR⟩ : ∃ R, pK s Y = R := ⟨_, rfl⟩
  have HR := Lib.hid hR
  rw [hR]
  obtain ⟨E, hE⟩ : ∃ E, pK s (nP s) = E := ⟨_, rfl⟩
  have HE := Lib.hid hE
  obtain ⟨p, hp⟩ : ∃ p, pK s x = p := ⟨_, rfl⟩
  have HP := Lib.hid hp
  rw [hE] at hEk hul hub hlb 
  rw [hp] at cB hxk hul hcb hn
  clear hE hp hR hY h1 h2
  obtain ⟨rb, rk, ru, rl, rc⟩ := R
  obtain ⟨eb, ek, eu, el, ec⟩ := E
  obtain ⟨pb, pk, pu, pl, pc⟩ := p
  simp only at hxk hEk hul hub hlb hcb hn
  simp only [plV] at cB  ⊢
  subst hxk

  have hale : pl ≤ el := by omega
  have cS := fun W => sum_any pl el n hale (by omega) W
  simp only [show ((if (el : Int) - (pl : Int) < n then (el : Int) + 1 else if n < -(pl : Int) then -1 else (pl : Int) + n) : Int) = -1 by rw [if_neg (by omega), if_pos hn]] at cS
  have b4 := Blk.new w #[.int .i64 0, .int .i64 0, .int .i64 0, .int .i64 0, .int .i64 0] 28
  have bB : Below w.heap.size w (w.alloc (.cells #[.int .i64 0, .int .i64 0, .int .i64 0, .int .i64 0, .int .i64 0] 28)) := (Below.refl _ w).alloc (Nat.le_refl _) _
  go_enter Try.func32, Try.ntmps32
  go_wp2_with (fail)
  refine (placesD_any s hs _).mono ?_
  rintro e w1 ⟨v, base, rfl, hbase, hv, hB1⟩
  obtain ⟨gv, cap, rfl⟩ := ownsRow_succ hv
  have c8 := b4.below' hB1
  have l8 : w.heap.size < w1.heap.size := c8.lt
  have HB0 := bB.trans (hB1.mono bB.size)
  have hrow := fun X hX k (hk : k ≤ nP s) => row_pl (X := X) hv hX hk
  have HROW := Lib.hid hrow
  obtain ⟨y0, y1, y2, y3, y4⟩ := hrow w1 (Below.refl _ _) (nP s) (Nat.le_refl _)
  rw [HE.out] at y0 y1 y2 y3 y4
  simp only at y0 y1 y2 y3 y4
  obtain ⟨n', hn'⟩ : ∃ z, nP s = z := ⟨_, rfl⟩
  have HN := Lib.hid hn'
  rw [hn'] at y0 y1 y2 y3 y4 hnP hYn hEk hub hlb ⊢
  clear hrow b4 bB hB1 hv hbase hn'
  subst hEk
  have n0 : IntKind.i64.wrap (ek : Int) = (ek : Int) := IntWalk.i64_in _ (by omega)
  have n1 : (0 : Int) ≤ (ek : Int) := by omega
  have n2 : (ek : Int) < (ek : Int) + 1 := by omega
  have n3 : (ek : Int) + 1 - 1 = (ek : Int) := by omega
  go_wp2_with (fail)
  refine (cB _).mono ?_
  rintro e w2 ⟨rfl, hb2⟩
  have HB1 := (Below.refl w1.heap.size w1).alloc (Nat.le_refl _) (.cells #[.int .i64 eb, .int .i64 ek, .int .i64 eu, .int .i64 el, .int .i64 ec] 28)
  have c10 := ((Blk.new w1 #[.int .i64 eb, .int .i64 ek, .int .i64 eu, .int .i64 el, .int .i64 ec] 28).below' hb2).alloc (.cells #[.int .i64 pb, .int .i64 pk, .int .i64 pu, .int .i64 pl, .int .i64 pc] 28)
  have c11 := Blk.new w2 #[.int .i64 pb, .int .i64 pk, .int .i64 pu, .int .i64 pl, .int .i64 pc] 28
  replace c8 := ((c8.alloc (.cells #[.int .i64 eb, .int .i64 ek, .int .i64 eu, .int .i64 el, .int .i64 ec] 28)).below' hb2).alloc (.cells #[.int .i64 pb, .int .i64 pk, .int .i64 pu, .int .i64 pl, .int .i64 pc] 28)
  have HB2 := HB1.trans (hb2.mono HB1.size)
  have HB := HB2.alloc HB2.size (.cells #[.int .i64 pb, .int .i64 pk, .int .i64 pu, .int .i64 pl, .int .i64 pc] 28)
  have l10 : w1.heap.size < w2.heap.size := ((Blk.new w1 #[.int .i64 eb, .int .i64 ek, .int .i64 eu, .int .i64 el, .int .i64 ec] 28).below' hb2).lt
  obtain ⟨b10, hb10⟩ : ∃ b, w1.heap.size = b := ⟨_, rfl⟩
  obtain ⟨b11, hb11⟩ : ∃ b, w2.heap.size = b := ⟨_, rfl⟩
  rw [hb10] at c10 l10 l8
  rw [hb11] at c11 l10
  obtain ⟨X2, hX2⟩ : ∃ X, w2.alloc (.cells #[.int .i64 pb, .int .i64 pk, .int .i64 pu, .int .i64 pl, .int .i64 pc] 28) = X := ⟨_, rfl⟩
  rw [hX2] at c8 c10 c11 HB
  clear y0 y1 y2 y3 y4 HB1 HB2 hb2
  go_wp2_with (fail)
  try rw [hX2]
  clear hX2
  have t1 := c11.cell 1
  have t2 := c10.cell 1
  simp only [List.getElem?_toArray, List.getElem?_cons_succ, List.getElem?_cons_zero] at t1 t2
  refine wp_region_noPanic ?_
  refine wp_region_g (S := untilG [] (fun X => Below X2.heap.size X2 X)) (by kernel_rfl) ?_
  obtain ⟨X2d, hX2d⟩ : ∃ X, X2.drew = X := ⟨_, rfl⟩
  have T0 : Below X2.heap.size X2 X2d := hX2d ▸ (Below.refl X2.heap.size X2).drew
  rw [hX2d]
  clear hX2d
  refine wpAnyG_take [0, 1, 4] (i := 0) (v := (.pointer (some ⟨b11, 1, none⟩))) rfl (by kernel_rfl) (by kernel_rfl) (by kernel_rfl) (by kernel_rfl) (by kernel_rfl) (by kernel_rfl) (by kernel_rfl) (by kernel_rfl) (fun _ _ _ h => h) (Or.inl ⟨by rfl, ?hy⟩) T0 ?_
  case hy =>
    intro X hX
    go_simp
  try simp only [Act.put, List.getElem_toArray, List.getElem_cons_zero, List.getElem_cons_succ, List.setIfInBounds_toArray, List.set_cons_zero, List.set_cons_succ]
  refine wpAnyG_take [1, 4] (i := 1) (v := (.int .i64 pk)) rfl (by kernel_rfl) (by kernel_rfl) (by kernel_rfl) (by kernel_rfl) (by kernel_rfl) (by kernel_rfl) (by kernel_rfl) (by kernel_rfl) (fun _ _ _ h => h) (Or.inl ⟨by rfl, ?hy⟩) T0 ?_
  case hy =>
    intro X hX
    have e0 := at_below t1 hX
    go_simp
  try simp only [Act.put, List.getElem_toArray, List.getElem_cons_zero, List.getElem_cons_succ, List.setIfInBounds_toArray, List.set_cons_zero, List.set_cons_succ]
  refine wpAnyG_take [2, 3, 5] (i := 2) (v := (.pointer (some ⟨b10, 1, none⟩))) rfl (by kernel_rfl) (by kernel_rfl) (by kernel_rfl) (by kernel_rfl) (by kernel_rfl) (by kernel_rfl) (by kernel_rfl) (by kernel_rfl) (fun _ _ _ h => h) (Or.inl ⟨by rfl, ?hy⟩) T0 ?_
  case hy =>
    intro X hX
    go_simp
  try simp only [Act.put, List.getElem_toArray, List.getElem_cons_zero, List.getElem_cons_succ, List.setIfInBounds_toArray, List.set_cons_zero, List.set_cons_succ]
  refine wpAnyG_take [3, 5] (i := 3) (v := (.int .i64 ek)) rfl (by kernel_rfl) (by kernel_rfl) (by kernel_rfl) (by kernel_rfl) (by kernel_rfl) (by kernel_rfl) (by kernel_rfl) (by kernel_rfl) (fun _ _ _ h => h) (Or.inl ⟨by rfl, ?hy⟩) T0 ?_
  case hy =>
    intro X hX
    have e0 := at_below t2 hX
    go_simp
  try simp only [Act.put, List.getElem_toArray, List.getElem_cons_zero, List.getElem_cons_succ, List.setIfInBounds_toArray, List.set_cons_zero, List.set_cons_succ]
  refine wpAnyG_take [4] (i := 4) (v := (.int .i64 pk)) rfl (by kernel_rfl) (by kernel_rfl) (by kernel_rfl) (by kernel_rfl) (by kernel_rfl) (by kernel_rfl) (by kernel_rfl) (by kernel_rfl) (fun _ _ _ h => h) (Or.inl ⟨by rfl, ?hy⟩) T0 ?_
  case hy =>
    intro X hX
    go_simp
  try simp only [Act.put, List.getElem_toArray, List.getElem_cons_zero, List.getElem_cons_succ, List.setIfInBounds_toArray, List.set_cons_zero, List.set_cons_succ]
  refine wpAnyG_take [5] (i := 5) (v := (.int .i64 ek)) rfl (by kernel_rfl) (by kernel_rfl) (by kernel_rfl) (by kernel_rfl) (by kernel_rfl) (by kernel_rfl) (by kernel_rfl) (by kernel_rfl) (fun _ _ _ h => h) (Or.inl ⟨by rfl, ?hy⟩) T0 ?_
  case hy =>
    intro X hX
    go_simp
  try simp only [Act.put, List.getElem_toArray, List.getElem_cons_zero, List.getElem_cons_succ, List.setIfInBounds_toArray, List.set_cons_zero, List.set_cons_succ]
  refine wpAnyG_done (by kernel_rfl) ?_ _
  refine NoPanic.normal ?_
  replace c8 := c8.below' T0
  replace c10 := c10.below' T0
  replace c11 := c11.below' T0
  replace HB := HB.trans (T0.mono HB.size)
  clear T0 t1 t2
  go_wp2_with (fail)
  have t1 := c11.cell 3
  have t2 := c10.cell 3
  simp only [List.getElem?_toArray, List.getElem?_cons_succ, List.getElem?_cons_zero] at t1 t2
  refine wp_region_noPanic ?_
  refine wp_region_g (S := untilG [] (fun X => Below X2d.heap.size X2d X)) (by kernel_rfl) ?_
  obtain ⟨X2dd, hX2dd⟩ : ∃ X, X2d.drew = X := ⟨_, rfl⟩
  have T0 : Below X2d.heap.size X2d X2dd := hX2dd ▸ (Below.refl X2d.heap.size X2d).drew
  rw [hX2dd]
  clear hX2dd
  refine wpAnyG_take [0, 1, 4] (i := 0) (v := (.pointer (some ⟨b11, 3, none⟩))) rfl (by kernel_rfl) (by kernel_rfl) (by kernel_rfl) (by kernel_rfl) (by kernel_rfl) (by kernel_rfl) (by kernel_rfl) (by kernel_rfl) (fun _ _ _ h => h) (Or.inl ⟨by rfl, ?hy⟩) T0 ?_
  case hy =>
    intro X hX
    go_simp
  try simp only [Act.put, List.getElem_toArray, List.getElem_cons_zero, List.getElem_cons_succ, List.setIfInBounds_toArray, List.set_cons_zero, List.set_cons_succ]
  refine wpAnyG_take [1, 4] (i := 1) (v := (.int .i64 pl)) rfl (by kernel_rfl) (by kernel_rfl) (by kernel_rfl) (by kernel_rfl) (by kernel_rfl) (by kernel_rfl) (by kernel_rfl) (by kernel_rfl) (fun _ _ _ h => h) (Or.inl ⟨by rfl, ?hy⟩) T0 ?_
  case hy =>
    intro X hX
    have e0 := at_below t1 hX
    go_simp
  try simp only [Act.put, List.getElem_toArray, List.getElem_cons_zero, List.getElem_cons_succ, List.setIfInBounds_toArray, List.set_cons_zero, List.set_cons_succ]
  refine wpAnyG_take [2, 3, 5] (i := 2) (v := (.pointer (some ⟨b10, 3, none⟩))) rfl (by kernel_rfl) (by kernel_rfl) (by kernel_rfl) (by kernel_rfl) (by kernel_rfl) (by kernel_rfl) (by kernel_rfl) (by kernel_rfl) (fun _ _ _ h => h) (Or.inl ⟨by rfl, ?hy⟩) T0 ?_
  case hy =>
    intro X hX
    go_simp
  try simp only [Act.put, List.getElem_toArray, List.getElem_cons_zero, List.getElem_cons_succ, List.setIfInBounds_toArray, List.set_cons_zero, List.set_cons_succ]
  refine wpAnyG_take [3, 5] (i := 3) (v := (.int .i64 el)) rfl (by kernel_rfl) (by kernel_rfl) (by kernel_rfl) (by kernel_rfl) (by kernel_rfl) (by kernel_rfl) (by kernel_rfl) (by kernel_rfl) (fun _ _ _ h => h) (Or.inl ⟨by rfl, ?hy⟩) T0 ?_
  case hy =>
    intro X hX
    have e0 := at_below t2 hX
    go_simp
  try simp only [Act.put, List.getElem_toArray, List.getElem_cons_zero, List.getElem_cons_succ, List.setIfInBounds_toArray, List.set_cons_zero, List.set_cons_succ]
  refine wpAnyG_take [4] (i := 4) (v := (.int .i64 pl)) rfl (by kernel_rfl) (by kernel_rfl) (by kernel_rfl) (by kernel_rfl) (by kernel_rfl) (by kernel_rfl) (by kernel_rfl) (by kernel_rfl) (fun _ _ _ h => h) (Or.inl ⟨by rfl, ?hy⟩) T0 ?_
  case hy =>
    intro X hX
    go_simp
  try simp only [Act.put, List.getElem_toArray, List.getElem_cons_zero, List.getElem_cons_succ, List.setIfInBounds_toArray, List.set_cons_zero, List.set_cons_succ]
  refine wpAnyG_take [5] (i := 5) (v := (.int .i64 el)) rfl (by kernel_rfl) (by kernel_rfl) (by kernel_rfl) (by kernel_rfl) (by kernel_rfl) (by kernel_rfl) (by kernel_rfl) (by kernel_rfl) (fun _ _ _ h => h) (Or.inl ⟨by rfl, ?hy⟩) T0 ?_
  case hy =>
    intro X hX
    go_simp
  try simp only [Act.put, List.getElem_toArray, List.getElem_cons_zero, List.getElem_cons_succ, List.setIfInBounds_toArray, List.set_cons_zero, List.set_cons_succ]
  refine wpAnyG_done (by kernel_rfl) ?_ _
  refine NoPanic.normal ?_
  replace c8 := c8.below' T0
  replace c10 := c10.below' T0
  replace c11 := c11.below' T0
  replace HB := HB.trans (T0.mono HB.size)
  clear T0 t1 t2
  go_wp2_with (fail)
  refine (cS _).mono ?_
  rintro e w5 ⟨rfl, rfl⟩
  obtain ⟨z0, z1, z2, z3, z4⟩ := HROW.out X2dd HB Y (by rw [HN.out]; exact hYn)
  rw [HR.out] at z0 z1 z2 z3 z4
  simp only at z0 z1 z2 z3 z4
  have hY0 := HY.out
  subst hY0
  simp only [Nat.zero_mul, Nat.zero_add] at z0 z1 z2 z3 z4
  have d9 : (0 : Int) < (ek : Int) + 1 := by omega
  have k1 := c8.cell
  have k2 := c8.frozen
  have k3 := c8.lt
  have HB9 := HB0.trans (HB.mono HB0.size)
  go_wp2
  refine bodyPost_ret (v := .agg #[.int .i64 rb, .int .i64 rk, .int .i64 ru, .int .i64 rl, .int .i64 rc]) (by simp [results, Try.f32, go_sem, k1, k3]) rfl ⟨rfl, ((((HB9.setCell (p := ⟨w.heap.size, 0, none⟩) (by dsimp only; omega) _).setCell (p := ⟨w.heap.size, 1, none⟩) (by dsimp only; omega) _).setCell (p := ⟨w.heap.size, 2, none⟩) (by dsimp only; omega) _).setCell (p := ⟨w.heap.size, 3, none⟩) (by dsimp only; omega) _).setCell (p := ⟨w.heap.size, 4, none⟩) (by dsimp only; omega) _⟩

set_option maxHeartbeats 8000000 in
theorem rMove_3hi (s : ByteArray) (hs : s.size ≤ 65536) (w : World) (at' x : Nat) (hat : at' ≤ s.size) (hx : x ≤ nP s) (h1 : (pK s x).b ≤ at') (h2 : x < nP s → at' < (pK s (x + 1)).b) (n : Int) (hn : ((pK s (nP s)).l : Int) - (pK s x).l < n) :
    Calls Try.prog 32 #[.string s, .int .i64 at', .int .i64 3, .int .i64 n] w fun e w' => e = .returned (plV (pK s (nP s))) ∧ Below w.heap.size w w' := by
  have hnP := nP_le s
  have cB := fun W => rByte_ok s hs W at' hat x hx h1 h2
  have hxk := pK_k s x
  have hEk := pK_k s (nP s)
  have hul := pK_l_le s hx
  have hub := pK_u_bound s (nP s)
  have hlb := pK_l_bound s (nP s)
  have hcb := pK_c_bound s x
  obtain ⟨Y, hY⟩ : ∃ Y, (nP s) = Y := ⟨_, rfl⟩
  have hYn : Y ≤ nP s := by omega
  rw [hY]
  have HY := Lib.hid hY
  obtain ⟨R, hR⟩ : ∃ R, pK s Y = R := ⟨_, rfl⟩
  have HR := Lib.hid hR
  rw [hR]
  obtain ⟨E, hE⟩ : ∃ E, pK s (nP s) = E := ⟨_, rfl⟩
  have HE := Lib.hid hE
  obtain ⟨p, hp⟩ : ∃ p, pK s x = p := ⟨_, rfl⟩
  have HP := Lib.hid hp
  rw [hE] at hEk hul hub hlb hn
  rw [hp] at cB hxk hul hcb hn
  clear hE hp hR hY h1 h2
  obtain ⟨rb, rk, ru, rl, rc⟩ := R
  obtain ⟨eb, ek, eu, el, ec⟩ := E
  obtain ⟨pb, pk, pu, pl, pc⟩ := p
  simp only at hxk hEk hul hub hlb hcb hn
  simp only [plV] at cB  ⊢
  subst hxk

  have hale : pl ≤ el := by omega
  have cS := fun W => sum_any pl el n hale (by omega) W
  simp only [show ((if (el : Int) - (pl : Int) < n then (el : Int) + 1 else if n < -(pl : Int) then -1 else (pl : Int) + n) : Int) = (el : Int) + 1 by rw [if_pos hn]] at cS
  have b4 := Blk.new w #[.int .i64 0, .int .i64 0, .int .i64 0, .int .i64 0, .int .i64 0] 28
  have bB : Below w.heap.size w (w.alloc (.cells #[.int .i64 0, .int .i64 0, .int .i64 0, .int .i64 0, .int .i64 0] 28)) := (Below.refl _ w).alloc (Nat.le_refl _) _
  go_enter Try.func32, Try.ntmps32
  go_wp2_with (fail)
  refine (placesD_any s hs _).mono ?_
  rintro e w1 ⟨v, base, rfl, hbase, hv, hB1⟩
  obtain ⟨gv, cap, rfl⟩ := ownsRow_succ hv
  have c8 := b4.below' hB1
  have l8 : w.heap.size < w1.heap.size := c8.lt
  have HB0 := bB.trans (hB1.mono bB.size)
  have hrow := fun X hX k (hk : k ≤ nP s) => row_pl (X := X) hv hX hk
  have HROW := Lib.hid hrow
  obtain ⟨y0, y1, y2, y3, y4⟩ := hrow w1 (Below.refl _ _) (nP s) (Nat.le_refl _)
  rw [HE.out] at y0 y1 y2 y3 y4
  simp only at y0 y1 y2 y3 y4
  obtain ⟨n', hn'⟩ : ∃ z, nP s = z := ⟨_, rfl⟩
  have HN := Lib.hid hn'
  rw [hn'] at y0 y1 y2 y3 y4 hnP hYn hEk hub hlb ⊢
  clear hrow b4 bB hB1 hv hbase hn'
  subst hEk
  have n0 : IntKind.i64.wrap (ek : Int) = (ek : Int) := IntWalk.i64_in _ (by omega)
  have n1 : (0 : Int) ≤ (ek : Int) := by omega
  have n2 : (ek : Int) < (ek : Int) + 1 := by omega
  have n3 : (ek : Int) + 1 - 1 = (ek : Int) := by omega
  go_wp2_with (fail)
  refine (cB _).mono ?_
  rintro e w2 ⟨rfl, hb2⟩
  have HB1 := (Below.refl w1.heap.size w1).alloc (Nat.le_refl _) (.cells #[.int .i64 eb, .int .i64 ek, .int .i64 eu, .int .i64 el, .int .i64 ec] 28)
  have c10 := ((Blk.new w1 #[.int .i64 eb, .int .i64 ek, .int .i64 eu, .int .i64 el, .int .i64 ec] 28).below' hb2).alloc (.cells #[.int .i64 pb, .int .i64 pk, .int .i64 pu, .int .i64 pl, .int .i64 pc] 28)
  have c11 := Blk.new w2 #[.int .i64 pb, .int .i64 pk, .int .i64 pu, .int .i64 pl, .int .i64 pc] 28
  replace c8 := ((c8.alloc (.cells #[.int .i64 eb, .int .i64 ek, .int .i64 eu, .int .i64 el, .int .i64 ec] 28)).below' hb2).alloc (.cells #[.int .i64 pb, .int .i64 pk, .int .i64 pu, .int .i64 pl, .int .i64 pc] 28)
  have HB2 := HB1.trans (hb2.mono HB1.size)
  have HB := HB2.alloc HB2.size (.cells #[.int .i64 pb, .int .i64 pk, .int .i64 pu, .int .i64 pl, .int .i64 pc] 28)
  have l10 : w1.heap.size < w2.heap.size := ((Blk.new w1 #[.int .i64 eb, .int .i64 ek, .int .i64 eu, .int .i64 el, .int .i64 ec] 28).below' hb2).lt
  obtain ⟨b10, hb10⟩ : ∃ b, w1.heap.size = b := ⟨_, rfl⟩
  obtain ⟨b11, hb11⟩ : ∃ b, w2.heap.size = b := ⟨_, rfl⟩
  rw [hb10] at c10 l10 l8
  rw [hb11] at c11 l10
  obtain ⟨X2, hX2⟩ : ∃ X, w2.alloc (.cells #[.int .i64 pb, .int .i64 pk, .int .i64 pu, .int .i64 pl, .int .i64 pc] 28) = X := ⟨_, rfl⟩
  rw [hX2] at c8 c10 c11 HB
  clear y0 y1 y2 y3 y4 HB1 HB2 hb2
  go_wp2_with (fail)
  try rw [hX2]
  clear hX2
  have t1 := c11.cell 1
  have t2 := c10.cell 1
  simp only [List.getElem?_toArray, List.getElem?_cons_succ, List.getElem?_cons_zero] at t1 t2
  refine wp_region_noPanic ?_
  refine wp_region_g (S := untilG [] (fun X => Below X2.heap.size X2 X)) (by kernel_rfl) ?_
  obtain ⟨X2d, hX2d⟩ : ∃ X, X2.drew = X := ⟨_, rfl⟩
  have T0 : Below X2.heap.size X2 X2d := hX2d ▸ (Below.refl X2.heap.size X2).drew
  rw [hX2d]
  clear hX2d
  refine wpAnyG_take [0, 1, 4] (i := 0) (v := (.pointer (some ⟨b11, 1, none⟩))) rfl (by kernel_rfl) (by kernel_rfl) (by kernel_rfl) (by kernel_rfl) (by kernel_rfl) (by kernel_rfl) (by kernel_rfl) (by kernel_rfl) (fun _ _ _ h => h) (Or.inl ⟨by rfl, ?hy⟩) T0 ?_
  case hy =>
    intro X hX
    go_simp
  try simp only [Act.put, List.getElem_toArray, List.getElem_cons_zero, List.getElem_cons_succ, List.setIfInBounds_toArray, List.set_cons_zero, List.set_cons_succ]
  refine wpAnyG_take [1, 4] (i := 1) (v := (.int .i64 pk)) rfl (by kernel_rfl) (by kernel_rfl) (by kernel_rfl) (by kernel_rfl) (by kernel_rfl) (by kernel_rfl) (by kernel_rfl) (by kernel_rfl) (fun _ _ _ h => h) (Or.inl ⟨by rfl, ?hy⟩) T0 ?_
  case hy =>
    intro X hX
    have e0 := at_below t1 hX
    go_simp
  try simp only [Act.put, List.getElem_toArray, List.getElem_cons_zero, List.getElem_cons_succ, List.setIfInBounds_toArray, List.set_cons_zero, List.set_cons_succ]
  refine wpAnyG_take [2, 3, 5] (i := 2) (v := (.pointer (some ⟨b10, 1, none⟩))) rfl (by kernel_rfl) (by kernel_rfl) (by kernel_rfl) (by kernel_rfl) (by kernel_rfl) (by kernel_rfl) (by kernel_rfl) (by kernel_rfl) (fun _ _ _ h => h) (Or.inl ⟨by rfl, ?hy⟩) T0 ?_
  case hy =>
    intro X hX
    go_simp
  try simp only [Act.put, List.getElem_toArray, List.getElem_cons_zero, List.getElem_cons_succ, List.setIfInBounds_toArray, List.set_cons_zero, List.set_cons_succ]
  refine wpAnyG_take [3, 5] (i := 3) (v := (.int .i64 ek)) rfl (by kernel_rfl) (by kernel_rfl) (by kernel_rfl) (by kernel_rfl) (by kernel_rfl) (by kernel_rfl) (by kernel_rfl) (by kernel_rfl) (fun _ _ _ h => h) (Or.inl ⟨by rfl, ?hy⟩) T0 ?_
  case hy =>
    intro X hX
    have e0 := at_below t2 hX
    go_simp
  try simp only [Act.put, List.getElem_toArray, List.getElem_cons_zero, List.getElem_cons_succ, List.setIfInBounds_toArray, List.set_cons_zero, List.set_cons_succ]
  refine wpAnyG_take [4] (i := 4) (v := (.int .i64 pk)) rfl (by kernel_rfl) (by kernel_rfl) (by kernel_rfl) (by kernel_rfl) (by kernel_rfl) (by kernel_rfl) (by kernel_rfl) (by kernel_rfl) (fun _ _ _ h => h) (Or.inl ⟨by rfl, ?hy⟩) T0 ?_
  case hy =>
    intro X hX
    go_simp
  try simp only [Act.put, List.getElem_toArray, List.getElem_cons_zero, List.getElem_cons_succ, List.setIfInBounds_toArray, List.set_cons_zero, List.set_cons_succ]
  refine wpAnyG_take [5] (i := 5) (v := (.int .i64 ek)) rfl (by kernel_rfl) (by kernel_rfl) (by kernel_rfl) (by kernel_rfl) (by kernel_rfl) (by kernel_rfl) (by kernel_rfl) (by kernel_rfl) (fun _ _ _ h => h) (Or.inl ⟨by rfl, ?hy⟩) T0 ?_
  case hy =>
    intro X hX
    go_simp
  try simp only [Act.put, List.getElem_toArray, List.getElem_cons_zero, List.getElem_cons_succ, List.setIfInBounds_toArray, List.set_cons_zero, List.set_cons_succ]
  refine wpAnyG_done (by kernel_rfl) ?_ _
  refine NoPanic.normal ?_
  replace c8 := c8.below' T0
  replace c10 := c10.below' T0
  replace c11 := c11.below' T0
  replace HB := HB.trans (T0.mono HB.size)
  clear T0 t1 t2
  go_wp2_with (fail)
  have t1 := c11.cell 3
  have t2 := c10.cell 3
  simp only [List.getElem?_toArray, List.getElem?_cons_succ, List.getElem?_cons_zero] at t1 t2
  refine wp_region_noPanic ?_
  refine wp_region_g (S := untilG [] (fun X => Below X2d.heap.size X2d X)) (by kernel_rfl) ?_
  obtain ⟨X2dd, hX2dd⟩ : ∃ X, X2d.drew = X := ⟨_, rfl⟩
  have T0 : Below X2d.heap.size X2d X2dd := hX2dd ▸ (Below.refl X2d.heap.size X2d).drew
  rw [hX2dd]
  clear hX2dd
  refine wpAnyG_take [0, 1, 4] (i := 0) (v := (.pointer (some ⟨b11, 3, none⟩))) rfl (by kernel_rfl) (by kernel_rfl) (by kernel_rfl) (by kernel_rfl) (by kernel_rfl) (by kernel_rfl) (by kernel_rfl) (by kernel_rfl) (fun _ _ _ h => h) (Or.inl ⟨by rfl, ?hy⟩) T0 ?_
  case hy =>
    intro X hX
    go_simp
  try simp only [Act.put, List.getElem_toArray, List.getElem_cons_zero, List.getElem_cons_succ, List.setIfInBounds_toArray, List.set_cons_zero, List.set_cons_succ]
  refine wpAnyG_take [1, 4] (i := 1) (v := (.int .i64 pl)) rfl (by kernel_rfl) (by kernel_rfl) (by kernel_rfl) (by kernel_rfl) (by kernel_rfl) (by kernel_rfl) (by kernel_rfl) (by kernel_rfl) (fun _ _ _ h => h) (Or.inl ⟨by rfl, ?hy⟩) T0 ?_
  case hy =>
    intro X hX
    have e0 := at_below t1 hX
    go_simp
  try simp only [Act.put, List.getElem_toArray, List.getElem_cons_zero, List.getElem_cons_succ, List.setIfInBounds_toArray, List.set_cons_zero, List.set_cons_succ]
  refine wpAnyG_take [2, 3, 5] (i := 2) (v := (.pointer (some ⟨b10, 3, none⟩))) rfl (by kernel_rfl) (by kernel_rfl) (by kernel_rfl) (by kernel_rfl) (by kernel_rfl) (by kernel_rfl) (by kernel_rfl) (by kernel_rfl) (fun _ _ _ h => h) (Or.inl ⟨by rfl, ?hy⟩) T0 ?_
  case hy =>
    intro X hX
    go_simp
  try simp only [Act.put, List.getElem_toArray, List.getElem_cons_zero, List.getElem_cons_succ, List.setIfInBounds_toArray, List.set_cons_zero, List.set_cons_succ]
  refine wpAnyG_take [3, 5] (i := 3) (v := (.int .i64 el)) rfl (by kernel_rfl) (by kernel_rfl) (by kernel_rfl) (by kernel_rfl) (by kernel_rfl) (by kernel_rfl) (by kernel_rfl) (by kernel_rfl) (fun _ _ _ h => h) (Or.inl ⟨by rfl, ?hy⟩) T0 ?_
  case hy =>
    intro X hX
    have e0 := at_below t2 hX
    go_simp
  try simp only [Act.put, List.getElem_toArray, List.getElem_cons_zero, List.getElem_cons_succ, List.setIfInBounds_toArray, List.set_cons_zero, List.set_cons_succ]
  refine wpAnyG_take [4] (i := 4) (v := (.int .i64 pl)) rfl (by kernel_rfl) (by kernel_rfl) (by kernel_rfl) (by kernel_rfl) (by kernel_rfl) (by kernel_rfl) (by kernel_rfl) (by kernel_rfl) (fun _ _ _ h => h) (Or.inl ⟨by rfl, ?hy⟩) T0 ?_
  case hy =>
    intro X hX
    go_simp
  try simp only [Act.put, List.getElem_toArray, List.getElem_cons_zero, List.getElem_cons_succ, List.setIfInBounds_toArray, List.set_cons_zero, List.set_cons_succ]
  refine wpAnyG_take [5] (i := 5) (v := (.int .i64 el)) rfl (by kernel_rfl) (by kernel_rfl) (by kernel_rfl) (by kernel_rfl) (by kernel_rfl) (by kernel_rfl) (by kernel_rfl) (by kernel_rfl) (fun _ _ _ h => h) (Or.inl ⟨by rfl, ?hy⟩) T0 ?_
  case hy =>
    intro X hX
    go_simp
  try simp only [Act.put, List.getElem_toArray, List.getElem_cons_zero, List.getElem_cons_succ, List.setIfInBounds_toArray, List.set_cons_zero, List.set_cons_succ]
  refine wpAnyG_done (by kernel_rfl) ?_ _
  refine NoPanic.normal ?_
  replace c8 := c8.below' T0
  replace c10 := c10.below' T0
  replace c11 := c11.below' T0
  replace HB := HB.trans (T0.mono HB.size)
  clear T0 t1 t2
  go_wp2_with (fail)
  refine (cS _).mono ?_
  rintro e w5 ⟨rfl, rfl⟩
  have hYe : Y = ek := by rw [← HN.out]; exact HY.out.symm
  have h9 := HR.out
  rw [hYe, ← HN.out, HE.out] at h9
  simp only [Pl.mk.injEq] at h9
  obtain ⟨rfl, rfl, rfl, rfl, rfl⟩ := h9
  have q1 := c10.cell
  have d9 : decide ((el : Int) < (el : Int) + 1) = true := decide_eq_true (by omega)
  have d8 : decide ((el : Int) + 1 < 0) = false := decide_eq_false (by omega)
  have k1 := c8.cell
  have k2 := c8.frozen
  have k3 := c8.lt
  have HB9 := HB0.trans (HB.mono HB0.size)
  go_wp2
  refine bodyPost_ret (v := .agg #[.int .i64 eb, .int .i64 ek, .int .i64 eu, .int .i64 el, .int .i64 ec]) (by simp [results, Try.f32, go_sem, k1, k3]) rfl ⟨rfl, ((((HB9.setCell (p := ⟨w.heap.size, 0, none⟩) (by dsimp only; omega) _).setCell (p := ⟨w.heap.size, 1, none⟩) (by dsimp only; omega) _).setCell (p := ⟨w.heap.size, 2, none⟩) (by dsimp only; omega) _).setCell (p := ⟨w.heap.size, 3, none⟩) (by dsimp only; omega) _).setCell (p := ⟨w.heap.size, 4, none⟩) (by dsimp only; omega) _⟩

set_option maxHeartbeats 8000000 in
theorem rMove_3mid (s : ByteArray) (hs : s.size ≤ 65536) (w : World) (at' x : Nat) (hat : at' ≤ s.size) (hx : x ≤ nP s) (h1 : (pK s x).b ≤ at') (h2 : x < nP s → at' < (pK s (x + 1)).b) (n : Int) (K : Nat) (hK : ((pK s x).l : Int) + n = K) (hKm : K ≤ (pK s (nP s)).l) (fr tt ee : Nat) (hr : (rws s)[K]? = some (fr, tt, ee)) (j g : Nat) (hj : j ≤ nP s) (hg : g ≤ nP s) (hjb : (pK s j).b = fr) (hgb : (pK s g).b = tt) (hjg : j ≤ g) :
    Calls Try.prog 32 #[.string s, .int .i64 at', .int .i64 3, .int .i64 n] w fun e w' => e = .returned (plV (pK s (min (j + (pK s x).c) g))) ∧ Below w.heap.size w w' := by
  have hnP := nP_le s
  have cB := fun W => rByte_ok s hs W at' hat x hx h1 h2
  have cS2 := fun W => rSpan_ok s hs W K fr tt ee hr
  have hft : fr ≤ s.size := by rw [← hjb]; exact pK_le s j hj
  have htt : tt ≤ s.size := by rw [← hgb]; exact pK_le s g hg
  have cJ := fun W => rByte_ok s hs W fr hft j hj (by omega) (fun _ => by rw [← hjb]; exact pK_b_succ s j)
  have cG := fun W => rByte_ok s hs W tt htt g hg (by omega) (fun _ => by rw [← hgb]; exact pK_b_succ s g)
  have hjk := pK_k s j
  have hgk := pK_k s g
  obtain ⟨J, hJ⟩ : ∃ J, pK s j = J := ⟨_, rfl⟩
  obtain ⟨G, hG⟩ : ∃ J, pK s g = J := ⟨_, rfl⟩
  rw [hJ] at cJ hjk
  rw [hG] at cG hgk
  clear hJ hG hjb hgb hr
  obtain ⟨jb, jk, ju, jl, jc⟩ := J
  obtain ⟨gb, gk, gu, gl, gc⟩ := G
  simp only [plV] at cJ cG hjk hgk
  have hxk := pK_k s x
  have hEk := pK_k s (nP s)
  have hul := pK_l_le s hx
  have hub := pK_u_bound s (nP s)
  have hlb := pK_l_bound s (nP s)
  have hcb := pK_c_bound s x
  obtain ⟨Y, hY⟩ : ∃ Y, (min (j + (pK s x).c) g) = Y := ⟨_, rfl⟩
  have hYn : Y ≤ nP s := by omega
  rw [hY]
  have HY := Lib.hid hY
  obtain ⟨R, hR⟩ : ∃ R, pK s Y = R := ⟨_, rfl⟩
  have HR := Lib.hid hR
  rw [hR]
  obtain ⟨E, hE⟩ : ∃ E, pK s (nP s) = E := ⟨_, rfl⟩
  have HE := Lib.hid hE
  obtain ⟨p, hp⟩ : ∃ p, pK s x = p := ⟨_, rfl⟩
  have HP := Lib.hid hp
  rw [hE] at hEk hul hub hlb hKm
  rw [hp] at cB hxk hul hcb hK
  clear hE hp hR hY h1 h2
  obtain ⟨rb, rk, ru, rl, rc⟩ := R
  obtain ⟨eb, ek, eu, el, ec⟩ := E
  obtain ⟨pb, pk, pu, pl, pc⟩ := p
  simp only at hxk hEk hul hub hlb hcb hK hKm
  simp only [plV] at cB  ⊢
  subst hxk
  subst hjk hgk
  have hale : pl ≤ el := by omega
  have cS := fun W => sum_any pl el n hale (by omega) W
  simp only [show ((if (el : Int) - (pl : Int) < n then (el : Int) + 1 else if n < -(pl : Int) then -1 else (pl : Int) + n) : Int) = (K : Int) by rw [if_neg (by omega), if_neg (by omega), hK]] at cS
  have b4 := Blk.new w #[.int .i64 0, .int .i64 0, .int .i64 0, .int .i64 0, .int .i64 0] 28
  have bB : Below w.heap.size w (w.alloc (.cells #[.int .i64 0, .int .i64 0, .int .i64 0, .int .i64 0, .int .i64 0] 28)) := (Below.refl _ w).alloc (Nat.le_refl _) _
  go_enter Try.func32, Try.ntmps32
  go_wp2_with (fail)
  refine (placesD_any s hs _).mono ?_
  rintro e w1 ⟨v, base, rfl, hbase, hv, hB1⟩
  obtain ⟨gv, cap, rfl⟩ := ownsRow_succ hv
  have c8 := b4.below' hB1
  have l8 : w.heap.size < w1.heap.size := c8.lt
  have HB0 := bB.trans (hB1.mono bB.size)
  have hrow := fun X hX k (hk : k ≤ nP s) => row_pl (X := X) hv hX hk
  have HROW := Lib.hid hrow
  obtain ⟨y0, y1, y2, y3, y4⟩ := hrow w1 (Below.refl _ _) (nP s) (Nat.le_refl _)
  rw [HE.out] at y0 y1 y2 y3 y4
  simp only at y0 y1 y2 y3 y4
  obtain ⟨n', hn'⟩ : ∃ z, nP s = z := ⟨_, rfl⟩
  have HN := Lib.hid hn'
  rw [hn'] at y0 y1 y2 y3 y4 hnP hYn hEk hub hlb ⊢
  clear hrow b4 bB hB1 hv hbase hn'
  subst hEk
  have n0 : IntKind.i64.wrap (ek : Int) = (ek : Int) := IntWalk.i64_in _ (by omega)
  have n1 : (0 : Int) ≤ (ek : Int) := by omega
  have n2 : (ek : Int) < (ek : Int) + 1 := by omega
  have n3 : (ek : Int) + 1 - 1 = (ek : Int) := by omega
  go_wp2_with (fail)
  refine (cB _).mono ?_
  rintro e w2 ⟨rfl, hb2⟩
  have HB1 := (Below.refl w1.heap.size w1).alloc (Nat.le_refl _) (.cells #[.int .i64 eb, .int .i64 ek, .int .i64 eu, .int .i64 el, .int .i64 ec] 28)
  have c10 := ((Blk.new w1 #[.int .i64 eb, .int .i64 ek, .int .i64 eu, .int .i64 el, .int .i64 ec] 28).below' hb2).alloc (.cells #[.int .i64 pb, .int .i64 pk, .int .i64 pu, .int .i64 pl, .int .i64 pc] 28)
  have c11 := Blk.new w2 #[.int .i64 pb, .int .i64 pk, .int .i64 pu, .int .i64 pl, .int .i64 pc] 28
  replace c8 := ((c8.alloc (.cells #[.int .i64 eb, .int .i64 ek, .int .i64 eu, .int .i64 el, .int .i64 ec] 28)).below' hb2).alloc (.cells #[.int .i64 pb, .int .i64 pk, .int .i64 pu, .int .i64 pl, .int .i64 pc] 28)
  have HB2 := HB1.trans (hb2.mono HB1.size)
  have HB := HB2.alloc HB2.size (.cells #[.int .i64 pb, .int .i64 pk, .int .i64 pu, .int .i64 pl, .int .i64 pc] 28)
  have l10 : w1.heap.size < w2.heap.size := ((Blk.new w1 #[.int .i64 eb, .int .i64 ek, .int .i64 eu, .int .i64 el, .int .i64 ec] 28).below' hb2).lt
  obtain ⟨b10, hb10⟩ : ∃ b, w1.heap.size = b := ⟨_, rfl⟩
  obtain ⟨b11, hb11⟩ : ∃ b, w2.heap.size = b := ⟨_, rfl⟩
  rw [hb10] at c10 l10 l8
  rw [hb11] at c11 l10
  obtain ⟨X2, hX2⟩ : ∃ X, w2.alloc (.cells #[.int .i64 pb, .int .i64 pk, .int .i64 pu, .int .i64 pl, .int .i64 pc] 28) = X := ⟨_, rfl⟩
  rw [hX2] at c8 c10 c11 HB
  clear y0 y1 y2 y3 y4 HB1 HB2 hb2
  go_wp2_with (fail)
  try rw [hX2]
  clear hX2
  have t1 := c11.cell 1
  have t2 := c10.cell 1
  simp only [List.getElem?_toArray, List.getElem?_cons_succ, List.getElem?_cons_zero] at t1 t2
  refine wp_region_noPanic ?_
  refine wp_region_g (S := untilG [] (fun X => Below X2.heap.size X2 X)) (by kernel_rfl) ?_
  obtain ⟨X2d, hX2d⟩ : ∃ X, X2.drew = X := ⟨_, rfl⟩
  have T0 : Below X2.heap.size X2 X2d := hX2d ▸ (Below.refl X2.heap.size X2).drew
  rw [hX2d]
  clear hX2d
  refine wpAnyG_take [0, 1, 4] (i := 0) (v := (.pointer (some ⟨b11, 1, none⟩))) rfl (by kernel_rfl) (by kernel_rfl) (by kernel_rfl) (by kernel_rfl) (by kernel_rfl) (by kernel_rfl) (by kernel_rfl) (by kernel_rfl) (fun _ _ _ h => h) (Or.inl ⟨by rfl, ?hy⟩) T0 ?_
  case hy =>
    intro X hX
    go_simp
  try simp only [Act.put, List.getElem_toArray, List.getElem_cons_zero, List.getElem_cons_succ, List.setIfInBounds_toArray, List.set_cons_zero, List.set_cons_succ]
  refine wpAnyG_take [1, 4] (i := 1) (v := (.int .i64 pk)) rfl (by kernel_rfl) (by kernel_rfl) (by kernel_rfl) (by kernel_rfl) (by kernel_rfl) (by kernel_rfl) (by kernel_rfl) (by kernel_rfl) (fun _ _ _ h => h) (Or.inl ⟨by rfl, ?hy⟩) T0 ?_
  case hy =>
    intro X hX
    have e0 := at_below t1 hX
    go_simp
  try simp only [Act.put, List.getElem_toArray, List.getElem_cons_zero, List.getElem_cons_succ, List.setIfInBounds_toArray, List.set_cons_zero, List.set_cons_succ]
  refine wpAnyG_take [2, 3, 5] (i := 2) (v := (.pointer (some ⟨b10, 1, none⟩))) rfl (by kernel_rfl) (by kernel_rfl) (by kernel_rfl) (by kernel_rfl) (by kernel_rfl) (by kernel_rfl) (by kernel_rfl) (by kernel_rfl) (fun _ _ _ h => h) (Or.inl ⟨by rfl, ?hy⟩) T0 ?_
  case hy =>
    intro X hX
    go_simp
  try simp only [Act.put, List.getElem_toArray, List.getElem_cons_zero, List.getElem_cons_succ, List.setIfInBounds_toArray, List.set_cons_zero, List.set_cons_succ]
  refine wpAnyG_take [3, 5] (i := 3) (v := (.int .i64 ek)) rfl (by kernel_rfl) (by kernel_rfl) (by kernel_rfl) (by kernel_rfl) (by kernel_rfl) (by kernel_rfl) (by kernel_rfl) (by kernel_rfl) (fun _ _ _ h => h) (Or.inl ⟨by rfl, ?hy⟩) T0 ?_
  case hy =>
    intro X hX
    have e0 := at_below t2 hX
    go_simp
  try simp only [Act.put, List.getElem_toArray, List.getElem_cons_zero, List.getElem_cons_succ, List.setIfInBounds_toArray, List.set_cons_zero, List.set_cons_succ]
  refine wpAnyG_take [4] (i := 4) (v := (.int .i64 pk)) rfl (by kernel_rfl) (by kernel_rfl) (by kernel_rfl) (by kernel_rfl) (by kernel_rfl) (by kernel_rfl) (by kernel_rfl) (by kernel_rfl) (fun _ _ _ h => h) (Or.inl ⟨by rfl, ?hy⟩) T0 ?_
  case hy =>
    intro X hX
    go_simp
  try simp only [Act.put, List.getElem_toArray, List.getElem_cons_zero, List.getElem_cons_succ, List.setIfInBounds_toArray, List.set_cons_zero, List.set_cons_succ]
  refine wpAnyG_take [5] (i := 5) (v := (.int .i64 ek)) rfl (by kernel_rfl) (by kernel_rfl) (by kernel_rfl) (by kernel_rfl) (by kernel_rfl) (by kernel_rfl) (by kernel_rfl) (by kernel_rfl) (fun _ _ _ h => h) (Or.inl ⟨by rfl, ?hy⟩) T0 ?_
  case hy =>
    intro X hX
    go_simp
  try simp only [Act.put, List.getElem_toArray, List.getElem_cons_zero, List.getElem_cons_succ, List.setIfInBounds_toArray, List.set_cons_zero, List.set_cons_succ]
  refine wpAnyG_done (by kernel_rfl) ?_ _
  refine NoPanic.normal ?_
  replace c8 := c8.below' T0
  replace c10 := c10.below' T0
  replace c11 := c11.below' T0
  replace HB := HB.trans (T0.mono HB.size)
  clear T0 t1 t2
  go_wp2_with (fail)
  have t1 := c11.cell 3
  have t2 := c10.cell 3
  simp only [List.getElem?_toArray, List.getElem?_cons_succ, List.getElem?_cons_zero] at t1 t2
  refine wp_region_noPanic ?_
  refine wp_region_g (S := untilG [] (fun X => Below X2d.heap.size X2d X)) (by kernel_rfl) ?_
  obtain ⟨X2dd, hX2dd⟩ : ∃ X, X2d.drew = X := ⟨_, rfl⟩
  have T0 : Below X2d.heap.size X2d X2dd := hX2dd ▸ (Below.refl X2d.heap.size X2d).drew
  rw [hX2dd]
  clear hX2dd
  refine wpAnyG_take [0, 1, 4] (i := 0) (v := (.pointer (some ⟨b11, 3, none⟩))) rfl (by kernel_rfl) (by kernel_rfl) (by kernel_rfl) (by kernel_rfl) (by kernel_rfl) (by kernel_rfl) (by kernel_rfl) (by kernel_rfl) (fun _ _ _ h => h) (Or.inl ⟨by rfl, ?hy⟩) T0 ?_
  case hy =>
    intro X hX
    go_simp
  try simp only [Act.put, List.getElem_toArray, List.getElem_cons_zero, List.getElem_cons_succ, List.setIfInBounds_toArray, List.set_cons_zero, List.set_cons_succ]
  refine wpAnyG_take [1, 4] (i := 1) (v := (.int .i64 pl)) rfl (by kernel_rfl) (by kernel_rfl) (by kernel_rfl) (by kernel_rfl) (by kernel_rfl) (by kernel_rfl) (by kernel_rfl) (by kernel_rfl) (fun _ _ _ h => h) (Or.inl ⟨by rfl, ?hy⟩) T0 ?_
  case hy =>
    intro X hX
    have e0 := at_below t1 hX
    go_simp
  try simp only [Act.put, List.getElem_toArray, List.getElem_cons_zero, List.getElem_cons_succ, List.setIfInBounds_toArray, List.set_cons_zero, List.set_cons_succ]
  refine wpAnyG_take [2, 3, 5] (i := 2) (v := (.pointer (some ⟨b10, 3, none⟩))) rfl (by kernel_rfl) (by kernel_rfl) (by kernel_rfl) (by kernel_rfl) (by kernel_rfl) (by kernel_rfl) (by kernel_rfl) (by kernel_rfl) (fun _ _ _ h => h) (Or.inl ⟨by rfl, ?hy⟩) T0 ?_
  case hy =>
    intro X hX
    go_simp
  try simp only [Act.put, List.getElem_toArray, List.getElem_cons_zero, List.getElem_cons_succ, List.setIfInBounds_toArray, List.set_cons_zero, List.set_cons_succ]
  refine wpAnyG_take [3, 5] (i := 3) (v := (.int .i64 el)) rfl (by kernel_rfl) (by kernel_rfl) (by kernel_rfl) (by kernel_rfl) (by kernel_rfl) (by kernel_rfl) (by kernel_rfl) (by kernel_rfl) (fun _ _ _ h => h) (Or.inl ⟨by rfl, ?hy⟩) T0 ?_
  case hy =>
    intro X hX
    have e0 := at_below t2 hX
    go_simp
  try simp only [Act.put, List.getElem_toArray, List.getElem_cons_zero, List.getElem_cons_succ, List.setIfInBounds_toArray, List.set_cons_zero, List.set_cons_succ]
  refine wpAnyG_take [4] (i := 4) (v := (.int .i64 pl)) rfl (by kernel_rfl) (by kernel_rfl) (by kernel_rfl) (by kernel_rfl) (by kernel_rfl) (by kernel_rfl) (by kernel_rfl) (by kernel_rfl) (fun _ _ _ h => h) (Or.inl ⟨by rfl, ?hy⟩) T0 ?_
  case hy =>
    intro X hX
    go_simp
  try simp only [Act.put, List.getElem_toArray, List.getElem_cons_zero, List.getElem_cons_succ, List.setIfInBounds_toArray, List.set_cons_zero, List.set_cons_succ]
  refine wpAnyG_take [5] (i := 5) (v := (.int .i64 el)) rfl (by kernel_rfl) (by kernel_rfl) (by kernel_rfl) (by kernel_rfl) (by kernel_rfl) (by kernel_rfl) (by kernel_rfl) (by kernel_rfl) (fun _ _ _ h => h) (Or.inl ⟨by rfl, ?hy⟩) T0 ?_
  case hy =>
    intro X hX
    go_simp
  try simp only [Act.put, List.getElem_toArray, List.getElem_cons_zero, List.getElem_cons_succ, List.setIfInBounds_toArray, List.set_cons_zero, List.set_cons_succ]
  refine wpAnyG_done (by kernel_rfl) ?_ _
  refine NoPanic.normal ?_
  replace c8 := c8.below' T0
  replace c10 := c10.below' T0
  replace c11 := c11.below' T0
  replace HB := HB.trans (T0.mono HB.size)
  clear T0 t1 t2
  go_wp2_with (fail)
  refine (cS _).mono ?_
  rintro e w5 ⟨rfl, rfl⟩
  have d8 : decide ((K : Int) < 0) = false := decide_eq_false (by omega)
  have d9 : decide ((el : Int) < (K : Int)) = false := decide_eq_false (by omega)
  have d9n : ¬ el < K := by omega
  go_wp2_with (fail)
  refine (cS2 _).mono ?_
  rintro e v20 ⟨rfl, hb⟩
  have HBx := HB.trans (hb.mono HB.size)
  replace c8 := (c8.below' hb).alloc (.cells #[.int .i64 fr, .int .i64 tt] 37)
  replace c11 := (c11.below' hb).alloc (.cells #[.int .i64 fr, .int .i64 tt] 37)
  have c20 := Blk.new v20 #[.int .i64 fr, .int .i64 tt] 37
  replace HB := HBx.alloc HBx.size (.cells #[.int .i64 fr, .int .i64 tt] 37)
  obtain ⟨Z20, hZ20⟩ : ∃ X, v20.alloc (.cells #[.int .i64 fr, .int .i64 tt] 37) = X := ⟨_, rfl⟩
  rw [hZ20] at c8 c11 HB c20 
  clear hb HBx
  have g20 := c20.cell
  go_wp2_with (fail)
  refine (cJ _).mono ?_
  rintro e v23 ⟨rfl, hb⟩
  have HBx := HB.trans (hb.mono HB.size)
  replace c8 := (c8.below' hb).alloc (.cells #[.int .i64 jb, .int .i64 jk, .int .i64 ju, .int .i64 jl, .int .i64 jc] 28)
  replace c11 := (c11.below' hb).alloc (.cells #[.int .i64 jb, .int .i64 jk, .int .i64 ju, .int .i64 jl, .int .i64 jc] 28)
  replace c20 := (c20.below' hb).alloc (.cells #[.int .i64 jb, .int .i64 jk, .int .i64 ju, .int .i64 jl, .int .i64 jc] 28)
  have c23 := Blk.new v23 #[.int .i64 jb, .int .i64 jk, .int .i64 ju, .int .i64 jl, .int .i64 jc] 28
  replace HB := HBx.alloc HBx.size (.cells #[.int .i64 jb, .int .i64 jk, .int .i64 ju, .int .i64 jl, .int .i64 jc] 28)
  obtain ⟨Z23, hZ23⟩ : ∃ X, v23.alloc (.cells #[.int .i64 jb, .int .i64 jk, .int .i64 ju, .int .i64 jl, .int .i64 jc] 28) = X := ⟨_, rfl⟩
  rw [hZ23] at c8 c11 HB c23 c20
  clear hb HBx
  have g20 := c20.cell
  have g23 := c23.cell
  go_wp2_with (fail)
  refine (cG _).mono ?_
  rintro e v26 ⟨rfl, hb⟩
  have HBx := HB.trans (hb.mono HB.size)
  replace c8 := (c8.below' hb).alloc (.cells #[.int .i64 gb, .int .i64 gk, .int .i64 gu, .int .i64 gl, .int .i64 gc] 28)
  replace c11 := (c11.below' hb).alloc (.cells #[.int .i64 gb, .int .i64 gk, .int .i64 gu, .int .i64 gl, .int .i64 gc] 28)
  replace c20 := (c20.below' hb).alloc (.cells #[.int .i64 gb, .int .i64 gk, .int .i64 gu, .int .i64 gl, .int .i64 gc] 28)
  replace c23 := (c23.below' hb).alloc (.cells #[.int .i64 gb, .int .i64 gk, .int .i64 gu, .int .i64 gl, .int .i64 gc] 28)
  have c26 := Blk.new v26 #[.int .i64 gb, .int .i64 gk, .int .i64 gu, .int .i64 gl, .int .i64 gc] 28
  replace HB := HBx.alloc HBx.size (.cells #[.int .i64 gb, .int .i64 gk, .int .i64 gu, .int .i64 gl, .int .i64 gc] 28)
  obtain ⟨Z26, hZ26⟩ : ∃ X, v26.alloc (.cells #[.int .i64 gb, .int .i64 gk, .int .i64 gu, .int .i64 gl, .int .i64 gc] 28) = X := ⟨_, rfl⟩
  rw [hZ26] at c8 c11 HB c26 c20 c23
  clear hb HBx
  have g20 := c20.cell
  have g23 := c23.cell
  have g26 := c26.cell
  have g11 := c11.cell
  obtain ⟨z0, z1, z2, z3, z4⟩ := HROW.out Z26 HB Y (by rw [HN.out]; exact hYn)
  rw [HR.out] at z0 z1 z2 z3 z4
  simp only at z0 z1 z2 z3 z4
  have hYv := HY.out
  have hN9 : nP s = ek := HN.out
  have s1 : IntKind.i64.wrap ((gk : Int) - (jk : Int)) = (gk : Int) - (jk : Int) := IntWalk.i64_in _ (by omega)
  have HPC := HP.out
  have hYv2 : min (jk + pc) gk = Y := by rw [HPC] at hYv; exact hYv
  have s2 : (0 : Int) ≤ (Y : Int) := by omega
  have s3 : (Y : Int) < (ek : Int) + 1 := by omega
  have s4 : IntKind.i64.wrap (Y : Int) = (Y : Int) := IntWalk.i64_in _ (by omega)
  clear hN9
  have k1 := c8.cell
  have k2 := c8.frozen
  have k3 := c8.lt
  have HB9 := HB0.trans (HB.mono HB0.size)
  by_cases hc : (gk : Int) - (jk : Int) < (pc : Int)
  · have d1 : decide ((gk : Int) - (jk : Int) < (pc : Int)) = true := decide_eq_true hc
    have d2 : (jk : Int) + ((gk : Int) - (jk : Int)) = (Y : Int) := by omega
    have HCC := Lib.hid (And.intro hYv (And.intro HPC hYv2))
    clear hYv HPC hYv2
    go_wp2
    refine bodyPost_ret (v := .agg #[.int .i64 rb, .int .i64 rk, .int .i64 ru, .int .i64 rl, .int .i64 rc]) (by simp [results, Try.f32, go_sem, k1, k3]) rfl ⟨rfl, ((((HB9.setCell (p := ⟨w.heap.size, 0, none⟩) (by dsimp only; omega) _).setCell (p := ⟨w.heap.size, 1, none⟩) (by dsimp only; omega) _).setCell (p := ⟨w.heap.size, 2, none⟩) (by dsimp only; omega) _).setCell (p := ⟨w.heap.size, 3, none⟩) (by dsimp only; omega) _).setCell (p := ⟨w.heap.size, 4, none⟩) (by dsimp only; omega) _⟩
  · have d1 : decide ((gk : Int) - (jk : Int) < (pc : Int)) = false := decide_eq_false hc
    have d2 : (jk : Int) + (pc : Int) = (Y : Int) := by omega
    have HCC := Lib.hid (And.intro hYv (And.intro HPC hYv2))
    clear hYv HPC hYv2
    go_wp2
    refine bodyPost_ret (v := .agg #[.int .i64 rb, .int .i64 rk, .int .i64 ru, .int .i64 rl, .int .i64 rc]) (by simp [results, Try.f32, go_sem, k1, k3]) rfl ⟨rfl, ((((HB9.setCell (p := ⟨w.heap.size, 0, none⟩) (by dsimp only; omega) _).setCell (p := ⟨w.heap.size, 1, none⟩) (by dsimp only; omega) _).setCell (p := ⟨w.heap.size, 2, none⟩) (by dsimp only; omega) _).setCell (p := ⟨w.heap.size, 3, none⟩) (by dsimp only; omega) _).setCell (p := ⟨w.heap.size, 4, none⟩) (by dsimp only; omega) _⟩

end Go.Proofs.Ytjlfdoonhfkabaa
