/- Places: Move, by units; what can not be moved. -/
import Derived.Test.YtjlfdoonhfkabaaMv2
import Derived.Test.YtjlfdoonhfkabaaEr
namespace Go.Proofs.Ytjlfdoonhfkabaa
set_option linter.unusedVariables false
set_option linter.unusedSimpArgs false
open Go Go.RowKit Go.Shelf
set_option maxRecDepth 100000

set_option maxHeartbeats 8000000 in
theorem move_unit (s : ByteArray) (hs : s.size ≤ 65536) (m : Nat) (w : World) (hM : MapAt s m w) (at' x : Nat) (hat : at' ≤ s.size) (hx : x ≤ nP s) (h1 : (pK s x).b ≤ at') (h2 : x < nP s → at' < (pK s (x + 1)).b) (n : Int) (y : Nat) (hy : y ≤ nP s) (hy1 : (pK s y).u ≤ clampI (pK s x).u n (pK s (nP s)).u) (hy2 : y < nP s → clampI (pK s x).u n (pK s (nP s)).u < (pK s (y + 1)).u) :
    Calls Try.prog 15 #[.pointer (some ⟨m, 0, none⟩), .int .i64 at', .int .i64 2, .int .i64 n] w fun e w' => e = .returned (.tuple #[plV (pK s y), .int .i64 0]) ∧ Below w.heap.size w w' := by
  have hnP := nP_le s
  have cB := fun W hM => byte_any s hs m W hM at' hat x hx h1 h2
  have hxk := pK_k s x
  have hxu := pK_u_bound s x
  have hxu2 := pK_u_le s hx
  have hEu := pK_u_bound s (nP s)
  have hEk := pK_k s (nP s)
  have cE := fun W hM => end_any s hs m W hM
  obtain ⟨E, hE⟩ : ∃ E, pK s (nP s) = E := ⟨_, rfl⟩
  rw [hE] at cE hEk hEu hxu2 hy1 hy2
  clear hE
  obtain ⟨p, hp⟩ : ∃ p, pK s x = p := ⟨_, rfl⟩
  rw [hp] at cB hxk hxu hxu2 hy1 hy2
  clear hp h2 h1
  obtain ⟨pb, pk, pu, pl, pc⟩ := p
  obtain ⟨eb, ek, eu, el, ec⟩ := E
  simp only [plV] at cB cE hxk hxu hEk hEu hxu2 hy1 hy2
  subst hxk
  have cW := fun W => within_any pu eu n (by omega) (by omega) W
  obtain ⟨U, hU⟩ : ∃ J, clampI pu n eu = J := ⟨_, rfl⟩
  have hUe : U ≤ eu := by rw [← hU]; exact clampI_le
  rw [hU] at cW hy1 hy2
  have cL := fun (W0 : World) (hM0 : MapAt s m W0) (b : Nat) (hb : W0.cell? ⟨b, 0, none⟩ = some (.int .i64 U)) => last_unit hs hM0 (asks_move s b U W0 hb) hy hy1 hy2
  obtain ⟨r, hr⟩ : ∃ f, pK s y = f := ⟨_, rfl⟩
  rw [hr] at cL ⊢
  obtain ⟨rb, rk, ru, rl, rc⟩ := r
  simp only [plV] at cL ⊢
  clear hr hU hEk hy1 hy2 hxu2
  have b0 := Blk.new w #[.int .i64 0, .int .i64 0, .int .i64 0, .int .i64 0, .int .i64 0] 28
  have bB : Below w.heap.size w (w.alloc (.cells #[.int .i64 0, .int .i64 0, .int .i64 0, .int .i64 0, .int .i64 0] 28)) := (Below.refl _ w).alloc (Nat.le_refl _) _
  go_enter Try.func15, Try.ntmps15
  go_wp2_with (fail)
  refine (cB _ (mapAt_below hM bB)).mono ?_
  rintro e w1 ⟨rfl, hb1⟩
  have hB1 := bB.trans (hb1.mono bB.size)
  have c0 := (b0.below' hb1).alloc (.cells #[.int .i64 pb, .int .i64 pk, .int .i64 pu, .int .i64 pl, .int .i64 pc] 28)
  have c1 := Blk.new w1 #[.int .i64 pb, .int .i64 pk, .int .i64 pu, .int .i64 pl, .int .i64 pc] 28
  have cBB := hB1.alloc hB1.size (.cells #[.int .i64 pb, .int .i64 pk, .int .i64 pu, .int .i64 pl, .int .i64 pc] 28)
  have l1 : w.heap.size < w1.heap.size := (b0.below' hb1).lt
  obtain ⟨b10, hb10⟩ : ∃ b, w1.heap.size = b := ⟨_, rfl⟩
  rw [hb10] at c1 l1
  obtain ⟨X1, hX1⟩ : ∃ X, w1.alloc (.cells #[.int .i64 pb, .int .i64 pk, .int .i64 pu, .int .i64 pl, .int .i64 pc] 28) = X := ⟨_, rfl⟩
  rw [hX1] at c0 c1 cBB
  clear b0 bB hb1 hB1 cB
  go_wp2_with (fail)
  try rw [hX1]
  clear hX1 hb10
  refine wp_cutV (α := Nat) (fun v X => Blk X v #[.int .i64 U] 3 ∧ Below w.heap.size w X ∧ Blk X b10 #[.int .i64 pb, .int .i64 pk, .int .i64 pu, .int .i64 pl, .int .i64 pc] 28 ∧ Blk X w.heap.size #[.int .i64 0, .int .i64 0, .int .i64 0, .int .i64 0, .int .i64 0] 28) (fun v => [(57, (.pointer (some ⟨b10, 2, none⟩))), (58, (.int .i64 pu)), (59, (.int .i64 n)), (60, (.pointer (some ⟨m, 0, none⟩))), (61, (.agg #[.int .i64 eb, .int .i64 ek, .int .i64 eu, .int .i64 el, .int .i64 ec])), (62, (.int .i64 eu)), (63, (.int .i64 U)), (13, (.pointer (some ⟨v, 0, none⟩)))]) ?_ ?_
  · refine wp_region_noPanic ?_
    refine wp_region_g (S := untilG [] (fun X => Below w.heap.size w X ∧ Blk X b10 #[.int .i64 pb, .int .i64 pk, .int .i64 pu, .int .i64 pl, .int .i64 pc] 28 ∧ Blk X w.heap.size #[.int .i64 0, .int .i64 0, .int .i64 0, .int .i64 0, .int .i64 0] 28)) (by kernel_rfl) ?_
    have T0 : Below w.heap.size w X1.drew ∧ Blk X1.drew b10 #[.int .i64 pb, .int .i64 pk, .int .i64 pu, .int .i64 pl, .int .i64 pc] 28 ∧ Blk X1.drew w.heap.size #[.int .i64 0, .int .i64 0, .int .i64 0, .int .i64 0, .int .i64 0] 28 := ⟨cBB.drew, c1.drew, c0.drew⟩
    obtain ⟨X2, hX2⟩ : ∃ X, X1.drew = X := ⟨_, rfl⟩
    rw [hX2] at T0 ⊢
    clear hX2 c0 c1 cBB
    refine wpAnyG_take [0, 1, 6, 8] (i := 0) (v := (.pointer (some ⟨b10, 2, none⟩))) rfl (by kernel_rfl) (by kernel_rfl) (by kernel_rfl) (by kernel_rfl) (by kernel_rfl) (by kernel_rfl) (by kernel_rfl) (by kernel_rfl) (fun _ _ _ h => h) (Or.inl ⟨by rfl, ?hy⟩) T0 ?_
    case hy =>
      intro X hX
      go_simp
    try simp only [Act.put, List.getElem_toArray, List.getElem_cons_zero, List.getElem_cons_succ, List.setIfInBounds_toArray, List.set_cons_zero, List.set_cons_succ]
    refine wpAnyG_take [1, 6, 8] (i := 1) (v := (.int .i64 pu)) rfl (by kernel_rfl) (by kernel_rfl) (by kernel_rfl) (by kernel_rfl) (by kernel_rfl) (by kernel_rfl) (by kernel_rfl) (by kernel_rfl) (fun _ _ _ h => h) (Or.inl ⟨by rfl, ?hy⟩) T0 ?_
    case hy =>
      intro X hX
      have e0 := hX.2.1.cell 2
      simp only [List.getElem?_toArray, List.getElem?_cons_succ, List.getElem?_cons_zero] at e0
      go_simp
    try simp only [Act.put, List.getElem_toArray, List.getElem_cons_zero, List.getElem_cons_succ, List.setIfInBounds_toArray, List.set_cons_zero, List.set_cons_succ]
    refine wpAnyG_take [2, 6, 8] (i := 2) (v := (.int .i64 n)) rfl (by kernel_rfl) (by kernel_rfl) (by kernel_rfl) (by kernel_rfl) (by kernel_rfl) (by kernel_rfl) (by kernel_rfl) (by kernel_rfl) (fun _ _ _ h => h) (Or.inl ⟨by rfl, ?hy⟩) T0 ?_
    case hy =>
      intro X hX
      go_simp
    try simp only [Act.put, List.getElem_toArray, List.getElem_cons_zero, List.getElem_cons_succ, List.setIfInBounds_toArray, List.set_cons_zero, List.set_cons_succ]
    refine wpAnyG_take [3, 4, 5, 6, 8] (i := 3) (v := (.pointer (some ⟨m, 0, none⟩))) rfl (by kernel_rfl) (by kernel_rfl) (by kernel_rfl) (by kernel_rfl) (by kernel_rfl) (by kernel_rfl) (by kernel_rfl) (by kernel_rfl) (fun _ _ _ h => h) (Or.inl ⟨by rfl, ?hy⟩) T0 ?_
    case hy =>
      intro X hX
      go_simp
    try simp only [Act.put, List.getElem_toArray, List.getElem_cons_zero, List.getElem_cons_succ, List.setIfInBounds_toArray, List.set_cons_zero, List.set_cons_succ]
    refine wpAnyG_all (rs := [4, 7]) (by kernel_rfl) (by simp) ?_
    intro i hi
    simp only [List.mem_cons, List.not_mem_nil, or_false] at hi
    rcases hi with rfl | rfl
    · refine wpOp_open rfl (by rfl) ?_
      go_simp
      refine (cE X2 (mapAt_below hM T0.1)).mono ?_
      rintro e V3 ⟨rfl, hb3⟩
      replace T0 : Below w.heap.size w V3 ∧ Blk V3 b10 #[.int .i64 pb, .int .i64 pk, .int .i64 pu, .int .i64 pl, .int .i64 pc] 28 ∧ Blk V3 w.heap.size #[.int .i64 0, .int .i64 0, .int .i64 0, .int .i64 0, .int .i64 0] 28 := ⟨T0.1.trans (hb3.mono T0.1.size), T0.2.1.below' hb3, T0.2.2.below' hb3⟩
      refine ⟨fun _ => T0, ?_⟩
      try simp only [Act.put, List.getElem_toArray, List.getElem_cons_zero, List.getElem_cons_succ, List.setIfInBounds_toArray, List.set_cons_zero, List.set_cons_succ]
      refine wpAnyG_take [5, 6, 8] (i := 5) (v := (.int .i64 eu)) rfl (by kernel_rfl) (by kernel_rfl) (by kernel_rfl) (by kernel_rfl) (by kernel_rfl) (by kernel_rfl) (by kernel_rfl) (by kernel_rfl) (fun _ _ _ h => h) (Or.inl ⟨by rfl, ?hy⟩) T0 ?_
      case hy =>
        intro X hX
        have e9 := fun (X : World) => field_u (.int .i64 eb) (.int .i64 ek) (.int .i64 eu) (.int .i64 el) (.int .i64 ec) X rfl
        go_simp
      try simp only [Act.put, List.getElem_toArray, List.getElem_cons_zero, List.getElem_cons_succ, List.setIfInBounds_toArray, List.set_cons_zero, List.set_cons_succ]
      refine wpAnyG_all (rs := [6, 7]) (by kernel_rfl) (by simp) ?_
      intro i hi
      simp only [List.mem_cons, List.not_mem_nil, or_false] at hi
      rcases hi with rfl | rfl
      · refine wpOp_open rfl (by rfl) ?_
        go_simp
        refine (cW _).mono ?_
        rintro e V ⟨rfl, rfl⟩
        refine ⟨fun _ => T0, ?_⟩
        try simp only [Act.put, List.getElem_toArray, List.getElem_cons_zero, List.getElem_cons_succ, List.setIfInBounds_toArray, List.set_cons_zero, List.set_cons_succ]
        refine wpAnyG_all (rs := [7]) (by kernel_rfl) (by simp) ?_
        intro i hi
        simp only [List.mem_cons, List.not_mem_nil, or_false] at hi
        subst hi
        refine wpOp_now rfl rfl ?_
        go_simp
        have d13 := Blk.new V3 #[.int .i64 0] 3
        obtain ⟨b13, hb13⟩ : ∃ b, V3.heap.size = b := ⟨_, rfl⟩
        have l13 := T0.2.1.lt
        have l14 := T0.2.2.lt
        rw [hb13] at d13 l13 l14
        replace T0 : Below w.heap.size w (V3.alloc (.cells #[.int .i64 0] 3)) ∧ Blk (V3.alloc (.cells #[.int .i64 0] 3)) b10 #[.int .i64 pb, .int .i64 pk, .int .i64 pu, .int .i64 pl, .int .i64 pc] 28 ∧ Blk (V3.alloc (.cells #[.int .i64 0] 3)) w.heap.size #[.int .i64 0, .int .i64 0, .int .i64 0, .int .i64 0, .int .i64 0] 28 := ⟨T0.1.alloc T0.1.size _, T0.2.1.alloc _, T0.2.2.alloc _⟩
        obtain ⟨V5, hV5⟩ : ∃ X, V3.alloc (.cells #[.int .i64 0] 3) = X := ⟨_, rfl⟩
        rw [hV5] at T0 d13
        try rw [hV5, hb13]
        refine ⟨fun _ => T0, ?_⟩
        try simp only [Act.put, List.getElem_toArray, List.getElem_cons_zero, List.getElem_cons_succ, List.setIfInBounds_toArray, List.set_cons_zero, List.set_cons_succ]
        have u1 := d13.cell
        have u2 := d13.frozen
        have u3 := d13.lt
        refine wpAnyG_all (rs := [8]) (by kernel_rfl) (by simp) ?_
        intro i hi
        simp only [List.mem_cons, List.not_mem_nil, or_false] at hi
        subst hi
        refine wpOp_now rfl rfl ?_
        go_simp
        have l1 := T0.1.size
        replace T0 : Below w.heap.size w (V5.setCell ⟨b13, 0, none⟩ (.int .i64 U)) ∧ Blk (V5.setCell ⟨b13, 0, none⟩ (.int .i64 U)) b10 #[.int .i64 pb, .int .i64 pk, .int .i64 pu, .int .i64 pl, .int .i64 pc] 28 ∧ Blk (V5.setCell ⟨b13, 0, none⟩ (.int .i64 U)) w.heap.size #[.int .i64 0, .int .i64 0, .int .i64 0, .int .i64 0, .int .i64 0] 28 := ⟨T0.1.setCell (p := ⟨b13, 0, none⟩) (by dsimp only; omega) _, T0.2.1.other (B' := b13) (by omega) 0 _, T0.2.2.other (B' := b13) (by omega) 0 _⟩
        replace d13 := d13.set 0 (.int .i64 U)
        simp only [List.setIfInBounds_toArray, List.set_cons_zero, List.set_cons_succ] at d13
        refine ⟨fun _ => T0, ?_⟩
        try simp only [Act.put, List.getElem_toArray, List.getElem_cons_zero, List.getElem_cons_succ, List.setIfInBounds_toArray, List.set_cons_zero, List.set_cons_succ]
        refine wpAnyG_done (by kernel_rfl) ?_ _
        refine NoPanic.normal ?_
        exact ⟨rfl, b13, by kernel_rfl, d13, T0⟩
      · refine wpOp_now rfl rfl ?_
        go_simp
        have d13 := Blk.new V3 #[.int .i64 0] 3
        obtain ⟨b13, hb13⟩ : ∃ b, V3.heap.size = b := ⟨_, rfl⟩
        have l13 := T0.2.1.lt
        have l14 := T0.2.2.lt
        rw [hb13] at d13 l13 l14
        replace T0 : Below w.heap.size w (V3.alloc (.cells #[.int .i64 0] 3)) ∧ Blk (V3.alloc (.cells #[.int .i64 0] 3)) b10 #[.int .i64 pb, .int .i64 pk, .int .i64 pu, .int .i64 pl, .int .i64 pc] 28 ∧ Blk (V3.alloc (.cells #[.int .i64 0] 3)) w.heap.size #[.int .i64 0, .int .i64 0, .int .i64 0, .int .i64 0, .int .i64 0] 28 := ⟨T0.1.alloc T0.1.size _, T0.2.1.alloc _, T0.2.2.alloc _⟩
        obtain ⟨V4, hV4⟩ : ∃ X, V3.alloc (.cells #[.int .i64 0] 3) = X := ⟨_, rfl⟩
        rw [hV4] at T0 d13
        try rw [hV4, hb13]
        refine ⟨fun _ => T0, ?_⟩
        try simp only [Act.put, List.getElem_toArray, List.getElem_cons_zero, List.getElem_cons_succ, List.setIfInBounds_toArray, List.set_cons_zero, List.set_cons_succ]
        refine wpAnyG_all (rs := [6]) (by kernel_rfl) (by simp) ?_
        intro i hi
        simp only [List.mem_cons, List.not_mem_nil, or_false] at hi
        subst hi
        refine wpOp_open rfl (by rfl) ?_
        go_simp
        refine (cW _).mono ?_
        rintro e V ⟨rfl, rfl⟩
        refine ⟨fun _ => T0, ?_⟩
        try simp only [Act.put, List.getElem_toArray, List.getElem_cons_zero, List.getElem_cons_succ, List.setIfInBounds_toArray, List.set_cons_zero, List.set_cons_succ]
        have u1 := d13.cell
        have u2 := d13.frozen
        have u3 := d13.lt
        refine wpAnyG_all (rs := [8]) (by kernel_rfl) (by simp) ?_
        intro i hi
        simp only [List.mem_cons, List.not_mem_nil, or_false] at hi
        subst hi
        refine wpOp_now rfl rfl ?_
        go_simp
        have l1 := T0.1.size
        replace T0 : Below w.heap.size w (V4.setCell ⟨b13, 0, none⟩ (.int .i64 U)) ∧ Blk (V4.setCell ⟨b13, 0, none⟩ (.int .i64 U)) b10 #[.int .i64 pb, .int .i64 pk, .int .i64 pu, .int .i64 pl, .int .i64 pc] 28 ∧ Blk (V4.setCell ⟨b13, 0, none⟩ (.int .i64 U)) w.heap.size #[.int .i64 0, .int .i64 0, .int .i64 0, .int .i64 0, .int .i64 0] 28 := ⟨T0.1.setCell (p := ⟨b13, 0, none⟩) (by dsimp only; omega) _, T0.2.1.other (B' := b13) (by omega) 0 _, T0.2.2.other (B' := b13) (by omega) 0 _⟩
        replace d13 := d13.set 0 (.int .i64 U)
        simp only [List.setIfInBounds_toArray, List.set_cons_zero, List.set_cons_succ] at d13
        refine ⟨fun _ => T0, ?_⟩
        try simp only [Act.put, List.getElem_toArray, List.getElem_cons_zero, List.getElem_cons_succ, List.setIfInBounds_toArray, List.set_cons_zero, List.set_cons_succ]
        refine wpAnyG_done (by kernel_rfl) ?_ _
        refine NoPanic.normal ?_
        exact ⟨rfl, b13, by kernel_rfl, d13, T0⟩
    · refine wpOp_now rfl rfl ?_
      go_simp
      have d13 := Blk.new X2 #[.int .i64 0] 3
      obtain ⟨b13, hb13⟩ : ∃ b, X2.heap.size = b := ⟨_, rfl⟩
      have l13 := T0.2.1.lt
      have l14 := T0.2.2.lt
      rw [hb13] at d13 l13 l14
      replace T0 : Below w.heap.size w (X2.alloc (.cells #[.int .i64 0] 3)) ∧ Blk (X2.alloc (.cells #[.int .i64 0] 3)) b10 #[.int .i64 pb, .int .i64 pk, .int .i64 pu, .int .i64 pl, .int .i64 pc] 28 ∧ Blk (X2.alloc (.cells #[.int .i64 0] 3)) w.heap.size #[.int .i64 0, .int .i64 0, .int .i64 0, .int .i64 0, .int .i64 0] 28 := ⟨T0.1.alloc T0.1.size _, T0.2.1.alloc _, T0.2.2.alloc _⟩
      obtain ⟨V3, hV3⟩ : ∃ X, X2.alloc (.cells #[.int .i64 0] 3) = X := ⟨_, rfl⟩
      rw [hV3] at T0 d13
      try rw [hV3, hb13]
      refine ⟨fun _ => T0, ?_⟩
      try simp only [Act.put, List.getElem_toArray, List.getElem_cons_zero, List.getElem_cons_succ, List.setIfInBounds_toArray, List.set_cons_zero, List.set_cons_succ]
      refine wpAnyG_all (rs := [4]) (by kernel_rfl) (by simp) ?_
      intro i hi
      simp only [List.mem_cons, List.not_mem_nil, or_false] at hi
      subst hi
      refine wpOp_open rfl (by rfl) ?_
      go_simp
      refine (cE V3 (mapAt_below hM T0.1)).mono ?_
      rintro e V4 ⟨rfl, hb4⟩
      replace T0 : Below w.heap.size w V4 ∧ Blk V4 b10 #[.int .i64 pb, .int .i64 pk, .int .i64 pu, .int .i64 pl, .int .i64 pc] 28 ∧ Blk V4 w.heap.size #[.int .i64 0, .int .i64 0, .int .i64 0, .int .i64 0, .int .i64 0] 28 := ⟨T0.1.trans (hb4.mono T0.1.size), T0.2.1.below' hb4, T0.2.2.below' hb4⟩
      replace d13 := d13.below' hb4
      refine ⟨fun _ => T0, ?_⟩
      try simp only [Act.put, List.getElem_toArray, List.getElem_cons_zero, List.getElem_cons_succ, List.setIfInBounds_toArray, List.set_cons_zero, List.set_cons_succ]
      refine wpAnyG_take [5, 6, 8] (i := 5) (v := (.int .i64 eu)) rfl (by kernel_rfl) (by kernel_rfl) (by kernel_rfl) (by kernel_rfl) (by kernel_rfl) (by kernel_rfl) (by kernel_rfl) (by kernel_rfl) (fun _ _ _ h => h) (Or.inl ⟨by rfl, ?hy⟩) T0 ?_
      case hy =>
        intro X hX
        have e9 := fun (X : World) => field_u (.int .i64 eb) (.int .i64 ek) (.int .i64 eu) (.int .i64 el) (.int .i64 ec) X rfl
        go_simp
      try simp only [Act.put, List.getElem_toArray, List.getElem_cons_zero, List.getElem_cons_succ, List.setIfInBounds_toArray, List.set_cons_zero, List.set_cons_succ]
      refine wpAnyG_all (rs := [6]) (by kernel_rfl) (by simp) ?_
      intro i hi
      simp only [List.mem_cons, List.not_mem_nil, or_false] at hi
      subst hi
      refine wpOp_open rfl (by rfl) ?_
      go_simp
      refine (cW _).mono ?_
      rintro e V ⟨rfl, rfl⟩
      refine ⟨fun _ => T0, ?_⟩
      try simp only [Act.put, List.getElem_toArray, List.getElem_cons_zero, List.getElem_cons_succ, List.setIfInBounds_toArray, List.set_cons_zero, List.set_cons_succ]
      have u1 := d13.cell
      have u2 := d13.frozen
      have u3 := d13.lt
      refine wpAnyG_all (rs := [8]) (by kernel_rfl) (by simp) ?_
      intro i hi
      simp only [List.mem_cons, List.not_mem_nil, or_false] at hi
      subst hi
      refine wpOp_now rfl rfl ?_
      go_simp
      have l1 := T0.1.size
      replace T0 : Below w.heap.size w (V4.setCell ⟨b13, 0, none⟩ (.int .i64 U)) ∧ Blk (V4.setCell ⟨b13, 0, none⟩ (.int .i64 U)) b10 #[.int .i64 pb, .int .i64 pk, .int .i64 pu, .int .i64 pl, .int .i64 pc] 28 ∧ Blk (V4.setCell ⟨b13, 0, none⟩ (.int .i64 U)) w.heap.size #[.int .i64 0, .int .i64 0, .int .i64 0, .int .i64 0, .int .i64 0] 28 := ⟨T0.1.setCell (p := ⟨b13, 0, none⟩) (by dsimp only; omega) _, T0.2.1.other (B' := b13) (by omega) 0 _, T0.2.2.other (B' := b13) (by omega) 0 _⟩
      replace d13 := d13.set 0 (.int .i64 U)
      simp only [List.setIfInBounds_toArray, List.set_cons_zero, List.set_cons_succ] at d13
      refine ⟨fun _ => T0, ?_⟩
      try simp only [Act.put, List.getElem_toArray, List.getElem_cons_zero, List.getElem_cons_succ, List.setIfInBounds_toArray, List.set_cons_zero, List.set_cons_succ]
      refine wpAnyG_done (by kernel_rfl) ?_ _
      refine NoPanic.normal ?_
      exact ⟨rfl, b13, by kernel_rfl, d13, T0⟩
  · rintro b13 Y ⟨y13, yB, y10, y8⟩
    simp only [putsG, List.foldl_cons, List.foldl_nil, List.setIfInBounds_toArray, List.set_cons_zero, List.set_cons_succ]
    have y8c := y13.cell 0
    simp only [List.getElem?_toArray, List.getElem?_cons_zero] at y8c
    have hMY := mapAt_below hM yB
    go_wp2_with (fail)
    refine (cL Y hMY b13 y8c).mono ?_
    rintro e w2 ⟨rfl, hb2⟩
    have k0 := y8.below' hb2
    have hB2 := yB.trans (hb2.mono yB.size)
    have f1 := k0.cell
    have f2 := k0.frozen
    have f3 := k0.lt
    go_wp2
    refine bodyPost_ret (v := .tuple #[.agg #[.int .i64 rb, .int .i64 rk, .int .i64 ru, .int .i64 rl, .int .i64 rc], .int .i64 0]) (by simp [results, Try.f15, go_sem, f1, f3]) rfl ⟨rfl, ?_⟩
    exact ((((hB2.setCell (p := ⟨w.heap.size, 0, none⟩) (by dsimp only; omega) _).setCell (p := ⟨w.heap.size, 1, none⟩) (by dsimp only; omega) _).setCell (p := ⟨w.heap.size, 2, none⟩) (by dsimp only; omega) _).setCell (p := ⟨w.heap.size, 3, none⟩) (by dsimp only; omega) _).setCell (p := ⟨w.heap.size, 4, none⟩) (by dsimp only; omega) _

set_option maxHeartbeats 2000000 in
/-- No way. -/
theorem move_way (m : Nat) (w : World) (a way n : Int) (h1 : way ≠ 1) (h2 : way ≠ 2) (h3 : way ≠ 3) :
    Calls Try.prog 15 #[.pointer (some ⟨m, 0, none⟩), .int .i64 a, .int .i64 way, .int .i64 n] w fun e w' => e = .returned (.tuple #[.agg #[.int .i64 0, .int .i64 0, .int .i64 0, .int .i64 0, .int .i64 0], .int .i64 2]) ∧ Below w.heap.size w w' := by
  have d1 : (way != 1) = true := by rw [bne_iff_ne]; exact h1
  have d2 : (way != 2) = true := by rw [bne_iff_ne]; exact h2
  have d3 : (way != 3) = true := by rw [bne_iff_ne]; exact h3
  have bB : Below w.heap.size w (w.alloc (.cells #[.int .i64 0, .int .i64 0, .int .i64 0, .int .i64 0, .int .i64 0] 28)) := (Below.refl _ w).alloc (Nat.le_refl _) _
  go_enter Try.func15, Try.ntmps15
  go_wp2
  exact bodyPost_ret (v := .tuple #[.agg #[.int .i64 0, .int .i64 0, .int .i64 0, .int .i64 0, .int .i64 0], .int .i64 2]) (by simp [results, Try.f15, go_sem]) rfl ⟨rfl, bB⟩

set_option maxHeartbeats 20000000 in
/-- No place. -/
theorem move_at (s : ByteArray) (hs : s.size ≤ 65536) (m : Nat) (w : World) (hM : MapAt s m w) (a way n : Int) (ha : a < 0 ∨ (s.size : Int) < a) (hw : way = 1 ∨ way = 2 ∨ way = 3) :
    Calls Try.prog 15 #[.pointer (some ⟨m, 0, none⟩), .int .i64 a, .int .i64 way, .int .i64 n] w fun e w' => e = .returned (.tuple #[.agg #[.int .i64 0, .int .i64 0, .int .i64 0, .int .i64 0, .int .i64 0], .int .i64 5]) ∧ Below w.heap.size w w' := by
  have cB := fun W hM => byte_err s hs m W hM a ha
  have b0 := Blk.new w #[.int .i64 0, .int .i64 0, .int .i64 0, .int .i64 0, .int .i64 0] 28
  have bB : Below w.heap.size w (w.alloc (.cells #[.int .i64 0, .int .i64 0, .int .i64 0, .int .i64 0, .int .i64 0] 28)) := (Below.refl _ w).alloc (Nat.le_refl _) _
  clear ha
  rcases hw with rfl | rfl | rfl
  · go_enter Try.func15, Try.ntmps15
    go_wp2_with (fail)
    refine (cB _ (mapAt_below hM bB)).mono ?_
    rintro e w1 ⟨rfl, hb1⟩
    have hB1 := bB.trans (hb1.mono bB.size)
    have c0 := b0.below' hb1
    have f1 := c0.cell
    have f2 := c0.frozen
    have f3 := c0.lt
    go_wp2
    refine bodyPost_ret (v := .tuple #[.agg #[.int .i64 0, .int .i64 0, .int .i64 0, .int .i64 0, .int .i64 0], .int .i64 5]) (by simp [results, Try.f15, go_sem, f1, f3]) rfl ⟨rfl, ?_⟩
    have hB2 := ((((hB1.setCell (p := ⟨w.heap.size, 0, none⟩) (by dsimp only; omega) (.int .i64 0)).setCell (p := ⟨w.heap.size, 1, none⟩) (by dsimp only; omega) (.int .i64 0)).setCell (p := ⟨w.heap.size, 2, none⟩) (by dsimp only; omega) (.int .i64 0)).setCell (p := ⟨w.heap.size, 3, none⟩) (by dsimp only; omega) (.int .i64 0)).setCell (p := ⟨w.heap.size, 4, none⟩) (by dsimp only; omega) (.int .i64 0)
    exact hB2.alloc hB2.size _
  · go_enter Try.func15, Try.ntmps15
    go_wp2_with (fail)
    refine (cB _ (mapAt_below hM bB)).mono ?_
    rintro e w1 ⟨rfl, hb1⟩
    have hB1 := bB.trans (hb1.mono bB.size)
    have c0 := b0.below' hb1
    have f1 := c0.cell
    have f2 := c0.frozen
    have f3 := c0.lt
    go_wp2
    refine bodyPost_ret (v := .tuple #[.agg #[.int .i64 0, .int .i64 0, .int .i64 0, .int .i64 0, .int .i64 0], .int .i64 5]) (by simp [results, Try.f15, go_sem, f1, f3]) rfl ⟨rfl, ?_⟩
    have hB2 := ((((hB1.setCell (p := ⟨w.heap.size, 0, none⟩) (by dsimp only; omega) (.int .i64 0)).setCell (p := ⟨w.heap.size, 1, none⟩) (by dsimp only; omega) (.int .i64 0)).setCell (p := ⟨w.heap.size, 2, none⟩) (by dsimp only; omega) (.int .i64 0)).setCell (p := ⟨w.heap.size, 3, none⟩) (by dsimp only; omega) (.int .i64 0)).setCell (p := ⟨w.heap.size, 4, none⟩) (by dsimp only; omega) (.int .i64 0)
    exact hB2.alloc hB2.size _
  · go_enter Try.func15, Try.ntmps15
    go_wp2_with (fail)
    refine (cB _ (mapAt_below hM bB)).mono ?_
    rintro e w1 ⟨rfl, hb1⟩
    have hB1 := bB.trans (hb1.mono bB.size)
    have c0 := b0.below' hb1
    have f1 := c0.cell
    have f2 := c0.frozen
    have f3 := c0.lt
    go_wp2
    refine bodyPost_ret (v := .tuple #[.agg #[.int .i64 0, .int .i64 0, .int .i64 0, .int .i64 0, .int .i64 0], .int .i64 5]) (by simp [results, Try.f15, go_sem, f1, f3]) rfl ⟨rfl, ?_⟩
    have hB2 := ((((hB1.setCell (p := ⟨w.heap.size, 0, none⟩) (by dsimp only; omega) (.int .i64 0)).setCell (p := ⟨w.heap.size, 1, none⟩) (by dsimp only; omega) (.int .i64 0)).setCell (p := ⟨w.heap.size, 2, none⟩) (by dsimp only; omega) (.int .i64 0)).setCell (p := ⟨w.heap.size, 3, none⟩) (by dsimp only; omega) (.int .i64 0)).setCell (p := ⟨w.heap.size, 4, none⟩) (by dsimp only; omega) (.int .i64 0)
    exact hB2.alloc hB2.size _
end Go.Proofs.Ytjlfdoonhfkabaa
