/- Stage 16: Turn, the program's. -/
import Derived.Test.YtdcmkiggnmajgaaXc
import Derived.Test.YtdcmkiggnmajgaaV7
namespace Go.Proofs.Ytdcmkiggnmajgaa
set_option linter.unusedVariables false
set_option linter.unusedSimpArgs false
open Go Go.RowKit Go.Shelf
set_option maxRecDepth 100000

def turnS (s : Sc) : Sc := ⟨s.L.reverse, s.S.reverse⟩
theorem row_other_blk2 {W : World} {B : Nat} {cs : Array Value} {t : TypeId} {e : TypeId} {base sz n o : Nat} {v u : Value} {xs : List Value} (h : Blk W B cs t) (_ : W.ownsRow base e sz v n xs) : Blk (W.setCell ⟨B, o, none⟩ u) B (cs.setIfInBounds o u) t := h.set o u
set_option maxHeartbeats 8000000 in
theorem turn_any (s : Sc) (ol os : Option Addr) (cl cs : Nat) (hfl : NForm ol s.L.length cl) (hfs : NForm os s.S.length cs) (hmay : mayB s = true) (h1 : s.L.length ≤ 512) (h3 : s.S.length ≤ 512) (w : World) (hr : RowAt w encR 2 ol s.L) (ht : RowAt w encI 1 os s.S) :
    Calls Try.prog 20 #[.agg #[.slice ol s.L.length cl, .slice os s.S.length cs]] w fun e w' => ∃ vl vs, e = .returned (.tuple #[.agg #[vl, vs], .int .i64 0]) ∧ w'.ownsRow w.heap.size 79 2 vl s.L.length (s.L.reverse.flatMap encR) ∧ w'.ownsRow w.heap.size 3 1 vs s.S.length (s.S.reverse.flatMap encI) ∧ Below w.heap.size w w' := by
  have hB0 := ((Below.refl _ w).alloc (Nat.le_refl _) (.cells #[.slice ol s.L.length cl, .slice os s.S.length cs] 25)).alloc (by simp) (.cells #[.slice none 0 0, .slice none 0 0] 25)
  have b1 := (Blk.new w #[.slice ol s.L.length cl, .slice os s.S.length cs] 25).alloc (.cells #[.slice none 0 0, .slice none 0 0] 25)
  have b2 := Blk.new (w.alloc (.cells #[.slice ol s.L.length cl, .slice os s.S.length cs] 25)) #[.slice none 0 0, .slice none 0 0] 25
  rw [World.size_alloc] at b2
  have cK := fun W h1' h2' => check_any s ol os cl cs (by omega) (by omega) W h1' h2'
  rw [hmay] at cK
  simp only [if_true] at cK
  have hr0 := hr.below encR_len (by decide) hB0
  have ht0 := ht.below encI_len (by decide) hB0
  go_enter Try.func20, Try.ntmps20
  go_wp2_with (fail)
  refine (cK _ hr0 ht0).mono ?_
  rintro e W1 ⟨rfl, hB⟩
  have hBW := hB0.trans (hB.mono hB0.size)
  have b1 := b1.below' hB
  have b2 := b2.below' hB
  have c0 : W1.cell? ⟨w.heap.size, 0, none⟩ = some (.slice ol s.L.length cl) := b1.cell 0
  have c1 : W1.cell? ⟨w.heap.size, 1, none⟩ = some (.slice os s.S.length cs) := b1.cell 1
  have HW := Lib.hid (And.intro hBW (And.intro b1 (And.intro b2 (And.intro (hr.below encR_len (by decide) hBW) (ht.below encI_len (by decide) hBW)))))
  clear hB hBW b1 b2 hr0 ht0 hr ht cK hB0
  go_wp2_with (fail)
  refine wp_cutV (α := Option Addr × Nat × Option Addr × Nat × Nat) (fun v X => Blk X v.2.2.2.2 #[.slice v.1 s.L.length v.2.1, .slice v.2.2.1 s.S.length v.2.2.2.1] 25 ∧ X.ownsRow W1.heap.size 79 2 (.slice v.1 s.L.length v.2.1) s.L.length (s.L.flatMap encR) ∧ X.ownsRow W1.heap.size 3 1 (.slice v.2.2.1 s.S.length v.2.2.2.1) s.S.length (s.S.flatMap encI) ∧ Below W1.heap.size W1 X ∧ W1.heap.size ≤ v.2.2.2.2) (fun v => [(12, .pointer (some ⟨w.heap.size, 0, none⟩)), (13, .slice ol s.L.length cl), (14, .slice v.1 s.L.length v.2.1), (15, .pointer (some ⟨w.heap.size, 1, none⟩)), (16, .slice os s.S.length cs), (17, .slice v.2.2.1 s.S.length v.2.2.2.1), (18, .agg #[.slice v.1 s.L.length v.2.1, .slice v.2.2.1 s.S.length v.2.2.2.1]), (5, .pointer (some ⟨v.2.2.2.2, 0, none⟩))]) ?_ ?_
  · refine wp_region_noPanic ?_
    refine wp_region_g (S := untilG [] (fun X => Below W1.heap.size W1 X)) (by kernel_rfl) ?_
    have T0 : Below W1.heap.size W1 W1.drew := (Below.refl _ _).drew
    obtain ⟨X0, hX0⟩ : ∃ X, W1.drew = X := ⟨_, rfl⟩
    rw [hX0] at T0 ⊢
    clear hX0
    refine wpAnyG_take [0, 1, 2, 6, 8] (i := 0) (v := (.pointer (some ⟨w.heap.size, 0, none⟩))) rfl (by kernel_rfl) (by kernel_rfl) (by kernel_rfl) (by kernel_rfl) (by kernel_rfl) (by kernel_rfl) (by kernel_rfl) (by kernel_rfl) (fun _ _ _ h => h) (Or.inl ⟨by rfl, ?hy⟩) T0 ?_
    case hy =>
      intro X hX
      go_simp
    try simp only [Act.put, List.getElem_toArray, List.getElem_cons_zero, List.getElem_cons_succ, List.setIfInBounds_toArray, List.set_cons_zero, List.set_cons_succ]
    refine wpAnyG_take [1, 2, 6, 8] (i := 1) (v := (.slice ol s.L.length cl)) rfl (by kernel_rfl) (by kernel_rfl) (by kernel_rfl) (by kernel_rfl) (by kernel_rfl) (by kernel_rfl) (by kernel_rfl) (by kernel_rfl) (fun _ _ _ h => h) (Or.inl ⟨by rfl, ?hy⟩) T0 ?_
    case hy =>
      intro X hX
      have e0 := at_below c0 hX
      go_simp
    try simp only [Act.put, List.getElem_toArray, List.getElem_cons_zero, List.getElem_cons_succ, List.setIfInBounds_toArray, List.set_cons_zero, List.set_cons_succ]
    refine wpAnyG_take [3, 4, 5, 6, 8] (i := 3) (v := (.pointer (some ⟨w.heap.size, 1, none⟩))) rfl (by kernel_rfl) (by kernel_rfl) (by kernel_rfl) (by kernel_rfl) (by kernel_rfl) (by kernel_rfl) (by kernel_rfl) (by kernel_rfl) (fun _ _ _ h => h) (Or.inl ⟨by rfl, ?hy⟩) T0 ?_
    case hy =>
      intro X hX
      go_simp
    try simp only [Act.put, List.getElem_toArray, List.getElem_cons_zero, List.getElem_cons_succ, List.setIfInBounds_toArray, List.set_cons_zero, List.set_cons_succ]
    refine wpAnyG_take [4, 5, 6, 8] (i := 4) (v := (.slice os s.S.length cs)) rfl (by kernel_rfl) (by kernel_rfl) (by kernel_rfl) (by kernel_rfl) (by kernel_rfl) (by kernel_rfl) (by kernel_rfl) (by kernel_rfl) (fun _ _ _ h => h) (Or.inl ⟨by rfl, ?hy⟩) T0 ?_
    case hy =>
      intro X hX
      have e0 := at_below c1 hX
      go_simp
    try simp only [Act.put, List.getElem_toArray, List.getElem_cons_zero, List.getElem_cons_succ, List.setIfInBounds_toArray, List.set_cons_zero, List.set_cons_succ]
    refine wpAnyG_all (rs := [2, 7]) (by kernel_rfl) (by simp) ?_
    intro i hi
    simp only [List.mem_cons, List.not_mem_nil, or_false] at hi
    rcases hi with rfl | rfl
    · skip
      refine wpOp_now rfl rfl ?_
      go_simp
      refine (cloneR_any s.L ol cl hfl (by omega) _ (HW.out.2.2.2.1.below encR_len (by decide) T0)).mono ?_
      rintro e Y4 ⟨v4, rfl, hl4, hb4⟩
      obtain ⟨o4, c4, rfl, _⟩ := own_slice hl4
      replace hl4 := own_base hl4 T0.size
      replace T0 := T0.trans (hb4.mono T0.size)
      clear hb4
      refine ⟨fun _ => T0, ?_⟩
      try simp only [Act.put, List.getElem_toArray, List.getElem_cons_zero, List.getElem_cons_succ, List.setIfInBounds_toArray, List.set_cons_zero, List.set_cons_succ]
      refine wpAnyG_all (rs := [5, 7]) (by kernel_rfl) (by simp) ?_
      intro i hi
      simp only [List.mem_cons, List.not_mem_nil, or_false] at hi
      rcases hi with rfl | rfl
      · skip
        refine wpOp_now rfl rfl ?_
        go_simp
        refine (cloneI_any s.S os cs hfs (by omega) _ (HW.out.2.2.2.2.below encI_len (by decide) T0)).mono ?_
        rintro e Y5 ⟨v5, rfl, hl5, hb5⟩
        obtain ⟨o5, c5, rfl, _⟩ := own_slice hl5
        replace hl5 := own_base hl5 T0.size
        replace hl4 := own_below hl4 hb5
        replace T0 := T0.trans (hb5.mono T0.size)
        clear hb5
        refine ⟨fun _ => T0, ?_⟩
        try simp only [Act.put, List.getElem_toArray, List.getElem_cons_zero, List.getElem_cons_succ, List.setIfInBounds_toArray, List.set_cons_zero, List.set_cons_succ]
        refine wpAnyG_take [6, 8] (i := 6) (v := (.agg #[.slice o4 s.L.length c4, .slice o5 s.S.length c5])) rfl (by kernel_rfl) (by kernel_rfl) (by kernel_rfl) (by kernel_rfl) (by kernel_rfl) (by kernel_rfl) (by kernel_rfl) (by kernel_rfl) (fun _ _ _ h => h) (Or.inl ⟨by rfl, ?hy⟩) T0 ?_
        case hy =>
          intro X hX
          go_simp
        try simp only [Act.put, List.getElem_toArray, List.getElem_cons_zero, List.getElem_cons_succ, List.setIfInBounds_toArray, List.set_cons_zero, List.set_cons_succ]
        refine wpAnyG_all (rs := [7]) (by kernel_rfl) (by simp) ?_
        intro i hi
        simp only [List.mem_cons, List.not_mem_nil, or_false] at hi
        subst hi
        refine wpOp_now rfl rfl ?_
        go_simp
        have d7 := Blk.new Y5 #[.slice none 0 0, .slice none 0 0] 25
        have l7 := T0.size
        replace T0 := T0.alloc T0.size (.cells #[.slice none 0 0, .slice none 0 0] 25)
        replace hl4 := hl4.alloc (.cells #[.slice none 0 0, .slice none 0 0] 25)
        replace hl5 := hl5.alloc (.cells #[.slice none 0 0, .slice none 0 0] 25)
        obtain ⟨b7, hb7⟩ : ∃ b, Y5.heap.size = b := ⟨_, rfl⟩
        obtain ⟨Y7, hV7⟩ : ∃ X, Y5.alloc (.cells #[.slice none 0 0, .slice none 0 0] 25) = X := ⟨_, rfl⟩
        rw [hV7, hb7] at d7
        rw [hb7] at l7
        rw [hV7] at T0 hl4 hl5
        try rw [hV7, hb7]
        clear hV7 hb7
        refine ⟨fun _ => T0, ?_⟩
        try simp only [Act.put, List.getElem_toArray, List.getElem_cons_zero, List.getElem_cons_succ, List.setIfInBounds_toArray, List.set_cons_zero, List.set_cons_succ]
        have u0 := d7.cell 0
        have u1 := d7.cell 1
        have u2 := d7.frozen 0
        have u3 := d7.frozen 1
        simp only [List.getElem?_toArray, List.getElem?_cons_succ, List.getElem?_cons_zero] at u0 u1
        refine wpAnyG_all (rs := [8]) (by kernel_rfl) (by simp) ?_
        intro i hi
        simp only [List.mem_cons, List.not_mem_nil, or_false] at hi
        subst hi
        refine wpOp_now rfl rfl ?_
        have T1 := (T0.setCell (p := ⟨b7, 0, none⟩) l7 (.slice o4 s.L.length c4)).setCell (p := ⟨b7, 1, none⟩) l7 (.slice o5 s.S.length c5)
        have d8 := (d7.set 0 (.slice o4 s.L.length c4)).set 1 (.slice o5 s.S.length c5)
        simp only [List.setIfInBounds_toArray, List.set_cons_zero, List.set_cons_succ] at d8
        have r4 := row_other (row_other_blk2 d7 hl4) (by decide) (row_other d7 (by decide) hl4 0 (.slice o4 s.L.length c4)) 1 (.slice o5 s.S.length c5)
        have r5 := row_other (row_other_blk2 d7 hl5) (by decide) (row_other d7 (by decide) hl5 0 (.slice o4 s.L.length c4)) 1 (.slice o5 s.S.length c5)
        go_simp
        refine ⟨fun _ => T1, ?_⟩
        try simp only [Act.put, List.getElem_toArray, List.getElem_cons_zero, List.getElem_cons_succ, List.setIfInBounds_toArray, List.set_cons_zero, List.set_cons_succ]
        refine wpAnyG_done (by kernel_rfl) ?_ _
        refine NoPanic.normal ?_
        exact ⟨rfl, (o4, c4, o5, c5, b7), by kernel_rfl, d8, r4, r5, T1, l7⟩
      · skip
        refine wpOp_now rfl rfl ?_
        go_simp
        have d7 := Blk.new Y4 #[.slice none 0 0, .slice none 0 0] 25
        have l7 := T0.size
        replace T0 := T0.alloc T0.size (.cells #[.slice none 0 0, .slice none 0 0] 25)
        replace hl4 := hl4.alloc (.cells #[.slice none 0 0, .slice none 0 0] 25)
        obtain ⟨b7, hb7⟩ : ∃ b, Y4.heap.size = b := ⟨_, rfl⟩
        obtain ⟨Y7, hV7⟩ : ∃ X, Y4.alloc (.cells #[.slice none 0 0, .slice none 0 0] 25) = X := ⟨_, rfl⟩
        rw [hV7, hb7] at d7
        rw [hb7] at l7
        rw [hV7] at T0 hl4
        try rw [hV7, hb7]
        clear hV7 hb7
        refine ⟨fun _ => T0, ?_⟩
        try simp only [Act.put, List.getElem_toArray, List.getElem_cons_zero, List.getElem_cons_succ, List.setIfInBounds_toArray, List.set_cons_zero, List.set_cons_succ]
        refine wpAnyG_all (rs := [5]) (by kernel_rfl) (by simp) ?_
        intro i hi
        simp only [List.mem_cons, List.not_mem_nil, or_false] at hi
        subst hi
        refine wpOp_now rfl rfl ?_
        go_simp
        refine (cloneI_any s.S os cs hfs (by omega) _ (HW.out.2.2.2.2.below encI_len (by decide) T0)).mono ?_
        rintro e Y5 ⟨v5, rfl, hl5, hb5⟩
        obtain ⟨o5, c5, rfl, _⟩ := own_slice hl5
        replace hl5 := own_base hl5 T0.size
        replace hl4 := own_below hl4 hb5
        replace T0 := T0.trans (hb5.mono T0.size)
        replace d7 := d7.below' hb5
        clear hb5
        refine ⟨fun _ => T0, ?_⟩
        try simp only [Act.put, List.getElem_toArray, List.getElem_cons_zero, List.getElem_cons_succ, List.setIfInBounds_toArray, List.set_cons_zero, List.set_cons_succ]
        refine wpAnyG_take [6, 8] (i := 6) (v := (.agg #[.slice o4 s.L.length c4, .slice o5 s.S.length c5])) rfl (by kernel_rfl) (by kernel_rfl) (by kernel_rfl) (by kernel_rfl) (by kernel_rfl) (by kernel_rfl) (by kernel_rfl) (by kernel_rfl) (fun _ _ _ h => h) (Or.inl ⟨by rfl, ?hy⟩) T0 ?_
        case hy =>
          intro X hX
          go_simp
        try simp only [Act.put, List.getElem_toArray, List.getElem_cons_zero, List.getElem_cons_succ, List.setIfInBounds_toArray, List.set_cons_zero, List.set_cons_succ]
        have u0 := d7.cell 0
        have u1 := d7.cell 1
        have u2 := d7.frozen 0
        have u3 := d7.frozen 1
        simp only [List.getElem?_toArray, List.getElem?_cons_succ, List.getElem?_cons_zero] at u0 u1
        refine wpAnyG_all (rs := [8]) (by kernel_rfl) (by simp) ?_
        intro i hi
        simp only [List.mem_cons, List.not_mem_nil, or_false] at hi
        subst hi
        refine wpOp_now rfl rfl ?_
        have T1 := (T0.setCell (p := ⟨b7, 0, none⟩) l7 (.slice o4 s.L.length c4)).setCell (p := ⟨b7, 1, none⟩) l7 (.slice o5 s.S.length c5)
        have d8 := (d7.set 0 (.slice o4 s.L.length c4)).set 1 (.slice o5 s.S.length c5)
        simp only [List.setIfInBounds_toArray, List.set_cons_zero, List.set_cons_succ] at d8
        have r4 := row_other (row_other_blk2 d7 hl4) (by decide) (row_other d7 (by decide) hl4 0 (.slice o4 s.L.length c4)) 1 (.slice o5 s.S.length c5)
        have r5 := row_other (row_other_blk2 d7 hl5) (by decide) (row_other d7 (by decide) hl5 0 (.slice o4 s.L.length c4)) 1 (.slice o5 s.S.length c5)
        go_simp
        refine ⟨fun _ => T1, ?_⟩
        try simp only [Act.put, List.getElem_toArray, List.getElem_cons_zero, List.getElem_cons_succ, List.setIfInBounds_toArray, List.set_cons_zero, List.set_cons_succ]
        refine wpAnyG_done (by kernel_rfl) ?_ _
        refine NoPanic.normal ?_
        exact ⟨rfl, (o4, c4, o5, c5, b7), by kernel_rfl, d8, r4, r5, T1, l7⟩
    · skip
      refine wpOp_now rfl rfl ?_
      go_simp
      have d7 := Blk.new X0 #[.slice none 0 0, .slice none 0 0] 25
      have l7 := T0.size
      replace T0 := T0.alloc T0.size (.cells #[.slice none 0 0, .slice none 0 0] 25)
      obtain ⟨b7, hb7⟩ : ∃ b, X0.heap.size = b := ⟨_, rfl⟩
      obtain ⟨Y7, hV7⟩ : ∃ X, X0.alloc (.cells #[.slice none 0 0, .slice none 0 0] 25) = X := ⟨_, rfl⟩
      rw [hV7, hb7] at d7
      rw [hb7] at l7
      rw [hV7] at T0 
      try rw [hV7, hb7]
      clear hV7 hb7
      refine ⟨fun _ => T0, ?_⟩
      try simp only [Act.put, List.getElem_toArray, List.getElem_cons_zero, List.getElem_cons_succ, List.setIfInBounds_toArray, List.set_cons_zero, List.set_cons_succ]
      refine wpAnyG_all (rs := [2]) (by kernel_rfl) (by simp) ?_
      intro i hi
      simp only [List.mem_cons, List.not_mem_nil, or_false] at hi
      subst hi
      refine wpOp_now rfl rfl ?_
      go_simp
      refine (cloneR_any s.L ol cl hfl (by omega) _ (HW.out.2.2.2.1.below encR_len (by decide) T0)).mono ?_
      rintro e Y4 ⟨v4, rfl, hl4, hb4⟩
      obtain ⟨o4, c4, rfl, _⟩ := own_slice hl4
      replace hl4 := own_base hl4 T0.size
      replace T0 := T0.trans (hb4.mono T0.size)
      replace d7 := d7.below' hb4
      clear hb4
      refine ⟨fun _ => T0, ?_⟩
      try simp only [Act.put, List.getElem_toArray, List.getElem_cons_zero, List.getElem_cons_succ, List.setIfInBounds_toArray, List.set_cons_zero, List.set_cons_succ]
      refine wpAnyG_all (rs := [5]) (by kernel_rfl) (by simp) ?_
      intro i hi
      simp only [List.mem_cons, List.not_mem_nil, or_false] at hi
      subst hi
      refine wpOp_now rfl rfl ?_
      go_simp
      refine (cloneI_any s.S os cs hfs (by omega) _ (HW.out.2.2.2.2.below encI_len (by decide) T0)).mono ?_
      rintro e Y5 ⟨v5, rfl, hl5, hb5⟩
      obtain ⟨o5, c5, rfl, _⟩ := own_slice hl5
      replace hl5 := own_base hl5 T0.size
      replace hl4 := own_below hl4 hb5
      replace T0 := T0.trans (hb5.mono T0.size)
      replace d7 := d7.below' hb5
      clear hb5
      refine ⟨fun _ => T0, ?_⟩
      try simp only [Act.put, List.getElem_toArray, List.getElem_cons_zero, List.getElem_cons_succ, List.setIfInBounds_toArray, List.set_cons_zero, List.set_cons_succ]
      refine wpAnyG_take [6, 8] (i := 6) (v := (.agg #[.slice o4 s.L.length c4, .slice o5 s.S.length c5])) rfl (by kernel_rfl) (by kernel_rfl) (by kernel_rfl) (by kernel_rfl) (by kernel_rfl) (by kernel_rfl) (by kernel_rfl) (by kernel_rfl) (fun _ _ _ h => h) (Or.inl ⟨by rfl, ?hy⟩) T0 ?_
      case hy =>
        intro X hX
        go_simp
      try simp only [Act.put, List.getElem_toArray, List.getElem_cons_zero, List.getElem_cons_succ, List.setIfInBounds_toArray, List.set_cons_zero, List.set_cons_succ]
      have u0 := d7.cell 0
      have u1 := d7.cell 1
      have u2 := d7.frozen 0
      have u3 := d7.frozen 1
      simp only [List.getElem?_toArray, List.getElem?_cons_succ, List.getElem?_cons_zero] at u0 u1
      refine wpAnyG_all (rs := [8]) (by kernel_rfl) (by simp) ?_
      intro i hi
      simp only [List.mem_cons, List.not_mem_nil, or_false] at hi
      subst hi
      refine wpOp_now rfl rfl ?_
      have T1 := (T0.setCell (p := ⟨b7, 0, none⟩) l7 (.slice o4 s.L.length c4)).setCell (p := ⟨b7, 1, none⟩) l7 (.slice o5 s.S.length c5)
      have d8 := (d7.set 0 (.slice o4 s.L.length c4)).set 1 (.slice o5 s.S.length c5)
      simp only [List.setIfInBounds_toArray, List.set_cons_zero, List.set_cons_succ] at d8
      have r4 := row_other (row_other_blk2 d7 hl4) (by decide) (row_other d7 (by decide) hl4 0 (.slice o4 s.L.length c4)) 1 (.slice o5 s.S.length c5)
      have r5 := row_other (row_other_blk2 d7 hl5) (by decide) (row_other d7 (by decide) hl5 0 (.slice o4 s.L.length c4)) 1 (.slice o5 s.S.length c5)
      go_simp
      refine ⟨fun _ => T1, ?_⟩
      try simp only [Act.put, List.getElem_toArray, List.getElem_cons_zero, List.getElem_cons_succ, List.setIfInBounds_toArray, List.set_cons_zero, List.set_cons_succ]
      refine wpAnyG_done (by kernel_rfl) ?_ _
      refine NoPanic.normal ?_
      exact ⟨rfl, (o4, c4, o5, c5, b7), by kernel_rfl, d8, r4, r5, T1, l7⟩
  · rintro ⟨o4, c4, o5, c5, b5⟩ X ⟨hb5, hl4, hl5, hBX, hle⟩
    simp only at hb5 hl4 hl5 hBX hle
    simp only [putsG, List.foldl_cons, List.foldl_nil, List.setIfInBounds_toArray, List.set_cons_zero, List.set_cons_succ]
    have z0 : X.cell? ⟨b5, 0, none⟩ = some (.slice o4 s.L.length c4) := hb5.cell 0
    have z1 : X.cell? ⟨b5, 1, none⟩ = some (.slice o5 s.S.length c5) := hb5.cell 1
    have hw2 : w.heap.size + 1 < W1.heap.size := HW.out.2.2.1.lt
    have HX := Lib.hid (And.intro hb5 (And.intro hl4 (And.intro hl5 (And.intro hBX hle))))
    clear hb5 hl4 hl5 hBX hle c0 c1
    rename_i hK
    refine hK _ _ ?_
    go_wp2_with (fail)
    refine (reverseR_any s.L o4 c4 W1.heap.size (by omega) _ HX.out.2.1).mono ?_
    rintro e Y ⟨rfl, hr4, hg4⟩
    have hb6 := HX.out.1.kept hg4 (HX.out.1.not_row (by decide) HX.out.2.1)
    have hr5 := HX.out.2.2.1.kept hg4 (rows_apart HX.out.2.2.1 HX.out.2.1 ne_IR)
    have hBY := HX.out.2.2.2.1.grown hg4 HX.out.2.2.2.1.size (fun r e => (HX.out.2.1.lt r e).1)
    have y1 : Y.cell? ⟨b5, 1, none⟩ = some (.slice o5 s.S.length c5) := hb6.cell 1
    have HY := Lib.hid (And.intro hb6 (And.intro hr4 (And.intro hr5 hBY)))
    clear hb6 hr4 hr5 hBY hg4 z0 z1
    go_wp2_with (fail)
    refine (reverseI_any s.S o5 c5 W1.heap.size (by omega) _ HY.out.2.2.1).mono ?_
    rintro e Z ⟨rfl, hr6, hg6⟩
    have hb7 := HY.out.1.kept hg6 (HY.out.1.not_row (by decide) HY.out.2.2.1)
    have hr7 := HY.out.2.1.kept hg6 (rows_apart HY.out.2.1 HY.out.2.2.1 ne_RI)
    have hBZ := HY.out.2.2.2.grown hg6 HY.out.2.2.2.size (fun r e => (HY.out.2.2.1.lt r e).1)
    have y0 : Z.cell? ⟨b5, 0, none⟩ = some (.slice o4 s.L.length c4) := hb7.cell 0
    have y1 : Z.cell? ⟨b5, 1, none⟩ = some (.slice o5 s.S.length c5) := hb7.cell 1
    have b3 := HW.out.2.2.1.below' hBZ
    have f0 := b3.frozen 0
    have f1 := b3.frozen 1
    have n0 : Z.cell? ⟨w.heap.size + 1, 0, none⟩ = some (.slice none 0 0) := b3.cell 0
    have n1 : Z.cell? ⟨w.heap.size + 1, 1, none⟩ = some (.slice none 0 0) := b3.cell 1
    have b6 := (b3.set 0 (.slice o4 s.L.length c4)).set 1 (.slice o5 s.S.length c5)
    have g0 := b6.cell 0
    have g1 := b6.cell 1
    simp only [List.setIfInBounds_toArray, List.set_cons_zero, List.set_cons_succ, List.getElem?_toArray, List.getElem?_cons_succ, List.getElem?_cons_zero] at g0 g1
    have r0 := own_base (own_low (own_low hr7 hw2 0 (.slice o4 s.L.length c4)) hw2 1 (.slice o5 s.S.length c5)) (by omega : w.heap.size ≤ W1.heap.size)
    have r1 := own_base (own_low (own_low hr6 hw2 0 (.slice o4 s.L.length c4)) hw2 1 (.slice o5 s.S.length c5)) (by omega : w.heap.size ≤ W1.heap.size)
    have hBB := HW.out.1.trans (hBZ.mono HW.out.1.size)
    have rB := (hBB.setCell (p := ⟨w.heap.size + 1, 0, none⟩) (Nat.le_succ _) (.slice o4 s.L.length c4)).setCell (p := ⟨w.heap.size + 1, 1, none⟩) (Nat.le_succ _) (.slice o5 s.S.length c5)
    obtain ⟨F, hF⟩ : ∃ F, (Z.setCell ⟨w.heap.size + 1, 0, none⟩ (.slice o4 s.L.length c4)).setCell ⟨w.heap.size + 1, 1, none⟩ (.slice o5 s.S.length c5) = F := ⟨_, rfl⟩
    rw [hF] at g0 g1 r0 r1 rB
    have HE := Lib.hid (And.intro r0 (And.intro r1 rB))
    clear b3 b6 hb7 hr6 hr7 hBZ hg6 r0 r1 rB hBB
    go_wp2
    try rw [hF]
    clear hF
    exact bodyPost_ret (v := .tuple #[.agg #[.slice o4 s.L.length c4, .slice o5 s.S.length c5], .int .i64 0]) (by simp [results, Try.f20, go_sem, g0, g1]) rfl ⟨_, _, rfl, HE.out.1, HE.out.2.1, HE.out.2.2⟩
end Go.Proofs.Ytdcmkiggnmajgaa
