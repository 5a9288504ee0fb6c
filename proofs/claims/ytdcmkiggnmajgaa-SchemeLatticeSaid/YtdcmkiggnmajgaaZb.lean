/- Stage 16: Join, the program's. -/
import Derived.Test.YtdcmkiggnmajgaaZa
namespace Go.Proofs.Ytdcmkiggnmajgaa
set_option linter.unusedVariables false
set_option linter.unusedSimpArgs false
open Go Go.RowKit Go.Shelf
set_option maxRecDepth 100000

set_option maxHeartbeats 8000000 in
theorem join_any (s t : Sc) (ol os ol' os' : Option Addr) (cl cs cl' cs' : Nat) (hfs : NForm os s.S.length cs) (hms : mayB s = true) (hmt : mayB t = true) (hlen : t.L.length = s.L.length) (w : World) (hr : RowAt w encR 2 ol s.L) (ht : RowAt w encI 1 os s.S) (hr' : RowAt w encR 2 ol' t.L) (ht' : RowAt w encI 1 os' t.S) :
    Calls Try.prog 25 #[.agg #[.slice ol s.L.length cl, .slice os s.S.length cs], .agg #[.slice ol' t.L.length cl', .slice os' t.S.length cs']] w fun e w' => ∃ (f : Nat → Nat) (vl vs : Value), Mk s.L.length (relJ s.L t.L) f ∧ e = .returned (.tuple #[.agg #[vl, vs], .int .i64 (togR s t f).2]) ∧ w'.ownsRow w.heap.size 79 2 vl (togR s t f).1.L.length ((togR s t f).1.L.flatMap encR) ∧ w'.ownsRow w.heap.size 3 1 vs (togR s t f).1.S.length ((togR s t f).1.S.flatMap encI) ∧ Below w.heap.size w w' := by
  obtain ⟨h1, h2, h3⟩ := may_parts hms
  obtain ⟨h1', _, h3'⟩ := may_parts hmt
  have cO := fun W a b c d => both_any s t ol os ol' os' cl cs cl' cs' (by omega) (by omega) (by omega) (by omega) W a b c d
  rw [show bothB s t = true by simp [bothB, hms, hmt, hlen]] at cO
  simp only [if_true] at cO
  obtain ⟨W0, hW0, bA, bB, bC, hB0, hz0⟩ := boxes3 w #[.slice ol s.L.length cl, .slice os s.S.length cs] #[.slice ol' t.L.length cl', .slice os' t.S.length cs']
  have c00 : W0.cell? ⟨w.heap.size, 0, none⟩ = some (.slice ol s.L.length cl) := bA.cell 0
  have c01 : W0.cell? ⟨w.heap.size, 1, none⟩ = some (.slice os s.S.length cs) := bA.cell 1
  have c10 : W0.cell? ⟨w.heap.size + 1, 0, none⟩ = some (.slice ol' t.L.length cl') := bB.cell 0
  have c11 : W0.cell? ⟨w.heap.size + 1, 1, none⟩ = some (.slice os' t.S.length cs') := bB.cell 1
  have hmk := fun W => make_ints W s.L.length (by omega)
  have HR := Lib.hid (And.intro (And.intro hr hr') (And.intro hlen (And.intro ht ht')))
  have HW := Lib.hid (And.intro bA (And.intro bB (And.intro bC hB0)))
  clear hr hr' ht ht' hlen bA bB bC hB0 hz0 hms hmt
  go_enter Try.func25, Try.ntmps25
  go_wp2_with (fail)
  try rw [hW0]
  clear hW0
  refine (cO _ (HR.out.1.1.below encR_len (by decide) HW.out.2.2.2) (HR.out.2.2.1.below encI_len (by decide) HW.out.2.2.2) (HR.out.1.2.below encR_len (by decide) HW.out.2.2.2) (HR.out.2.2.2.below encI_len (by decide) HW.out.2.2.2)).mono ?_
  rintro e W1 ⟨rfl, hB⟩
  have hS := MkR.start s.L.length (by omega) (HW.out.1.below' hB) (HW.out.2.1.below' hB) (HW.out.2.2.1.below' hB) (HW.out.2.2.2.trans (hB.mono HW.out.2.2.2.size))
  have x0 : W1.cell? ⟨w.heap.size, 0, none⟩ = some (.slice ol s.L.length cl) := (HW.out.1.below' hB).cell 0
  clear hB c00 c01 c10 c11 cO
  obtain ⟨G, hG⟩ : ∃ G, W1.heap.size = G := ⟨_, rfl⟩
  obtain ⟨W2, hW2⟩ : ∃ W2, W1.alloc (.cells (madeCells #[.int .i64 0] s.L.length) 3) = W2 := ⟨_, rfl⟩
  rw [hW2, hG] at hS
  have HS := Lib.hid hS
  clear hS
  go_wp2
  try rw [hW2, hG]
  try rw [hW2]
  clear hW2 hG hmk x0 HW
  go_loopw [26] (fun i X => ∃ (k : Nat) (f : Nat → Nat), i = .int .i64 k ∧ k ≤ s.L.length ∧ Mk k (relJ s.L t.L) f ∧ MkR w X #[.slice ol s.L.length cl, .slice os s.S.length cs] #[.slice ol' t.L.length cl', .slice os' t.S.length cs'] G s.L.length f) (fun i _ => s.L.length - (intOf i).toNat)
  case atStart => exact ⟨0, _, rfl, Nat.zero_le _, Mk.zero _ _, HS.out⟩
  case round =>
    obtain ⟨k, f, rfl, hk, hP, hM⟩ := hrel
    by_cases hlt : k < s.L.length
    · have hM1 := hM.put hlt k
      have hf0 := hM.free k
      have hkN : (k : Int) < (s.L.length : Int) := by omega
      have q0 := hM.get hlt
      obtain ⟨q, hq⟩ : ∃ q, f k = q := ⟨_, rfl⟩
      rw [hq] at q0
      obtain ⟨V, hV⟩ : ∃ V, wr.setCell ⟨G, k, none⟩ (.int .i64 k) = V := ⟨_, rfl⟩
      rw [hV] at hM1
      have HM := Lib.hid (And.intro hM1 hP)
      clear hM1 hP hM hq
      go_wp2
      try rw [hV]
      clear hV hf0 q0
      go_loopw [34] (fun i X => ∃ (j : Nat) (g : Nat → Nat), i = .int .i64 j ∧ j ≤ k ∧ JIn s.L t.L k j g ∧ MkR w X #[.slice ol s.L.length cl, .slice os s.S.length cs] #[.slice ol' t.L.length cl', .slice os' t.S.length cs'] G s.L.length g) (fun i _ => k - (intOf i).toNat)
      case atStart => exact ⟨0, _, rfl, Nat.zero_le _, JIn.start HM.out.2, HM.out.1⟩
      case round =>
        obtain ⟨j, g, rfl, hj, hO, hM⟩ := hrel
        by_cases hjk : j < k
        · obtain ⟨E1, hE1⟩ : ∃ E, alkF s.L j k = E := ⟨_, rfl⟩
          obtain ⟨E2, hE2⟩ : ∃ E, alkF t.L j k = E := ⟨_, rfl⟩
          have cA := fun W h => alikeF_any s ol os cl cs (by omega) j k (by omega) hlt E1 hE1 W h
          have cB := fun W h => alikeF_any t ol' os' cl' cs' (by have := HR.out.2.1; omega) j k (by have := HR.out.2.1; omega) (by have := HR.out.2.1; omega) E2 hE2 W h
          have x0 : wr.cell? ⟨w.heap.size, 0, none⟩ = some (.slice ol s.L.length cl) := hM.ba.cell 0
          have x1 : wr.cell? ⟨w.heap.size, 1, none⟩ = some (.slice os s.S.length cs) := hM.ba.cell 1
          have y0 : wr.cell? ⟨w.heap.size + 1, 0, none⟩ = some (.slice ol' t.L.length cl') := hM.bb.cell 0
          have y1 : wr.cell? ⟨w.heap.size + 1, 1, none⟩ = some (.slice os' t.S.length cs') := hM.bb.cell 1
          have q1 := hM.get (show j < s.L.length by omega)
          have q2 := hM.get hlt
          obtain ⟨u, hu⟩ : ∃ u, g j = u := ⟨_, rfl⟩
          obtain ⟨v, hv⟩ : ∃ v, g k = v := ⟨_, rfl⟩
          rw [hu] at q1
          rw [hv] at q2
          have hjN : (j : Int) < (s.L.length : Int) := by omega
          have hjK : (j : Int) < (k : Int) := by omega
          obtain ⟨F, hF⟩ : ∃ F, ((u : Int) == (v : Int)) = F := ⟨_, rfl⟩
          have f2 : (u == v) = F := by
            rw [← hF, Bool.eq_iff_iff, beq_iff_eq, beq_iff_eq]
            omega
          have f1 := hF
          have HX := Lib.hid (And.intro (And.intro hE1 (And.intro hE2 (And.intro hu hv))) (And.intro hO hM))
          clear hM hO hE1 hE2 hu hv hF
          cases E1
          · cases E2
            · go_wp2
              refine wp_region_noPanic ?_
              refine wp_region_g (S := untilG [] (fun X => Below wr.heap.size wr X)) (by kernel_rfl) ?_
              have T0 : Below wr.heap.size wr wr.drew := (Below.refl _ _).drew
              obtain ⟨X0, hX0⟩ : ∃ X, wr.drew = X := ⟨_, rfl⟩
              rw [hX0] at T0 ⊢
              clear hX0
              refine wpAnyG_take [0, 3, 4, 5, 6, 7, 8, 9, 10, 11, 12, 13, 14, 15, 16, 17, 18, 19, 20, 21, 22] (i := 0) (v := (.agg #[.slice ol s.L.length cl, .slice os s.S.length cs])) rfl (by kernel_rfl) (by kernel_rfl) (by kernel_rfl) (by kernel_rfl) (by kernel_rfl) (by kernel_rfl) (by kernel_rfl) (by kernel_rfl) (fun _ _ _ h => h) (Or.inl ⟨by rfl, ?hy⟩) T0 ?_
              case hy =>
                intro X hX
                have e0 := at_below x0 hX
                have e1 := at_below x1 hX
                go_simp
              try simp only [Act.put, List.getElem_toArray, List.getElem_cons_zero, List.getElem_cons_succ, List.setIfInBounds_toArray, List.set_cons_zero, List.set_cons_succ]
              refine wpAnyG_take [1, 3, 4, 5, 6, 7, 8, 9, 10, 11, 12, 13, 14, 15, 16, 17, 18, 19, 20, 21, 22] (i := 1) (v := (.int .i64 (j : Nat))) rfl (by kernel_rfl) (by kernel_rfl) (by kernel_rfl) (by kernel_rfl) (by kernel_rfl) (by kernel_rfl) (by kernel_rfl) (by kernel_rfl) (fun _ _ _ h => h) (Or.inl ⟨by rfl, ?hy⟩) T0 ?_
              case hy =>
                intro X hX
                go_simp
              try simp only [Act.put, List.getElem_toArray, List.getElem_cons_zero, List.getElem_cons_succ, List.setIfInBounds_toArray, List.set_cons_zero, List.set_cons_succ]
              refine wpAnyG_all (rs := [2]) (by kernel_rfl) (by simp) ?_
              intro i hi
              simp only [List.mem_cons, List.not_mem_nil, or_false] at hi
              subst hi
              refine wpOp_now rfl rfl ?_
              go_simp
              refine ⟨fun _ => T0, ?_⟩
              try simp only [Act.put, List.getElem_toArray, List.getElem_cons_zero, List.getElem_cons_succ, List.setIfInBounds_toArray, List.set_cons_zero, List.set_cons_succ]
              refine wpAnyG_all (rs := [3]) (by kernel_rfl) (by simp) ?_
              intro i hi
              simp only [List.mem_cons, List.not_mem_nil, or_false] at hi
              subst hi
              refine wpOp_now rfl rfl ?_
              go_simp
              refine (cA _ ((HR.out.1.1.below encR_len (by decide) HX.out.2.2.bel).below encR_len (by decide) T0)).mono ?_
              rintro e Y3 ⟨rfl, hB⟩
              replace T0 := T0.trans (hB.mono T0.size)
              clear hB
              refine ⟨fun _ => T0, ?_⟩
              try simp only [Act.put, List.getElem_toArray, List.getElem_cons_zero, List.getElem_cons_succ, List.setIfInBounds_toArray, List.set_cons_zero, List.set_cons_succ]
              refine wpAnyG_all (rs := [4]) (by kernel_rfl) (by simp) ?_
              intro i hi
              simp only [List.mem_cons, List.not_mem_nil, or_false] at hi
              subst hi
              refine wpOp_now rfl rfl ?_
              go_simp
              refine ⟨fun _ => T0, ?_⟩
              try simp only [Act.put, List.getElem_toArray, List.getElem_cons_zero, List.getElem_cons_succ, List.setIfInBounds_toArray, List.set_cons_zero, List.set_cons_succ]
              refine wpAnyG_all (rs := [5]) (by kernel_rfl) (by simp) ?_
              intro i hi
              simp only [List.mem_cons, List.not_mem_nil, or_false] at hi
              subst hi
              refine wpOp_now rfl rfl ?_
              go_simp
              refine ⟨fun _ => T0, ?_⟩
              try simp only [Act.put, List.getElem_toArray, List.getElem_cons_zero, List.getElem_cons_succ, List.setIfInBounds_toArray, List.set_cons_zero, List.set_cons_succ]
              refine wpAnyG_take [6, 9, 10, 11, 12, 13, 14, 15, 16, 17, 18, 19, 20, 21, 22] (i := 6) (v := (.agg #[.slice ol' t.L.length cl', .slice os' t.S.length cs'])) rfl (by kernel_rfl) (by kernel_rfl) (by kernel_rfl) (by kernel_rfl) (by kernel_rfl) (by kernel_rfl) (by kernel_rfl) (by kernel_rfl) (fun _ _ _ h => h) (Or.inl ⟨by rfl, ?hy⟩) T0 ?_
              case hy =>
                intro X hX
                have e0 := at_below y0 hX
                have e1 := at_below y1 hX
                go_simp
              try simp only [Act.put, List.getElem_toArray, List.getElem_cons_zero, List.getElem_cons_succ, List.setIfInBounds_toArray, List.set_cons_zero, List.set_cons_succ]
              refine wpAnyG_take [7, 9, 10, 11, 12, 13, 14, 15, 16, 17, 18, 19, 20, 21, 22] (i := 7) (v := (.int .i64 (j : Nat))) rfl (by kernel_rfl) (by kernel_rfl) (by kernel_rfl) (by kernel_rfl) (by kernel_rfl) (by kernel_rfl) (by kernel_rfl) (by kernel_rfl) (fun _ _ _ h => h) (Or.inl ⟨by rfl, ?hy⟩) T0 ?_
              case hy =>
                intro X hX
                go_simp
              try simp only [Act.put, List.getElem_toArray, List.getElem_cons_zero, List.getElem_cons_succ, List.setIfInBounds_toArray, List.set_cons_zero, List.set_cons_succ]
              refine wpAnyG_all (rs := [8]) (by kernel_rfl) (by simp) ?_
              intro i hi
              simp only [List.mem_cons, List.not_mem_nil, or_false] at hi
              subst hi
              refine wpOp_open rfl (by rfl) ?_
              go_simp
              refine ⟨fun _ => T0, ?_⟩
              try simp only [Act.put, List.getElem_toArray, List.getElem_cons_zero, List.getElem_cons_succ, List.setIfInBounds_toArray, List.set_cons_zero, List.set_cons_succ]
              refine wpAnyG_all (rs := [9]) (by kernel_rfl) (by simp) ?_
              intro i hi
              simp only [List.mem_cons, List.not_mem_nil, or_false] at hi
              subst hi
              refine wpOp_open rfl (by rfl) ?_
              go_simp
              refine (cB _ ((HR.out.1.2.below encR_len (by decide) HX.out.2.2.bel).below encR_len (by decide) T0)).mono ?_
              rintro e Y9 ⟨rfl, hB⟩
              replace T0 := T0.trans (hB.mono T0.size)
              clear hB
              refine ⟨fun _ => T0, ?_⟩
              try simp only [Act.put, List.getElem_toArray, List.getElem_cons_zero, List.getElem_cons_succ, List.setIfInBounds_toArray, List.set_cons_zero, List.set_cons_succ]
              refine wpAnyG_all (rs := [10]) (by kernel_rfl) (by simp) ?_
              intro i hi
              simp only [List.mem_cons, List.not_mem_nil, or_false] at hi
              subst hi
              refine wpOp_open rfl (by rfl) ?_
              go_simp
              refine ⟨fun _ => T0, ?_⟩
              try simp only [Act.put, List.getElem_toArray, List.getElem_cons_zero, List.getElem_cons_succ, List.setIfInBounds_toArray, List.set_cons_zero, List.set_cons_succ]
              refine wpAnyG_all (rs := [11]) (by kernel_rfl) (by simp) ?_
              intro i hi
              simp only [List.mem_cons, List.not_mem_nil, or_false] at hi
              subst hi
              refine wpOp_now rfl rfl ?_
              go_simp
              refine ⟨fun _ => T0, ?_⟩
              try simp only [Act.put, List.getElem_toArray, List.getElem_cons_zero, List.getElem_cons_succ, List.setIfInBounds_toArray, List.set_cons_zero, List.set_cons_succ]
              refine wpAnyG_all (rs := [12]) (by kernel_rfl) (by simp) ?_
              intro i hi
              simp only [List.mem_cons, List.not_mem_nil, or_false] at hi
              subst hi
              refine wpOp_now rfl rfl ?_
              go_simp
              refine ⟨fun _ => T0, ?_⟩
              try simp only [Act.put, List.getElem_toArray, List.getElem_cons_zero, List.getElem_cons_succ, List.setIfInBounds_toArray, List.set_cons_zero, List.set_cons_succ]
              refine wpAnyG_take [13, 15, 16, 21, 22] (i := 13) (v := undef) rfl (by kernel_rfl) (by kernel_rfl) (by kernel_rfl) (by kernel_rfl) (by kernel_rfl) (by kernel_rfl) (by kernel_rfl) (by kernel_rfl) (fun _ _ _ h => h) (Or.inr ⟨by rfl, rfl⟩) T0 ?_
              try simp only [Act.put, List.getElem_toArray, List.getElem_cons_zero, List.getElem_cons_succ, List.setIfInBounds_toArray, List.set_cons_zero, List.set_cons_succ]
              refine wpAnyG_take [14, 15, 16, 21, 22] (i := 14) (v := undef) rfl (by kernel_rfl) (by kernel_rfl) (by kernel_rfl) (by kernel_rfl) (by kernel_rfl) (by kernel_rfl) (by kernel_rfl) (by kernel_rfl) (fun _ _ _ h => h) (Or.inr ⟨by rfl, rfl⟩) T0 ?_
              try simp only [Act.put, List.getElem_toArray, List.getElem_cons_zero, List.getElem_cons_succ, List.setIfInBounds_toArray, List.set_cons_zero, List.set_cons_succ]
              refine wpAnyG_take [15, 16, 21, 22] (i := 15) (v := undef) rfl (by kernel_rfl) (by kernel_rfl) (by kernel_rfl) (by kernel_rfl) (by kernel_rfl) (by kernel_rfl) (by kernel_rfl) (by kernel_rfl) (fun _ _ _ h => h) (Or.inr ⟨by rfl, rfl⟩) T0 ?_
              try simp only [Act.put, List.getElem_toArray, List.getElem_cons_zero, List.getElem_cons_succ, List.setIfInBounds_toArray, List.set_cons_zero, List.set_cons_succ]
              refine wpAnyG_take [16, 21, 22] (i := 16) (v := undef) rfl (by kernel_rfl) (by kernel_rfl) (by kernel_rfl) (by kernel_rfl) (by kernel_rfl) (by kernel_rfl) (by kernel_rfl) (by kernel_rfl) (fun _ _ _ h => h) (Or.inr ⟨by rfl, rfl⟩) T0 ?_
              try simp only [Act.put, List.getElem_toArray, List.getElem_cons_zero, List.getElem_cons_succ, List.setIfInBounds_toArray, List.set_cons_zero, List.set_cons_succ]
              refine wpAnyG_take [17, 19, 20, 21, 22] (i := 17) (v := undef) rfl (by kernel_rfl) (by kernel_rfl) (by kernel_rfl) (by kernel_rfl) (by kernel_rfl) (by kernel_rfl) (by kernel_rfl) (by kernel_rfl) (fun _ _ _ h => h) (Or.inr ⟨by rfl, rfl⟩) T0 ?_
              try simp only [Act.put, List.getElem_toArray, List.getElem_cons_zero, List.getElem_cons_succ, List.setIfInBounds_toArray, List.set_cons_zero, List.set_cons_succ]
              refine wpAnyG_take [18, 19, 20, 21, 22] (i := 18) (v := undef) rfl (by kernel_rfl) (by kernel_rfl) (by kernel_rfl) (by kernel_rfl) (by kernel_rfl) (by kernel_rfl) (by kernel_rfl) (by kernel_rfl) (fun _ _ _ h => h) (Or.inr ⟨by rfl, rfl⟩) T0 ?_
              try simp only [Act.put, List.getElem_toArray, List.getElem_cons_zero, List.getElem_cons_succ, List.setIfInBounds_toArray, List.set_cons_zero, List.set_cons_succ]
              refine wpAnyG_take [19, 20, 21, 22] (i := 19) (v := undef) rfl (by kernel_rfl) (by kernel_rfl) (by kernel_rfl) (by kernel_rfl) (by kernel_rfl) (by kernel_rfl) (by kernel_rfl) (by kernel_rfl) (fun _ _ _ h => h) (Or.inr ⟨by rfl, rfl⟩) T0 ?_
              try simp only [Act.put, List.getElem_toArray, List.getElem_cons_zero, List.getElem_cons_succ, List.setIfInBounds_toArray, List.set_cons_zero, List.set_cons_succ]
              refine wpAnyG_take [20, 21, 22] (i := 20) (v := undef) rfl (by kernel_rfl) (by kernel_rfl) (by kernel_rfl) (by kernel_rfl) (by kernel_rfl) (by kernel_rfl) (by kernel_rfl) (by kernel_rfl) (fun _ _ _ h => h) (Or.inr ⟨by rfl, rfl⟩) T0 ?_
              try simp only [Act.put, List.getElem_toArray, List.getElem_cons_zero, List.getElem_cons_succ, List.setIfInBounds_toArray, List.set_cons_zero, List.set_cons_succ]
              refine wpAnyG_take [21, 22] (i := 21) (v := undef) rfl (by kernel_rfl) (by kernel_rfl) (by kernel_rfl) (by kernel_rfl) (by kernel_rfl) (by kernel_rfl) (by kernel_rfl) (by kernel_rfl) (fun _ _ _ h => h) (Or.inr ⟨by rfl, rfl⟩) T0 ?_
              try simp only [Act.put, List.getElem_toArray, List.getElem_cons_zero, List.getElem_cons_succ, List.setIfInBounds_toArray, List.set_cons_zero, List.set_cons_succ]
              refine wpAnyG_all (rs := [22]) (by kernel_rfl) (by simp) ?_
              intro i hi
              simp only [List.mem_cons, List.not_mem_nil, or_false] at hi
              subst hi
              refine wpOp_now rfl rfl ?_
              go_simp
              refine ⟨fun _ => T0, ?_⟩
              try simp only [Act.put, List.getElem_toArray, List.getElem_cons_zero, List.getElem_cons_succ, List.setIfInBounds_toArray, List.set_cons_zero, List.set_cons_succ]
              refine wpAnyG_done (by kernel_rfl) ?_ _
              refine NoPanic.normal ?_
              have HN := Lib.hid (And.intro (HX.out.2.1.skip (.inl (fun h => by rcases h with h | h ; rw [HX.out.1.1] at h; cases h; rw [HX.out.1.2.1] at h; cases h))) (HX.out.2.2.below T0))
              clear T0 x0 x1 y0 y1 q1 q2 cA cB HX
              go_wp2
              go_roundw
              case rel => exact ⟨j + 1, g, by go_num, by omega, HN.out.1, HN.out.2⟩
              case measure => simp [intOf] <;> omega
            · go_wp2
              refine wp_region_noPanic ?_
              refine wp_region_g (S := untilG [] (fun X => Below wr.heap.size wr X)) (by kernel_rfl) ?_
              have T0 : Below wr.heap.size wr wr.drew := (Below.refl _ _).drew
              obtain ⟨X0, hX0⟩ : ∃ X, wr.drew = X := ⟨_, rfl⟩
              rw [hX0] at T0 ⊢
              clear hX0
              refine wpAnyG_take [0, 3, 4, 5, 6, 7, 8, 9, 10, 11, 12, 13, 14, 15, 16, 17, 18, 19, 20, 21, 22] (i := 0) (v := (.agg #[.slice ol s.L.length cl, .slice os s.S.length cs])) rfl (by kernel_rfl) (by kernel_rfl) (by kernel_rfl) (by kernel_rfl) (by kernel_rfl) (by kernel_rfl) (by kernel_rfl) (by kernel_rfl) (fun _ _ _ h => h) (Or.inl ⟨by rfl, ?hy⟩) T0 ?_
              case hy =>
                intro X hX
                have e0 := at_below x0 hX
                have e1 := at_below x1 hX
                go_simp
              try simp only [Act.put, List.getElem_toArray, List.getElem_cons_zero, List.getElem_cons_succ, List.setIfInBounds_toArray, List.set_cons_zero, List.set_cons_succ]
              refine wpAnyG_take [1, 3, 4, 5, 6, 7, 8, 9, 10, 11, 12, 13, 14, 15, 16, 17, 18, 19, 20, 21, 22] (i := 1) (v := (.int .i64 (j : Nat))) rfl (by kernel_rfl) (by kernel_rfl) (by kernel_rfl) (by kernel_rfl) (by kernel_rfl) (by kernel_rfl) (by kernel_rfl) (by kernel_rfl) (fun _ _ _ h => h) (Or.inl ⟨by rfl, ?hy⟩) T0 ?_
              case hy =>
                intro X hX
                go_simp
              try simp only [Act.put, List.getElem_toArray, List.getElem_cons_zero, List.getElem_cons_succ, List.setIfInBounds_toArray, List.set_cons_zero, List.set_cons_succ]
              refine wpAnyG_all (rs := [2]) (by kernel_rfl) (by simp) ?_
              intro i hi
              simp only [List.mem_cons, List.not_mem_nil, or_false] at hi
              subst hi
              refine wpOp_now rfl rfl ?_
              go_simp
              refine ⟨fun _ => T0, ?_⟩
              try simp only [Act.put, List.getElem_toArray, List.getElem_cons_zero, List.getElem_cons_succ, List.setIfInBounds_toArray, List.set_cons_zero, List.set_cons_succ]
              refine wpAnyG_all (rs := [3]) (by kernel_rfl) (by simp) ?_
              intro i hi
              simp only [List.mem_cons, List.not_mem_nil, or_false] at hi
              subst hi
              refine wpOp_now rfl rfl ?_
              go_simp
              refine (cA _ ((HR.out.1.1.below encR_len (by decide) HX.out.2.2.bel).below encR_len (by decide) T0)).mono ?_
              rintro e Y3 ⟨rfl, hB⟩
              replace T0 := T0.trans (hB.mono T0.size)
              clear hB
              refine ⟨fun _ => T0, ?_⟩
              try simp only [Act.put, List.getElem_toArray, List.getElem_cons_zero, List.getElem_cons_succ, List.setIfInBounds_toArray, List.set_cons_zero, List.set_cons_succ]
              refine wpAnyG_all (rs := [4]) (by kernel_rfl) (by simp) ?_
              intro i hi
              simp only [List.mem_cons, List.not_mem_nil, or_false] at hi
              subst hi
              refine wpOp_now rfl rfl ?_
              go_simp
              refine ⟨fun _ => T0, ?_⟩
              try simp only [Act.put, List.getElem_toArray, List.getElem_cons_zero, List.getElem_cons_succ, List.setIfInBounds_toArray, List.set_cons_zero, List.set_cons_succ]
              refine wpAnyG_all (rs := [5]) (by kernel_rfl) (by simp) ?_
              intro i hi
              simp only [List.mem_cons, List.not_mem_nil, or_false] at hi
              subst hi
              refine wpOp_now rfl rfl ?_
              go_simp
              refine ⟨fun _ => T0, ?_⟩
              try simp only [Act.put, List.getElem_toArray, List.getElem_cons_zero, List.getElem_cons_succ, List.setIfInBounds_toArray, List.set_cons_zero, List.set_cons_succ]
              refine wpAnyG_take [6, 9, 10, 11, 12, 13, 14, 15, 16, 17, 18, 19, 20, 21, 22] (i := 6) (v := (.agg #[.slice ol' t.L.length cl', .slice os' t.S.length cs'])) rfl (by kernel_rfl) (by kernel_rfl) (by kernel_rfl) (by kernel_rfl) (by kernel_rfl) (by kernel_rfl) (by kernel_rfl) (by kernel_rfl) (fun _ _ _ h => h) (Or.inl ⟨by rfl, ?hy⟩) T0 ?_
              case hy =>
                intro X hX
                have e0 := at_below y0 hX
                have e1 := at_below y1 hX
                go_simp
              try simp only [Act.put, List.getElem_toArray, List.getElem_cons_zero, List.getElem_cons_succ, List.setIfInBounds_toArray, List.set_cons_zero, List.set_cons_succ]
              refine wpAnyG_take [7, 9, 10, 11, 12, 13, 14, 15, 16, 17, 18, 19, 20, 21, 22] (i := 7) (v := (.int .i64 (j : Nat))) rfl (by kernel_rfl) (by kernel_rfl) (by kernel_rfl) (by kernel_rfl) (by kernel_rfl) (by kernel_rfl) (by kernel_rfl) (by kernel_rfl) (fun _ _ _ h => h) (Or.inl ⟨by rfl, ?hy⟩) T0 ?_
              case hy =>
                intro X hX
                go_simp
              try simp only [Act.put, List.getElem_toArray, List.getElem_cons_zero, List.getElem_cons_succ, List.setIfInBounds_toArray, List.set_cons_zero, List.set_cons_succ]
              refine wpAnyG_all (rs := [8]) (by kernel_rfl) (by simp) ?_
              intro i hi
              simp only [List.mem_cons, List.not_mem_nil, or_false] at hi
              subst hi
              refine wpOp_open rfl (by rfl) ?_
              go_simp
              refine ⟨fun _ => T0, ?_⟩
              try simp only [Act.put, List.getElem_toArray, List.getElem_cons_zero, List.getElem_cons_succ, List.setIfInBounds_toArray, List.set_cons_zero, List.set_cons_succ]
              refine wpAnyG_all (rs := [9]) (by kernel_rfl) (by simp) ?_
              intro i hi
              simp only [List.mem_cons, List.not_mem_nil, or_false] at hi
              subst hi
              refine wpOp_open rfl (by rfl) ?_
              go_simp
              refine (cB _ ((HR.out.1.2.below encR_len (by decide) HX.out.2.2.bel).below encR_len (by decide) T0)).mono ?_
              rintro e Y9 ⟨rfl, hB⟩
              replace T0 := T0.trans (hB.mono T0.size)
              clear hB
              refine ⟨fun _ => T0, ?_⟩
              try simp only [Act.put, List.getElem_toArray, List.getElem_cons_zero, List.getElem_cons_succ, List.setIfInBounds_toArray, List.set_cons_zero, List.set_cons_succ]
              refine wpAnyG_all (rs := [10]) (by kernel_rfl) (by simp) ?_
              intro i hi
              simp only [List.mem_cons, List.not_mem_nil, or_false] at hi
              subst hi
              refine wpOp_open rfl (by rfl) ?_
              go_simp
              refine ⟨fun _ => T0, ?_⟩
              try simp only [Act.put, List.getElem_toArray, List.getElem_cons_zero, List.getElem_cons_succ, List.setIfInBounds_toArray, List.set_cons_zero, List.set_cons_succ]
              refine wpAnyG_all (rs := [11]) (by kernel_rfl) (by simp) ?_
              intro i hi
              simp only [List.mem_cons, List.not_mem_nil, or_false] at hi
              subst hi
              refine wpOp_now rfl rfl ?_
              go_simp
              refine ⟨fun _ => T0, ?_⟩
              try simp only [Act.put, List.getElem_toArray, List.getElem_cons_zero, List.getElem_cons_succ, List.setIfInBounds_toArray, List.set_cons_zero, List.set_cons_succ]
              refine wpAnyG_all (rs := [12]) (by kernel_rfl) (by simp) ?_
              intro i hi
              simp only [List.mem_cons, List.not_mem_nil, or_false] at hi
              subst hi
              refine wpOp_now rfl rfl ?_
              go_simp
              refine ⟨fun _ => T0, ?_⟩
              try simp only [Act.put, List.getElem_toArray, List.getElem_cons_zero, List.getElem_cons_succ, List.setIfInBounds_toArray, List.set_cons_zero, List.set_cons_succ]
              refine wpAnyG_take [13, 15, 16, 21, 22] (i := 13) (v := (.slice (some ⟨G, 0, none⟩) s.L.length s.L.length)) rfl (by kernel_rfl) (by kernel_rfl) (by kernel_rfl) (by kernel_rfl) (by kernel_rfl) (by kernel_rfl) (by kernel_rfl) (by kernel_rfl) (fun _ _ _ h => h) (Or.inl ⟨by rfl, ?hy⟩) T0 ?_
              case hy =>
                intro X hX
                go_simp
              try simp only [Act.put, List.getElem_toArray, List.getElem_cons_zero, List.getElem_cons_succ, List.setIfInBounds_toArray, List.set_cons_zero, List.set_cons_succ]
              refine wpAnyG_take [14, 15, 16, 21, 22] (i := 14) (v := (.int .i64 (j : Nat))) rfl (by kernel_rfl) (by kernel_rfl) (by kernel_rfl) (by kernel_rfl) (by kernel_rfl) (by kernel_rfl) (by kernel_rfl) (by kernel_rfl) (fun _ _ _ h => h) (Or.inl ⟨by rfl, ?hy⟩) T0 ?_
              case hy =>
                intro X hX
                go_simp
              try simp only [Act.put, List.getElem_toArray, List.getElem_cons_zero, List.getElem_cons_succ, List.setIfInBounds_toArray, List.set_cons_zero, List.set_cons_succ]
              refine wpAnyG_take [15, 16, 21, 22] (i := 15) (v := (.pointer (some ⟨G, j, none⟩))) rfl (by kernel_rfl) (by kernel_rfl) (by kernel_rfl) (by kernel_rfl) (by kernel_rfl) (by kernel_rfl) (by kernel_rfl) (by kernel_rfl) (fun _ _ _ h => h) (Or.inl ⟨by rfl, ?hy⟩) T0 ?_
              case hy =>
                intro X hX
                go_simp
              try simp only [Act.put, List.getElem_toArray, List.getElem_cons_zero, List.getElem_cons_succ, List.setIfInBounds_toArray, List.set_cons_zero, List.set_cons_succ]
              refine wpAnyG_take [16, 21, 22] (i := 16) (v := (.int .i64 (u : Nat))) rfl (by kernel_rfl) (by kernel_rfl) (by kernel_rfl) (by kernel_rfl) (by kernel_rfl) (by kernel_rfl) (by kernel_rfl) (by kernel_rfl) (fun _ _ _ h => h) (Or.inl ⟨by rfl, ?hy⟩) T0 ?_
              case hy =>
                intro X hX
                have e0 := at_below q1 hX
                go_simp
              try simp only [Act.put, List.getElem_toArray, List.getElem_cons_zero, List.getElem_cons_succ, List.setIfInBounds_toArray, List.set_cons_zero, List.set_cons_succ]
              refine wpAnyG_take [17, 19, 20, 21, 22] (i := 17) (v := (.slice (some ⟨G, 0, none⟩) s.L.length s.L.length)) rfl (by kernel_rfl) (by kernel_rfl) (by kernel_rfl) (by kernel_rfl) (by kernel_rfl) (by kernel_rfl) (by kernel_rfl) (by kernel_rfl) (fun _ _ _ h => h) (Or.inl ⟨by rfl, ?hy⟩) T0 ?_
              case hy =>
                intro X hX
                go_simp
              try simp only [Act.put, List.getElem_toArray, List.getElem_cons_zero, List.getElem_cons_succ, List.setIfInBounds_toArray, List.set_cons_zero, List.set_cons_succ]
              refine wpAnyG_all (rs := [18]) (by kernel_rfl) (by simp) ?_
              intro i hi
              simp only [List.mem_cons, List.not_mem_nil, or_false] at hi
              subst hi
              refine wpOp_open rfl (by rfl) ?_
              go_simp
              refine ⟨fun _ => T0, ?_⟩
              try simp only [Act.put, List.getElem_toArray, List.getElem_cons_zero, List.getElem_cons_succ, List.setIfInBounds_toArray, List.set_cons_zero, List.set_cons_succ]
              refine wpAnyG_take [19, 20, 21, 22] (i := 19) (v := (.pointer (some ⟨G, k, none⟩))) rfl (by kernel_rfl) (by kernel_rfl) (by kernel_rfl) (by kernel_rfl) (by kernel_rfl) (by kernel_rfl) (by kernel_rfl) (by kernel_rfl) (fun _ _ _ h => h) (Or.inl ⟨by rfl, ?hy⟩) T0 ?_
              case hy =>
                intro X hX
                go_simp
              try simp only [Act.put, List.getElem_toArray, List.getElem_cons_zero, List.getElem_cons_succ, List.setIfInBounds_toArray, List.set_cons_zero, List.set_cons_succ]
              refine wpAnyG_take [20, 21, 22] (i := 20) (v := (.int .i64 (v : Nat))) rfl (by kernel_rfl) (by kernel_rfl) (by kernel_rfl) (by kernel_rfl) (by kernel_rfl) (by kernel_rfl) (by kernel_rfl) (by kernel_rfl) (fun _ _ _ h => h) (Or.inl ⟨by rfl, ?hy⟩) T0 ?_
              case hy =>
                intro X hX
                have e0 := at_below q2 hX
                go_simp
              try simp only [Act.put, List.getElem_toArray, List.getElem_cons_zero, List.getElem_cons_succ, List.setIfInBounds_toArray, List.set_cons_zero, List.set_cons_succ]
              refine wpAnyG_take [21, 22] (i := 21) (v := (.bool F)) rfl (by kernel_rfl) (by kernel_rfl) (by kernel_rfl) (by kernel_rfl) (by kernel_rfl) (by kernel_rfl) (by kernel_rfl) (by kernel_rfl) (fun _ _ _ h => h) (Or.inl ⟨by rfl, ?hy⟩) T0 ?_
              case hy =>
                intro X hX
                go_simp
              try simp only [Act.put, List.getElem_toArray, List.getElem_cons_zero, List.getElem_cons_succ, List.setIfInBounds_toArray, List.set_cons_zero, List.set_cons_succ]
              refine wpAnyG_all (rs := [22]) (by kernel_rfl) (by simp) ?_
              intro i hi
              simp only [List.mem_cons, List.not_mem_nil, or_false] at hi
              subst hi
              refine wpOp_now rfl rfl ?_
              go_simp
              refine ⟨fun _ => T0, ?_⟩
              try simp only [Act.put, List.getElem_toArray, List.getElem_cons_zero, List.getElem_cons_succ, List.setIfInBounds_toArray, List.set_cons_zero, List.set_cons_succ]
              refine wpAnyG_done (by kernel_rfl) ?_ _
              refine NoPanic.normal ?_
              cases F
              · skip
                have hrel : relJ s.L t.L j k := .inr HX.out.1.2.1
                have hne : g j ≠ g k := by
                  rw [HX.out.1.2.2.1, HX.out.1.2.2.2]
                  intro h
                  subst h
                  simp at f1
                have hMg := HX.out.2.1.merge hjk hrel hne
                rw [HX.out.1.2.2.1, HX.out.1.2.2.2] at hMg
                have hM2 := HX.out.2.2.below T0
                have r1 := at_below q1 T0
                have r2 := at_below q2 T0
                have m1 : (if u < v then (v : Int) else (u : Int)) = ((max u v : Nat) : Int) := by split <;> omega
                have m2 : (if v < u then (v : Int) else (u : Int)) = ((min u v : Nat) : Int) := by split <;> omega
                obtain ⟨fr, hfr⟩ : ∃ a, max u v = a := ⟨_, rfl⟩
                obtain ⟨tg, htg⟩ : ∃ a, min u v = a := ⟨_, rfl⟩
                rw [hfr] at m1 hMg
                rw [htg] at m2 hMg
                have s1 : IntKind.i64.wrap ((k : Int) + 1) = ((k + 1 : Nat) : Int) := by rw [IntWalk.i64_in _ (by omega)]; omega
                have HG := Lib.hid (And.intro hMg hM2)
                have M1 := Lib.hid m1
                have M2 := Lib.hid m2
                clear m1 m2 hMg hM2 hrel hne T0 x0 x1 y0 y1 q1 q2 cA cB hfr htg
                go_wp2
                go_quiet (fail)
                rw [M1.out, M2.out]
                clear M1 M2
                generalize hU : World.drewN Y9 _ = U
                have hMU := HG.out.2.below (hU ▸ below_drewN Y9 _)
                have HMU := Lib.hid hMU
                clear hU hMU r1 r2
                go_wp2
                go_loopw [80] (fun i X => ∃ a : Nat, i = .int .i64 a ∧ a ≤ k + 1 ∧ MkR w X #[.slice ol s.L.length cl, .slice os s.S.length cs] #[.slice ol' t.L.length cl', .slice os' t.S.length cs'] G s.L.length (relabel g a fr tg)) (fun i _ => k + 1 - (intOf i).toNat)
                case atStart => exact ⟨0, rfl, Nat.zero_le _, by rw [relabel_zero]; exact HMU.out⟩
                case round =>
                  obtain ⟨a, rfl, ha, hM⟩ := hrel
                  by_cases hak : a < k + 1
                  · have c0 := hM.get (show a < s.L.length by omega)
                    rw [relabel_at] at c0
                    obtain ⟨z, hz⟩ : ∃ z, g a = z := ⟨_, rfl⟩
                    rw [hz] at c0
                    have haN : (a : Int) < (s.L.length : Int) := by omega
                    have haK : (a : Int) < ((k + 1 : Nat) : Int) := by omega
                    by_cases hzf : z = fr
                    · have t1 : ((z : Int) == (fr : Int)) = true := by rw [hzf]; simp
                      have t2 : (z == fr) = true := by rw [hzf]; simp
                      have hM2 := hM.put (show a < s.L.length by omega) tg
                      rw [relabel_yes (hz.trans hzf)] at hM2
                      have f2 := hM.free a
                      obtain ⟨V, hV⟩ : ∃ V, wr.setCell ⟨G, a, none⟩ (.int .i64 tg) = V := ⟨_, rfl⟩
                      rw [hV] at hM2
                      have HM2 := Lib.hid hM2
                      clear hM hM2 hz hzf
                      go_wp2
                      try rw [hV]
                      clear hV
                      go_roundw
                      case rel => exact ⟨a + 1, by go_num, by omega, HM2.out⟩
                      case measure => simp [intOf] <;> omega
                    · have t1 : ((z : Int) == (fr : Int)) = false := by rw [beq_eq_false_iff_ne]; omega
                      have t2 : (z == fr) = false := by rw [beq_eq_false_iff_ne]; exact hzf
                      rw [relabel_no (by rw [hz]; exact hzf)] at hM
                      have HM2 := Lib.hid hM
                      clear hM hz hzf
                      go_wp2
                      go_roundw
                      case rel => exact ⟨a + 1, by go_num, by omega, HM2.out⟩
                      case measure => simp [intOf] <;> omega
                  · obtain rfl : a = k + 1 := by omega
                    have HE := Lib.hid (And.intro HG.out.1 hM)
                    clear hM HMU HG HX
                    go_wp2
                    go_roundw
                    case rel => exact ⟨j + 1, relabel g (k + 1) fr tg, by go_num, by omega, HE.out.1, HE.out.2⟩
                    case measure => simp [intOf] <;> omega
              · have huv : g j = g k := by rw [HX.out.1.2.2.1, HX.out.1.2.2.2]; simpa using f2
                have HN := Lib.hid (And.intro (HX.out.2.1.skip (.inr huv)) (HX.out.2.2.below T0))
                clear T0 x0 x1 y0 y1 q1 q2 cA cB HX huv
                go_wp2
                go_roundw
                case rel => exact ⟨j + 1, g, by go_num, by omega, HN.out.1, HN.out.2⟩
                case measure => simp [intOf] <;> omega
          · go_wp2
            refine wp_region_noPanic ?_
            refine wp_region_g (S := untilG [] (fun X => Below wr.heap.size wr X)) (by kernel_rfl) ?_
            have T0 : Below wr.heap.size wr wr.drew := (Below.refl _ _).drew
            obtain ⟨X0, hX0⟩ : ∃ X, wr.drew = X := ⟨_, rfl⟩
            rw [hX0] at T0 ⊢
            clear hX0
            refine wpAnyG_take [0, 3, 4, 5, 6, 7, 8, 9, 10, 11, 12, 13, 14, 15, 16, 17, 18, 19, 20, 21, 22] (i := 0) (v := (.agg #[.slice ol s.L.length cl, .slice os s.S.length cs])) rfl (by kernel_rfl) (by kernel_rfl) (by kernel_rfl) (by kernel_rfl) (by kernel_rfl) (by kernel_rfl) (by kernel_rfl) (by kernel_rfl) (fun _ _ _ h => h) (Or.inl ⟨by rfl, ?hy⟩) T0 ?_
            case hy =>
              intro X hX
              have e0 := at_below x0 hX
              have e1 := at_below x1 hX
              go_simp
            try simp only [Act.put, List.getElem_toArray, List.getElem_cons_zero, List.getElem_cons_succ, List.setIfInBounds_toArray, List.set_cons_zero, List.set_cons_succ]
            refine wpAnyG_take [1, 3, 4, 5, 6, 7, 8, 9, 10, 11, 12, 13, 14, 15, 16, 17, 18, 19, 20, 21, 22] (i := 1) (v := (.int .i64 (j : Nat))) rfl (by kernel_rfl) (by kernel_rfl) (by kernel_rfl) (by kernel_rfl) (by kernel_rfl) (by kernel_rfl) (by kernel_rfl) (by kernel_rfl) (fun _ _ _ h => h) (Or.inl ⟨by rfl, ?hy⟩) T0 ?_
            case hy =>
              intro X hX
              go_simp
            try simp only [Act.put, List.getElem_toArray, List.getElem_cons_zero, List.getElem_cons_succ, List.setIfInBounds_toArray, List.set_cons_zero, List.set_cons_succ]
            refine wpAnyG_all (rs := [2]) (by kernel_rfl) (by simp) ?_
            intro i hi
            simp only [List.mem_cons, List.not_mem_nil, or_false] at hi
            subst hi
            refine wpOp_now rfl rfl ?_
            go_simp
            refine ⟨fun _ => T0, ?_⟩
            try simp only [Act.put, List.getElem_toArray, List.getElem_cons_zero, List.getElem_cons_succ, List.setIfInBounds_toArray, List.set_cons_zero, List.set_cons_succ]
            refine wpAnyG_all (rs := [3]) (by kernel_rfl) (by simp) ?_
            intro i hi
            simp only [List.mem_cons, List.not_mem_nil, or_false] at hi
            subst hi
            refine wpOp_now rfl rfl ?_
            go_simp
            refine (cA _ ((HR.out.1.1.below encR_len (by decide) HX.out.2.2.bel).below encR_len (by decide) T0)).mono ?_
            rintro e Y3 ⟨rfl, hB⟩
            replace T0 := T0.trans (hB.mono T0.size)
            clear hB
            refine ⟨fun _ => T0, ?_⟩
            try simp only [Act.put, List.getElem_toArray, List.getElem_cons_zero, List.getElem_cons_succ, List.setIfInBounds_toArray, List.set_cons_zero, List.set_cons_succ]
            refine wpAnyG_all (rs := [4]) (by kernel_rfl) (by simp) ?_
            intro i hi
            simp only [List.mem_cons, List.not_mem_nil, or_false] at hi
            subst hi
            refine wpOp_now rfl rfl ?_
            go_simp
            refine ⟨fun _ => T0, ?_⟩
            try simp only [Act.put, List.getElem_toArray, List.getElem_cons_zero, List.getElem_cons_succ, List.setIfInBounds_toArray, List.set_cons_zero, List.set_cons_succ]
            refine wpAnyG_all (rs := [5]) (by kernel_rfl) (by simp) ?_
            intro i hi
            simp only [List.mem_cons, List.not_mem_nil, or_false] at hi
            subst hi
            refine wpOp_now rfl rfl ?_
            go_simp
            refine ⟨fun _ => T0, ?_⟩
            try simp only [Act.put, List.getElem_toArray, List.getElem_cons_zero, List.getElem_cons_succ, List.setIfInBounds_toArray, List.set_cons_zero, List.set_cons_succ]
            refine wpAnyG_take [6, 9, 10, 11, 12, 13, 14, 15, 16, 17, 18, 19, 20, 21, 22] (i := 6) (v := undef) rfl (by kernel_rfl) (by kernel_rfl) (by kernel_rfl) (by kernel_rfl) (by kernel_rfl) (by kernel_rfl) (by kernel_rfl) (by kernel_rfl) (fun _ _ _ h => h) (Or.inr ⟨by rfl, rfl⟩) T0 ?_
            try simp only [Act.put, List.getElem_toArray, List.getElem_cons_zero, List.getElem_cons_succ, List.setIfInBounds_toArray, List.set_cons_zero, List.set_cons_succ]
            refine wpAnyG_take [7, 9, 10, 11, 12, 13, 14, 15, 16, 17, 18, 19, 20, 21, 22] (i := 7) (v := undef) rfl (by kernel_rfl) (by kernel_rfl) (by kernel_rfl) (by kernel_rfl) (by kernel_rfl) (by kernel_rfl) (by kernel_rfl) (by kernel_rfl) (fun _ _ _ h => h) (Or.inr ⟨by rfl, rfl⟩) T0 ?_
            try simp only [Act.put, List.getElem_toArray, List.getElem_cons_zero, List.getElem_cons_succ, List.setIfInBounds_toArray, List.set_cons_zero, List.set_cons_succ]
            refine wpAnyG_take [8, 9, 10, 11, 12, 13, 14, 15, 16, 17, 18, 19, 20, 21, 22] (i := 8) (v := undef) rfl (by kernel_rfl) (by kernel_rfl) (by kernel_rfl) (by kernel_rfl) (by kernel_rfl) (by kernel_rfl) (by kernel_rfl) (by kernel_rfl) (fun _ _ _ h => h) (Or.inr ⟨by rfl, rfl⟩) T0 ?_
            try simp only [Act.put, List.getElem_toArray, List.getElem_cons_zero, List.getElem_cons_succ, List.setIfInBounds_toArray, List.set_cons_zero, List.set_cons_succ]
            refine wpAnyG_take [9, 10, 11, 12, 13, 14, 15, 16, 17, 18, 19, 20, 21, 22] (i := 9) (v := undef) rfl (by kernel_rfl) (by kernel_rfl) (by kernel_rfl) (by kernel_rfl) (by kernel_rfl) (by kernel_rfl) (by kernel_rfl) (by kernel_rfl) (fun _ _ _ h => h) (Or.inr ⟨by rfl, rfl⟩) T0 ?_
            try simp only [Act.put, List.getElem_toArray, List.getElem_cons_zero, List.getElem_cons_succ, List.setIfInBounds_toArray, List.set_cons_zero, List.set_cons_succ]
            refine wpAnyG_take [10, 11, 12, 13, 14, 15, 16, 17, 18, 19, 20, 21, 22] (i := 10) (v := undef) rfl (by kernel_rfl) (by kernel_rfl) (by kernel_rfl) (by kernel_rfl) (by kernel_rfl) (by kernel_rfl) (by kernel_rfl) (by kernel_rfl) (fun _ _ _ h => h) (Or.inr ⟨by rfl, rfl⟩) T0 ?_
            try simp only [Act.put, List.getElem_toArray, List.getElem_cons_zero, List.getElem_cons_succ, List.setIfInBounds_toArray, List.set_cons_zero, List.set_cons_succ]
            refine wpAnyG_all (rs := [11]) (by kernel_rfl) (by simp) ?_
            intro i hi
            simp only [List.mem_cons, List.not_mem_nil, or_false] at hi
            subst hi
            refine wpOp_now rfl rfl ?_
            go_simp
            refine ⟨fun _ => T0, ?_⟩
            try simp only [Act.put, List.getElem_toArray, List.getElem_cons_zero, List.getElem_cons_succ, List.setIfInBounds_toArray, List.set_cons_zero, List.set_cons_succ]
            refine wpAnyG_all (rs := [12]) (by kernel_rfl) (by simp) ?_
            intro i hi
            simp only [List.mem_cons, List.not_mem_nil, or_false] at hi
            subst hi
            refine wpOp_now rfl rfl ?_
            go_simp
            refine ⟨fun _ => T0, ?_⟩
            try simp only [Act.put, List.getElem_toArray, List.getElem_cons_zero, List.getElem_cons_succ, List.setIfInBounds_toArray, List.set_cons_zero, List.set_cons_succ]
            refine wpAnyG_take [13, 15, 16, 21, 22] (i := 13) (v := (.slice (some ⟨G, 0, none⟩) s.L.length s.L.length)) rfl (by kernel_rfl) (by kernel_rfl) (by kernel_rfl) (by kernel_rfl) (by kernel_rfl) (by kernel_rfl) (by kernel_rfl) (by kernel_rfl) (fun _ _ _ h => h) (Or.inl ⟨by rfl, ?hy⟩) T0 ?_
            case hy =>
              intro X hX
              go_simp
            try simp only [Act.put, List.getElem_toArray, List.getElem_cons_zero, List.getElem_cons_succ, List.setIfInBounds_toArray, List.set_cons_zero, List.set_cons_succ]
            refine wpAnyG_take [14, 15, 16, 21, 22] (i := 14) (v := (.int .i64 (j : Nat))) rfl (by kernel_rfl) (by kernel_rfl) (by kernel_rfl) (by kernel_rfl) (by kernel_rfl) (by kernel_rfl) (by kernel_rfl) (by kernel_rfl) (fun _ _ _ h => h) (Or.inl ⟨by rfl, ?hy⟩) T0 ?_
            case hy =>
              intro X hX
              go_simp
            try simp only [Act.put, List.getElem_toArray, List.getElem_cons_zero, List.getElem_cons_succ, List.setIfInBounds_toArray, List.set_cons_zero, List.set_cons_succ]
            refine wpAnyG_take [15, 16, 21, 22] (i := 15) (v := (.pointer (some ⟨G, j, none⟩))) rfl (by kernel_rfl) (by kernel_rfl) (by kernel_rfl) (by kernel_rfl) (by kernel_rfl) (by kernel_rfl) (by kernel_rfl) (by kernel_rfl) (fun _ _ _ h => h) (Or.inl ⟨by rfl, ?hy⟩) T0 ?_
            case hy =>
              intro X hX
              go_simp
            try simp only [Act.put, List.getElem_toArray, List.getElem_cons_zero, List.getElem_cons_succ, List.setIfInBounds_toArray, List.set_cons_zero, List.set_cons_succ]
            refine wpAnyG_take [16, 21, 22] (i := 16) (v := (.int .i64 (u : Nat))) rfl (by kernel_rfl) (by kernel_rfl) (by kernel_rfl) (by kernel_rfl) (by kernel_rfl) (by kernel_rfl) (by kernel_rfl) (by kernel_rfl) (fun _ _ _ h => h) (Or.inl ⟨by rfl, ?hy⟩) T0 ?_
            case hy =>
              intro X hX
              have e0 := at_below q1 hX
              go_simp
            try simp only [Act.put, List.getElem_toArray, List.getElem_cons_zero, List.getElem_cons_succ, List.setIfInBounds_toArray, List.set_cons_zero, List.set_cons_succ]
            refine wpAnyG_take [17, 19, 20, 21, 22] (i := 17) (v := (.slice (some ⟨G, 0, none⟩) s.L.length s.L.length)) rfl (by kernel_rfl) (by kernel_rfl) (by kernel_rfl) (by kernel_rfl) (by kernel_rfl) (by kernel_rfl) (by kernel_rfl) (by kernel_rfl) (fun _ _ _ h => h) (Or.inl ⟨by rfl, ?hy⟩) T0 ?_
            case hy =>
              intro X hX
              go_simp
            try simp only [Act.put, List.getElem_toArray, List.getElem_cons_zero, List.getElem_cons_succ, List.setIfInBounds_toArray, List.set_cons_zero, List.set_cons_succ]
            refine wpAnyG_all (rs := [18]) (by kernel_rfl) (by simp) ?_
            intro i hi
            simp only [List.mem_cons, List.not_mem_nil, or_false] at hi
            subst hi
            refine wpOp_open rfl (by rfl) ?_
            go_simp
            refine ⟨fun _ => T0, ?_⟩
            try simp only [Act.put, List.getElem_toArray, List.getElem_cons_zero, List.getElem_cons_succ, List.setIfInBounds_toArray, List.set_cons_zero, List.set_cons_succ]
            refine wpAnyG_take [19, 20, 21, 22] (i := 19) (v := (.pointer (some ⟨G, k, none⟩))) rfl (by kernel_rfl) (by kernel_rfl) (by kernel_rfl) (by kernel_rfl) (by kernel_rfl) (by kernel_rfl) (by kernel_rfl) (by kernel_rfl) (fun _ _ _ h => h) (Or.inl ⟨by rfl, ?hy⟩) T0 ?_
            case hy =>
              intro X hX
              go_simp
            try simp only [Act.put, List.getElem_toArray, List.getElem_cons_zero, List.getElem_cons_succ, List.setIfInBounds_toArray, List.set_cons_zero, List.set_cons_succ]
            refine wpAnyG_take [20, 21, 22] (i := 20) (v := (.int .i64 (v : Nat))) rfl (by kernel_rfl) (by kernel_rfl) (by kernel_rfl) (by kernel_rfl) (by kernel_rfl) (by kernel_rfl) (by kernel_rfl) (by kernel_rfl) (fun _ _ _ h => h) (Or.inl ⟨by rfl, ?hy⟩) T0 ?_
            case hy =>
              intro X hX
              have e0 := at_below q2 hX
              go_simp
            try simp only [Act.put, List.getElem_toArray, List.getElem_cons_zero, List.getElem_cons_succ, List.setIfInBounds_toArray, List.set_cons_zero, List.set_cons_succ]
            refine wpAnyG_take [21, 22] (i := 21) (v := (.bool F)) rfl (by kernel_rfl) (by kernel_rfl) (by kernel_rfl) (by kernel_rfl) (by kernel_rfl) (by kernel_rfl) (by kernel_rfl) (by kernel_rfl) (fun _ _ _ h => h) (Or.inl ⟨by rfl, ?hy⟩) T0 ?_
            case hy =>
              intro X hX
              go_simp
            try simp only [Act.put, List.getElem_toArray, List.getElem_cons_zero, List.getElem_cons_succ, List.setIfInBounds_toArray, List.set_cons_zero, List.set_cons_succ]
            refine wpAnyG_all (rs := [22]) (by kernel_rfl) (by simp) ?_
            intro i hi
            simp only [List.mem_cons, List.not_mem_nil, or_false] at hi
            subst hi
            refine wpOp_now rfl rfl ?_
            go_simp
            refine ⟨fun _ => T0, ?_⟩
            try simp only [Act.put, List.getElem_toArray, List.getElem_cons_zero, List.getElem_cons_succ, List.setIfInBounds_toArray, List.set_cons_zero, List.set_cons_succ]
            refine wpAnyG_done (by kernel_rfl) ?_ _
            refine NoPanic.normal ?_
            cases F
            · skip
              have hrel : relJ s.L t.L j k := .inl HX.out.1.1
              have hne : g j ≠ g k := by
                rw [HX.out.1.2.2.1, HX.out.1.2.2.2]
                intro h
                subst h
                simp at f1
              have hMg := HX.out.2.1.merge hjk hrel hne
              rw [HX.out.1.2.2.1, HX.out.1.2.2.2] at hMg
              have hM2 := HX.out.2.2.below T0
              have r1 := at_below q1 T0
              have r2 := at_below q2 T0
              have m1 : (if u < v then (v : Int) else (u : Int)) = ((max u v : Nat) : Int) := by split <;> omega
              have m2 : (if v < u then (v : Int) else (u : Int)) = ((min u v : Nat) : Int) := by split <;> omega
              obtain ⟨fr, hfr⟩ : ∃ a, max u v = a := ⟨_, rfl⟩
              obtain ⟨tg, htg⟩ : ∃ a, min u v = a := ⟨_, rfl⟩
              rw [hfr] at m1 hMg
              rw [htg] at m2 hMg
              have s1 : IntKind.i64.wrap ((k : Int) + 1) = ((k + 1 : Nat) : Int) := by rw [IntWalk.i64_in _ (by omega)]; omega
              have HG := Lib.hid (And.intro hMg hM2)
              have M1 := Lib.hid m1
              have M2 := Lib.hid m2
              clear m1 m2 hMg hM2 hrel hne T0 x0 x1 y0 y1 q1 q2 cA cB hfr htg
              go_wp2
              go_quiet (fail)
              rw [M1.out, M2.out]
              clear M1 M2
              generalize hU : World.drewN Y3 _ = U
              have hMU := HG.out.2.below (hU ▸ below_drewN Y3 _)
              have HMU := Lib.hid hMU
              clear hU hMU r1 r2
              go_wp2
              go_loopw [80] (fun i X => ∃ a : Nat, i = .int .i64 a ∧ a ≤ k + 1 ∧ MkR w X #[.slice ol s.L.length cl, .slice os s.S.length cs] #[.slice ol' t.L.length cl', .slice os' t.S.length cs'] G s.L.length (relabel g a fr tg)) (fun i _ => k + 1 - (intOf i).toNat)
              case atStart => exact ⟨0, rfl, Nat.zero_le _, by rw [relabel_zero]; exact HMU.out⟩
              case round =>
                obtain ⟨a, rfl, ha, hM⟩ := hrel
                by_cases hak : a < k + 1
                · have c0 := hM.get (show a < s.L.length by omega)
                  rw [relabel_at] at c0
                  obtain ⟨z, hz⟩ : ∃ z, g a = z := ⟨_, rfl⟩
                  rw [hz] at c0
                  have haN : (a : Int) < (s.L.length : Int) := by omega
                  have haK : (a : Int) < ((k + 1 : Nat) : Int) := by omega
                  by_cases hzf : z = fr
                  · have t1 : ((z : Int) == (fr : Int)) = true := by rw [hzf]; simp
                    have t2 : (z == fr) = true := by rw [hzf]; simp
                    have hM2 := hM.put (show a < s.L.length by omega) tg
                    rw [relabel_yes (hz.trans hzf)] at hM2
                    have f2 := hM.free a
                    obtain ⟨V, hV⟩ : ∃ V, wr.setCell ⟨G, a, none⟩ (.int .i64 tg) = V := ⟨_, rfl⟩
                    rw [hV] at hM2
                    have HM2 := Lib.hid hM2
                    clear hM hM2 hz hzf
                    go_wp2
                    try rw [hV]
                    clear hV
                    go_roundw
                    case rel => exact ⟨a + 1, by go_num, by omega, HM2.out⟩
                    case measure => simp [intOf] <;> omega
                  · have t1 : ((z : Int) == (fr : Int)) = false := by rw [beq_eq_false_iff_ne]; omega
                    have t2 : (z == fr) = false := by rw [beq_eq_false_iff_ne]; exact hzf
                    rw [relabel_no (by rw [hz]; exact hzf)] at hM
                    have HM2 := Lib.hid hM
                    clear hM hz hzf
                    go_wp2
                    go_roundw
                    case rel => exact ⟨a + 1, by go_num, by omega, HM2.out⟩
                    case measure => simp [intOf] <;> omega
                · obtain rfl : a = k + 1 := by omega
                  have HE := Lib.hid (And.intro HG.out.1 hM)
                  clear hM HMU HG HX
                  go_wp2
                  go_roundw
                  case rel => exact ⟨j + 1, relabel g (k + 1) fr tg, by go_num, by omega, HE.out.1, HE.out.2⟩
                  case measure => simp [intOf] <;> omega
            · have huv : g j = g k := by rw [HX.out.1.2.2.1, HX.out.1.2.2.2]; simpa using f2
              have HN := Lib.hid (And.intro (HX.out.2.1.skip (.inr huv)) (HX.out.2.2.below T0))
              clear T0 x0 x1 y0 y1 q1 q2 cA cB HX huv
              go_wp2
              go_roundw
              case rel => exact ⟨j + 1, g, by go_num, by omega, HN.out.1, HN.out.2⟩
              case measure => simp [intOf] <;> omega
        · obtain rfl : j = k := by omega
          have HE := Lib.hid (And.intro hO.done hM)
          clear hM hO HM
          go_wp2
          go_roundw
          case rel => exact ⟨j + 1, g, by go_num, by omega, HE.out.1, HE.out.2⟩
          case measure => simp [intOf] <;> omega
    · obtain rfl : k = s.L.length := by omega
      have x0 : wr.cell? ⟨w.heap.size, 0, none⟩ = some (.slice ol s.L.length cl) := hM.ba.cell 0
      have x1 : wr.cell? ⟨w.heap.size, 1, none⟩ = some (.slice os s.S.length cs) := hM.ba.cell 1
      have y0 : wr.cell? ⟨w.heap.size + 1, 0, none⟩ = some (.slice ol' t.L.length cl') := hM.bb.cell 0
      have y1 : wr.cell? ⟨w.heap.size + 1, 1, none⟩ = some (.slice os' t.S.length cs') := hM.bb.cell 1
      have HE := Lib.hid (And.intro hP hM)
      have hlt3 : w.heap.size + 3 ≤ wr.heap.size := by have := hM.res.lt; omega
      clear hP hM hlt hk
      go_wp2_with (fail)
      refine (together_any s t f ol os ol' os' (some ⟨G, 0, none⟩) cl cs cl' cs' s.L.length hfs HR.out.2.1 h1 (by omega) (fun i hi => HE.out.1.le i hi) _ (HR.out.1.1.below encR_len (by decide) HE.out.2.bel) (HR.out.2.2.1.below encI_len (by decide) HE.out.2.bel) (HR.out.1.2.below encR_len (by decide) HE.out.2.bel) HE.out.2.rowAt).mono ?_
      rintro e Z ⟨vl, vs, rfl, hL, hS, hB⟩
      obtain ⟨R, hR⟩ : ∃ R, togR s t f = R := ⟨_, rfl⟩
      rw [hR] at hL hS ⊢
      obtain ⟨o4, c4, rfl, _⟩ := own_slice hL
      obtain ⟨o5, c5, rfl, _⟩ := own_slice hS
      have hM := HE.out.2.below hB
      obtain ⟨g0, g1, r0, r1, rB⟩ := fin3 hM.res hL hS hlt3 hM.bel
      have f0 := hM.res.frozen 0
      have f1 := hM.res.frozen 1
      have n0 : Z.cell? ⟨w.heap.size + 2, 0, none⟩ = some (.slice none 0 0) := hM.res.cell 0
      have n1 : Z.cell? ⟨w.heap.size + 2, 1, none⟩ = some (.slice none 0 0) := hM.res.cell 1
      obtain ⟨a4, ha4⟩ : ∃ a, R.1.L.length = a := ⟨_, rfl⟩
      obtain ⟨a5, ha5⟩ : ∃ a, R.1.S.length = a := ⟨_, rfl⟩
      obtain ⟨a6, ha6⟩ : ∃ a, R.2 = a := ⟨_, rfl⟩
      have HA := Lib.hid (And.intro hR (And.intro ha4 (And.intro ha5 ha6)))
      simp only [ha4, ha5] at g0 g1 r0 r1 rB
      rw [ha4, ha5, ha6]
      obtain ⟨F, hF⟩ : ∃ F, (Z.setCell ⟨w.heap.size + 2, 0, none⟩ (.slice o4 a4 c4)).setCell ⟨w.heap.size + 2, 1, none⟩ (.slice o5 a5 c5) = F := ⟨_, rfl⟩
      rw [hF] at g0 g1 r0 r1 rB
      have HF := Lib.hid (And.intro r0 (And.intro r1 rB))
      clear r0 r1 rB hM hB hL hS x0 x1 y0 y1 hR ha4 ha5 ha6 hlt3
      go_wp2
      try rw [hF]
      clear hF
      exact bodyPost_ret (v := .tuple #[.agg #[.slice o4 a4 c4, .slice o5 a5 c5], .int .i64 a6]) (by simp [results, Try.f25, go_sem, g0, g1]) rfl (by
        obtain ⟨k1, k2, k3, k4⟩ := HA.out
        refine ⟨f, .slice o4 a4 c4, .slice o5 a5 c5, HE.out.1, ?_, ?_, ?_, HF.out.2.2⟩
        · rw [k1, k4]
        · rw [k1, k2]; exact HF.out.1
        · rw [k1, k3]; exact HF.out.2.1)
end Go.Proofs.Ytdcmkiggnmajgaa
