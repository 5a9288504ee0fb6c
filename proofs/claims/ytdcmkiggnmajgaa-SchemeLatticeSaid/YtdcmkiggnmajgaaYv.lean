/- Stage 16: Within, the program's. -/
import Derived.Test.YtdcmkiggnmajgaaYu
namespace Go.Proofs.Ytdcmkiggnmajgaa
set_option linter.unusedVariables false
set_option linter.unusedSimpArgs false
open Go Go.RowKit Go.Shelf
set_option maxRecDepth 100000

set_option maxHeartbeats 8000000 in
theorem within_any (s t : Sc) (ol os ol' os' : Option Addr) (cl cs cl' cs' : Nat) (hms : mayB s = true) (hmt : mayB t = true) (hlen : t.L.length = s.L.length) (w : World) (hr : RowAt w encR 2 ol s.L) (ht : RowAt w encI 1 os s.S) (hr' : RowAt w encR 2 ol' t.L) (ht' : RowAt w encI 1 os' t.S) :
    Calls Try.prog 23 #[.agg #[.slice ol s.L.length cl, .slice os s.S.length cs], .agg #[.slice ol' t.L.length cl', .slice os' t.S.length cs']] w fun e w' => e = .returned (.tuple #[.bool (withinB s.L t.L), .int .i64 0]) ∧ Below w.heap.size w w' := by
  obtain ⟨h1, h2, h3⟩ := may_parts hms
  obtain ⟨h1', _, h3'⟩ := may_parts hmt
  have hB0 := ((Below.refl _ w).alloc (Nat.le_refl _) (.cells #[.slice ol s.L.length cl, .slice os s.S.length cs] 25)).alloc (by simp) (.cells #[.slice ol' t.L.length cl', .slice os' t.S.length cs'] 25)
  have bA := (Blk.new w #[.slice ol s.L.length cl, .slice os s.S.length cs] 25).alloc (.cells #[.slice ol' t.L.length cl', .slice os' t.S.length cs'] 25)
  have bB := Blk.new (w.alloc (.cells #[.slice ol s.L.length cl, .slice os s.S.length cs] 25)) #[.slice ol' t.L.length cl', .slice os' t.S.length cs'] 25
  rw [World.size_alloc] at bB
  have cO := fun W a b c d => both_any s t ol os ol' os' cl cs cl' cs' (by omega) (by omega) (by omega) (by omega) W a b c d
  rw [show bothB s t = true by simp [bothB, hms, hmt, hlen]] at cO
  simp only [if_true] at cO
  have H := Lib.hid (And.intro bA (And.intro bB hB0))
  have HR := Lib.hid (And.intro (And.intro hr ht) (And.intro (And.intro hr' ht') (And.intro h2 hlen)))
  obtain ⟨E, hE⟩ : ∃ E, withinB s.L t.L = E := ⟨_, rfl⟩
  rw [hE]
  have HE := Lib.hid hE
  clear bA bB hB0 hr ht hr' ht' hlen hE hms hmt h2
  go_enter Try.func23, Try.ntmps23
  go_wp2_with (fail)
  refine (cO _ (HR.out.1.1.below encR_len (by decide) H.out.2.2) (HR.out.1.2.below encI_len (by decide) H.out.2.2) (HR.out.2.1.1.below encR_len (by decide) H.out.2.2) (HR.out.2.1.2.below encI_len (by decide) H.out.2.2)).mono ?_
  rintro e W1 ⟨rfl, hB⟩
  replace H := Lib.hid (And.intro (H.out.1.below' hB) (And.intro (H.out.2.1.below' hB) (H.out.2.2.trans (hB.mono H.out.2.2.size))))
  clear hB cO
  have x0 : W1.cell? ⟨w.heap.size, 0, none⟩ = some (.slice ol s.L.length cl) := H.out.1.cell 0
  have x1 : W1.cell? ⟨w.heap.size, 1, none⟩ = some (.slice os s.S.length cs) := H.out.1.cell 1
  go_wp2_with (fail)
  refine (firsts_any s ol os cl cs (by omega) HR.out.2.2.1 _ (HR.out.1.1.below encR_len (by decide) H.out.2.2)).mono ?_
  rintro e Y ⟨fc, rfl, hfc, hbY⟩
  have hi2 : (Try.prog.info? 88).map (·.size) = some fc.size := by rw [hfc.1]; kernel_rfl
  have hA := heap_alloc_new Y (.cells #[.int .i64 0, .int .i64 0, .int .i64 0, .int .i64 0, .int .i64 0, .int .i64 0, .int .i64 0, .int .i64 0, .int .i64 0, .int .i64 0, .int .i64 0, .int .i64 0, .int .i64 0, .int .i64 0, .int .i64 0, .int .i64 0, .int .i64 0, .int .i64 0, .int .i64 0, .int .i64 0, .int .i64 0, .int .i64 0, .int .i64 0, .int .i64 0, .int .i64 0] 88)
  have hz : (#[.int .i64 0, .int .i64 0, .int .i64 0, .int .i64 0, .int .i64 0, .int .i64 0, .int .i64 0, .int .i64 0, .int .i64 0, .int .i64 0, .int .i64 0, .int .i64 0, .int .i64 0, .int .i64 0, .int .i64 0, .int .i64 0, .int .i64 0, .int .i64 0, .int .i64 0, .int .i64 0, .int .i64 0, .int .i64 0, .int .i64 0, .int .i64 0, .int .i64 0] : Array Value).size = fc.size := by rw [hfc.1]; rfl
  obtain ⟨Y1, hY1⟩ : ∃ Y1, (Y.alloc (.cells #[.int .i64 0, .int .i64 0, .int .i64 0, .int .i64 0, .int .i64 0, .int .i64 0, .int .i64 0, .int .i64 0, .int .i64 0, .int .i64 0, .int .i64 0, .int .i64 0, .int .i64 0, .int .i64 0, .int .i64 0, .int .i64 0, .int .i64 0, .int .i64 0, .int .i64 0, .int .i64 0, .int .i64 0, .int .i64 0, .int .i64 0, .int .i64 0, .int .i64 0] 88)).setRow Y.heap.size fc = Y1 := ⟨_, rfl⟩
  have b6 : Blk Y1 Y.heap.size fc 88 := hY1 ▸ setRow_heap _ _ _ _ _ _ hA
  have hB6 : Below Y.heap.size Y Y1 := hY1 ▸ below_setRow ((Below.refl _ _).alloc (Nat.le_refl _) _) (Nat.le_refl _) fc
  have hB8 : Below W1.heap.size W1 Y1 := hbY.trans (hB6.mono hbY.size)
  have HY := Lib.hid (And.intro hi2 (And.intro hA (And.intro hz (And.intro hfc hY1))))
  have y0 : Y1.cell? ⟨w.heap.size, 0, none⟩ = some (.slice ol s.L.length cl) := at_below x0 hB8
  replace H := Lib.hid (And.intro (H.out.1.below' hB8) (And.intro (H.out.2.1.below' hB8) (And.intro (H.out.2.2.trans (hB8.mono H.out.2.2.size)) b6)))
  have HF := Lib.hid hfc
  clear hi2 hA hz hfc hY1 b6 hB6 hB8 hbY x0 x1
  go_wp2_with (refine wpList_store_row rfl 88 _ _ rfl Y.heap.size fc rfl rfl 88 #[.int .i64 0, .int .i64 0, .int .i64 0, .int .i64 0, .int .i64 0, .int .i64 0, .int .i64 0, .int .i64 0, .int .i64 0, .int .i64 0, .int .i64 0, .int .i64 0, .int .i64 0, .int .i64 0, .int .i64 0, .int .i64 0, .int .i64 0, .int .i64 0, .int .i64 0, .int .i64 0, .int .i64 0, .int .i64 0, .int .i64 0, .int .i64 0, .int .i64 0] HY.out.2.1 HY.out.1 HY.out.2.2.1 HY.out.2.2.2.1.2.1 ?_; rw [HY.out.2.2.2.2])
  obtain ⟨Q, hQ⟩ : ∃ Q, Y.heap.size = Q := ⟨_, rfl⟩
  rw [hQ] at H ⊢
  clear hQ HY y0
  go_loopw [21] (fun i X => ∃ k : Nat, i = .int .i64 k ∧ k ≤ s.L.length ∧ (∀ j x f u v, j < k → s.L[j]? = some x → 0 ≤ x.c → fidx s.L 0 x.c = ((f : Nat) : Int) → t.L[f]? = some u → t.L[j]? = some v → alkB f j u v = true) ∧ Below Y1.heap.size Y1 X) (fun i _ => s.L.length - (intOf i).toNat)
  case atStart => exact ⟨0, rfl, Nat.zero_le _, fun j x f u v h => by omega, Below.refl _ _⟩
  case round =>
    obtain ⟨k, rfl, hk, hall, hB⟩ := hrel
    have HI := Lib.hid (And.intro hall hB)
    clear hall hB
    by_cases hlt : k < s.L.length
    · obtain ⟨x, hx⟩ : ∃ x, s.L[k]? = some x := ⟨_, List.getElem?_eq_getElem hlt⟩
      obtain ⟨v, hv⟩ : ∃ x, t.L[k]? = some x := ⟨_, List.getElem?_eq_getElem (by rw [HR.out.2.2.2]; exact hlt)⟩
      have hok := (okR_iff x).1 (List.all_eq_true.1 HR.out.2.2.1 x (List.mem_of_getElem? hx))
      obtain ⟨f, hf, hfk, _, _⟩ := fidx_at hx
      obtain ⟨u, hu⟩ : ∃ x, t.L[f]? = some x := ⟨_, List.getElem?_eq_getElem (by rw [HR.out.2.2.2]; omega)⟩
      obtain ⟨g, off, rfl, hc⟩ := ((HR.out.1.1.below encR_len (by decide) H.out.2.2.1).below encR_len (by decide) HI.out.2) k x hx
      have q0 := hc 0 (by decide)
      have q1 := hc 1 (by decide)
      have HX := Lib.hid (And.intro hx (And.intro hv (And.intro hu hf)))
      obtain ⟨cx, r⟩ := x
      simp only [encR, List.getElem?_cons_succ, List.getElem?_cons_zero, Nat.add_zero] at q0 q1
      simp only at hok hf
      obtain ⟨ok1, ok2, ok3, ok4, ok5⟩ := hok
      clear ok5
      have hba := (Below.refl wr.heap.size wr).alloc (Nat.le_refl _) (.cells #[.int .i64 cx, .int .i64 r] 79)
      have b10 := Blk.new wr #[.int .i64 cx, .int .i64 r] 79
      have hBW := HI.out.2.trans (hba.mono HI.out.2.size)
      obtain ⟨W', hW'⟩ : ∃ W', wr.alloc (.cells #[.int .i64 cx, .int .i64 r] 79) = W' := ⟨_, rfl⟩
      obtain ⟨Q10, hQ10⟩ : ∃ Q, wr.heap.size = Q := ⟨_, rfl⟩
      rw [hW'] at hBW b10
      rw [hQ10] at b10
      have y10 : W'.cell? ⟨Q10, 0, none⟩ = some (.int .i64 cx) := b10.cell 0
      have z0 : W'.cell? ⟨w.heap.size + 1, 0, none⟩ = some (.slice ol' t.L.length cl') := (H.out.2.1.below' hBW).cell 0
      have z1 : W'.cell? ⟨w.heap.size + 1, 1, none⟩ = some (.slice os' t.S.length cs') := (H.out.2.1.below' hBW).cell 1
      have HBW := Lib.hid hBW
      clear hc hba b10 hBW hx hv hu
      by_cases hneg : cx < 0
      · have d1 : decide ((0 : Int) ≤ cx) = false := decide_eq_false (by omega)
        go_wp2
        go_quiet (fail)
        go_wp2
        go_roundw
        case rel =>
          refine ⟨k + 1, by go_num, by omega, fun j x f u v h a b c d e => ?_, HBW.out.trans ((below_drewN _ _).mono HBW.out.size)⟩
          rcases (by omega : j < k ∨ j = k) with h1 | rfl
          · exact HI.out.1 j x f u v h1 a b c d e
          · have h2 := HX.out.1
            rw [a] at h2
            cases h2
            simp only at b
            omega
        case measure => simp [intOf]; omega
      · obtain ⟨cn, rfl⟩ : ∃ cn : Nat, cx = (cn : Int) := ⟨cx.toNat, by omega⟩
        have d1 : decide ((0 : Int) ≤ (cn : Int)) = true := decide_eq_true (by omega)
        have hcI : (cn : Int) < 25 := by omega
        have y6 : W'.cell? ⟨Q, cn, none⟩ = some (.int .i64 (f : Nat)) := by
          rw [(H.out.2.2.2.below' HBW.out).cell cn, HF.out.2.2 cn (by omega)]
          simpa using hf
        obtain ⟨F, hF⟩ : ∃ F, alkB f k u v = F := ⟨_, rfl⟩
        have cA := fun W h => alike_any t ol' os' cl' cs' (by omega) f k u v HX.out.2.2.1 HX.out.2.1 F hF W h
        have HFF := Lib.hid hF
        clear hF
        go_wp2
        refine wp_region_noPanic ?_
        refine wp_region_g (S := untilG [] (fun X => Below W'.heap.size W' X)) (by kernel_rfl) ?_
        have T0 : Below W'.heap.size W' W'.drew := (Below.refl _ _).drew
        obtain ⟨X0, hX0⟩ : ∃ X, W'.drew = X := ⟨_, rfl⟩
        rw [hX0] at T0 ⊢
        clear hX0
        refine wpAnyG_take [0, 1, 2, 3, 4, 5, 6, 7, 8, 9, 10, 11, 12] (i := 0) (v := (.pointer (some ⟨Q10, 0, none⟩))) rfl (by kernel_rfl) (by kernel_rfl) (by kernel_rfl) (by kernel_rfl) (by kernel_rfl) (by kernel_rfl) (by kernel_rfl) (by kernel_rfl) (fun _ _ _ h => h) (Or.inl ⟨by rfl, ?hy⟩) T0 ?_
        case hy =>
          intro X hX
          go_simp
        try simp only [Act.put, List.getElem_toArray, List.getElem_cons_zero, List.getElem_cons_succ, List.setIfInBounds_toArray, List.set_cons_zero, List.set_cons_succ]
        refine wpAnyG_take [1, 2, 3, 4, 5, 6, 7, 8, 9, 10, 11, 12] (i := 1) (v := (.int .i64 (cn : Nat))) rfl (by kernel_rfl) (by kernel_rfl) (by kernel_rfl) (by kernel_rfl) (by kernel_rfl) (by kernel_rfl) (by kernel_rfl) (by kernel_rfl) (fun _ _ _ h => h) (Or.inl ⟨by rfl, ?hy⟩) T0 ?_
        case hy =>
          intro X hX
          have e0 := at_below y10 hX
          go_simp
        try simp only [Act.put, List.getElem_toArray, List.getElem_cons_zero, List.getElem_cons_succ, List.setIfInBounds_toArray, List.set_cons_zero, List.set_cons_succ]
        refine wpAnyG_take [2, 3, 4, 5, 6, 7, 8, 9, 10, 11, 12] (i := 2) (v := (.bool true)) rfl (by kernel_rfl) (by kernel_rfl) (by kernel_rfl) (by kernel_rfl) (by kernel_rfl) (by kernel_rfl) (by kernel_rfl) (by kernel_rfl) (fun _ _ _ h => h) (Or.inl ⟨by rfl, ?hy⟩) T0 ?_
        case hy =>
          intro X hX
          go_simp
        try simp only [Act.put, List.getElem_toArray, List.getElem_cons_zero, List.getElem_cons_succ, List.setIfInBounds_toArray, List.set_cons_zero, List.set_cons_succ]
        refine wpAnyG_take [3, 4, 5, 6, 7, 8, 9, 10, 11, 12] (i := 3) (v := (.bool true)) rfl (by kernel_rfl) (by kernel_rfl) (by kernel_rfl) (by kernel_rfl) (by kernel_rfl) (by kernel_rfl) (by kernel_rfl) (by kernel_rfl) (fun _ _ _ h => h) (Or.inl ⟨by rfl, ?hy⟩) T0 ?_
        case hy =>
          intro X hX
          go_simp
        try simp only [Act.put, List.getElem_toArray, List.getElem_cons_zero, List.getElem_cons_succ, List.setIfInBounds_toArray, List.set_cons_zero, List.set_cons_succ]
        refine wpAnyG_take [4, 10, 11, 12] (i := 4) (v := (.agg #[.slice ol' t.L.length cl', .slice os' t.S.length cs'])) rfl (by kernel_rfl) (by kernel_rfl) (by kernel_rfl) (by kernel_rfl) (by kernel_rfl) (by kernel_rfl) (by kernel_rfl) (by kernel_rfl) (fun _ _ _ h => h) (Or.inl ⟨by rfl, ?hy⟩) T0 ?_
        case hy =>
          intro X hX
          have e0 := at_below z0 hX
          have e1 := at_below z1 hX
          go_simp
        try simp only [Act.put, List.getElem_toArray, List.getElem_cons_zero, List.getElem_cons_succ, List.setIfInBounds_toArray, List.set_cons_zero, List.set_cons_succ]
        refine wpAnyG_take [5, 6, 7, 8, 10, 11, 12] (i := 5) (v := (.pointer (some ⟨Q10, 0, none⟩))) rfl (by kernel_rfl) (by kernel_rfl) (by kernel_rfl) (by kernel_rfl) (by kernel_rfl) (by kernel_rfl) (by kernel_rfl) (by kernel_rfl) (fun _ _ _ h => h) (Or.inl ⟨by rfl, ?hy⟩) T0 ?_
        case hy =>
          intro X hX
          go_simp
        try simp only [Act.put, List.getElem_toArray, List.getElem_cons_zero, List.getElem_cons_succ, List.setIfInBounds_toArray, List.set_cons_zero, List.set_cons_succ]
        refine wpAnyG_take [6, 7, 8, 10, 11, 12] (i := 6) (v := (.int .i64 (cn : Nat))) rfl (by kernel_rfl) (by kernel_rfl) (by kernel_rfl) (by kernel_rfl) (by kernel_rfl) (by kernel_rfl) (by kernel_rfl) (by kernel_rfl) (fun _ _ _ h => h) (Or.inl ⟨by rfl, ?hy⟩) T0 ?_
        case hy =>
          intro X hX
          have e0 := at_below y10 hX
          go_simp
        try simp only [Act.put, List.getElem_toArray, List.getElem_cons_zero, List.getElem_cons_succ, List.setIfInBounds_toArray, List.set_cons_zero, List.set_cons_succ]
        refine wpAnyG_take [7, 8, 10, 11, 12] (i := 7) (v := (.pointer (some ⟨Q, cn, none⟩))) rfl (by kernel_rfl) (by kernel_rfl) (by kernel_rfl) (by kernel_rfl) (by kernel_rfl) (by kernel_rfl) (by kernel_rfl) (by kernel_rfl) (fun _ _ _ h => h) (Or.inl ⟨by rfl, ?hy⟩) T0 ?_
        case hy =>
          intro X hX
          go_simp
        try simp only [Act.put, List.getElem_toArray, List.getElem_cons_zero, List.getElem_cons_succ, List.setIfInBounds_toArray, List.set_cons_zero, List.set_cons_succ]
        refine wpAnyG_take [8, 10, 11, 12] (i := 8) (v := (.int .i64 (f : Nat))) rfl (by kernel_rfl) (by kernel_rfl) (by kernel_rfl) (by kernel_rfl) (by kernel_rfl) (by kernel_rfl) (by kernel_rfl) (by kernel_rfl) (fun _ _ _ h => h) (Or.inl ⟨by rfl, ?hy⟩) T0 ?_
        case hy =>
          intro X hX
          have e0 := at_below y6 hX
          go_simp
        try simp only [Act.put, List.getElem_toArray, List.getElem_cons_zero, List.getElem_cons_succ, List.setIfInBounds_toArray, List.set_cons_zero, List.set_cons_succ]
        refine wpAnyG_take [9, 10, 11, 12] (i := 9) (v := (.int .i64 (k : Nat))) rfl (by kernel_rfl) (by kernel_rfl) (by kernel_rfl) (by kernel_rfl) (by kernel_rfl) (by kernel_rfl) (by kernel_rfl) (by kernel_rfl) (fun _ _ _ h => h) (Or.inl ⟨by rfl, ?hy⟩) T0 ?_
        case hy =>
          intro X hX
          go_simp
        try simp only [Act.put, List.getElem_toArray, List.getElem_cons_zero, List.getElem_cons_succ, List.setIfInBounds_toArray, List.set_cons_zero, List.set_cons_succ]
        refine wpAnyG_all (rs := [10]) (by kernel_rfl) (by simp) ?_
        intro i hi
        simp only [List.mem_cons, List.not_mem_nil, or_false] at hi
        subst hi
        refine wpOp_open rfl (by rfl) ?_
        go_simp
        refine (cA _ (((HR.out.2.1.1.below encR_len (by decide) H.out.2.2.1).below encR_len (by decide) HBW.out).below encR_len (by decide) T0)).mono ?_
        rintro e Y9 ⟨rfl, hB⟩
        replace T0 := T0.trans (hB.mono T0.size)
        clear hB
        refine ⟨fun _ => T0, ?_⟩
        try simp only [Act.put, List.getElem_toArray, List.getElem_cons_zero, List.getElem_cons_succ, List.setIfInBounds_toArray, List.set_cons_zero, List.set_cons_succ]
        refine wpAnyG_take [11, 12] (i := 11) (v := (.bool (!F))) rfl (by kernel_rfl) (by kernel_rfl) (by kernel_rfl) (by kernel_rfl) (by kernel_rfl) (by kernel_rfl) (by kernel_rfl) (by kernel_rfl) (fun _ _ _ h => h) (Or.inl ⟨by rfl, ?hy⟩) T0 ?_
        case hy =>
          intro X hX
          go_simp
        try simp only [Act.put, List.getElem_toArray, List.getElem_cons_zero, List.getElem_cons_succ, List.setIfInBounds_toArray, List.set_cons_zero, List.set_cons_succ]
        refine wpAnyG_take [12] (i := 12) (v := (.bool (!F))) rfl (by kernel_rfl) (by kernel_rfl) (by kernel_rfl) (by kernel_rfl) (by kernel_rfl) (by kernel_rfl) (by kernel_rfl) (by kernel_rfl) (fun _ _ _ h => h) (Or.inl ⟨by rfl, ?hy⟩) T0 ?_
        case hy =>
          intro X hX
          go_simp
        try simp only [Act.put, List.getElem_toArray, List.getElem_cons_zero, List.getElem_cons_succ, List.setIfInBounds_toArray, List.set_cons_zero, List.set_cons_succ]
        refine wpAnyG_done (by kernel_rfl) ?_ _
        refine NoPanic.normal ?_
        cases F
        · have hEf : E = false := by rw [← HE.out]; exact within_stop HX.out.1 (by simp) hf HX.out.2.2.1 HX.out.2.1 HFF.out
          have HEF := Lib.hid (And.intro hEf (H.out.2.2.1.trans ((HBW.out.trans (T0.mono HBW.out.size)).mono H.out.2.2.1.size)))
          clear hEf T0
          go_wp2
          go_ret2
          exact ⟨by rw [HEF.out.1]; rfl, HEF.out.2⟩
        · have HT := Lib.hid (HBW.out.trans (T0.mono HBW.out.size))
          clear T0
          go_wp2
          go_roundw
          case rel =>
            refine ⟨k + 1, by go_num, by omega, fun j x f' u' v' h a b c d e => ?_, HT.out⟩
            rcases (by omega : j < k ∨ j = k) with h1 | rfl
            · exact HI.out.1 j x f' u' v' h1 a b c d e
            · have h2 := HX.out.1
              rw [a] at h2
              cases h2
              simp only at c
              rw [hf] at c
              have hff : f = f' := by omega
              subst hff
              have h3 := HX.out.2.2.1
              rw [d] at h3
              cases h3
              have h4 := HX.out.2.1
              rw [e] at h4
              cases h4
              exact HFF.out
          case measure => simp [intOf]; omega
    · obtain rfl : k = s.L.length := by omega
      have hEt : E = true := by rw [← HE.out]; exact within_all HR.out.2.2.2 (fun j x f u v a b c d e => HI.out.1 j x f u v (List.getElem?_eq_some_iff.1 a).1 a b c d e)
      have HET := Lib.hid hEt
      clear hEt
      go_wp2
      go_ret2
      exact ⟨by rw [HET.out]; rfl, H.out.2.2.1.trans (HI.out.2.mono H.out.2.2.1.size)⟩
end Go.Proofs.Ytdcmkiggnmajgaa
