/- Stage 16: Join, the document's. -/
import Derived.Test.YtdcmkiggnmajgaaZd
namespace Go.Proofs.Ytdcmkiggnmajgaa
set_option linter.unusedVariables false
set_option linter.unusedSimpArgs false
open Go Go.RowKit Go.Shelf
set_option maxRecDepth 100000

/-- The sum of a row of marks in memory. -/
def sumW (X : World) (G n : Nat) : Nat := sumF (fun i => (intOf ((X.cell? ⟨G, i, none⟩).getD (.bool false))).toNat) n
def bmv : Value → Nat
  | .bool true => 1
  | _ => 0
theorem sumF_congr {f g : Nat → Nat} : ∀ n, (∀ i, i < n → f i = g i) → sumF f n = sumF g n := by
  intro n
  induction n with
  | zero => intro _; rfl
  | succ n ih => intro h; simp only [sumF]; rw [ih (fun i hi => h i (by omega)), h n (by omega)]
theorem sumW_eq {w X : World} {bx bY : Array Value} {G n : Nat} {f : Nat → Nat} (h : MkR w X bx bY G n f) : sumW X G n = sumF f n := by
  unfold sumW
  apply sumF_congr
  intro i hi
  rw [h.get hi]
  simp [intOf]

set_option maxHeartbeats 8000000 in
theorem refJoin_any (s t : Sc) (ol os ol' os' : Option Addr) (cl cs cl' cs' : Nat) (hfs : NForm os s.S.length cs) (hms : mayB s = true) (hlen : t.L.length = s.L.length) (w : World) (hr : RowAt w encR 2 ol s.L) (ht : RowAt w encI 1 os s.S) (hr' : RowAt w encR 2 ol' t.L) :
    Calls Try.prog 42 #[.agg #[.slice ol s.L.length cl, .slice os s.S.length cs], .agg #[.slice ol' t.L.length cl', .slice os' t.S.length cs']] w fun e w' => ∃ (f : Nat → Nat) (vl vs : Value), Mk s.L.length (relJ s.L t.L) f ∧ e = .returned (.tuple #[.agg #[vl, vs], .int .i64 (togR s t f).2]) ∧ w'.ownsRow w.heap.size 79 2 vl (togR s t f).1.L.length ((togR s t f).1.L.flatMap encR) ∧ w'.ownsRow w.heap.size 3 1 vs (togR s t f).1.S.length ((togR s t f).1.S.flatMap encI) ∧ Below w.heap.size w w' := by
  obtain ⟨h1, h2, h3⟩ := may_parts hms
  obtain ⟨W1, hW1, bA, bB, bC, hB0, hz0'⟩ := boxes3 w #[.slice ol s.L.length cl, .slice os s.S.length cs] #[.slice ol' t.L.length cl', .slice os' t.S.length cs']
  have hmk := fun W => make_ints W s.L.length (by omega)
  have hS := MkR.start s.L.length (by omega) bA bB bC hB0
  have x0 : W1.cell? ⟨w.heap.size, 0, none⟩ = some (.slice ol s.L.length cl) := bA.cell 0
  have HR := Lib.hid (And.intro (And.intro hr hr') (And.intro hlen ht))
  clear hr hr' ht hlen bA bB bC hB0 hz0' hms
  obtain ⟨G, hG⟩ : ∃ G, W1.heap.size = G := ⟨_, rfl⟩
  obtain ⟨W2, hW2⟩ : ∃ W2, W1.alloc (.cells (madeCells #[.int .i64 0] s.L.length) 3) = W2 := ⟨_, rfl⟩
  rw [hW2, hG] at hS
  have HS := Lib.hid hS
  clear hS
  go_enter Try.func42, Try.ntmps42
  go_wp2
  try rw [hW1]
  try rw [hW2, hG]
  try rw [hW2]
  clear hW1 hW2 hG hmk x0
  go_loopw [17] (fun i X => ∃ (k : Nat) (f : Nat → Nat), i = .int .i64 k ∧ k ≤ s.L.length ∧ (∀ i, i < k → f i = i) ∧ MkR w X #[.slice ol s.L.length cl, .slice os s.S.length cs] #[.slice ol' t.L.length cl', .slice os' t.S.length cs'] G s.L.length f) (fun i _ => s.L.length - (intOf i).toNat)
  case atStart => exact ⟨0, _, rfl, Nat.zero_le _, fun i h => by omega, HS.out⟩
  case round =>
    obtain ⟨k, f, rfl, hk, hP, hM⟩ := hrel
    by_cases hlt : k < s.L.length
    · have hkN : (k : Int) < (s.L.length : Int) := by omega
      have hM1 := hM.put hlt k
      have hf0 := hM.free k
      have q0 := hM.get hlt
      obtain ⟨q, hq⟩ : ∃ q, f k = q := ⟨_, rfl⟩
      rw [hq] at q0
      obtain ⟨V, hV⟩ : ∃ V, wr.setCell ⟨G, k, none⟩ (.int .i64 k) = V := ⟨_, rfl⟩
      rw [hV] at hM1
      have hP1 : ∀ i, i < k + 1 → updF f k k i = i := fun i hi => by
        by_cases e : i = k
        · rw [e, updF_at]
        · rw [updF_ne f k e]; exact hP i (by omega)
      have HM := Lib.hid (And.intro hM1 hP1)
      clear hM1 hP1 hP hM hq
      go_wp2
      try rw [hV]
      clear hV
      go_roundw
      case rel => exact ⟨k + 1, updF f k k, by go_num, by omega, HM.out.2, HM.out.1⟩
      case measure => simp [intOf] <;> omega
    · obtain rfl : k = s.L.length := by omega
      have HM0 := Lib.hid (And.intro hP hM)
      clear hP hM hlt hk HS
      go_wp2
      go_loopw [8] (fun mv X => ∃ (b : Bool) (f : Nat → Nat), mv = .bool b ∧ (∀ i, i < s.L.length → f i ≤ i) ∧ (∀ E : Nat → Nat → Prop, Equivalence E → (∀ a b, a < s.L.length → b < s.L.length → relJ s.L t.L a b → E a b) → ∀ i, i < s.L.length → E i (f i)) ∧ (b = false → Mk s.L.length (relJ s.L t.L) f) ∧ MkR w X #[.slice ol s.L.length cl, .slice os s.S.length cs] #[.slice ol' t.L.length cl', .slice os' t.S.length cs'] G s.L.length f) (fun mv X => 2 * sumW X G s.L.length + bmv mv)
      case atStart => exact ⟨true, f, rfl, fun i hi => by rw [HM0.out.1 i hi]; exact Nat.le_refl _, fun E hE _ i hi => by rw [HM0.out.1 i hi]; exact hE.refl i, (fun h => by cases h), HM0.out.2⟩
      case round =>
        obtain ⟨b, f, rfl, hle, hcon, hD, hM⟩ := hrel
        cases b
        · skip
          have x0 : wr.cell? ⟨w.heap.size, 0, none⟩ = some (.slice ol s.L.length cl) := hM.ba.cell 0
          have x1 : wr.cell? ⟨w.heap.size, 1, none⟩ = some (.slice os s.S.length cs) := hM.ba.cell 1
          have y0 : wr.cell? ⟨w.heap.size + 1, 0, none⟩ = some (.slice ol' t.L.length cl') := hM.bb.cell 0
          have y1 : wr.cell? ⟨w.heap.size + 1, 1, none⟩ = some (.slice os' t.S.length cs') := hM.bb.cell 1
          have HE := Lib.hid (And.intro (hD rfl) hM)
          have hlt3 : w.heap.size + 3 ≤ wr.heap.size := by have := hM.res.lt; omega
          clear hD hM hle hcon
          go_wp2_with (fail)
          refine (refBoth_any s t (relJ s.L t.L) f HE.out.1 relJ_cls ol os ol' os' (some ⟨G, 0, none⟩) cl cs cl' cs' s.L.length hfs HR.out.2.1 h1 (by omega) _ (HR.out.1.1.below encR_len (by decide) HE.out.2.bel) (HR.out.2.2.below encI_len (by decide) HE.out.2.bel) (HR.out.1.2.below encR_len (by decide) HE.out.2.bel) HE.out.2.rowAt).mono ?_
          rintro e Z ⟨vl, vs, rfl, hL, hS, hB⟩
          obtain ⟨R, hR⟩ : ∃ R, togR s t f = R := ⟨_, rfl⟩
          rw [hR] at hL hS ⊢
          obtain ⟨o4, c4, rfl, _⟩ := own_slice hL
          obtain ⟨o5, c5, rfl, _⟩ := own_slice hS
          have hM := HE.out.2.below hB
          obtain ⟨g0, g1, r0, r1, rB⟩ := fin3 hM.res hL hS hlt3 hM.bel
          have f0 := hM.res.frozen 0
          have f1 := hM.res.frozen 1
          have n0 : Z.cell? ⟨w.heap.size + 2, 0, none⟩ = some (.slice none 0 0) := hM.res.cell 0
          have n1 : Z.cell? ⟨w.heap.size + 2, 1, none⟩ = some (.slice none 0 0) := hM.res.cell 1
          obtain ⟨a4, ha4⟩ : ∃ a, R.1.L.length = a := ⟨_, rfl⟩
          obtain ⟨a5, ha5⟩ : ∃ a, R.1.S.length = a := ⟨_, rfl⟩
          obtain ⟨a6, ha6⟩ : ∃ a, R.2 = a := ⟨_, rfl⟩
          have HA := Lib.hid (And.intro hR (And.intro ha4 (And.intro ha5 ha6)))
          simp only [ha4, ha5] at g0 g1 r0 r1 rB
          rw [ha4, ha5, ha6]
          obtain ⟨F, hF⟩ : ∃ F, (Z.setCell ⟨w.heap.size + 2, 0, none⟩ (.slice o4 a4 c4)).setCell ⟨w.heap.size + 2, 1, none⟩ (.slice o5 a5 c5) = F := ⟨_, rfl⟩
          rw [hF] at g0 g1 r0 r1 rB
          have HF := Lib.hid (And.intro r0 (And.intro r1 rB))
          clear r0 r1 rB hM hB hL hS x0 x1 y0 y1 hR ha4 ha5 ha6 hlt3
          go_wp2
          try rw [hF]
          clear hF
          exact bodyPost_ret (v := .tuple #[.agg #[.slice o4 a4 c4, .slice o5 a5 c5], .int .i64 a6]) (by simp [results, Try.f42, go_sem, g0, g1]) rfl (by
            obtain ⟨k1, k2, k3, k4⟩ := HA.out
            refine ⟨f, .slice o4 a4 c4, .slice o5 a5 c5, HE.out.1, ?_, ?_, ?_, HF.out.2.2⟩
            · rw [k1, k4]
            · rw [k1, k2]; exact HF.out.1
            · rw [k1, k3]; exact HF.out.2.1)
        · obtain ⟨V, hV⟩ : ∃ V, V = wr := ⟨_, rfl⟩
          subst hV
          obtain ⟨S0, hS0⟩ : ∃ S, sumF f s.L.length = S := ⟨_, rfl⟩
          have hD0 := DIn.start (S := 0) (mv := false) (P := fun a (_ : Nat) => a < 0) hle hcon (fun i k _ _ h => by omega)
          rw [hS0] at hD0
          have hsw := sumW_eq hM
          rw [hS0] at hsw
          have HD0 := Lib.hid (And.intro hD0 (And.intro hM hsw))
          clear hD0 hle hcon hD hM hS0 hsw
          go_wp2
          go_loopw [8, 28] (fun mv ix X => ∃ (i : Nat) (b : Bool) (g : Nat → Nat), ix = .int .i64 i ∧ mv = .bool b ∧ i ≤ s.L.length ∧ DIn s.L t.L s.L.length S0 b (fun a _ => a < i) g ∧ MkR w X #[.slice ol s.L.length cl, .slice os s.S.length cs] #[.slice ol' t.L.length cl', .slice os' t.S.length cs'] G s.L.length g) (fun _ ix _ => s.L.length - (intOf ix).toNat)
          case atStart => exact ⟨0, false, f, rfl, rfl, Nat.zero_le _, HD0.out.1, HD0.out.2.1⟩
          case round =>
            obtain ⟨i, b, g, rfl, rfl, hi, hDi, hM⟩ := hrel
            by_cases hin : i < s.L.length
            · have hiN : (i : Int) < (s.L.length : Int) := by omega
              have HDi := Lib.hid (And.intro (hDi.skip (P' := fun a c => a < i ∨ (a = i ∧ c < 0)) (fun a c _ _ h => .inl (by omega))) hM)
              clear hDi hM
              go_wp2
              go_loopw [8, 33] (fun mv ix X => ∃ (k : Nat) (b : Bool) (g : Nat → Nat), ix = .int .i64 k ∧ mv = .bool b ∧ k ≤ s.L.length ∧ DIn s.L t.L s.L.length S0 b (fun a c => a < i ∨ (a = i ∧ c < k)) g ∧ MkR w X #[.slice ol s.L.length cl, .slice os s.S.length cs] #[.slice ol' t.L.length cl', .slice os' t.S.length cs'] G s.L.length g) (fun _ ix _ => s.L.length - (intOf ix).toNat)
              case atStart => exact ⟨0, b, g, rfl, rfl, Nat.zero_le _, HDi.out.1, HDi.out.2⟩
              case round =>
                clear HDi
                obtain ⟨k, b, g, rfl, rfl, hk, hO, hM⟩ := hrel
                by_cases hkn : k < s.L.length
                · obtain ⟨E1, hE1⟩ : ∃ E, alkF s.L i k = E := ⟨_, rfl⟩
                  obtain ⟨E2, hE2⟩ : ∃ E, alkF t.L i k = E := ⟨_, rfl⟩
                  have cA := fun W h => refAlikeF_any s ol os cl cs (by omega) i k hin hkn E1 hE1 W h
                  have cB := fun W h => refAlikeF_any t ol' os' cl' cs' (by have := HR.out.2.1; omega) i k (by have := HR.out.2.1; omega) (by have := HR.out.2.1; omega) E2 hE2 W h
                  have x0 : wr.cell? ⟨w.heap.size, 0, none⟩ = some (.slice ol s.L.length cl) := hM.ba.cell 0
                  have x1 : wr.cell? ⟨w.heap.size, 1, none⟩ = some (.slice os s.S.length cs) := hM.ba.cell 1
                  have y0 : wr.cell? ⟨w.heap.size + 1, 0, none⟩ = some (.slice ol' t.L.length cl') := hM.bb.cell 0
                  have y1 : wr.cell? ⟨w.heap.size + 1, 1, none⟩ = some (.slice os' t.S.length cs') := hM.bb.cell 1
                  have q1 := hM.get hin
                  have q2 := hM.get hkn
                  obtain ⟨u, hu⟩ : ∃ u, g i = u := ⟨_, rfl⟩
                  obtain ⟨v, hv⟩ : ∃ v, g k = v := ⟨_, rfl⟩
                  rw [hu] at q1
                  rw [hv] at q2
                  have hkN : (k : Int) < (s.L.length : Int) := by omega
                  obtain ⟨F, hF⟩ : ∃ F, decide (v < u) = F := ⟨_, rfl⟩
                  have f1 : decide ((v : Int) < (u : Int)) = F := by
                    rw [← hF, decide_eq_decide]; omega
                  have f2 := hF
                  have HX := Lib.hid (And.intro (And.intro hE1 (And.intro hE2 (And.intro hu hv))) (And.intro hO hM))
                  clear hM hO hE1 hE2 hu hv hF
                  cases E1
                  · cases E2
                    · go_wp2
                      refine wp_region_noPanic ?_
                      refine wp_region_g (S := untilG [] (fun X => Below wr.heap.size wr X)) (by kernel_rfl) ?_
                      have T0 : Below wr.heap.size wr wr.drew := (Below.refl _ _).drew
                      obtain ⟨X0, hX0⟩ : ∃ X, wr.drew = X := ⟨_, rfl⟩
                      rw [hX0] at T0 ⊢
                      clear hX0
                      refine wpAnyG_take [0, 3, 4, 5, 6, 7, 8, 9, 10, 11, 12, 13, 14, 15, 16, 17, 18, 19, 20] (i := 0) (v := (.agg #[.slice ol s.L.length cl, .slice os s.S.length cs])) rfl (by kernel_rfl) (by kernel_rfl) (by kernel_rfl) (by kernel_rfl) (by kernel_rfl) (by kernel_rfl) (by kernel_rfl) (by kernel_rfl) (fun _ _ _ h => h) (Or.inl ⟨by rfl, ?hy⟩) T0 ?_
                      case hy =>
                        intro X hX
                        have e0 := at_below x0 hX
                        have e1 := at_below x1 hX
                        go_simp
                      try simp only [Act.put, List.getElem_toArray, List.getElem_cons_zero, List.getElem_cons_succ, List.setIfInBounds_toArray, List.set_cons_zero, List.set_cons_succ]
                      refine wpAnyG_take [1, 3, 4, 5, 6, 7, 8, 9, 10, 11, 12, 13, 14, 15, 16, 17, 18, 19, 20] (i := 1) (v := (.int .i64 (i : Nat))) rfl (by kernel_rfl) (by kernel_rfl) (by kernel_rfl) (by kernel_rfl) (by kernel_rfl) (by kernel_rfl) (by kernel_rfl) (by kernel_rfl) (fun _ _ _ h => h) (Or.inl ⟨by rfl, ?hy⟩) T0 ?_
                      case hy =>
                        intro X hX
                        go_simp
                      try simp only [Act.put, List.getElem_toArray, List.getElem_cons_zero, List.getElem_cons_succ, List.setIfInBounds_toArray, List.set_cons_zero, List.set_cons_succ]
                      refine wpAnyG_all (rs := [2]) (by kernel_rfl) (by simp) ?_
                      intro i hi
                      simp only [List.mem_cons, List.not_mem_nil, or_false] at hi
                      subst hi
                      refine wpOp_now rfl rfl ?_
                      go_simp
                      refine ⟨fun _ => T0, ?_⟩
                      try simp only [Act.put, List.getElem_toArray, List.getElem_cons_zero, List.getElem_cons_succ, List.setIfInBounds_toArray, List.set_cons_zero, List.set_cons_succ]
                      refine wpAnyG_all (rs := [3]) (by kernel_rfl) (by simp) ?_
                      intro i hi
                      simp only [List.mem_cons, List.not_mem_nil, or_false] at hi
                      subst hi
                      refine wpOp_now rfl rfl ?_
                      go_simp
                      refine (cA _ ((HR.out.1.1.below encR_len (by decide) HX.out.2.2.bel).below encR_len (by decide) T0)).mono ?_
                      rintro e Y3 ⟨rfl, hB⟩
                      replace T0 := T0.trans (hB.mono T0.size)
                      clear hB
                      refine ⟨fun _ => T0, ?_⟩
                      try simp only [Act.put, List.getElem_toArray, List.getElem_cons_zero, List.getElem_cons_succ, List.setIfInBounds_toArray, List.set_cons_zero, List.set_cons_succ]
                      refine wpAnyG_all (rs := [4]) (by kernel_rfl) (by simp) ?_
                      intro i hi
                      simp only [List.mem_cons, List.not_mem_nil, or_false] at hi
                      subst hi
                      refine wpOp_now rfl rfl ?_
                      go_simp
                      refine ⟨fun _ => T0, ?_⟩
                      try simp only [Act.put, List.getElem_toArray, List.getElem_cons_zero, List.getElem_cons_succ, List.setIfInBounds_toArray, List.set_cons_zero, List.set_cons_succ]
                      refine wpAnyG_take [5, 8, 9, 10, 11, 12, 13, 14, 15, 16, 17, 18, 19, 20] (i := 5) (v := (.agg #[.slice ol' t.L.length cl', .slice os' t.S.length cs'])) rfl (by kernel_rfl) (by kernel_rfl) (by kernel_rfl) (by kernel_rfl) (by kernel_rfl) (by kernel_rfl) (by kernel_rfl) (by kernel_rfl) (fun _ _ _ h => h) (Or.inl ⟨by rfl, ?hy⟩) T0 ?_
                      case hy =>
                        intro X hX
                        have e0 := at_below y0 hX
                        have e1 := at_below y1 hX
                        go_simp
                      try simp only [Act.put, List.getElem_toArray, List.getElem_cons_zero, List.getElem_cons_succ, List.setIfInBounds_toArray, List.set_cons_zero, List.set_cons_succ]
                      refine wpAnyG_take [6, 8, 9, 10, 11, 12, 13, 14, 15, 16, 17, 18, 19, 20] (i := 6) (v := (.int .i64 (i : Nat))) rfl (by kernel_rfl) (by kernel_rfl) (by kernel_rfl) (by kernel_rfl) (by kernel_rfl) (by kernel_rfl) (by kernel_rfl) (by kernel_rfl) (fun _ _ _ h => h) (Or.inl ⟨by rfl, ?hy⟩) T0 ?_
                      case hy =>
                        intro X hX
                        go_simp
                      try simp only [Act.put, List.getElem_toArray, List.getElem_cons_zero, List.getElem_cons_succ, List.setIfInBounds_toArray, List.set_cons_zero, List.set_cons_succ]
                      refine wpAnyG_all (rs := [7]) (by kernel_rfl) (by simp) ?_
                      intro i hi
                      simp only [List.mem_cons, List.not_mem_nil, or_false] at hi
                      subst hi
                      refine wpOp_open rfl (by rfl) ?_
                      go_simp
                      refine ⟨fun _ => T0, ?_⟩
                      try simp only [Act.put, List.getElem_toArray, List.getElem_cons_zero, List.getElem_cons_succ, List.setIfInBounds_toArray, List.set_cons_zero, List.set_cons_succ]
                      refine wpAnyG_all (rs := [8]) (by kernel_rfl) (by simp) ?_
                      intro i hi
                      simp only [List.mem_cons, List.not_mem_nil, or_false] at hi
                      subst hi
                      refine wpOp_open rfl (by rfl) ?_
                      go_simp
                      refine (cB _ ((HR.out.1.2.below encR_len (by decide) HX.out.2.2.bel).below encR_len (by decide) T0)).mono ?_
                      rintro e Y9 ⟨rfl, hB⟩
                      replace T0 := T0.trans (hB.mono T0.size)
                      clear hB
                      refine ⟨fun _ => T0, ?_⟩
                      try simp only [Act.put, List.getElem_toArray, List.getElem_cons_zero, List.getElem_cons_succ, List.setIfInBounds_toArray, List.set_cons_zero, List.set_cons_succ]
                      refine wpAnyG_all (rs := [9]) (by kernel_rfl) (by simp) ?_
                      intro i hi
                      simp only [List.mem_cons, List.not_mem_nil, or_false] at hi
                      subst hi
                      refine wpOp_now rfl rfl ?_
                      go_simp
                      refine ⟨fun _ => T0, ?_⟩
                      try simp only [Act.put, List.getElem_toArray, List.getElem_cons_zero, List.getElem_cons_succ, List.setIfInBounds_toArray, List.set_cons_zero, List.set_cons_succ]
                      refine wpAnyG_all (rs := [10]) (by kernel_rfl) (by simp) ?_
                      intro i hi
                      simp only [List.mem_cons, List.not_mem_nil, or_false] at hi
                      subst hi
                      refine wpOp_now rfl rfl ?_
                      go_simp
                      refine ⟨fun _ => T0, ?_⟩
                      try simp only [Act.put, List.getElem_toArray, List.getElem_cons_zero, List.getElem_cons_succ, List.setIfInBounds_toArray, List.set_cons_zero, List.set_cons_succ]
                      refine wpAnyG_take [11, 13, 14, 19, 20] (i := 11) (v := undef) rfl (by kernel_rfl) (by kernel_rfl) (by kernel_rfl) (by kernel_rfl) (by kernel_rfl) (by kernel_rfl) (by kernel_rfl) (by kernel_rfl) (fun _ _ _ h => h) (Or.inr ⟨by rfl, rfl⟩) T0 ?_
                      try simp only [Act.put, List.getElem_toArray, List.getElem_cons_zero, List.getElem_cons_succ, List.setIfInBounds_toArray, List.set_cons_zero, List.set_cons_succ]
                      refine wpAnyG_take [12, 13, 14, 19, 20] (i := 12) (v := undef) rfl (by kernel_rfl) (by kernel_rfl) (by kernel_rfl) (by kernel_rfl) (by kernel_rfl) (by kernel_rfl) (by kernel_rfl) (by kernel_rfl) (fun _ _ _ h => h) (Or.inr ⟨by rfl, rfl⟩) T0 ?_
                      try simp only [Act.put, List.getElem_toArray, List.getElem_cons_zero, List.getElem_cons_succ, List.setIfInBounds_toArray, List.set_cons_zero, List.set_cons_succ]
                      refine wpAnyG_take [13, 14, 19, 20] (i := 13) (v := undef) rfl (by kernel_rfl) (by kernel_rfl) (by kernel_rfl) (by kernel_rfl) (by kernel_rfl) (by kernel_rfl) (by kernel_rfl) (by kernel_rfl) (fun _ _ _ h => h) (Or.inr ⟨by rfl, rfl⟩) T0 ?_
                      try simp only [Act.put, List.getElem_toArray, List.getElem_cons_zero, List.getElem_cons_succ, List.setIfInBounds_toArray, List.set_cons_zero, List.set_cons_succ]
                      refine wpAnyG_take [14, 19, 20] (i := 14) (v := undef) rfl (by kernel_rfl) (by kernel_rfl) (by kernel_rfl) (by kernel_rfl) (by kernel_rfl) (by kernel_rfl) (by kernel_rfl) (by kernel_rfl) (fun _ _ _ h => h) (Or.inr ⟨by rfl, rfl⟩) T0 ?_
                      try simp only [Act.put, List.getElem_toArray, List.getElem_cons_zero, List.getElem_cons_succ, List.setIfInBounds_toArray, List.set_cons_zero, List.set_cons_succ]
                      refine wpAnyG_take [15, 17, 18, 19, 20] (i := 15) (v := undef) rfl (by kernel_rfl) (by kernel_rfl) (by kernel_rfl) (by kernel_rfl) (by kernel_rfl) (by kernel_rfl) (by kernel_rfl) (by kernel_rfl) (fun _ _ _ h => h) (Or.inr ⟨by rfl, rfl⟩) T0 ?_
                      try simp only [Act.put, List.getElem_toArray, List.getElem_cons_zero, List.getElem_cons_succ, List.setIfInBounds_toArray, List.set_cons_zero, List.set_cons_succ]
                      refine wpAnyG_take [16, 17, 18, 19, 20] (i := 16) (v := undef) rfl (by kernel_rfl) (by kernel_rfl) (by kernel_rfl) (by kernel_rfl) (by kernel_rfl) (by kernel_rfl) (by kernel_rfl) (by kernel_rfl) (fun _ _ _ h => h) (Or.inr ⟨by rfl, rfl⟩) T0 ?_
                      try simp only [Act.put, List.getElem_toArray, List.getElem_cons_zero, List.getElem_cons_succ, List.setIfInBounds_toArray, List.set_cons_zero, List.set_cons_succ]
                      refine wpAnyG_take [17, 18, 19, 20] (i := 17) (v := undef) rfl (by kernel_rfl) (by kernel_rfl) (by kernel_rfl) (by kernel_rfl) (by kernel_rfl) (by kernel_rfl) (by kernel_rfl) (by kernel_rfl) (fun _ _ _ h => h) (Or.inr ⟨by rfl, rfl⟩) T0 ?_
                      try simp only [Act.put, List.getElem_toArray, List.getElem_cons_zero, List.getElem_cons_succ, List.setIfInBounds_toArray, List.set_cons_zero, List.set_cons_succ]
                      refine wpAnyG_take [18, 19, 20] (i := 18) (v := undef) rfl (by kernel_rfl) (by kernel_rfl) (by kernel_rfl) (by kernel_rfl) (by kernel_rfl) (by kernel_rfl) (by kernel_rfl) (by kernel_rfl) (fun _ _ _ h => h) (Or.inr ⟨by rfl, rfl⟩) T0 ?_
                      try simp only [Act.put, List.getElem_toArray, List.getElem_cons_zero, List.getElem_cons_succ, List.setIfInBounds_toArray, List.set_cons_zero, List.set_cons_succ]
                      refine wpAnyG_take [19, 20] (i := 19) (v := undef) rfl (by kernel_rfl) (by kernel_rfl) (by kernel_rfl) (by kernel_rfl) (by kernel_rfl) (by kernel_rfl) (by kernel_rfl) (by kernel_rfl) (fun _ _ _ h => h) (Or.inr ⟨by rfl, rfl⟩) T0 ?_
                      try simp only [Act.put, List.getElem_toArray, List.getElem_cons_zero, List.getElem_cons_succ, List.setIfInBounds_toArray, List.set_cons_zero, List.set_cons_succ]
                      refine wpAnyG_all (rs := [20]) (by kernel_rfl) (by simp) ?_
                      intro i hi
                      simp only [List.mem_cons, List.not_mem_nil, or_false] at hi
                      subst hi
                      refine wpOp_now rfl rfl ?_
                      go_simp
                      refine ⟨fun _ => T0, ?_⟩
                      try simp only [Act.put, List.getElem_toArray, List.getElem_cons_zero, List.getElem_cons_succ, List.setIfInBounds_toArray, List.set_cons_zero, List.set_cons_succ]
                      refine wpAnyG_done (by kernel_rfl) ?_ _
                      refine NoPanic.normal ?_
                      have HN := Lib.hid (And.intro (HX.out.2.1.skip (P' := fun a c => a < i ∨ (a = i ∧ c < k + 1)) (fun a c ha hc hp => by
                        rcases (by omega : (a < i ∨ (a = i ∧ c < k)) ∨ (a = i ∧ c = k)) with h | ⟨rfl, rfl⟩
                        · exact .inl h
                        · exact .inr (.inl (fun h => by rcases h with h | h; rw [HX.out.1.1] at h; cases h; rw [HX.out.1.2.1] at h; cases h)))) (HX.out.2.2.below T0))
                      clear T0 x0 x1 y0 y1 q1 q2 cA cB HX
                      go_wp2
                      go_roundw
                      case rel => exact ⟨k + 1, b, g, by go_num, rfl, by omega, HN.out.1, HN.out.2⟩
                      case measure => simp [intOf] <;> omega
                    · go_wp2
                      refine wp_region_noPanic ?_
                      refine wp_region_g (S := untilG [] (fun X => Below wr.heap.size wr X)) (by kernel_rfl) ?_
                      have T0 : Below wr.heap.size wr wr.drew := (Below.refl _ _).drew
                      obtain ⟨X0, hX0⟩ : ∃ X, wr.drew = X := ⟨_, rfl⟩
                      rw [hX0] at T0 ⊢
                      clear hX0
                      refine wpAnyG_take [0, 3, 4, 5, 6, 7, 8, 9, 10, 11, 12, 13, 14, 15, 16, 17, 18, 19, 20] (i := 0) (v := (.agg #[.slice ol s.L.length cl, .slice os s.S.length cs])) rfl (by kernel_rfl) (by kernel_rfl) (by kernel_rfl) (by kernel_rfl) (by kernel_rfl) (by kernel_rfl) (by kernel_rfl) (by kernel_rfl) (fun _ _ _ h => h) (Or.inl ⟨by rfl, ?hy⟩) T0 ?_
                      case hy =>
                        intro X hX
                        have e0 := at_below x0 hX
                        have e1 := at_below x1 hX
                        go_simp
                      try simp only [Act.put, List.getElem_toArray, List.getElem_cons_zero, List.getElem_cons_succ, List.setIfInBounds_toArray, List.set_cons_zero, List.set_cons_succ]
                      refine wpAnyG_take [1, 3, 4, 5, 6, 7, 8, 9, 10, 11, 12, 13, 14, 15, 16, 17, 18, 19, 20] (i := 1) (v := (.int .i64 (i : Nat))) rfl (by kernel_rfl) (by kernel_rfl) (by kernel_rfl) (by kernel_rfl) (by kernel_rfl) (by kernel_rfl) (by kernel_rfl) (by kernel_rfl) (fun _ _ _ h => h) (Or.inl ⟨by rfl, ?hy⟩) T0 ?_
                      case hy =>
                        intro X hX
                        go_simp
                      try simp only [Act.put, List.getElem_toArray, List.getElem_cons_zero, List.getElem_cons_succ, List.setIfInBounds_toArray, List.set_cons_zero, List.set_cons_succ]
                      refine wpAnyG_all (rs := [2]) (by kernel_rfl) (by simp) ?_
                      intro i hi
                      simp only [List.mem_cons, List.not_mem_nil, or_false] at hi
                      subst hi
                      refine wpOp_now rfl rfl ?_
                      go_simp
                      refine ⟨fun _ => T0, ?_⟩
                      try simp only [Act.put, List.getElem_toArray, List.getElem_cons_zero, List.getElem_cons_succ, List.setIfInBounds_toArray, List.set_cons_zero, List.set_cons_succ]
                      refine wpAnyG_all (rs := [3]) (by kernel_rfl) (by simp) ?_
                      intro i hi
                      simp only [List.mem_cons, List.not_mem_nil, or_false] at hi
                      subst hi
                      refine wpOp_now rfl rfl ?_
                      go_simp
                      refine (cA _ ((HR.out.1.1.below encR_len (by decide) HX.out.2.2.bel).below encR_len (by decide) T0)).mono ?_
                      rintro e Y3 ⟨rfl, hB⟩
                      replace T0 := T0.trans (hB.mono T0.size)
                      clear hB
                      refine ⟨fun _ => T0, ?_⟩
                      try simp only [Act.put, List.getElem_toArray, List.getElem_cons_zero, List.getElem_cons_succ, List.setIfInBounds_toArray, List.set_cons_zero, List.set_cons_succ]
                      refine wpAnyG_all (rs := [4]) (by kernel_rfl) (by simp) ?_
                      intro i hi
                      simp only [List.mem_cons, List.not_mem_nil, or_false] at hi
                      subst hi
                      refine wpOp_now rfl rfl ?_
                      go_simp
                      refine ⟨fun _ => T0, ?_⟩
                      try simp only [Act.put, List.getElem_toArray, List.getElem_cons_zero, List.getElem_cons_succ, List.setIfInBounds_toArray, List.set_cons_zero, List.set_cons_succ]
                      refine wpAnyG_take [5, 8, 9, 10, 11, 12, 13, 14, 15, 16, 17, 18, 19, 20] (i := 5) (v := (.agg #[.slice ol' t.L.length cl', .slice os' t.S.length cs'])) rfl (by kernel_rfl) (by kernel_rfl) (by kernel_rfl) (by kernel_rfl) (by kernel_rfl) (by kernel_rfl) (by kernel_rfl) (by kernel_rfl) (fun _ _ _ h => h) (Or.inl ⟨by rfl, ?hy⟩) T0 ?_
                      case hy =>
                        intro X hX
                        have e0 := at_below y0 hX
                        have e1 := at_below y1 hX
                        go_simp
                      try simp only [Act.put, List.getElem_toArray, List.getElem_cons_zero, List.getElem_cons_succ, List.setIfInBounds_toArray, List.set_cons_zero, List.set_cons_succ]
                      refine wpAnyG_take [6, 8, 9, 10, 11, 12, 13, 14, 15, 16, 17, 18, 19, 20] (i := 6) (v := (.int .i64 (i : Nat))) rfl (by kernel_rfl) (by kernel_rfl) (by kernel_rfl) (by kernel_rfl) (by kernel_rfl) (by kernel_rfl) (by kernel_rfl) (by kernel_rfl) (fun _ _ _ h => h) (Or.inl ⟨by rfl, ?hy⟩) T0 ?_
                      case hy =>
                        intro X hX
                        go_simp
                      try simp only [Act.put, List.getElem_toArray, List.getElem_cons_zero, List.getElem_cons_succ, List.setIfInBounds_toArray, List.set_cons_zero, List.set_cons_succ]
                      refine wpAnyG_all (rs := [7]) (by kernel_rfl) (by simp) ?_
                      intro i hi
                      simp only [List.mem_cons, List.not_mem_nil, or_false] at hi
                      subst hi
                      refine wpOp_open rfl (by rfl) ?_
                      go_simp
                      refine ⟨fun _ => T0, ?_⟩
                      try simp only [Act.put, List.getElem_toArray, List.getElem_cons_zero, List.getElem_cons_succ, List.setIfInBounds_toArray, List.set_cons_zero, List.set_cons_succ]
                      refine wpAnyG_all (rs := [8]) (by kernel_rfl) (by simp) ?_
                      intro i hi
                      simp only [List.mem_cons, List.not_mem_nil, or_false] at hi
                      subst hi
                      refine wpOp_open rfl (by rfl) ?_
                      go_simp
                      refine (cB _ ((HR.out.1.2.below encR_len (by decide) HX.out.2.2.bel).below encR_len (by decide) T0)).mono ?_
                      rintro e Y9 ⟨rfl, hB⟩
                      replace T0 := T0.trans (hB.mono T0.size)
                      clear hB
                      refine ⟨fun _ => T0, ?_⟩
                      try simp only [Act.put, List.getElem_toArray, List.getElem_cons_zero, List.getElem_cons_succ, List.setIfInBounds_toArray, List.set_cons_zero, List.set_cons_succ]
                      refine wpAnyG_all (rs := [9]) (by kernel_rfl) (by simp) ?_
                      intro i hi
                      simp only [List.mem_cons, List.not_mem_nil, or_false] at hi
                      subst hi
                      refine wpOp_now rfl rfl ?_
                      go_simp
                      refine ⟨fun _ => T0, ?_⟩
                      try simp only [Act.put, List.getElem_toArray, List.getElem_cons_zero, List.getElem_cons_succ, List.setIfInBounds_toArray, List.set_cons_zero, List.set_cons_succ]
                      refine wpAnyG_all (rs := [10]) (by kernel_rfl) (by simp) ?_
                      intro i hi
                      simp only [List.mem_cons, List.not_mem_nil, or_false] at hi
                      subst hi
                      refine wpOp_now rfl rfl ?_
                      go_simp
                      refine ⟨fun _ => T0, ?_⟩
                      try simp only [Act.put, List.getElem_toArray, List.getElem_cons_zero, List.getElem_cons_succ, List.setIfInBounds_toArray, List.set_cons_zero, List.set_cons_succ]
                      refine wpAnyG_take [11, 13, 14, 19, 20] (i := 11) (v := (.slice (some ⟨G, 0, none⟩) s.L.length s.L.length)) rfl (by kernel_rfl) (by kernel_rfl) (by kernel_rfl) (by kernel_rfl) (by kernel_rfl) (by kernel_rfl) (by kernel_rfl) (by kernel_rfl) (fun _ _ _ h => h) (Or.inl ⟨by rfl, ?hy⟩) T0 ?_
                      case hy =>
                        intro X hX
                        go_simp
                      try simp only [Act.put, List.getElem_toArray, List.getElem_cons_zero, List.getElem_cons_succ, List.setIfInBounds_toArray, List.set_cons_zero, List.set_cons_succ]
                      refine wpAnyG_take [12, 13, 14, 19, 20] (i := 12) (v := (.int .i64 (k : Nat))) rfl (by kernel_rfl) (by kernel_rfl) (by kernel_rfl) (by kernel_rfl) (by kernel_rfl) (by kernel_rfl) (by kernel_rfl) (by kernel_rfl) (fun _ _ _ h => h) (Or.inl ⟨by rfl, ?hy⟩) T0 ?_
                      case hy =>
                        intro X hX
                        go_simp
                      try simp only [Act.put, List.getElem_toArray, List.getElem_cons_zero, List.getElem_cons_succ, List.setIfInBounds_toArray, List.set_cons_zero, List.set_cons_succ]
                      refine wpAnyG_take [13, 14, 19, 20] (i := 13) (v := (.pointer (some ⟨G, k, none⟩))) rfl (by kernel_rfl) (by kernel_rfl) (by kernel_rfl) (by kernel_rfl) (by kernel_rfl) (by kernel_rfl) (by kernel_rfl) (by kernel_rfl) (fun _ _ _ h => h) (Or.inl ⟨by rfl, ?hy⟩) T0 ?_
                      case hy =>
                        intro X hX
                        go_simp
                      try simp only [Act.put, List.getElem_toArray, List.getElem_cons_zero, List.getElem_cons_succ, List.setIfInBounds_toArray, List.set_cons_zero, List.set_cons_succ]
                      refine wpAnyG_take [14, 19, 20] (i := 14) (v := (.int .i64 (v : Nat))) rfl (by kernel_rfl) (by kernel_rfl) (by kernel_rfl) (by kernel_rfl) (by kernel_rfl) (by kernel_rfl) (by kernel_rfl) (by kernel_rfl) (fun _ _ _ h => h) (Or.inl ⟨by rfl, ?hy⟩) T0 ?_
                      case hy =>
                        intro X hX
                        have e0 := at_below q2 hX
                        go_simp
                      try simp only [Act.put, List.getElem_toArray, List.getElem_cons_zero, List.getElem_cons_succ, List.setIfInBounds_toArray, List.set_cons_zero, List.set_cons_succ]
                      refine wpAnyG_take [15, 17, 18, 19, 20] (i := 15) (v := (.slice (some ⟨G, 0, none⟩) s.L.length s.L.length)) rfl (by kernel_rfl) (by kernel_rfl) (by kernel_rfl) (by kernel_rfl) (by kernel_rfl) (by kernel_rfl) (by kernel_rfl) (by kernel_rfl) (fun _ _ _ h => h) (Or.inl ⟨by rfl, ?hy⟩) T0 ?_
                      case hy =>
                        intro X hX
                        go_simp
                      try simp only [Act.put, List.getElem_toArray, List.getElem_cons_zero, List.getElem_cons_succ, List.setIfInBounds_toArray, List.set_cons_zero, List.set_cons_succ]
                      refine wpAnyG_all (rs := [16]) (by kernel_rfl) (by simp) ?_
                      intro i hi
                      simp only [List.mem_cons, List.not_mem_nil, or_false] at hi
                      subst hi
                      refine wpOp_open rfl (by rfl) ?_
                      go_simp
                      refine ⟨fun _ => T0, ?_⟩
                      try simp only [Act.put, List.getElem_toArray, List.getElem_cons_zero, List.getElem_cons_succ, List.setIfInBounds_toArray, List.set_cons_zero, List.set_cons_succ]
                      refine wpAnyG_take [17, 18, 19, 20] (i := 17) (v := (.pointer (some ⟨G, i, none⟩))) rfl (by kernel_rfl) (by kernel_rfl) (by kernel_rfl) (by kernel_rfl) (by kernel_rfl) (by kernel_rfl) (by kernel_rfl) (by kernel_rfl) (fun _ _ _ h => h) (Or.inl ⟨by rfl, ?hy⟩) T0 ?_
                      case hy =>
                        intro X hX
                        go_simp
                      try simp only [Act.put, List.getElem_toArray, List.getElem_cons_zero, List.getElem_cons_succ, List.setIfInBounds_toArray, List.set_cons_zero, List.set_cons_succ]
                      refine wpAnyG_take [18, 19, 20] (i := 18) (v := (.int .i64 (u : Nat))) rfl (by kernel_rfl) (by kernel_rfl) (by kernel_rfl) (by kernel_rfl) (by kernel_rfl) (by kernel_rfl) (by kernel_rfl) (by kernel_rfl) (fun _ _ _ h => h) (Or.inl ⟨by rfl, ?hy⟩) T0 ?_
                      case hy =>
                        intro X hX
                        have e0 := at_below q1 hX
                        go_simp
                      try simp only [Act.put, List.getElem_toArray, List.getElem_cons_zero, List.getElem_cons_succ, List.setIfInBounds_toArray, List.set_cons_zero, List.set_cons_succ]
                      refine wpAnyG_take [19, 20] (i := 19) (v := (.bool F)) rfl (by kernel_rfl) (by kernel_rfl) (by kernel_rfl) (by kernel_rfl) (by kernel_rfl) (by kernel_rfl) (by kernel_rfl) (by kernel_rfl) (fun _ _ _ h => h) (Or.inl ⟨by rfl, ?hy⟩) T0 ?_
                      case hy =>
                        intro X hX
                        go_simp
                      try simp only [Act.put, List.getElem_toArray, List.getElem_cons_zero, List.getElem_cons_succ, List.setIfInBounds_toArray, List.set_cons_zero, List.set_cons_succ]
                      refine wpAnyG_all (rs := [20]) (by kernel_rfl) (by simp) ?_
                      intro i hi
                      simp only [List.mem_cons, List.not_mem_nil, or_false] at hi
                      subst hi
                      refine wpOp_now rfl rfl ?_
                      go_simp
                      refine ⟨fun _ => T0, ?_⟩
                      try simp only [Act.put, List.getElem_toArray, List.getElem_cons_zero, List.getElem_cons_succ, List.setIfInBounds_toArray, List.set_cons_zero, List.set_cons_succ]
                      refine wpAnyG_done (by kernel_rfl) ?_ _
                      refine NoPanic.normal ?_
                      cases F
                      · skip
                        have HN := Lib.hid (And.intro (HX.out.2.1.skip (P' := fun a c => a < i ∨ (a = i ∧ c < k + 1)) (fun a c ha hc hp => by
                          rcases (by omega : (a < i ∨ (a = i ∧ c < k)) ∨ (a = i ∧ c = k)) with h | ⟨rfl, rfl⟩
                          · exact .inl h
                          · exact .inr (.inr (fun h => by rw [HX.out.1.2.2.1, HX.out.1.2.2.2] at h; simp at f2; omega)))) (HX.out.2.2.below T0))
                        clear T0 x0 x1 y0 y1 q1 q2 cA cB HX
                        go_wp2
                        go_roundw
                        case rel => exact ⟨k + 1, b, g, by go_num, rfl, by omega, HN.out.1, HN.out.2⟩
                        case measure => simp [intOf] <;> omega
                      · skip
                        have hvu : v < u := by simpa using f2
                        have hDf := HX.out.2.1.fall (P' := fun a c => a < i ∨ (a = i ∧ c < k + 1)) hin hkn (.inr HX.out.1.2.1) (by rw [HX.out.1.2.2.1, HX.out.1.2.2.2]; exact hvu)
                        rw [HX.out.1.2.2.2] at hDf
                        have hM2 := HX.out.2.2.below T0
                        have r1 := at_below q1 T0
                        have r2 := at_below q2 T0
                        have fz := hM2.free i
                        have hM3 := hM2.put hin v
                        obtain ⟨V, hV⟩ : ∃ V, Y9.setCell ⟨G, i, none⟩ (.int .i64 v) = V := ⟨_, rfl⟩
                        rw [hV] at hM3
                        have HN := Lib.hid (And.intro hDf hM3)
                        clear hM2 hM3 hDf hvu T0 x0 x1 y0 y1 q1 q2 cA cB HX
                        go_wp2
                        try rw [hV]
                        clear hV
                        go_roundw
                        case rel => exact ⟨k + 1, true, updF g i v, by go_num, rfl, by omega, HN.out.1, HN.out.2⟩
                        case measure => simp [intOf] <;> omega
                  · go_wp2
                    refine wp_region_noPanic ?_
                    refine wp_region_g (S := untilG [] (fun X => Below wr.heap.size wr X)) (by kernel_rfl) ?_
                    have T0 : Below wr.heap.size wr wr.drew := (Below.refl _ _).drew
                    obtain ⟨X0, hX0⟩ : ∃ X, wr.drew = X := ⟨_, rfl⟩
                    rw [hX0] at T0 ⊢
                    clear hX0
                    refine wpAnyG_take [0, 3, 4, 5, 6, 7, 8, 9, 10, 11, 12, 13, 14, 15, 16, 17, 18, 19, 20] (i := 0) (v := (.agg #[.slice ol s.L.length cl, .slice os s.S.length cs])) rfl (by kernel_rfl) (by kernel_rfl) (by kernel_rfl) (by kernel_rfl) (by kernel_rfl) (by kernel_rfl) (by kernel_rfl) (by kernel_rfl) (fun _ _ _ h => h) (Or.inl ⟨by rfl, ?hy⟩) T0 ?_
                    case hy =>
                      intro X hX
                      have e0 := at_below x0 hX
                      have e1 := at_below x1 hX
                      go_simp
                    try simp only [Act.put, List.getElem_toArray, List.getElem_cons_zero, List.getElem_cons_succ, List.setIfInBounds_toArray, List.set_cons_zero, List.set_cons_succ]
                    refine wpAnyG_take [1, 3, 4, 5, 6, 7, 8, 9, 10, 11, 12, 13, 14, 15, 16, 17, 18, 19, 20] (i := 1) (v := (.int .i64 (i : Nat))) rfl (by kernel_rfl) (by kernel_rfl) (by kernel_rfl) (by kernel_rfl) (by kernel_rfl) (by kernel_rfl) (by kernel_rfl) (by kernel_rfl) (fun _ _ _ h => h) (Or.inl ⟨by rfl, ?hy⟩) T0 ?_
                    case hy =>
                      intro X hX
                      go_simp
                    try simp only [Act.put, List.getElem_toArray, List.getElem_cons_zero, List.getElem_cons_succ, List.setIfInBounds_toArray, List.set_cons_zero, List.set_cons_succ]
                    refine wpAnyG_all (rs := [2]) (by kernel_rfl) (by simp) ?_
                    intro i hi
                    simp only [List.mem_cons, List.not_mem_nil, or_false] at hi
                    subst hi
                    refine wpOp_now rfl rfl ?_
                    go_simp
                    refine ⟨fun _ => T0, ?_⟩
                    try simp only [Act.put, List.getElem_toArray, List.getElem_cons_zero, List.getElem_cons_succ, List.setIfInBounds_toArray, List.set_cons_zero, List.set_cons_succ]
                    refine wpAnyG_all (rs := [3]) (by kernel_rfl) (by simp) ?_
                    intro i hi
                    simp only [List.mem_cons, List.not_mem_nil, or_false] at hi
                    subst hi
                    refine wpOp_now rfl rfl ?_
                    go_simp
                    refine (cA _ ((HR.out.1.1.below encR_len (by decide) HX.out.2.2.bel).below encR_len (by decide) T0)).mono ?_
                    rintro e Y3 ⟨rfl, hB⟩
                    replace T0 := T0.trans (hB.mono T0.size)
                    clear hB
                    refine ⟨fun _ => T0, ?_⟩
                    try simp only [Act.put, List.getElem_toArray, List.getElem_cons_zero, List.getElem_cons_succ, List.setIfInBounds_toArray, List.set_cons_zero, List.set_cons_succ]
                    refine wpAnyG_all (rs := [4]) (by kernel_rfl) (by simp) ?_
                    intro i hi
                    simp only [List.mem_cons, List.not_mem_nil, or_false] at hi
                    subst hi
                    refine wpOp_now rfl rfl ?_
                    go_simp
                    refine ⟨fun _ => T0, ?_⟩
                    try simp only [Act.put, List.getElem_toArray, List.getElem_cons_zero, List.getElem_cons_succ, List.setIfInBounds_toArray, List.set_cons_zero, List.set_cons_succ]
                    refine wpAnyG_take [5, 8, 9, 10, 11, 12, 13, 14, 15, 16, 17, 18, 19, 20] (i := 5) (v := undef) rfl (by kernel_rfl) (by kernel_rfl) (by kernel_rfl) (by kernel_rfl) (by kernel_rfl) (by kernel_rfl) (by kernel_rfl) (by kernel_rfl) (fun _ _ _ h => h) (Or.inr ⟨by rfl, rfl⟩) T0 ?_
                    try simp only [Act.put, List.getElem_toArray, List.getElem_cons_zero, List.getElem_cons_succ, List.setIfInBounds_toArray, List.set_cons_zero, List.set_cons_succ]
                    refine wpAnyG_take [6, 8, 9, 10, 11, 12, 13, 14, 15, 16, 17, 18, 19, 20] (i := 6) (v := undef) rfl (by kernel_rfl) (by kernel_rfl) (by kernel_rfl) (by kernel_rfl) (by kernel_rfl) (by kernel_rfl) (by kernel_rfl) (by kernel_rfl) (fun _ _ _ h => h) (Or.inr ⟨by rfl, rfl⟩) T0 ?_
                    try simp only [Act.put, List.getElem_toArray, List.getElem_cons_zero, List.getElem_cons_succ, List.setIfInBounds_toArray, List.set_cons_zero, List.set_cons_succ]
                    refine wpAnyG_take [7, 8, 9, 10, 11, 12, 13, 14, 15, 16, 17, 18, 19, 20] (i := 7) (v := undef) rfl (by kernel_rfl) (by kernel_rfl) (by kernel_rfl) (by kernel_rfl) (by kernel_rfl) (by kernel_rfl) (by kernel_rfl) (by kernel_rfl) (fun _ _ _ h => h) (Or.inr ⟨by rfl, rfl⟩) T0 ?_
                    try simp only [Act.put, List.getElem_toArray, List.getElem_cons_zero, List.getElem_cons_succ, List.setIfInBounds_toArray, List.set_cons_zero, List.set_cons_succ]
                    refine wpAnyG_take [8, 9, 10, 11, 12, 13, 14, 15, 16, 17, 18, 19, 20] (i := 8) (v := undef) rfl (by kernel_rfl) (by kernel_rfl) (by kernel_rfl) (by kernel_rfl) (by kernel_rfl) (by kernel_rfl) (by kernel_rfl) (by kernel_rfl) (fun _ _ _ h => h) (Or.inr ⟨by rfl, rfl⟩) T0 ?_
                    try simp only [Act.put, List.getElem_toArray, List.getElem_cons_zero, List.getElem_cons_succ, List.setIfInBounds_toArray, List.set_cons_zero, List.set_cons_succ]
                    refine wpAnyG_all (rs := [9]) (by kernel_rfl) (by simp) ?_
                    intro i hi
                    simp only [List.mem_cons, List.not_mem_nil, or_false] at hi
                    subst hi
                    refine wpOp_now rfl rfl ?_
                    go_simp
                    refine ⟨fun _ => T0, ?_⟩
                    try simp only [Act.put, List.getElem_toArray, List.getElem_cons_zero, List.getElem_cons_succ, List.setIfInBounds_toArray, List.set_cons_zero, List.set_cons_succ]
                    refine wpAnyG_all (rs := [10]) (by kernel_rfl) (by simp) ?_
                    intro i hi
                    simp only [List.mem_cons, List.not_mem_nil, or_false] at hi
                    subst hi
                    refine wpOp_now rfl rfl ?_
                    go_simp
                    refine ⟨fun _ => T0, ?_⟩
                    try simp only [Act.put, List.getElem_toArray, List.getElem_cons_zero, List.getElem_cons_succ, List.setIfInBounds_toArray, List.set_cons_zero, List.set_cons_succ]
                    refine wpAnyG_take [11, 13, 14, 19, 20] (i := 11) (v := (.slice (some ⟨G, 0, none⟩) s.L.length s.L.length)) rfl (by kernel_rfl) (by kernel_rfl) (by kernel_rfl) (by kernel_rfl) (by kernel_rfl) (by kernel_rfl) (by kernel_rfl) (by kernel_rfl) (fun _ _ _ h => h) (Or.inl ⟨by rfl, ?hy⟩) T0 ?_
                    case hy =>
                      intro X hX
                      go_simp
                    try simp only [Act.put, List.getElem_toArray, List.getElem_cons_zero, List.getElem_cons_succ, List.setIfInBounds_toArray, List.set_cons_zero, List.set_cons_succ]
                    refine wpAnyG_take [12, 13, 14, 19, 20] (i := 12) (v := (.int .i64 (k : Nat))) rfl (by kernel_rfl) (by kernel_rfl) (by kernel_rfl) (by kernel_rfl) (by kernel_rfl) (by kernel_rfl) (by kernel_rfl) (by kernel_rfl) (fun _ _ _ h => h) (Or.inl ⟨by rfl, ?hy⟩) T0 ?_
                    case hy =>
                      intro X hX
                      go_simp
                    try simp only [Act.put, List.getElem_toArray, List.getElem_cons_zero, List.getElem_cons_succ, List.setIfInBounds_toArray, List.set_cons_zero, List.set_cons_succ]
                    refine wpAnyG_take [13, 14, 19, 20] (i := 13) (v := (.pointer (some ⟨G, k, none⟩))) rfl (by kernel_rfl) (by kernel_rfl) (by kernel_rfl) (by kernel_rfl) (by kernel_rfl) (by kernel_rfl) (by kernel_rfl) (by kernel_rfl) (fun _ _ _ h => h) (Or.inl ⟨by rfl, ?hy⟩) T0 ?_
                    case hy =>
                      intro X hX
                      go_simp
                    try simp only [Act.put, List.getElem_toArray, List.getElem_cons_zero, List.getElem_cons_succ, List.setIfInBounds_toArray, List.set_cons_zero, List.set_cons_succ]
                    refine wpAnyG_take [14, 19, 20] (i := 14) (v := (.int .i64 (v : Nat))) rfl (by kernel_rfl) (by kernel_rfl) (by kernel_rfl) (by kernel_rfl) (by kernel_rfl) (by kernel_rfl) (by kernel_rfl) (by kernel_rfl) (fun _ _ _ h => h) (Or.inl ⟨by rfl, ?hy⟩) T0 ?_
                    case hy =>
                      intro X hX
                      have e0 := at_below q2 hX
                      go_simp
                    try simp only [Act.put, List.getElem_toArray, List.getElem_cons_zero, List.getElem_cons_succ, List.setIfInBounds_toArray, List.set_cons_zero, List.set_cons_succ]
                    refine wpAnyG_take [15, 17, 18, 19, 20] (i := 15) (v := (.slice (some ⟨G, 0, none⟩) s.L.length s.L.length)) rfl (by kernel_rfl) (by kernel_rfl) (by kernel_rfl) (by kernel_rfl) (by kernel_rfl) (by kernel_rfl) (by kernel_rfl) (by kernel_rfl) (fun _ _ _ h => h) (Or.inl ⟨by rfl, ?hy⟩) T0 ?_
                    case hy =>
                      intro X hX
                      go_simp
                    try simp only [Act.put, List.getElem_toArray, List.getElem_cons_zero, List.getElem_cons_succ, List.setIfInBounds_toArray, List.set_cons_zero, List.set_cons_succ]
                    refine wpAnyG_all (rs := [16]) (by kernel_rfl) (by simp) ?_
                    intro i hi
                    simp only [List.mem_cons, List.not_mem_nil, or_false] at hi
                    subst hi
                    refine wpOp_open rfl (by rfl) ?_
                    go_simp
                    refine ⟨fun _ => T0, ?_⟩
                    try simp only [Act.put, List.getElem_toArray, List.getElem_cons_zero, List.getElem_cons_succ, List.setIfInBounds_toArray, List.set_cons_zero, List.set_cons_succ]
                    refine wpAnyG_take [17, 18, 19, 20] (i := 17) (v := (.pointer (some ⟨G, i, none⟩))) rfl (by kernel_rfl) (by kernel_rfl) (by kernel_rfl) (by kernel_rfl) (by kernel_rfl) (by kernel_rfl) (by kernel_rfl) (by kernel_rfl) (fun _ _ _ h => h) (Or.inl ⟨by rfl, ?hy⟩) T0 ?_
                    case hy =>
                      intro X hX
                      go_simp
                    try simp only [Act.put, List.getElem_toArray, List.getElem_cons_zero, List.getElem_cons_succ, List.setIfInBounds_toArray, List.set_cons_zero, List.set_cons_succ]
                    refine wpAnyG_take [18, 19, 20] (i := 18) (v := (.int .i64 (u : Nat))) rfl (by kernel_rfl) (by kernel_rfl) (by kernel_rfl) (by kernel_rfl) (by kernel_rfl) (by kernel_rfl) (by kernel_rfl) (by kernel_rfl) (fun _ _ _ h => h) (Or.inl ⟨by rfl, ?hy⟩) T0 ?_
                    case hy =>
                      intro X hX
                      have e0 := at_below q1 hX
                      go_simp
                    try simp only [Act.put, List.getElem_toArray, List.getElem_cons_zero, List.getElem_cons_succ, List.setIfInBounds_toArray, List.set_cons_zero, List.set_cons_succ]
                    refine wpAnyG_take [19, 20] (i := 19) (v := (.bool F)) rfl (by kernel_rfl) (by kernel_rfl) (by kernel_rfl) (by kernel_rfl) (by kernel_rfl) (by kernel_rfl) (by kernel_rfl) (by kernel_rfl) (fun _ _ _ h => h) (Or.inl ⟨by rfl, ?hy⟩) T0 ?_
                    case hy =>
                      intro X hX
                      go_simp
                    try simp only [Act.put, List.getElem_toArray, List.getElem_cons_zero, List.getElem_cons_succ, List.setIfInBounds_toArray, List.set_cons_zero, List.set_cons_succ]
                    refine wpAnyG_all (rs := [20]) (by kernel_rfl) (by simp) ?_
                    intro i hi
                    simp only [List.mem_cons, List.not_mem_nil, or_false] at hi
                    subst hi
                    refine wpOp_now rfl rfl ?_
                    go_simp
                    refine ⟨fun _ => T0, ?_⟩
                    try simp only [Act.put, List.getElem_toArray, List.getElem_cons_zero, List.getElem_cons_succ, List.setIfInBounds_toArray, List.set_cons_zero, List.set_cons_succ]
                    refine wpAnyG_done (by kernel_rfl) ?_ _
                    refine NoPanic.normal ?_
                    cases F
                    · skip
                      have HN := Lib.hid (And.intro (HX.out.2.1.skip (P' := fun a c => a < i ∨ (a = i ∧ c < k + 1)) (fun a c ha hc hp => by
                        rcases (by omega : (a < i ∨ (a = i ∧ c < k)) ∨ (a = i ∧ c = k)) with h | ⟨rfl, rfl⟩
                        · exact .inl h
                        · exact .inr (.inr (fun h => by rw [HX.out.1.2.2.1, HX.out.1.2.2.2] at h; simp at f2; omega)))) (HX.out.2.2.below T0))
                      clear T0 x0 x1 y0 y1 q1 q2 cA cB HX
                      go_wp2
                      go_roundw
                      case rel => exact ⟨k + 1, b, g, by go_num, rfl, by omega, HN.out.1, HN.out.2⟩
                      case measure => simp [intOf] <;> omega
                    · skip
                      have hvu : v < u := by simpa using f2
                      have hDf := HX.out.2.1.fall (P' := fun a c => a < i ∨ (a = i ∧ c < k + 1)) hin hkn (.inl HX.out.1.1) (by rw [HX.out.1.2.2.1, HX.out.1.2.2.2]; exact hvu)
                      rw [HX.out.1.2.2.2] at hDf
                      have hM2 := HX.out.2.2.below T0
                      have r1 := at_below q1 T0
                      have r2 := at_below q2 T0
                      have fz := hM2.free i
                      have hM3 := hM2.put hin v
                      obtain ⟨V, hV⟩ : ∃ V, Y3.setCell ⟨G, i, none⟩ (.int .i64 v) = V := ⟨_, rfl⟩
                      rw [hV] at hM3
                      have HN := Lib.hid (And.intro hDf hM3)
                      clear hM2 hM3 hDf hvu T0 x0 x1 y0 y1 q1 q2 cA cB HX
                      go_wp2
                      try rw [hV]
                      clear hV
                      go_roundw
                      case rel => exact ⟨k + 1, true, updF g i v, by go_num, rfl, by omega, HN.out.1, HN.out.2⟩
                      case measure => simp [intOf] <;> omega
                · obtain rfl : k = s.L.length := by omega
                  have HE := Lib.hid (And.intro (hO.skip (P' := fun a _ => a < i + 1) (fun a c ha hc h => .inl (by omega))) hM)
                  clear hM hO
                  go_wp2
                  go_roundw
                  case rel => exact ⟨i + 1, b, g, by go_num, rfl, by omega, HE.out.1, HE.out.2⟩
                  case measure => simp [intOf] <;> omega
            · obtain rfl : i = s.L.length := by omega
              have hsw2 := sumW_eq hM
              have HE := Lib.hid (And.intro hDi hM)
              have hms : 2 * sumW wr G s.L.length + bmv (.bool b) < 2 * sumW V G s.L.length + bmv (.bool true) := by
                rw [hsw2, HD0.out.2.2]
                cases b
                · have := (hDi.still rfl).1
                  simp only [bmv]; omega
                · have := hDi.fell rfl
                  simp only [bmv]; omega
              have HMS := Lib.hid hms
              clear hDi hM hsw2 hms
              go_wp2
              go_roundw
              case rel => exact ⟨b, g, rfl, HE.out.1.le, HE.out.1.con, (fun h => by subst h; exact HE.out.1.done (fun i k hi hk => hi)), HE.out.2⟩
              case measure => exact HMS.out
end Go.Proofs.Ytdcmkiggnmajgaa
