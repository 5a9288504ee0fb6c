/- Stage 16: both, the document's. -/
import Derived.Test.YtdcmkiggnmajgaaYz
import Derived.Test.YtdcmkiggnmajgaaZ0
namespace Go.Proofs.Ytdcmkiggnmajgaa
set_option linter.unusedVariables false
set_option linter.unusedSimpArgs false
open Go Go.RowKit Go.Shelf
set_option maxRecDepth 100000

theorem start_both {w W1 Wa : World} {bx bY : Array Value} {v v5 : Value} {S : List Int} (ba : Blk W1 w.heap.size bx 25) (bb : Blk W1 (w.heap.size + 1) bY 25) (bc : Blk W1 (w.heap.size + 2) #[.slice none 0 0, .slice none 0 0] 25) (bel : Below w.heap.size w W1) (hv : W1.ownsRow (w.heap.size + 3) 3 1 v 0 []) (hO : Wa.ownsRow (w.heap.size + 3) 3 1 v5 S.length (S.flatMap encI)) (hg : W1.grownBy Wa v.ownBlock) :
    TgR w (Wa.alloc (.cells #[.slice none 0 0, v5] 25)) bx bY Wa.heap.size (.slice none 0 0) v5 0 [] S := by
  have hbelA := bel.grown hg bel.size (fun r e => by have := (hv.lt r e).1; omega)
  have hA := (Below.refl Wa.heap.size Wa).alloc (Nat.le_refl _) (.cells #[.slice none 0 0, v5] 25)
  have hlt := bc.lt
  exact ⟨(ba.kept hg (fun e => by have := (hv.lt _ e.symm).1; omega)).below' hA, (bb.kept hg (fun e => by have := (hv.lt _ e.symm).1; omega)).below' hA, (bc.kept hg (fun e => by have := (hv.lt _ e.symm).1; omega)).below' hA, Blk.new Wa _ _, World.ownsRow_nil _ _ _ _, own_below hO hA, hbelA.trans (hA.mono hbelA.size), by have := hg.size; omega, rfl⟩

set_option maxHeartbeats 8000000 in
theorem refBoth_any (s t : Sc) (R : Nat → Nat → Prop) (f : Nat → Nat) (hMk : Mk s.L.length R f) (hRc : ∀ i j, i < s.L.length → j < s.L.length → R i j → i ≠ j → (0 ≤ ca s.L i ∨ 0 ≤ ca t.L i) ∧ (0 ≤ ca s.L j ∨ 0 ≤ ca t.L j)) (ol os ol' os' om : Option Addr) (cl cs cl' cs' cm : Nat) (hfs : NForm os s.S.length cs) (hl : t.L.length = s.L.length) (h1 : s.L.length ≤ 512) (h3 : s.S.length ≤ 512) (w : World) (hr : RowAt w encR 2 ol s.L) (ht : RowAt w encI 1 os s.S) (hr' : RowAt w encR 2 ol' t.L) (hm : RowAt w encI 1 om (rowF f s.L.length)) :
    Calls Try.prog 69 #[.agg #[.slice ol s.L.length cl, .slice os s.S.length cs], .agg #[.slice ol' t.L.length cl', .slice os' t.S.length cs'], .slice om s.L.length cm] w fun e w' => ∃ vl vs, e = .returned (.tuple #[.agg #[vl, vs], .int .i64 (togR s t f).2]) ∧ w'.ownsRow w.heap.size 79 2 vl (togR s t f).1.L.length ((togR s t f).1.L.flatMap encR) ∧ w'.ownsRow w.heap.size 3 1 vs (togR s t f).1.S.length ((togR s t f).1.S.flatMap encI) ∧ Below w.heap.size w w' := by
  obtain ⟨j0, hjI, hy0, hy1, hy2⟩ := info_parts infoRhyme
  obtain ⟨i0, hi, hz0, hz1, hz2⟩ := info_parts infoInt
  obtain ⟨W0, hW0, bA, bB, bC, hB0, hzs⟩ := boxes3 w #[.slice ol s.L.length cl, .slice os s.S.length cs] #[.slice ol' t.L.length cl', .slice os' t.S.length cs']
  have hA1 := (Below.refl W0.heap.size W0).alloc (Nat.le_refl _) (.cells #[] 3)
  have hown : (W0.alloc (.cells #[] 3)).ownsRow (w.heap.size + 3) 3 1 (.slice (some ⟨W0.heap.size, 0, none⟩) 0 0) 0 [] := World.ownsRow_made W0 #[] 0 (by omega) (Nat.zero_le _) rfl
  have HR := Lib.hid (And.intro (And.intro hr hr') (And.intro hm (And.intro hMk (And.intro hRc hl))))
  have HW := Lib.hid (And.intro (bA.below' hA1) (And.intro (bB.below' hA1) (And.intro (bC.below' hA1) (And.intro (hB0.trans (hA1.mono hB0.size)) hown))))
  have hs1 : w.heap.size + 3 ≤ (W0.alloc (.cells #[] 3)).heap.size := by simp; omega
  have hG03 : w.heap.size + 3 ≤ W0.heap.size := by omega
  clear hr hr' hm hMk hRc hl hA1 hown
  obtain ⟨W1, hW1⟩ : ∃ W1, W0.alloc (.cells #[] 3) = W1 := ⟨_, rfl⟩
  have c01 : W0.cell? ⟨w.heap.size, 1, none⟩ = some (.slice os s.S.length cs) := bA.cell 1
  obtain ⟨G0, hG0⟩ : ∃ G0, W0.heap.size = G0 := ⟨_, rfl⟩
  rw [hW1, hG0] at HW
  rw [hG0] at hG03
  rw [hW1] at hs1
  have c11 : W1.cell? ⟨w.heap.size, 1, none⟩ = some (.slice os s.S.length cs) := HW.out.1.cell 1
  clear bA bB bC hB0 hzs c01
  go_enter Try.func69, Try.ntmps69
  have HTT := Lib.hid ht
  clear ht
  go_wp2_with (at_builtin; (refine wpList_append_src encI_len rfl _ _ 23 rfl (w.heap.size + 3) 3 i0 (.int .i64 0) 8 Try.underlying23 hi hz0 hz1 hz2 rfl (by decide) _ _ _ rfl HW.out.2.2.2.2 s.S os cs hfs (HTT.out.below encI_len (by decide) HW.out.2.2.2.1) (encI_one _) rfl (by unfold maxLen; omega) (by omega) (by omega) ?_); intro v5 Wa hO hg; rw [Nat.zero_add, List.nil_append] at hO; obtain ⟨o5, c5, rfl, _⟩ := own_slice hO; (have HO := Lib.hid (And.intro hO hg)); clear hO hg; (have hT := start_both HW.out.1 HW.out.2.1 HW.out.2.2.1 HW.out.2.2.2.1 HW.out.2.2.2.2 HO.out.1 HO.out.2); (obtain ⟨W2, hW2⟩ : ∃ W2, Wa.alloc (.cells #[.slice none 0 0, .slice o5 s.S.length c5] 25) = W2 := ⟨_, rfl⟩); rw [hW2] at hT; (have x0 : W2.cell? ⟨w.heap.size, 0, none⟩ = some (.slice ol s.L.length cl) := hT.ba.cell 0); (have HT := Lib.hid hT); clear hT HO)
  obtain ⟨b, hb⟩ : ∃ b, Wa.heap.size = b := ⟨_, rfl⟩
  rw [hb] at HT
  try rw [hW2, hb]
  try rw [hb]
  clear hW2 hb HW hs1 c11 hW1 hW0 hG0 x0
  go_loopw [9, 22] (fun nx ix X => ∃ (i : Nat) (vl : Value), ix = .int .i64 i ∧ nx = .int .i64 ((togL s.L t.L f i).2 : Nat) ∧ i ≤ s.L.length ∧ TgR w X #[.slice ol s.L.length cl, .slice os s.S.length cs] #[.slice ol' t.L.length cl', .slice os' t.S.length cs'] b vl (.slice o5 s.S.length c5) i (togL s.L t.L f i).1 s.S) (fun _ ix _ => s.L.length - (intOf ix).toNat)
  case atStart => exact ⟨0, _, rfl, rfl, Nat.zero_le _, HT.out⟩
  case round =>
    obtain ⟨i, vl, rfl, rfl, hk, hT⟩ := hrel
    by_cases hlt : i < s.L.length
    · obtain ⟨ov, cv, rfl, hov⟩ := own_slice hT.rowL
      have hiN : (i : Int) < (s.L.length : Int) := by omega
      obtain ⟨nn, hnn⟩ : ∃ n, (togL s.L t.L f i).2 = n := ⟨_, rfl⟩
      have hnl : nn ≤ i := by rw [← hnn]; exact (togL_num _ _ _ _).2
      rw [hnn]
      have HN := Lib.hid hnn
      obtain ⟨V, hV⟩ : ∃ V, V = wr := ⟨_, rfl⟩
      subst hV
      have x0 : V.cell? ⟨w.heap.size, 0, none⟩ = some (.slice ol s.L.length cl) := hT.ba.cell 0
      obtain ⟨gm, offm, rfl, hcm⟩ := (HR.out.2.1.below encI_len (by decide) hT.bel) i _ (rowF_get f hlt)
      have q0 := hcm 0 (by decide)
      simp only [encI, List.getElem?_cons_succ, List.getElem?_cons_zero, Nat.add_zero, Nat.mul_one] at q0
      obtain ⟨mi, hmi⟩ : ∃ m, f i = m := ⟨_, rfl⟩
      rw [hmi] at q0
      have HV := Lib.hid (And.intro hT (And.intro hmi hov))
      clear hT hnn hcm hmi hov
      go_wp2
      clear x0
      go_loopw [11, 12, 28] (fun cc al ix X => ∃ (j : Nat) (c : Int) (a : Bool), ix = .int .i64 j ∧ cc = .int .i64 c ∧ al = .bool a ∧ j ≤ s.L.length ∧ (a = true ↔ ∀ k, k < j → k ≠ i → f k ≠ f i) ∧ ((c = -1 ∧ ∀ k, k < j → k < i → f k ≠ f i) ∨ (∃ k, k < j ∧ k < i ∧ f k = f i ∧ c = clsT s.L t.L f k)) ∧ Below V.heap.size V X) (fun _ _ ix _ => s.L.length - (intOf ix).toNat)
      case atStart => exact ⟨0, -1, true, rfl, rfl, rfl, Nat.zero_le _, ⟨fun _ k h => by omega, fun _ => rfl⟩, .inl ⟨rfl, fun k h => by omega⟩, Below.refl _ _⟩
      case round =>
        obtain ⟨j, c, a, rfl, rfl, rfl, hj, hal, hcl, hB⟩ := hrel
        have HH := Lib.hid (And.intro hal (And.intro hcl hB))
        clear hal hcl hB
        by_cases hjn : j < s.L.length
        · have hjN : (j : Int) < (s.L.length : Int) := by omega
          by_cases hji : j = i
          · have e1 : ((j : Int) != (i : Int)) = false := by rw [hji]; simp
            have e2 : (j != i) = false := by rw [hji]; simp
            go_wp2
            go_quiet (fail)
            go_wp2
            go_roundw
            case rel =>
              refine ⟨j + 1, c, a, by go_num, rfl, rfl, by omega, ?_, ?_, HH.out.2.2.trans ((below_drewN _ _).mono HH.out.2.2.size)⟩
              · rw [HH.out.1]
                exact ⟨fun h k hk hki => h k (by omega) hki, fun h k hk hki => h k (by omega) hki⟩
              · rcases HH.out.2.1 with ⟨h1, h2⟩ | ⟨k, h1, h2⟩
                · exact .inl ⟨h1, fun k hk hki => h2 k (by omega) hki⟩
                · exact .inr ⟨k, by omega, h2⟩
            case measure => simp [intOf] <;> omega
          · have e1 : ((j : Int) != (i : Int)) = true := by rw [bne_iff_ne]; omega
            have e2 : (j != i) = true := by rw [bne_iff_ne]; exact hji
            have p0 := at_below q0 HH.out.2.2
            obtain ⟨_, _, eg, hcm⟩ := (HR.out.2.1.below encI_len (by decide) (HV.out.1.below HH.out.2.2).bel) j _ (rowF_get f hjn)
            cases eg
            have p1 := hcm 0 (by decide)
            simp only [encI, List.getElem?_cons_succ, List.getElem?_cons_zero, Nat.add_zero, Nat.mul_one] at p1
            obtain ⟨mj, hmj⟩ : ∃ m, f j = m := ⟨_, rfl⟩
            rw [hmj] at p1
            have HJ := Lib.hid hmj
            clear hmj hcm
            by_cases hmm : mi = mj
            · have t1 : ((mi : Int) == (mj : Int)) = true := by rw [hmm]; simp
              have t2 : (mi == mj) = true := by rw [hmm]; simp
              have hfe : Hid (f j = f i) := Lib.hid (by rw [HJ.out, HV.out.2.1]; exact hmm.symm)
              have HMM := Lib.hid hmm
              clear hmm
              by_cases hlt2 : j < i
              · have d1 : decide ((j : Int) < (i : Int)) = true := decide_eq_true (by omega)
                have d2 : decide (j < i) = true := decide_eq_true hlt2
                have hjI : (j : Int) < (i : Int) := by omega
                obtain ⟨g4, hg4⟩ := HV.out.2.2 (by omega)
                subst hg4
                go_wp2
                go_quiet (fail)
                generalize hU : World.drewN wr _ = U
                have hBU : Below V.heap.size V U := HH.out.2.2.trans ((hU ▸ below_drewN wr _ : Below wr.heap.size wr U).mono HH.out.2.2.size)
                have hTU := HV.out.1.below hBU
                obtain ⟨w3, _⟩ := getR hTU.rowL (togL_at s.L t.L f hlt2) hTU.len
                have y0 : U.cell? ⟨b, 0, none⟩ = some (.slice (some ⟨g4, 0, none⟩) i cv) := hTU.out.cell 0
                obtain ⟨cj, hcj⟩ : ∃ c, clsT s.L t.L f j = c := ⟨_, rfl⟩
                simp only [hcj] at w3
                have HU := Lib.hid (And.intro hBU hcj)
                clear hU hBU hTU hcj
                go_wp2
                go_roundw
                case rel =>
                  refine ⟨j + 1, cj, false, by go_num, rfl, rfl, by omega, ?_, .inr ⟨j, by omega, hlt2, hfe.out, HU.out.2.symm⟩, HU.out.1⟩
                  exact ⟨(fun h => by cases h), fun h => absurd hfe.out (h j (by omega) hji)⟩
                case measure => simp [intOf] <;> omega
              · have d1 : decide ((j : Int) < (i : Int)) = false := decide_eq_false (by omega)
                have d2 : decide (j < i) = false := decide_eq_false hlt2
                go_wp2
                go_quiet (fail)
                go_wp2
                go_roundw
                case rel =>
                  refine ⟨j + 1, c, false, by go_num, rfl, rfl, by omega, ?_, ?_, HH.out.2.2.trans ((below_drewN _ _).mono HH.out.2.2.size)⟩
                  · exact ⟨(fun h => by cases h), fun h => absurd hfe.out (h j (by omega) hji)⟩
                  · rcases HH.out.2.1 with ⟨h1, h2⟩ | ⟨k, h1, h2⟩
                    · exact .inl ⟨h1, fun k hk hki => h2 k (by omega) hki⟩
                    · exact .inr ⟨k, by omega, h2⟩
                case measure => simp [intOf] <;> omega
            · have t1 : ((mi : Int) == (mj : Int)) = false := by rw [beq_eq_false_iff_ne]; omega
              have t2 : (mi == mj) = false := by rw [beq_eq_false_iff_ne]; exact hmm
              have hfe : Hid (f j ≠ f i) := Lib.hid (by rw [HJ.out, HV.out.2.1]; exact fun e => hmm e.symm)
              clear hmm
              go_wp2
              go_quiet (fail)
              go_wp2
              go_roundw
              case rel =>
                refine ⟨j + 1, c, a, by go_num, rfl, rfl, by omega, ?_, ?_, HH.out.2.2.trans ((below_drewN _ _).mono HH.out.2.2.size)⟩
                · rw [HH.out.1]
                  refine ⟨fun h k hk hki => ?_, fun h k hk hki => h k (by omega) hki⟩
                  rcases (by omega : k < j ∨ k = j) with h1 | rfl
                  · exact h k h1 hki
                  · exact hfe.out
                · rcases HH.out.2.1 with ⟨h1, h2⟩ | ⟨k, h1, h2⟩
                  · refine .inl ⟨h1, fun k hk hki => ?_⟩
                    rcases (by omega : k < j ∨ k = j) with h3 | rfl
                    · exact h2 k h3 hki
                    · exact hfe.out
                  · exact .inr ⟨k, by omega, h2⟩
              case measure => simp [intOf] <;> omega
        · obtain rfl : j = s.L.length := by omega
          have hbn := both_next HR.out.2.2.1 HR.out.2.2.2.1 hlt HH.out.1 (HH.out.2.1.imp (fun h => ⟨h.1, fun k hk => h.2 k (by omega) hk⟩) (fun ⟨k, h1, h2, h3, h4⟩ => ⟨k, h2, h3, h4⟩))
          rw [HN.out] at hbn
          obtain ⟨x, hx⟩ : ∃ x, s.L[i]? = some x := ⟨_, List.getElem?_eq_getElem hlt⟩
          obtain ⟨y, hy⟩ : ∃ x, t.L[i]? = some x := ⟨_, List.getElem?_eq_getElem (by have := HR.out.2.2.2.2; omega)⟩
          have hT1 := HV.out.1.below HH.out.2.2
          obtain ⟨ga, oa, rfl, hca⟩ := (HR.out.1.1.below encR_len (by decide) hT1.bel) i x hx
          obtain ⟨gb, ob, rfl, hcb⟩ := (HR.out.1.2.below encR_len (by decide) hT1.bel) i y hy
          have q2 := hca 0 (by decide)
          have q3 := hcb 0 (by decide)
          simp only [encR, List.getElem?_cons_succ, List.getElem?_cons_zero, Nat.add_zero] at q2 q3
          have x0 : wr.cell? ⟨w.heap.size, 0, none⟩ = some (.slice (some ⟨ga, oa, none⟩) s.L.length cl) := hT1.ba.cell 0
          have x1 : wr.cell? ⟨w.heap.size + 1, 0, none⟩ = some (.slice (some ⟨gb, ob, none⟩) t.L.length cl') := hT1.bb.cell 0
          have y0 : wr.cell? ⟨b, 0, none⟩ = some (.slice ov i cv) := hT1.out.cell 0
          have hiT : (i : Int) < (t.L.length : Int) := by have := HR.out.2.2.2.2; omega
          obtain ⟨xc, hxe⟩ : ∃ xc, x.c = xc := ⟨_, rfl⟩
          obtain ⟨yc, hye⟩ : ∃ yc, y.c = yc := ⟨_, rfl⟩
          rw [hxe] at q2
          rw [hye] at q3
          rw [ca_some hx, ca_some hy, hxe, hye] at hbn
          have HI := Lib.hid (And.intro hT1 hbn)
          have s1 : IntKind.i64.wrap ((nn : Int) + 1) = ((nn + 1 : Nat) : Int) := by rw [IntWalk.i64_in _ (by omega)]; omega
          clear hT1 hbn hca hcb hx hy hxe hye HH HV q0 hj hjn
          by_cases hc0 : 0 ≤ c
          · have d1 : decide (c < 0) = false := decide_eq_false (by omega)
            have hTU := HI.out.1
            have hnx := HI.out.2.1 hc0
            have hS := hTU.below ((Below.refl wr.heap.size wr).alloc (Nat.le_refl _) (.cells #[.int .i64 c, .int .i64 0] 79))
            have hw0 : w.heap.size < wr.heap.size := hTU.ba.lt
            have hw1 : w.heap.size + 1 < wr.heap.size := hTU.bb.lt
            have hbl : b < wr.heap.size := hTU.out.lt
            have hWX : w.heap.size + 3 ≤ wr.heap.size := by have := hTU.res.lt; omega
            have HS := Lib.hid (And.intro hS hnx)
            have HK := Lib.hid (And.intro hS.rowL (World.news_of_block (cs := #[.int .i64 c, .int .i64 0]) (t := 79) (fr := (0, 0)) (World.alloc_heap_new wr (.cells #[.int .i64 c, .int .i64 0] 79))))
            clear hS hnx hTU HI
            go_wp2_with (at_builtin; (refine wpList_append_own _ rfl _ _ 22 rfl (w.heap.size + 3) 79 j0 (.agg #[.int .i64 0, .int .i64 0]) 2 16 Try.underlying22 hjI hy0 hy1 hy2 rfl (by decide) _ _ _ rfl HK.out.1 ⟨wr.heap.size, 0, none⟩ 1 1 [.int .i64 c, .int .i64 0] rfl rfl HK.out.2 (fun x hx => by simp at hx; rcases hx with rfl | rfl <;> rfl) (by unfold maxLen; omega) (by omega) (by simp; omega) ?_); intro v2 w2 hown2 hg2 _; obtain ⟨o2, c2, rfl, _⟩ := own_slice hown2; (have hA := HS.out.1.app hg2 hown2); (have HA := Lib.hid hA); obtain ⟨z0, z1, z2, z3⟩ := HS.out.1.cellsG hg2)
            go_roundw
            case rel => exact ⟨i + 1, _, by go_num, by rw [HS.out.2]; skip, by omega, by rw [HS.out.2]; exact HA.out⟩
            case measure => simp [intOf] <;> omega
          · replace hc0 : c < 0 := by omega
            have d1 : decide (c < 0) = true := decide_eq_true hc0
            cases a
            · skip
              have hTU := HI.out.1
              have hnx := HI.out.2.2.1 hc0 (.inl rfl)
              have hS := hTU.below ((Below.refl wr.heap.size wr).alloc (Nat.le_refl _) (.cells #[.int .i64 nn, .int .i64 0] 79))
              have hw0 : w.heap.size < wr.heap.size := hTU.ba.lt
              have hw1 : w.heap.size + 1 < wr.heap.size := hTU.bb.lt
              have hbl : b < wr.heap.size := hTU.out.lt
              have hWX : w.heap.size + 3 ≤ wr.heap.size := by have := hTU.res.lt; omega
              have HS := Lib.hid (And.intro hS hnx)
              have HK := Lib.hid (And.intro hS.rowL (World.news_of_block (cs := #[.int .i64 nn, .int .i64 0]) (t := 79) (fr := (0, 0)) (World.alloc_heap_new wr (.cells #[.int .i64 nn, .int .i64 0] 79))))
              clear hS hnx hTU HI
              go_wp2_with (at_builtin; (refine wpList_append_own _ rfl _ _ 22 rfl (w.heap.size + 3) 79 j0 (.agg #[.int .i64 0, .int .i64 0]) 2 16 Try.underlying22 hjI hy0 hy1 hy2 rfl (by decide) _ _ _ rfl HK.out.1 ⟨wr.heap.size, 0, none⟩ 1 1 [.int .i64 nn, .int .i64 0] rfl rfl HK.out.2 (fun x hx => by simp at hx; rcases hx with rfl | rfl <;> rfl) (by unfold maxLen; omega) (by omega) (by simp; omega) ?_); intro v2 w2 hown2 hg2 _; obtain ⟨o2, c2, rfl, _⟩ := own_slice hown2; (have hA := HS.out.1.app hg2 hown2); (have HA := Lib.hid hA); obtain ⟨z0, z1, z2, z3⟩ := HS.out.1.cellsG hg2)
              go_roundw
              case rel => exact ⟨i + 1, _, by go_num, by rw [HS.out.2]; simp only [HN.out]; go_num, by omega, by rw [HS.out.2]; exact HA.out⟩
              case measure => simp [intOf] <;> omega
            · by_cases hp : 0 ≤ xc
              · have d3 : decide ((0 : Int) ≤ xc) = true := decide_eq_true hp
                have HNN := Lib.hid hp
                have hTU := HI.out.1
                have hnx := HI.out.2.2.1 hc0 (.inr (.inl hp))
                have hS := hTU.below ((Below.refl wr.heap.size wr).alloc (Nat.le_refl _) (.cells #[.int .i64 nn, .int .i64 0] 79))
                have hw0 : w.heap.size < wr.heap.size := hTU.ba.lt
                have hw1 : w.heap.size + 1 < wr.heap.size := hTU.bb.lt
                have hbl : b < wr.heap.size := hTU.out.lt
                have hWX : w.heap.size + 3 ≤ wr.heap.size := by have := hTU.res.lt; omega
                have HS := Lib.hid (And.intro hS hnx)
                have HK := Lib.hid (And.intro hS.rowL (World.news_of_block (cs := #[.int .i64 nn, .int .i64 0]) (t := 79) (fr := (0, 0)) (World.alloc_heap_new wr (.cells #[.int .i64 nn, .int .i64 0] 79))))
                clear hS hnx hTU HI
                go_wp2_with (at_builtin; (refine wpList_append_own _ rfl _ _ 22 rfl (w.heap.size + 3) 79 j0 (.agg #[.int .i64 0, .int .i64 0]) 2 16 Try.underlying22 hjI hy0 hy1 hy2 rfl (by decide) _ _ _ rfl HK.out.1 ⟨wr.heap.size, 0, none⟩ 1 1 [.int .i64 nn, .int .i64 0] rfl rfl HK.out.2 (fun x hx => by simp at hx; rcases hx with rfl | rfl <;> rfl) (by unfold maxLen; omega) (by omega) (by simp; omega) ?_); intro v2 w2 hown2 hg2 _; obtain ⟨o2, c2, rfl, _⟩ := own_slice hown2; (have hA := HS.out.1.app hg2 hown2); (have HA := Lib.hid hA); obtain ⟨z0, z1, z2, z3⟩ := HS.out.1.cellsG hg2)
                go_roundw
                case rel => exact ⟨i + 1, _, by go_num, by rw [HS.out.2]; simp only [HN.out]; go_num, by omega, by rw [HS.out.2]; exact HA.out⟩
                case measure => simp [intOf] <;> omega
              · have d3 : decide ((0 : Int) ≤ xc) = false := decide_eq_false hp
                by_cases hr : 0 ≤ yc
                · have d4 : decide ((0 : Int) ≤ yc) = true := decide_eq_true hr
                  have hTU := HI.out.1
                  have hnx := HI.out.2.2.1 hc0 (.inr (.inr hr))
                  have hS := hTU.below ((Below.refl wr.heap.size wr).alloc (Nat.le_refl _) (.cells #[.int .i64 nn, .int .i64 0] 79))
                  have hw0 : w.heap.size < wr.heap.size := hTU.ba.lt
                  have hw1 : w.heap.size + 1 < wr.heap.size := hTU.bb.lt
                  have hbl : b < wr.heap.size := hTU.out.lt
                  have hWX : w.heap.size + 3 ≤ wr.heap.size := by have := hTU.res.lt; omega
                  have HS := Lib.hid (And.intro hS hnx)
                  have HK := Lib.hid (And.intro hS.rowL (World.news_of_block (cs := #[.int .i64 nn, .int .i64 0]) (t := 79) (fr := (0, 0)) (World.alloc_heap_new wr (.cells #[.int .i64 nn, .int .i64 0] 79))))
                  clear hS hnx hTU HI
                  go_wp2_with (at_builtin; (refine wpList_append_own _ rfl _ _ 22 rfl (w.heap.size + 3) 79 j0 (.agg #[.int .i64 0, .int .i64 0]) 2 16 Try.underlying22 hjI hy0 hy1 hy2 rfl (by decide) _ _ _ rfl HK.out.1 ⟨wr.heap.size, 0, none⟩ 1 1 [.int .i64 nn, .int .i64 0] rfl rfl HK.out.2 (fun x hx => by simp at hx; rcases hx with rfl | rfl <;> rfl) (by unfold maxLen; omega) (by omega) (by simp; omega) ?_); intro v2 w2 hown2 hg2 _; obtain ⟨o2, c2, rfl, _⟩ := own_slice hown2; (have hA := HS.out.1.app hg2 hown2); (have HA := Lib.hid hA); obtain ⟨z0, z1, z2, z3⟩ := HS.out.1.cellsG hg2)
                  go_roundw
                  case rel => exact ⟨i + 1, _, by go_num, by rw [HS.out.2]; simp only [HN.out]; go_num, by omega, by rw [HS.out.2]; exact HA.out⟩
                  case measure => simp [intOf] <;> omega
                · have d4 : decide ((0 : Int) ≤ yc) = false := decide_eq_false hr
                  have HNN : Hid (¬ (true = false ∨ 0 ≤ xc ∨ 0 ≤ yc)) := Lib.hid (by rintro (h | h | h); cases h; exact hp h; exact hr h)
                  have hTU := HI.out.1
                  have hnx := HI.out.2.2.2 hc0 HNN.out
                  have hS := hTU.below ((Below.refl wr.heap.size wr).alloc (Nat.le_refl _) (.cells #[.int .i64 c, .int .i64 0] 79))
                  have hw0 : w.heap.size < wr.heap.size := hTU.ba.lt
                  have hw1 : w.heap.size + 1 < wr.heap.size := hTU.bb.lt
                  have hbl : b < wr.heap.size := hTU.out.lt
                  have hWX : w.heap.size + 3 ≤ wr.heap.size := by have := hTU.res.lt; omega
                  have HS := Lib.hid (And.intro hS hnx)
                  have HK := Lib.hid (And.intro hS.rowL (World.news_of_block (cs := #[.int .i64 c, .int .i64 0]) (t := 79) (fr := (0, 0)) (World.alloc_heap_new wr (.cells #[.int .i64 c, .int .i64 0] 79))))
                  clear hS hnx hTU HI
                  go_wp2_with (at_builtin; (refine wpList_append_own _ rfl _ _ 22 rfl (w.heap.size + 3) 79 j0 (.agg #[.int .i64 0, .int .i64 0]) 2 16 Try.underlying22 hjI hy0 hy1 hy2 rfl (by decide) _ _ _ rfl HK.out.1 ⟨wr.heap.size, 0, none⟩ 1 1 [.int .i64 c, .int .i64 0] rfl rfl HK.out.2 (fun x hx => by simp at hx; rcases hx with rfl | rfl <;> rfl) (by unfold maxLen; omega) (by omega) (by simp; omega) ?_); intro v2 w2 hown2 hg2 _; obtain ⟨o2, c2, rfl, _⟩ := own_slice hown2; (have hA := HS.out.1.app hg2 hown2); (have HA := Lib.hid hA); obtain ⟨z0, z1, z2, z3⟩ := HS.out.1.cellsG hg2)
                  go_roundw
                  case rel => exact ⟨i + 1, _, by go_num, by rw [HS.out.2]; skip, by omega, by rw [HS.out.2]; exact HA.out⟩
                  case measure => simp [intOf] <;> omega
    · obtain rfl : i = s.L.length := by omega
      obtain ⟨nn, hnn⟩ : ∃ n, (togL s.L t.L f s.L.length).2 = n := ⟨_, rfl⟩
      have hnl : nn ≤ s.L.length := by rw [← hnn]; exact (togL_num _ _ _ _).2
      obtain ⟨o4, c4, rfl, _⟩ := own_slice hT.rowL
      have f0 := hT.res.frozen 0
      have f1 := hT.res.frozen 1
      have n0 : wr.cell? ⟨w.heap.size + 2, 0, none⟩ = some (.slice none 0 0) := hT.res.cell 0
      have n1 : wr.cell? ⟨w.heap.size + 2, 1, none⟩ = some (.slice none 0 0) := hT.res.cell 1
      have y0 : wr.cell? ⟨b, 0, none⟩ = some (.slice o4 s.L.length c4) := hT.out.cell 0
      have y1 : wr.cell? ⟨b, 1, none⟩ = some (.slice o5 s.S.length c5) := hT.out.cell 1
      by_cases h25 : 25 < nn
      · have d2 : decide ((25 : Int) < (nn : Int)) = true := decide_eq_true (by omega)
        have d3 : decide (25 < nn) = true := decide_eq_true h25
        have hR : togR s t f = (⟨[], []⟩, 5) := by unfold togR; rw [hnn, if_pos h25]
        obtain ⟨g0, g1, rB⟩ := hT.fin0
        obtain ⟨F, hF⟩ : ∃ F, (wr.setCell ⟨w.heap.size + 2, 0, none⟩ (.slice none 0 0)).setCell ⟨w.heap.size + 2, 1, none⟩ (.slice none 0 0) = F := ⟨_, rfl⟩
        rw [hF] at g0 g1 rB
        rw [hnn]
        have HB := Lib.hid (And.intro rB hR)
        clear hT rB hR hnn hlt hk
        go_wp2
        try rw [hF]
        clear hF
        exact bodyPost_ret (v := .tuple #[.agg #[.slice none 0 0, .slice none 0 0], .int .i64 5]) (by simp [results, Try.f69, go_sem, g0, g1]) rfl (by rw [HB.out.2]; exact ⟨_, _, rfl, World.ownsRow_nil _ _ _ _, World.ownsRow_nil _ _ _ _, HB.out.1⟩)
      · have d2 : decide ((25 : Int) < (nn : Int)) = false := decide_eq_false (by omega)
        have d3 : decide (25 < nn) = false := decide_eq_false h25
        have hR : togR s t f = (⟨(togL s.L t.L f s.L.length).1, s.S⟩, 0) := by unfold togR; rw [hnn, if_neg h25]
        obtain ⟨g0, g1, r0, r1, rB⟩ := hT.fin
        obtain ⟨F, hF⟩ : ∃ F, (wr.setCell ⟨w.heap.size + 2, 0, none⟩ (.slice o4 s.L.length c4)).setCell ⟨w.heap.size + 2, 1, none⟩ (.slice o5 s.S.length c5) = F := ⟨_, rfl⟩
        rw [hF] at g0 g1 r0 r1 rB
        rw [hnn]
        have HB := Lib.hid (And.intro (And.intro r0 r1) (And.intro rB hR))
        clear hT rB hR hnn hlt hk r0 r1
        go_wp2
        try rw [hF]
        clear hF
        exact bodyPost_ret (v := .tuple #[.agg #[.slice o4 s.L.length c4, .slice o5 s.S.length c5], .int .i64 0]) (by simp [results, Try.f69, go_sem, g0, g1]) rfl (by rw [HB.out.2.2]; exact ⟨_, _, rfl, by simp only [togL_len]; exact HB.out.1.1, HB.out.1.2, HB.out.2.1⟩)
end Go.Proofs.Ytdcmkiggnmajgaa
