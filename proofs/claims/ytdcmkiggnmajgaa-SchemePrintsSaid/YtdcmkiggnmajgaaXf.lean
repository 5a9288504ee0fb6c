/- Stage 16: Canon, the document's. -/
import Derived.Test.YtdcmkiggnmajgaaXe
import Derived.Test.YtdcmkiggnmajgaaVt
import Derived.Test.YtdcmkiggnmajgaaVw
namespace Go.Proofs.Ytdcmkiggnmajgaa
set_option linter.unusedVariables false
set_option linter.unusedSimpArgs false
open Go Go.RowKit Go.Shelf
set_option maxRecDepth 100000

set_option maxHeartbeats 8000000 in
theorem refCanon_any (s : Sc) (ol os : Option Addr) (cl cs : Nat) (hfl : NForm ol s.L.length cl) (hfs : NForm os s.S.length cs) (hmay : mayB s = true) (w : World) (hr : RowAt w encR 2 ol s.L) (ht : RowAt w encI 1 os s.S) :
    Calls Try.prog 33 #[.agg #[.slice ol s.L.length cl, .slice os s.S.length cs]] w fun e w' => ∃ vl vs, e = .returned (.agg #[vl, vs]) ∧ w'.ownsRow w.heap.size 79 2 vl s.L.length ((canL s.L).flatMap encR) ∧ w'.ownsRow w.heap.size 3 1 vs s.S.length (s.S.flatMap encI) ∧ Below w.heap.size w w' := by
  obtain ⟨h1, hall, h3⟩ := may_parts hmay
  have hB0 := ((Below.refl _ w).alloc (Nat.le_refl _) (.cells #[.slice ol s.L.length cl, .slice os s.S.length cs] 25)).alloc (by simp) (.cells #[.slice none 0 0, .slice none 0 0] 25)
  have b1 := (Blk.new w #[.slice ol s.L.length cl, .slice os s.S.length cs] 25).alloc (.cells #[.slice none 0 0, .slice none 0 0] 25)
  have b2 := Blk.new (w.alloc (.cells #[.slice ol s.L.length cl, .slice os s.S.length cs] 25)) #[.slice none 0 0, .slice none 0 0] 25
  rw [World.size_alloc] at b2
  have hr0 := hr.below encR_len (by decide) hB0
  have ht0 := ht.below encI_len (by decide) hB0
  obtain ⟨W0, hW0⟩ : ∃ W0, (w.alloc (.cells #[.slice ol s.L.length cl, .slice os s.S.length cs] 25)).alloc (.cells #[.slice none 0 0, .slice none 0 0] 25) = W0 := ⟨_, rfl⟩
  have hz0 : W0.heap.size = w.heap.size + 2 := by rw [← hW0, World.size_alloc, World.size_alloc]
  rw [hW0] at hB0 b1 b2 hr0 ht0
  have c00 : W0.cell? ⟨w.heap.size, 0, none⟩ = some (.slice ol s.L.length cl) := b1.cell 0
  have c01 : W0.cell? ⟨w.heap.size, 1, none⟩ = some (.slice os s.S.length cs) := b1.cell 1
  have HR := Lib.hid (And.intro hr ht)
  clear hr ht
  go_enter Try.func33, Try.ntmps33
  go_wp2_with (fail)
  try rw [hW0]
  clear hW0
  refine (copy_any s ol os cl cs hfl hfs (by omega) (by omega) _ hr0 ht0).mono ?_
  rintro e W1 ⟨vl, vs, rfl, hO1, hO2, hB⟩
  obtain ⟨o4, c4, rfl, hg4⟩ := own_slice hO1
  obtain ⟨o5, c5, rfl, hg5⟩ := own_slice hO2
  rw [hz0] at hO1 hO2
  have hA := (Below.refl W1.heap.size W1).alloc (Nat.le_refl _) (.cells #[.slice o4 s.L.length c4, .slice o5 s.S.length c5] 25)
  have b3 := Blk.new W1 #[.slice o4 s.L.length c4, .slice o5 s.S.length c5] 25
  have hT : TnS w (W1.alloc (.cells #[.slice o4 s.L.length c4, .slice o5 s.S.length c5] 25)) #[.slice ol s.L.length cl, .slice os s.S.length cs] W1.heap.size o4 c4 o5 c5 s.L.length s.S.length s.L s.S :=
    ⟨(b2.below' hB).below' hA, (b1.below' hB).below' hA, b3, own_below hO1 hA, own_below hO2 hA, (hB0.trans (hB.mono hB0.size)).trans (hA.mono (hB0.trans (hB.mono hB0.size)).size), rfl, rfl⟩
  obtain ⟨b, hb⟩ : ∃ b, W1.heap.size = b := ⟨_, rfl⟩
  obtain ⟨W2, hW2⟩ : ∃ W2, W1.alloc (.cells #[.slice o4 s.L.length c4, .slice o5 s.S.length c5] 25) = W2 := ⟨_, rfl⟩
  rw [hW2, hb] at hT
  have x0 : W2.cell? ⟨w.heap.size, 0, none⟩ = some (.slice ol s.L.length cl) := hT.box.cell 0
  have x1 : W2.cell? ⟨w.heap.size, 1, none⟩ = some (.slice os s.S.length cs) := hT.box.cell 1
  have HT := Lib.hid hT
  clear hA b3 hO1 hO2 hB b1 b2 hB0 c00 c01 hT hz0 hr0 ht0
  go_wp2
  clear hW2 hb x0 x1
  go_loopw [4, 12] (fun c i X => ∃ k : Nat, i = .int .i64 k ∧ c = .int .i64 (cntF s.L k : Nat) ∧ k ≤ s.L.length ∧ TnS w X #[.slice ol s.L.length cl, .slice os s.S.length cs] b o4 c4 o5 c5 s.L.length s.S.length (canT s.L k) s.S) (fun _ i _ => s.L.length - (intOf i).toNat)
  case atStart => exact ⟨0, rfl, rfl, by omega, by rw [canT_zero]; exact HT.out⟩
  case round =>
    obtain ⟨k, rfl, rfl, hk, hT⟩ := hrel
    have x0 : wr.cell? ⟨w.heap.size, 0, none⟩ = some (.slice ol s.L.length cl) := hT.box.cell 0
    have x1 : wr.cell? ⟨w.heap.size, 1, none⟩ = some (.slice os s.S.length cs) := hT.box.cell 1
    by_cases hlt : k < s.L.length
    · obtain ⟨x, hx⟩ : ∃ x, s.L[k]? = some x := ⟨_, List.getElem?_eq_getElem hlt⟩
      have cF := refFirst_any s ol os cl cs (by omega) k x hx (fstL s.L k x) rfl wr (HR.out.1.below encR_len (by decide) hT.bel)
      have hFle := fstL_le hx
      obtain ⟨F, hF⟩ : ∃ F, fstL s.L k x = F := ⟨_, rfl⟩
      rw [hF] at cF hFle
      obtain ⟨W', hW'⟩ : ∃ W', wr = W' := ⟨_, rfl⟩
      subst hW'
      have HT := Lib.hid hT
      have HX := Lib.hid (And.intro hx hF)
      clear hT hF hx
      go_wp2_with (fail)
      refine cF.mono ?_
      rintro e W2 ⟨rfl, hB2⟩
      have hT := HT.out.below hB2
      obtain ⟨hx, hF⟩ := HX.out
      have hok := (okR_iff x).1 (List.all_eq_true.1 hall x (List.mem_of_getElem? hx))
      obtain ⟨_, _, e4, hq4⟩ := own_slice hT.rowL
      obtain ⟨g4, hq4⟩ := hq4 (by omega)
      cases e4
      subst hq4
      obtain ⟨g, off, rfl, hc⟩ := (HR.out.1.below encR_len (by decide) hT.bel) k x hx
      have q0 := hc 0 (by decide)
      have x0 : W2.cell? ⟨w.heap.size, 0, none⟩ = some (.slice (some ⟨g, off, none⟩) s.L.length cl) := hT.box.cell 0
      have x1 : W2.cell? ⟨w.heap.size, 1, none⟩ = some (.slice os s.S.length cs) := hT.box.cell 1
      have w0 : W2.cell? ⟨b, 0, none⟩ = some (.slice (some ⟨g4, 0, none⟩) s.L.length c4) := hT.out.cell 0
      obtain ⟨w3, _⟩ := getR hT.rowL (canT_at hx) hT.lenL
      have f3 := own_freeK hT.rowL (k * 2)
      simp only [encR, List.getElem?_cons_succ, List.getElem?_cons_zero, Nat.add_zero] at q0
      have hkN : (k : Int) < (s.L.length : Int) := by omega
      have hFN : (F : Int) < (s.L.length : Int) := by omega
      clear hc hB2
      by_cases hneg : x.c < 0
      · have d1 : decide (x.c < 0) = true := decide_eq_true hneg
        have HE := Lib.hid (And.intro hT (And.intro (canT_neg hx hneg) (cntF_not hx (.inl hneg))))
        obtain ⟨xc, hxc⟩ : ∃ xc, x.c = xc := ⟨_, rfl⟩
        rw [hxc] at q0 d1 w3
        clear hT hx hF hok hxc hneg w0 w3 f3
        go_wp2
        go_roundw
        case rel => exact ⟨k + 1, by go_num, by rw [HE.out.2.2], by omega, by rw [HE.out.2.1]; exact HE.out.1⟩
        case measure => simp [intOf]; omega
      · have d1 : decide (x.c < 0) = false := decide_eq_false hneg
        obtain ⟨f, hf, hfk, ⟨y, hy, hyc⟩, _⟩ := fidx_at hx
        have hFf : F = f := by
          rw [← hF]
          unfold fstL
          rw [if_neg hneg, hf]
          simp
        subst hFf
        have hcan : canC s.L x = (cntF s.L F : Nat) := by
          unfold canC
          rw [if_neg hneg, hf]
          simp
        have hcc : canC s.L y = canC s.L x := by unfold canC; rw [hyc]
        by_cases hlt2 : F < k
        · have d2 : decide (F < k) = true := decide_eq_true hlt2
          have d3 : decide ((F : Int) < (k : Int)) = true := decide_eq_true (by omega)
          obtain ⟨w5, _⟩ := getR hT.rowL (canT_low hlt2 hy) hT.lenL
          simp only [hcc] at w5
          obtain ⟨cv, hcv⟩ : ∃ cv, canC s.L x = cv := ⟨_, rfl⟩
          rw [hcv] at w5
          have HN : Hid (∀ U, U = W2.drew → TnS w (U.setCell ⟨g4, k * 2, none⟩ (.int .i64 cv)) #[.slice (some ⟨g, off, none⟩) s.L.length cl, .slice os s.S.length cs] b (some ⟨g4, 0, none⟩) c4 o5 c5 s.L.length s.S.length (canT s.L (k + 1)) s.S) := Lib.hid (fun U hU => by
            have h1 := (hT.below ((Below.refl _ W2).drew)).cls (canT_at hx) cv
            rw [← hcv, ← canT_next hx, hcv] at h1
            exact hU ▸ h1)
          have HCT := Lib.hid (cntF_not hx (.inr (by rw [hf]; omega)))
          obtain ⟨xc, hxc⟩ : ∃ xc, x.c = xc := ⟨_, rfl⟩
          rw [hxc] at q0 d1 w3
          clear hT hx hF hok hxc hneg hy hyc hcan hcc hcv hf
          go_wp2
          go_still_tail 11, (by kernel_rfl)
          change wpList _ _ _ _ _ W2.drew
          obtain ⟨U, hU⟩ : ∃ U, W2.drew = U := ⟨_, rfl⟩
          have HU := Lib.hid (HN.out U hU.symm)
          have u3 : U.cell? ⟨g4, k * 2, none⟩ = some (.int .i64 xc) := hU ▸ w3
          have uf : U.frozen? ⟨g4, k * 2, none⟩ = false := hU ▸ f3
          rw [hU]
          clear hU w0 w3 f3
          go_wp2
          exact ⟨⟨k + 1, by go_num, by rw [HCT.out], by omega, HU.out⟩, by simp [intOf]; omega⟩
        · obtain rfl : F = k := by omega
          have d2 : decide (F < F) = false := decide_eq_false (by omega)
          have d3 : decide ((F : Int) < (F : Int)) = false := decide_eq_false (by omega)
          have h1 := hT.cls (canT_at hx) (cntF s.L F : Nat)
          rw [← hcan, ← canT_next hx, hcan] at h1
          have HN := Lib.hid (And.intro h1 (cntF_first hx (by omega) hf))
          have hcle := cntF_le s.L F
          obtain ⟨xc, hxc⟩ : ∃ xc, x.c = xc := ⟨_, rfl⟩
          rw [hxc] at q0 d1 w3
          clear hT hx hF hok hxc hneg hy hyc hcan hcc hf h1
          go_wp2
          go_roundw
          case rel => exact ⟨F + 1, by go_num, by rw [HN.out.2]; go_num, by omega, HN.out.1⟩
          case measure => simp [intOf]; omega
    · obtain rfl : k = s.L.length := by omega
      rw [canT_end] at hT
      have z0 : wr.cell? ⟨b, 0, none⟩ = some (.slice o4 s.L.length c4) := hT.out.cell 0
      have z1 : wr.cell? ⟨b, 1, none⟩ = some (.slice o5 s.S.length c5) := hT.out.cell 1
      have f0 := hT.res.frozen 0
      have f1 := hT.res.frozen 1
      have n0 : wr.cell? ⟨w.heap.size + 1, 0, none⟩ = some (.slice none 0 0) := hT.res.cell 0
      have n1 : wr.cell? ⟨w.heap.size + 1, 1, none⟩ = some (.slice none 0 0) := hT.res.cell 1
      obtain ⟨g0, g1, r0, r1, rB⟩ := hT.fin
      obtain ⟨F, hF⟩ : ∃ F, (wr.setCell ⟨w.heap.size + 1, 0, none⟩ (.slice o4 s.L.length c4)).setCell ⟨w.heap.size + 1, 1, none⟩ (.slice o5 s.S.length c5) = F := ⟨_, rfl⟩
      rw [hF] at g0 g1 r0 r1 rB
      have HE := Lib.hid (And.intro r0 (And.intro r1 rB))
      clear r0 r1 rB hT
      go_wp2
      try rw [hF]
      clear hF
      exact bodyPost_ret (v := .agg #[.slice o4 s.L.length c4, .slice o5 s.S.length c5]) (by simp [results, Try.f33, go_sem, g0, g1]) rfl ⟨_, _, rfl, HE.out.1, HE.out.2.1, HE.out.2.2⟩

end Go.Proofs.Ytdcmkiggnmajgaa
