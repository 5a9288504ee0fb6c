/- Stage 16: Meet, the program's. -/
import Derived.Test.YtdcmkiggnmajgaaYz
import Derived.Test.YtdcmkiggnmajgaaZ0
namespace Go.Proofs.Ytdcmkiggnmajgaa
set_option linter.unusedVariables false
set_option linter.unusedSimpArgs false
open Go Go.RowKit Go.Shelf
set_option maxRecDepth 100000

theorem alikeF_any (s : Sc) (ol os : Option Addr) (cl cs : Nat) (hn : s.L.length ≤ 9223372036854775807) (i k : Nat) (hi : i < s.L.length) (hk : k < s.L.length) (E : Bool) (hE : alkF s.L i k = E) (w : World) (hr : RowAt w encR 2 ol s.L) :
    Calls Try.prog 62 #[.agg #[.slice ol s.L.length cl, .slice os s.S.length cs], .int .i64 i, .int .i64 k] w fun e w' => e = .returned (.bool E) ∧ Below w.heap.size w w' := by
  obtain ⟨x, hx⟩ : ∃ x, s.L[i]? = some x := ⟨_, List.getElem?_eq_getElem hi⟩
  obtain ⟨y, hy⟩ : ∃ x, s.L[k]? = some x := ⟨_, List.getElem?_eq_getElem hk⟩
  exact alike_any s ol os cl cs hn i k x y hx hy E (by rw [alkB_F hx hy]; exact hE) w hr

set_option maxHeartbeats 8000000 in
theorem meet_any (s t : Sc) (ol os ol' os' : Option Addr) (cl cs cl' cs' : Nat) (hfs : NForm os s.S.length cs) (hms : mayB s = true) (hmt : mayB t = true) (hlen : t.L.length = s.L.length) (w : World) (hr : RowAt w encR 2 ol s.L) (ht : RowAt w encI 1 os s.S) (hr' : RowAt w encR 2 ol' t.L) (ht' : RowAt w encI 1 os' t.S) :
    Calls Try.prog 24 #[.agg #[.slice ol s.L.length cl, .slice os s.S.length cs], .agg #[.slice ol' t.L.length cl', .slice os' t.S.length cs']] w fun e w' => ∃ (f : Nat → Nat) (vl vs : Value), Mk s.L.length (relM s.L t.L) f ∧ e = .returned (.tuple #[.agg #[vl, vs], .int .i64 (togR s t f).2]) ∧ w'.ownsRow w.heap.size 79 2 vl (togR s t f).1.L.length ((togR s t f).1.L.flatMap encR) ∧ w'.ownsRow w.heap.size 3 1 vs (togR s t f).1.S.length ((togR s t f).1.S.flatMap encI) ∧ Below w.heap.size w w' := by
  obtain ⟨h1, h2, h3⟩ := may_parts hms
  obtain ⟨h1', _, h3'⟩ := may_parts hmt
  have cO := fun W a b c d => both_any s t ol os ol' os' cl cs cl' cs' (by omega) (by omega) (by omega) (by omega) W a b c d
  rw [show bothB s t = true by simp [bothB, hms, hmt, hlen]] at cO
  simp only [if_true] at cO
  obtain ⟨W0, hW0, bA, bB, bC, hB0, hz0⟩ := boxes3 w #[.slice ol s.L.length cl, .slice os s.S.length cs] #[.slice ol' t.L.length cl', .slice os' t.S.length cs']
  have c00 : W0.cell? ⟨w.heap.size, 0, none⟩ = some (.slice ol s.L.length cl) := bA.cell 0
  have c01 : W0.cell? ⟨w.heap.size, 1, none⟩ = some (.slice os s.S.length cs) := bA.cell 1
  have c10 : W0.cell? ⟨w.heap.size + 1, 0, none⟩ = some (.slice ol' t.L.length cl') := bB.cell 0
  have c11 : W0.cell? ⟨w.heap.size + 1, 1, none⟩ = some (.slice os' t.S.length cs') := bB.cell 1
  have hmk := fun W => make_ints W s.L.length (by omega)
  have HR := Lib.hid (And.intro (And.intro hr hr') (And.intro hlen (And.intro ht ht')))
  have HW := Lib.hid (And.intro bA (And.intro bB (And.intro bC hB0)))
  clear hr hr' ht ht' hlen bA bB bC hB0 hz0 hms hmt
  go_enter Try.func24, Try.ntmps24
  go_wp2_with (fail)
  try rw [hW0]
  clear hW0
  refine (cO _ (HR.out.1.1.below encR_len (by decide) HW.out.2.2.2) (HR.out.2.2.1.below encI_len (by decide) HW.out.2.2.2) (HR.out.1.2.below encR_len (by decide) HW.out.2.2.2) (HR.out.2.2.2.below encI_len (by decide) HW.out.2.2.2)).mono ?_
  rintro e W1 ⟨rfl, hB⟩
  have hS := MkR.start s.L.length (by omega) (HW.out.1.below' hB) (HW.out.2.1.below' hB) (HW.out.2.2.1.below' hB) (HW.out.2.2.2.trans (hB.mono HW.out.2.2.2.size))
  have x0 : W1.cell? ⟨w.heap.size, 0, none⟩ = some (.slice ol s.L.length cl) := (HW.out.1.below' hB).cell 0
  clear hB c00 c01 c10 c11 cO
  obtain ⟨G, hG⟩ : ∃ G, W1.heap.size = G := ⟨_, rfl⟩
  obtain ⟨W2, hW2⟩ : ∃ W2, W1.alloc (.cells (madeCells #[.int .i64 0] s.L.length) 3) = W2 := ⟨_, rfl⟩
  rw [hW2, hG] at hS
  have HS := Lib.hid hS
  clear hS
  go_wp2
  try rw [hW2, hG]
  try rw [hW2]
  clear hW2 hG hmk x0 HW
  go_loopw [23] (fun i X => ∃ (k : Nat) (f : Nat → Nat), i = .int .i64 k ∧ k ≤ s.L.length ∧ MPre s.L t.L k f ∧ MkR w X #[.slice ol s.L.length cl, .slice os s.S.length cs] #[.slice ol' t.L.length cl', .slice os' t.S.length cs'] G s.L.length f) (fun i _ => s.L.length - (intOf i).toNat)
  case atStart => exact ⟨0, _, rfl, Nat.zero_le _, MPre.zero _ _ _, HS.out⟩
  case round =>
    obtain ⟨k, f, rfl, hk, hP, hM⟩ := hrel
    by_cases hlt : k < s.L.length
    · have hM1 := hM.put hlt k
      have hf0 := hM.free k
      have hkN : (k : Int) < (s.L.length : Int) := by omega
      obtain ⟨m, hm⟩ : ∃ m : Int, (k : Int) - 1 = m := ⟨_, rfl⟩
      have hi0 : IntKind.i64.wrap ((k : Int) - 1) = m := by rw [IntWalk.i64_in _ (by omega)]; exact hm
      have q0 := hM.get hlt
      obtain ⟨q, hq⟩ : ∃ q, f k = q := ⟨_, rfl⟩
      rw [hq] at q0
      obtain ⟨V, hV⟩ : ∃ V, wr.setCell ⟨G, k, none⟩ (.int .i64 k) = V := ⟨_, rfl⟩
      rw [hV] at hM1
      have HM := Lib.hid (And.intro hM1 (And.intro hP hm.symm))
      clear hM1 hP hM hm hq
      go_wp2
      try rw [hV]
      clear hV hf0 q0 hi0
      go_loopw [9] (fun i X => ∃ (j : Nat) (m : Int) (v : Nat), i = .int .i64 m ∧ m = (j : Int) - 1 ∧ j ≤ k ∧ MOne s.L t.L k j v ∧ MkR w X #[.slice ol s.L.length cl, .slice os s.S.length cs] #[.slice ol' t.L.length cl', .slice os' t.S.length cs'] G s.L.length (updF f k v)) (fun i _ => (intOf i + 1).toNat)
      case atStart => exact ⟨k, m, k, rfl, HM.out.2.2, Nat.le_refl _, MOne.start _ _ _, HM.out.1⟩
      case round =>
        obtain ⟨j', m, v, rfl, hmj, hj, hO, hM⟩ := hrel
        by_cases hj0 : j' = 0
        · subst hj0
          have d0 : decide ((0 : Int) ≤ m) = false := decide_eq_false (by omega)
          have HE := Lib.hid (And.intro (HM.out.2.1.next hO) hM)
          clear hM hO HM
          go_wp2
          go_roundw
          case rel => exact ⟨k + 1, _, by go_num, by omega, HE.out.1, HE.out.2⟩
          case measure => simp [intOf] <;> omega
        · obtain ⟨j, rfl⟩ : ∃ j, j' = j + 1 := ⟨j' - 1, by omega⟩
          obtain rfl : m = (j : Int) := by omega
          have d1 : decide ((0 : Int) ≤ (j : Int)) = true := decide_eq_true (by omega)
          have hi1 : IntKind.i64.wrap ((j : Int) - 1) = (j : Int) - 1 := IntWalk.i64_in _ (by omega)
          obtain ⟨E1, hE1⟩ : ∃ E, alkF s.L j k = E := ⟨_, rfl⟩
          obtain ⟨E2, hE2⟩ : ∃ E, alkF t.L j k = E := ⟨_, rfl⟩
          have cA := fun W h => alikeF_any s ol os cl cs (by omega) j k (by omega) hlt E1 hE1 W h
          have cB := fun W h => alikeF_any t ol' os' cl' cs' (by have := HR.out.2.1; omega) j k (by have := HR.out.2.1; omega) (by have := HR.out.2.1; omega) E2 hE2 W h
          have x0 : wr.cell? ⟨w.heap.size, 0, none⟩ = some (.slice ol s.L.length cl) := hM.ba.cell 0
          have x1 : wr.cell? ⟨w.heap.size, 1, none⟩ = some (.slice os s.S.length cs) := hM.ba.cell 1
          have HX := Lib.hid (And.intro (And.intro hE1 hE2) (And.intro hO hM))
          clear hM hO hE1 hE2 hmj hj0
          go_wp2_with (fail)
          refine (cA _ (HR.out.1.1.below encR_len (by decide) HX.out.2.2.bel)).mono ?_
          rintro e w1 ⟨rfl, hB⟩
          have hM1 := HX.out.2.2.below hB
          cases E1
          · have HN := Lib.hid (And.intro (HX.out.2.1.skip (fun h => by have h4 := HX.out.1.1; rw [h.1] at h4; cases h4)) hM1)
            clear hM1 hB x0 x1 cA cB HX
            go_wp2
            go_roundw
            case rel => exact ⟨j, _, v, rfl, rfl, by omega, HN.out.1, HN.out.2⟩
            case measure => simp [intOf] <;> omega
          · have y0 : w1.cell? ⟨w.heap.size + 1, 0, none⟩ = some (.slice ol' t.L.length cl') := hM1.bb.cell 0
            have y1 : w1.cell? ⟨w.heap.size + 1, 1, none⟩ = some (.slice os' t.S.length cs') := hM1.bb.cell 1
            have HM1 := Lib.hid hM1
            clear hM1 hB x0 x1 cA
            go_wp2_with (fail)
            refine (cB _ (HR.out.1.2.below encR_len (by decide) HM1.out.bel)).mono ?_
            rintro e w2 ⟨rfl, hB⟩
            have hM2 := HM1.out.below hB
            cases E2
            · have HN := Lib.hid (And.intro (HX.out.2.1.skip (fun h => by have h4 := HX.out.1.2; rw [h.2] at h4; cases h4)) hM2)
              clear hM2 hB y0 y1 cB HX HM1
              go_wp2
              go_roundw
              case rel => exact ⟨j, _, v, rfl, rfl, by omega, HN.out.1, HN.out.2⟩
              case measure => simp [intOf] <;> omega
            · have q1 := hM2.get (show j < s.L.length by omega)
              rw [updF_ne f v (show j ≠ k by omega)] at q1
              have q2 := hM2.get hlt
              rw [updF_at] at q2
              have f2 := hM2.free k
              have hM3 := hM2.put hlt (f j)
              rw [updF_two] at hM3
              have hO3 := MOne.take HM.out.2.1 (show j < k by omega) ⟨HX.out.1.1, HX.out.1.2⟩
              obtain ⟨u, hu⟩ : ∃ u, f j = u := ⟨_, rfl⟩
              rw [hu] at q1 hM3 hO3
              have hkN : (k : Int) < (s.L.length : Int) := by omega
              have hjN : (j : Int) < (s.L.length : Int) := by omega
              obtain ⟨V, hV⟩ : ∃ V, w2.setCell ⟨G, k, none⟩ (.int .i64 u) = V := ⟨_, rfl⟩
              rw [hV] at hM3
              have HN := Lib.hid (And.intro hO3 hM3)
              clear hM2 hM3 hO3 hB y0 y1 cB HX HM1 hu
              go_wp2
              try rw [hV]
              clear hV
              go_roundw
              case rel => exact ⟨j, _, u, rfl, rfl, by omega, HN.out.1, HN.out.2⟩
              case measure => simp [intOf] <;> omega
    · obtain rfl : k = s.L.length := by omega
      have x0 : wr.cell? ⟨w.heap.size, 0, none⟩ = some (.slice ol s.L.length cl) := hM.ba.cell 0
      have x1 : wr.cell? ⟨w.heap.size, 1, none⟩ = some (.slice os s.S.length cs) := hM.ba.cell 1
      have y0 : wr.cell? ⟨w.heap.size + 1, 0, none⟩ = some (.slice ol' t.L.length cl') := hM.bb.cell 0
      have y1 : wr.cell? ⟨w.heap.size + 1, 1, none⟩ = some (.slice os' t.S.length cs') := hM.bb.cell 1
      have HE := Lib.hid (And.intro hP.mk hM)
      have hlt3 : w.heap.size + 3 ≤ wr.heap.size := by have := hM.res.lt; omega
      clear hP hM hlt hk
      go_wp2_with (fail)
      refine (together_any s t f ol os ol' os' (some ⟨G, 0, none⟩) cl cs cl' cs' s.L.length hfs HR.out.2.1 h1 (by omega) (fun i hi => HE.out.1.le i hi) _ (HR.out.1.1.below encR_len (by decide) HE.out.2.bel) (HR.out.2.2.1.below encI_len (by decide) HE.out.2.bel) (HR.out.1.2.below encR_len (by decide) HE.out.2.bel) HE.out.2.rowAt).mono ?_
      rintro e Z ⟨vl, vs, rfl, hL, hS, hB⟩
      obtain ⟨R, hR⟩ : ∃ R, togR s t f = R := ⟨_, rfl⟩
      rw [hR] at hL hS ⊢
      obtain ⟨o4, c4, rfl, _⟩ := own_slice hL
      obtain ⟨o5, c5, rfl, _⟩ := own_slice hS
      have hM := HE.out.2.below hB
      obtain ⟨g0, g1, r0, r1, rB⟩ := fin3 hM.res hL hS hlt3 hM.bel
      have f0 := hM.res.frozen 0
      have f1 := hM.res.frozen 1
      have n0 : Z.cell? ⟨w.heap.size + 2, 0, none⟩ = some (.slice none 0 0) := hM.res.cell 0
      have n1 : Z.cell? ⟨w.heap.size + 2, 1, none⟩ = some (.slice none 0 0) := hM.res.cell 1
      obtain ⟨a4, ha4⟩ : ∃ a, R.1.L.length = a := ⟨_, rfl⟩
      obtain ⟨a5, ha5⟩ : ∃ a, R.1.S.length = a := ⟨_, rfl⟩
      obtain ⟨a6, ha6⟩ : ∃ a, R.2 = a := ⟨_, rfl⟩
      have HA := Lib.hid (And.intro hR (And.intro ha4 (And.intro ha5 ha6)))
      simp only [ha4, ha5] at g0 g1 r0 r1 rB
      rw [ha4, ha5, ha6]
      obtain ⟨F, hF⟩ : ∃ F, (Z.setCell ⟨w.heap.size + 2, 0, none⟩ (.slice o4 a4 c4)).setCell ⟨w.heap.size + 2, 1, none⟩ (.slice o5 a5 c5) = F := ⟨_, rfl⟩
      rw [hF] at g0 g1 r0 r1 rB
      have HF := Lib.hid (And.intro r0 (And.intro r1 rB))
      clear r0 r1 rB hM hB hL hS x0 x1 y0 y1 hR ha4 ha5 ha6 hlt3
      go_wp2
      try rw [hF]
      clear hF
      exact bodyPost_ret (v := .tuple #[.agg #[.slice o4 a4 c4, .slice o5 a5 c5], .int .i64 a6]) (by simp [results, Try.f24, go_sem, g0, g1]) rfl (by
        obtain ⟨k1, k2, k3, k4⟩ := HA.out
        refine ⟨f, .slice o4 a4 c4, .slice o5 a5 c5, HE.out.1, ?_, ?_, ?_, HF.out.2.2⟩
        · rw [k1, k4]
        · rw [k1, k2]; exact HF.out.1
        · rw [k1, k3]; exact HF.out.2.1)
end Go.Proofs.Ytdcmkiggnmajgaa
