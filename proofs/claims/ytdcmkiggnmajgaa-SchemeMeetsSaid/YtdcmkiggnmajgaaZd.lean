/- Stage 16: Meet, the document's. -/
import Derived.Test.YtdcmkiggnmajgaaZc
namespace Go.Proofs.Ytdcmkiggnmajgaa
set_option linter.unusedVariables false
set_option linter.unusedSimpArgs false
open Go Go.RowKit Go.Shelf
set_option maxRecDepth 100000

theorem refAlikeF_any (s : Sc) (ol os : Option Addr) (cl cs : Nat) (hn : s.L.length ≤ 9223372036854775807) (i k : Nat) (hi : i < s.L.length) (hk : k < s.L.length) (E : Bool) (hE : alkF s.L i k = E) (w : World) (hr : RowAt w encR 2 ol s.L) :
    Calls Try.prog 68 #[.agg #[.slice ol s.L.length cl, .slice os s.S.length cs], .int .i64 i, .int .i64 k] w fun e w' => e = .returned (.bool E) ∧ Below w.heap.size w w' := by
  obtain ⟨x, hx⟩ : ∃ x, s.L[i]? = some x := ⟨_, List.getElem?_eq_getElem hi⟩
  obtain ⟨y, hy⟩ : ∃ x, s.L[k]? = some x := ⟨_, List.getElem?_eq_getElem hk⟩
  exact refAlike_any s ol os cl cs hn i k x y hx hy E (by rw [alkB_F hx hy]; exact hE) w hr

/-- Two boxes, the result's, and a row of marks that grows. -/
structure MkA (w X : World) (bx bY : Array Value) (v : Value) (k : Nat) (f : Nat → Nat) : Prop where
  ba : Blk X w.heap.size bx 25
  bb : Blk X (w.heap.size + 1) bY 25
  res : Blk X (w.heap.size + 2) #[.slice none 0 0, .slice none 0 0] 25
  row : X.ownsRow (w.heap.size + 3) 3 1 v k ((rowF f k).flatMap encI)
  bel : Below w.heap.size w X
section
variable {w X Y : World} {bx bY : Array Value} {v : Value} {k : Nat} {f : Nat → Nat}
theorem MkA.below (h : MkA w X bx bY v k f) (hb : Below X.heap.size X Y) : MkA w Y bx bY v k f :=
  ⟨h.ba.below' hb, h.bb.below' hb, h.res.below' hb, own_below h.row hb, h.bel.trans (hb.mono h.bel.size)⟩
theorem MkA.app {W : World} {v2 : Value} {q : Nat} (h : MkA w X bx bY v k f) (hg : X.grownBy W v.ownBlock) (hr : W.ownsRow (w.heap.size + 3) 3 1 v2 (k + 1) ((rowF f k).flatMap encI ++ [.int .i64 (q : Nat)])) : MkA w W bx bY v2 (k + 1) (updF f k q) := by
  have hrow : ∀ g, v.ownBlock = some g → w.heap.size + 3 ≤ g := fun g e => (h.row.lt g e).1
  refine ⟨h.ba.kept hg (fun e => by have := hrow _ e.symm; omega), h.bb.kept hg (fun e => by have := hrow _ e.symm; omega), h.res.kept hg (fun e => by have := hrow _ e.symm; omega), ?_, h.bel.grown hg h.bel.size (fun r e => by have := hrow r e; omega)⟩
  rw [rowF_next, rowF_upd, List.flatMap_append, updF_at]
  simpa [encI] using hr
theorem MkA.rowAt {o : Option Addr} {c : Nat} (h : MkA w X bx bY (.slice o k c) k f) : RowAt X encI 1 o (rowF f k) := RowAt.of_own encI_len h.row (rowF_len f k)
end

set_option maxHeartbeats 8000000 in
theorem refMeet_any (s t : Sc) (ol os ol' os' : Option Addr) (cl cs cl' cs' : Nat) (hfs : NForm os s.S.length cs) (hms : mayB s = true) (hlen : t.L.length = s.L.length) (w : World) (hr : RowAt w encR 2 ol s.L) (ht : RowAt w encI 1 os s.S) (hr' : RowAt w encR 2 ol' t.L) :
    Calls Try.prog 41 #[.agg #[.slice ol s.L.length cl, .slice os s.S.length cs], .agg #[.slice ol' t.L.length cl', .slice os' t.S.length cs']] w fun e w' => ∃ (f : Nat → Nat) (vl vs : Value), Mk s.L.length (relM s.L t.L) f ∧ e = .returned (.tuple #[.agg #[vl, vs], .int .i64 (togR s t f).2]) ∧ w'.ownsRow w.heap.size 79 2 vl (togR s t f).1.L.length ((togR s t f).1.L.flatMap encR) ∧ w'.ownsRow w.heap.size 3 1 vs (togR s t f).1.S.length ((togR s t f).1.S.flatMap encI) ∧ Below w.heap.size w w' := by
  obtain ⟨i0, hi, hz0, hz1, hz2⟩ := info_parts infoInt
  obtain ⟨h1, h2, h3⟩ := may_parts hms
  obtain ⟨W0, hW0, bA, bB, bC, hB0, hz0'⟩ := boxes3 w #[.slice ol s.L.length cl, .slice os s.S.length cs] #[.slice ol' t.L.length cl', .slice os' t.S.length cs']
  have x0 : W0.cell? ⟨w.heap.size, 0, none⟩ = some (.slice ol s.L.length cl) := bA.cell 0
  have HR := Lib.hid (And.intro (And.intro hr hr') (And.intro hlen ht))
  have HS : Hid (MkA w W0 #[.slice ol s.L.length cl, .slice os s.S.length cs] #[.slice ol' t.L.length cl', .slice os' t.S.length cs'] (.slice none 0 0) 0 (fun _ => 0)) := Lib.hid ⟨bA, bB, bC, World.ownsRow_nil _ _ _ _, hB0⟩
  clear hr hr' ht hlen bA bB bC hB0 hz0' hms
  go_enter Try.func41, Try.ntmps41
  go_wp2
  try rw [hW0]
  clear hW0 x0
  go_loopw [6, 13] (fun mv i X => ∃ (k : Nat) (f : Nat → Nat) (o : Option Addr) (c : Nat), i = .int .i64 k ∧ mv = .slice o k c ∧ k ≤ s.L.length ∧ MPre s.L t.L k f ∧ MkA w X #[.slice ol s.L.length cl, .slice os s.S.length cs] #[.slice ol' t.L.length cl', .slice os' t.S.length cs'] (.slice o k c) k f) (fun _ i _ => s.L.length - (intOf i).toNat)
  case atStart => exact ⟨0, _, none, 0, rfl, rfl, Nat.zero_le _, MPre.zero _ _ _, HS.out⟩
  case round =>
    obtain ⟨k, f, o, c, rfl, rfl, hk, hP, hM⟩ := hrel
    by_cases hlt : k < s.L.length
    · have hkN : (k : Int) < (s.L.length : Int) := by omega
      obtain ⟨m, hm⟩ : ∃ m : Int, (k : Int) - 1 = m := ⟨_, rfl⟩
      have hi0 : IntKind.i64.wrap ((k : Int) - 1) = m := by rw [IntWalk.i64_in _ (by omega)]; exact hm
      obtain ⟨V, hV⟩ : ∃ V, V = wr := ⟨_, rfl⟩
      subst hV
      have HM := Lib.hid (And.intro hM (And.intro hP hm.symm))
      clear hP hM hm
      go_wp2
      clear hi0
      go_loopw [8, 9] (fun fv i X => ∃ (j : Nat) (m : Int) (v : Nat), i = .int .i64 m ∧ m = (j : Int) - 1 ∧ fv = .int .i64 v ∧ j ≤ k ∧ MOne s.L t.L k j v ∧ Below V.heap.size V X) (fun _ i _ => (intOf i + 1).toNat)
      case atStart => exact ⟨k, m, k, rfl, HM.out.2.2, rfl, Nat.le_refl _, MOne.start _ _ _, Below.refl _ _⟩
      case round =>
        obtain ⟨j', m, v, rfl, hmj, rfl, hj, hO, hB⟩ := hrel
        by_cases hj0 : j' = 0
        · subst hj0
          have d0 : decide ((0 : Int) ≤ m) = false := decide_eq_false (by omega)
          have hM1 := HM.out.1.below hB
          have hS := hM1.below ((Below.refl wr.heap.size wr).alloc (Nat.le_refl _) (.cells #[.int .i64 v] 3))
          have hWX : w.heap.size + 3 ≤ wr.heap.size := by have := hM1.res.lt; omega
          have HS := Lib.hid (And.intro hS (HM.out.2.1.next hO))
          clear hM1 hS hO hB HM
          go_wp2_with (at_builtin; (refine wpList_append_own _ rfl _ _ 23 rfl (w.heap.size + 3) 3 i0 (.int .i64 0) 1 8 Try.underlying23 hi hz0 hz1 hz2 rfl (by decide) _ _ _ rfl HS.out.1.row ⟨wr.heap.size, 0, none⟩ 1 1 [.int .i64 v] rfl rfl (cell_one_new _ _ _) (fun x hx => by simp at hx; subst hx; rfl) (by unfold maxLen; omega) (by omega) (by simp; omega) ?_); intro v2 w2 hown2 hg2 _; obtain ⟨o2, c2, rfl, _⟩ := own_slice hown2; (have HA := Lib.hid (HS.out.1.app hg2 hown2)); clear hown2 hg2)
          go_roundw
          case rel => exact ⟨k + 1, updF f k v, o2, c2, by go_num, rfl, by omega, HS.out.2, HA.out⟩
          case measure => simp [intOf] <;> omega
        · obtain ⟨j, rfl⟩ : ∃ j, j' = j + 1 := ⟨j' - 1, by omega⟩
          obtain rfl : m = (j : Int) := by omega
          have d1 : decide ((0 : Int) ≤ (j : Int)) = true := decide_eq_true (by omega)
          have hi1 : IntKind.i64.wrap ((j : Int) - 1) = (j : Int) - 1 := IntWalk.i64_in _ (by omega)
          obtain ⟨E1, hE1⟩ : ∃ E, alkF s.L k j = E := ⟨_, rfl⟩
          obtain ⟨E2, hE2⟩ : ∃ E, alkF t.L k j = E := ⟨_, rfl⟩
          have cA := fun W h => refAlikeF_any s ol os cl cs (by omega) k j hlt (by omega) E1 hE1 W h
          have cB := fun W h => refAlikeF_any t ol' os' cl' cs' (by have := HR.out.2.1; omega) k j (by have := HR.out.2.1; omega) (by have := HR.out.2.1; omega) E2 hE2 W h
          rw [alkF_sym] at hE1 hE2
          have hM := HM.out.1.below hB
          have x0 : wr.cell? ⟨w.heap.size, 0, none⟩ = some (.slice ol s.L.length cl) := hM.ba.cell 0
          have x1 : wr.cell? ⟨w.heap.size, 1, none⟩ = some (.slice os s.S.length cs) := hM.ba.cell 1
          have HX := Lib.hid (And.intro (And.intro hE1 hE2) (And.intro hO hB))
          clear hM hO hE1 hE2 hmj hj0 hB
          go_wp2_with (fail)
          refine (cA _ (HR.out.1.1.below encR_len (by decide) (HM.out.1.below HX.out.2.2).bel)).mono ?_
          rintro e w1 ⟨rfl, hB⟩
          have hB1 := HX.out.2.2.trans (hB.mono HX.out.2.2.size)
          cases E1
          · have HN := Lib.hid (And.intro (HX.out.2.1.skip (fun h => by have h4 := HX.out.1.1; rw [h.1] at h4; cases h4)) hB1)
            clear hB1 hB x0 x1 cA cB HX
            go_wp2
            go_roundw
            case rel => exact ⟨j, _, v, rfl, rfl, rfl, by omega, HN.out.1, HN.out.2⟩
            case measure => simp [intOf] <;> omega
          · have y0 : w1.cell? ⟨w.heap.size + 1, 0, none⟩ = some (.slice ol' t.L.length cl') := (HM.out.1.below hB1).bb.cell 0
            have y1 : w1.cell? ⟨w.heap.size + 1, 1, none⟩ = some (.slice os' t.S.length cs') := (HM.out.1.below hB1).bb.cell 1
            have HB1 := Lib.hid hB1
            clear hB1 hB x0 x1 cA
            go_wp2_with (fail)
            refine (cB _ (HR.out.1.2.below encR_len (by decide) (HM.out.1.below HB1.out).bel)).mono ?_
            rintro e w2 ⟨rfl, hB⟩
            have hB2 := HB1.out.trans (hB.mono HB1.out.size)
            cases E2
            · have HN := Lib.hid (And.intro (HX.out.2.1.skip (fun h => by have h4 := HX.out.1.2; rw [h.2] at h4; cases h4)) hB2)
              clear hB2 hB y0 y1 cB HX HB1
              go_wp2
              go_roundw
              case rel => exact ⟨j, _, v, rfl, rfl, rfl, by omega, HN.out.1, HN.out.2⟩
              case measure => simp [intOf] <;> omega
            · have HN := Lib.hid (And.intro (MOne.self (A := s.L) (B := t.L) (show j < k by omega) ⟨HX.out.1.1, HX.out.1.2⟩) hB2)
              clear hB2 hB y0 y1 cB HX HB1
              go_wp2
              go_roundw
              case rel => exact ⟨j, _, j, rfl, rfl, rfl, by omega, HN.out.1, HN.out.2⟩
              case measure => simp [intOf] <;> omega
    · obtain rfl : k = s.L.length := by omega
      have x0 : wr.cell? ⟨w.heap.size, 0, none⟩ = some (.slice ol s.L.length cl) := hM.ba.cell 0
      have x1 : wr.cell? ⟨w.heap.size, 1, none⟩ = some (.slice os s.S.length cs) := hM.ba.cell 1
      have y0 : wr.cell? ⟨w.heap.size + 1, 0, none⟩ = some (.slice ol' t.L.length cl') := hM.bb.cell 0
      have y1 : wr.cell? ⟨w.heap.size + 1, 1, none⟩ = some (.slice os' t.S.length cs') := hM.bb.cell 1
      have HE := Lib.hid (And.intro hP.mk hM)
      have hlt3 : w.heap.size + 3 ≤ wr.heap.size := by have := hM.res.lt; omega
      clear hP hM hlt hk
      go_wp2_with (fail)
      refine (refBoth_any s t (relM s.L t.L) f HE.out.1 relM_cls ol os ol' os' o cl cs cl' cs' c hfs HR.out.2.1 h1 (by omega) _ (HR.out.1.1.below encR_len (by decide) HE.out.2.bel) (HR.out.2.2.below encI_len (by decide) HE.out.2.bel) (HR.out.1.2.below encR_len (by decide) HE.out.2.bel) HE.out.2.rowAt).mono ?_
      rintro e Z ⟨vl, vs, rfl, hL, hS, hB⟩
      obtain ⟨R, hR⟩ : ∃ R, togR s t f = R := ⟨_, rfl⟩
      rw [hR] at hL hS ⊢
      obtain ⟨o4, c4, rfl, _⟩ := own_slice hL
      obtain ⟨o5, c5, rfl, _⟩ := own_slice hS
      have hM := HE.out.2.below hB
      obtain ⟨g0, g1, r0, r1, rB⟩ := fin3 hM.res hL hS hlt3 hM.bel
      have f0 := hM.res.frozen 0
      have f1 := hM.res.frozen 1
      have n0 : Z.cell? ⟨w.heap.size + 2, 0, none⟩ = some (.slice none 0 0) := hM.res.cell 0
      have n1 : Z.cell? ⟨w.heap.size + 2, 1, none⟩ = some (.slice none 0 0) := hM.res.cell 1
      obtain ⟨a4, ha4⟩ : ∃ a, R.1.L.length = a := ⟨_, rfl⟩
      obtain ⟨a5, ha5⟩ : ∃ a, R.1.S.length = a := ⟨_, rfl⟩
      obtain ⟨a6, ha6⟩ : ∃ a, R.2 = a := ⟨_, rfl⟩
      have HA := Lib.hid (And.intro hR (And.intro ha4 (And.intro ha5 ha6)))
      simp only [ha4, ha5] at g0 g1 r0 r1 rB
      rw [ha4, ha5, ha6]
      obtain ⟨F, hF⟩ : ∃ F, (Z.setCell ⟨w.heap.size + 2, 0, none⟩ (.slice o4 a4 c4)).setCell ⟨w.heap.size + 2, 1, none⟩ (.slice o5 a5 c5) = F := ⟨_, rfl⟩
      rw [hF] at g0 g1 r0 r1 rB
      have HF := Lib.hid (And.intro r0 (And.intro r1 rB))
      clear r0 r1 rB hM hB hL hS x0 x1 y0 y1 hR ha4 ha5 ha6 hlt3
      go_wp2
      try rw [hF]
      clear hF
      exact bodyPost_ret (v := .tuple #[.agg #[.slice o4 a4 c4, .slice o5 a5 c5], .int .i64 a6]) (by simp [results, Try.f41, go_sem, g0, g1]) rfl (by
        obtain ⟨k1, k2, k3, k4⟩ := HA.out
        refine ⟨f, .slice o4 a4 c4, .slice o5 a5 c5, HE.out.1, ?_, ?_, ?_, HF.out.2.2⟩
        · rw [k1, k4]
        · rw [k1, k2]; exact HF.out.1
        · rw [k1, k3]; exact HF.out.2.1)
end Go.Proofs.Ytdcmkiggnmajgaa
