/- Stage 16: together, the program's. -/
import Derived.Test.YtdcmkiggnmajgaaYy
import Derived.Test.YtdcmkiggnmajgaaXc
namespace Go.Proofs.Ytdcmkiggnmajgaa
set_option linter.unusedVariables false
set_option linter.unusedSimpArgs false
open Go Go.RowKit Go.Shelf
set_option maxRecDepth 100000

/-- A scheme of marks being made: two boxes, the result's, the variable's block, and its rows. -/
structure TgR (w X : World) (bx bY : Array Value) (b : Nat) (vl vs : Value) (n : Nat) (L : List Rh) (S : List Int) : Prop where
  ba : Blk X w.heap.size bx 25
  bb : Blk X (w.heap.size + 1) bY 25
  res : Blk X (w.heap.size + 2) #[.slice none 0 0, .slice none 0 0] 25
  out : Blk X b #[vl, vs] 25
  rowL : X.ownsRow (w.heap.size + 3) 79 2 vl n (L.flatMap encR)
  rowS : X.ownsRow (w.heap.size + 3) 3 1 vs S.length (S.flatMap encI)
  bel : Below w.heap.size w X
  hb : w.heap.size + 3 ≤ b
  len : L.length = n
section
variable {w X Y : World} {bx bY : Array Value} {b n : Nat} {vl vs : Value} {L : List Rh} {S : List Int}
theorem TgR.below (h : TgR w X bx bY b vl vs n L S) (hb : Below X.heap.size X Y) : TgR w Y bx bY b vl vs n L S :=
  ⟨h.ba.below' hb, h.bb.below' hb, h.res.below' hb, h.out.below' hb, own_below h.rowL hb, own_below h.rowS hb, h.bel.trans (hb.mono h.bel.size), h.hb, h.len⟩
/-- A line is appended. -/
theorem TgR.app {W : World} {v2 : Value} {c : Int} (h : TgR w X bx bY b vl vs n L S) (hg : X.grownBy W vl.ownBlock)
    (hr : W.ownsRow (w.heap.size + 3) 79 2 v2 (n + 1) (L.flatMap encR ++ [.int .i64 c, .int .i64 0])) : TgR w (W.setCell ⟨b, 0, none⟩ v2) bx bY b v2 vs (n + 1) (L ++ [⟨c, 0⟩]) S := by
  have hrow : ∀ g, vl.ownBlock = some g → w.heap.size + 3 ≤ g := fun g e => (h.rowL.lt g e).1
  have hb := h.hb
  have kb := h.out.kept hg (h.out.not_row (by decide) h.rowL)
  have hr' : W.ownsRow (w.heap.size + 3) 79 2 v2 (n + 1) ((L ++ [(⟨c, 0⟩ : Rh)]).flatMap encR) := by
    rw [List.flatMap_append]; simpa [encR] using hr
  have hs' := h.rowS.kept hg (rows_apart h.rowS h.rowL ne_IR)
  refine ⟨(h.ba.kept hg (fun e => by have := hrow _ e.symm; omega)).other (by omega) _ _, (h.bb.kept hg (fun e => by have := hrow _ e.symm; omega)).other (by omega) _ _, (h.res.kept hg (fun e => by have := hrow _ e.symm; omega)).other (by omega) _ _, kb.set 0 v2, hr'.kept (grownBy_setCell W b 0 v2) ?_, hs'.kept (grownBy_setCell W b 0 v2) ?_, (h.bel.grown hg h.bel.size (fun r e => by have := hrow r e; omega)).setCell (p := ⟨b, 0, none⟩) (by dsimp only; omega) v2, h.hb, by simp [h.len]⟩
  · exact .inr (kb.not_row (by decide) hr').symm
  · exact .inr (kb.not_row (by decide) hs').symm
/-- The variable's cells behind an append. -/
theorem TgR.cellsG {W : World} (h : TgR w X bx bY b vl vs n L S) (hg : X.grownBy W vl.ownBlock) : W.cell? ⟨b, 0, none⟩ = some vl ∧ W.cell? ⟨b, 1, none⟩ = some vs ∧ W.frozen? ⟨b, 0, none⟩ = false ∧ W.frozen? ⟨b, 1, none⟩ = false := by
  have b := h.out.kept hg (h.out.not_row (by decide) h.rowL)
  exact ⟨b.cell 0, b.cell 1, b.frozen 0, b.frozen 1⟩
/-- What is handed back. -/
theorem fin3 {xs ys : List Value} {base m : Nat} (res : Blk X (w.heap.size + 2) #[.slice none 0 0, .slice none 0 0] 25) (rowL : X.ownsRow base 79 2 vl n xs) (rowS : X.ownsRow base 3 1 vs m ys) (hb : w.heap.size + 3 ≤ base) (bel : Below w.heap.size w X) :
    let F := (X.setCell ⟨w.heap.size + 2, 0, none⟩ vl).setCell ⟨w.heap.size + 2, 1, none⟩ vs
    F.cell? ⟨w.heap.size + 2, 0, none⟩ = some vl ∧ F.cell? ⟨w.heap.size + 2, 1, none⟩ = some vs ∧ F.ownsRow w.heap.size 79 2 vl n xs ∧ F.ownsRow w.heap.size 3 1 vs m ys ∧ Below w.heap.size w F := by
  have b2 := (res.set 0 vl).set 1 vs
  have g0 := b2.cell 0
  have g1 := b2.cell 1
  simp only [List.setIfInBounds_toArray, List.set_cons_zero, List.set_cons_succ, List.getElem?_toArray, List.getElem?_cons_succ, List.getElem?_cons_zero] at g0 g1
  exact ⟨g0, g1, own_base (own_low (own_low rowL (by omega : w.heap.size + 2 < base) 0 vl) (by omega : w.heap.size + 2 < base) 1 vs) (by omega : w.heap.size ≤ base),
    own_base (own_low (own_low rowS (by omega : w.heap.size + 2 < base) 0 vl) (by omega : w.heap.size + 2 < base) 1 vs) (by omega : w.heap.size ≤ base),
    (bel.setCell (p := ⟨w.heap.size + 2, 0, none⟩) (by dsimp only; omega) vl).setCell (p := ⟨w.heap.size + 2, 1, none⟩) (by dsimp only; omega) vs⟩
theorem TgR.fin (h : TgR w X bx bY b vl vs n L S) :
    let F := (X.setCell ⟨w.heap.size + 2, 0, none⟩ vl).setCell ⟨w.heap.size + 2, 1, none⟩ vs
    F.cell? ⟨w.heap.size + 2, 0, none⟩ = some vl ∧ F.cell? ⟨w.heap.size + 2, 1, none⟩ = some vs ∧ F.ownsRow w.heap.size 79 2 vl n (L.flatMap encR) ∧ F.ownsRow w.heap.size 3 1 vs S.length (S.flatMap encI) ∧ Below w.heap.size w F :=
  fin3 h.res h.rowL h.rowS (Nat.le_refl _) h.bel
theorem TgR.fin0 (h : TgR w X bx bY b vl vs n L S) :
    let F := (X.setCell ⟨w.heap.size + 2, 0, none⟩ (.slice none 0 0)).setCell ⟨w.heap.size + 2, 1, none⟩ (.slice none 0 0)
    F.cell? ⟨w.heap.size + 2, 0, none⟩ = some (.slice none 0 0) ∧ F.cell? ⟨w.heap.size + 2, 1, none⟩ = some (.slice none 0 0) ∧ Below w.heap.size w F := by
  have b2 := (h.res.set 0 (.slice none 0 0)).set 1 (.slice none 0 0)
  have g0 := b2.cell 0
  have g1 := b2.cell 1
  simp only [List.setIfInBounds_toArray, List.set_cons_zero, List.set_cons_succ, List.getElem?_toArray, List.getElem?_cons_succ, List.getElem?_cons_zero] at g0 g1
  exact ⟨g0, g1, (h.bel.setCell (p := ⟨w.heap.size + 2, 0, none⟩) (by dsimp only; omega) _).setCell (p := ⟨w.heap.size + 2, 1, none⟩) (by dsimp only; omega) _⟩
end

set_option maxHeartbeats 8000000 in
theorem together_any (s t : Sc) (f : Nat → Nat) (ol os ol' os' om : Option Addr) (cl cs cl' cs' cm : Nat) (hfs : NForm os s.S.length cs) (hl : t.L.length = s.L.length) (h1 : s.L.length ≤ 512) (h3 : s.S.length ≤ 512) (hf : ∀ i, i < s.L.length → f i ≤ i) (w : World) (hr : RowAt w encR 2 ol s.L) (ht : RowAt w encI 1 os s.S) (hr' : RowAt w encR 2 ol' t.L) (hm : RowAt w encI 1 om (rowF f s.L.length)) :
    Calls Try.prog 63 #[.agg #[.slice ol s.L.length cl, .slice os s.S.length cs], .agg #[.slice ol' t.L.length cl', .slice os' t.S.length cs'], .slice om s.L.length cm] w fun e w' => ∃ vl vs, e = .returned (.tuple #[.agg #[vl, vs], .int .i64 (togR s t f).2]) ∧ w'.ownsRow w.heap.size 79 2 vl (togR s t f).1.L.length ((togR s t f).1.L.flatMap encR) ∧ w'.ownsRow w.heap.size 3 1 vs (togR s t f).1.S.length ((togR s t f).1.S.flatMap encI) ∧ Below w.heap.size w w' := by
  obtain ⟨j0, hjI, hy0, hy1, hy2⟩ := info_parts infoRhyme
  have hB0 := (((Below.refl _ w).alloc (Nat.le_refl _) (.cells #[.slice ol s.L.length cl, .slice os s.S.length cs] 25)).alloc (by simp) (.cells #[.slice ol' t.L.length cl', .slice os' t.S.length cs'] 25)).alloc (by simp; omega) (.cells #[.slice none 0 0, .slice none 0 0] 25)
  have bA := ((Blk.new w #[.slice ol s.L.length cl, .slice os s.S.length cs] 25).alloc (.cells #[.slice ol' t.L.length cl', .slice os' t.S.length cs'] 25)).alloc (.cells #[.slice none 0 0, .slice none 0 0] 25)
  have bB := (Blk.new (w.alloc (.cells #[.slice ol s.L.length cl, .slice os s.S.length cs] 25)) #[.slice ol' t.L.length cl', .slice os' t.S.length cs'] 25).alloc (.cells #[.slice none 0 0, .slice none 0 0] 25)
  have bC := Blk.new ((w.alloc (.cells #[.slice ol s.L.length cl, .slice os s.S.length cs] 25)).alloc (.cells #[.slice ol' t.L.length cl', .slice os' t.S.length cs'] 25)) #[.slice none 0 0, .slice none 0 0] 25
  simp only [World.size_alloc] at bB bC
  have hz0 : (((w.alloc (.cells #[.slice ol s.L.length cl, .slice os s.S.length cs] 25)).alloc (.cells #[.slice ol' t.L.length cl', .slice os' t.S.length cs'] 25)).alloc (.cells #[.slice none 0 0, .slice none 0 0] 25)).heap.size = w.heap.size + 3 := by simp
  obtain ⟨W0, hW0⟩ : ∃ W, ((w.alloc (.cells #[.slice ol s.L.length cl, .slice os s.S.length cs] 25)).alloc (.cells #[.slice ol' t.L.length cl', .slice os' t.S.length cs'] 25)).alloc (.cells #[.slice none 0 0, .slice none 0 0] 25) = W := ⟨_, rfl⟩
  rw [hW0] at hB0 bA bB bC hz0
  have c00 : W0.cell? ⟨w.heap.size, 0, none⟩ = some (.slice ol s.L.length cl) := bA.cell 0
  have c01 : W0.cell? ⟨w.heap.size, 1, none⟩ = some (.slice os s.S.length cs) := bA.cell 1
  have HR := Lib.hid (And.intro (And.intro hr hr') (And.intro hm (And.intro hf hl)))
  have HS := Lib.hid ht
  clear hr ht hr' hm hf hl
  go_enter Try.func63, Try.ntmps63
  go_wp2_with (fail)
  try rw [hW0]
  clear hW0
  refine (cloneI_any s.S os cs hfs (by omega) _ (HS.out.below encI_len (by decide) hB0)).mono ?_
  rintro e W1 ⟨v5, rfl, hO2, hB⟩
  obtain ⟨o5, c5, rfl, hg5⟩ := own_slice hO2
  rw [hz0] at hO2
  have hA := (Below.refl W1.heap.size W1).alloc (Nat.le_refl _) (.cells #[.slice none 0 0, .slice o5 s.S.length c5] 25)
  have b3 := Blk.new W1 #[.slice none 0 0, .slice o5 s.S.length c5] 25
  have hbs := hB.size
  have hT : TgR w (W1.alloc (.cells #[.slice none 0 0, .slice o5 s.S.length c5] 25)) #[.slice ol s.L.length cl, .slice os s.S.length cs] #[.slice ol' t.L.length cl', .slice os' t.S.length cs'] W1.heap.size (.slice none 0 0) (.slice o5 s.S.length c5) 0 [] s.S :=
    ⟨(bA.below' hB).below' hA, (bB.below' hB).below' hA, (bC.below' hB).below' hA, b3, World.ownsRow_nil _ _ _ _, own_below hO2 hA, (hB0.trans (hB.mono hB0.size)).trans (hA.mono (hB0.trans (hB.mono hB0.size)).size), by omega, rfl⟩
  obtain ⟨b, hb⟩ : ∃ b, W1.heap.size = b := ⟨_, rfl⟩
  obtain ⟨W2, hW2⟩ : ∃ W2, W1.alloc (.cells #[.slice none 0 0, .slice o5 s.S.length c5] 25) = W2 := ⟨_, rfl⟩
  rw [hW2, hb] at hT
  have HT := Lib.hid hT
  clear hA b3 hO2 hB bA bB bC hB0 c00 c01 hT hz0 hbs hg5
  go_wp2
  try rw [hW2]
  clear hW2 hb
  go_loopw [9, 19] (fun nx i X => ∃ (k : Nat) (vl : Value), i = .int .i64 k ∧ nx = .int .i64 ((togL s.L t.L f k).2 : Nat) ∧ k ≤ s.L.length ∧ TgR w X #[.slice ol s.L.length cl, .slice os s.S.length cs] #[.slice ol' t.L.length cl', .slice os' t.S.length cs'] b vl (.slice o5 s.S.length c5) k (togL s.L t.L f k).1 s.S) (fun _ i _ => s.L.length - (intOf i).toNat)
  case atStart => exact ⟨0, _, rfl, rfl, Nat.zero_le _, HT.out⟩
  case round =>
    obtain ⟨k, vl, rfl, rfl, hk, hT⟩ := hrel
    by_cases hlt : k < s.L.length
    · obtain ⟨gm, offm, rfl, hc⟩ := (HR.out.2.1.below encI_len (by decide) hT.bel) k _ (rowF_get f hlt)
      have q0 := hc 0 (by decide)
      simp only [encI, List.getElem?_cons_succ, List.getElem?_cons_zero, Nat.add_zero, Nat.mul_one] at q0
      have hfk := HR.out.2.2.1 k hlt
      obtain ⟨ov, cv, rfl, hov⟩ := own_slice hT.rowL
      have hkN : (k : Int) < (s.L.length : Int) := by omega
      have y0 : wr.cell? ⟨b, 0, none⟩ = some (.slice ov k cv) := hT.out.cell 0
      obtain ⟨F, hF⟩ : ∃ F, f k = F := ⟨_, rfl⟩
      rw [hF] at q0 hfk
      by_cases hFk : F < k
      · have d1 : decide ((F : Int) < (k : Int)) = true := decide_eq_true (by omega)
        have d2 : decide (F < k) = true := decide_eq_true hFk
        obtain ⟨g4, rfl⟩ := hov (by omega)
        obtain ⟨cc, hcc⟩ : ∃ cc, clsT s.L t.L f F = cc := ⟨_, rfl⟩
        obtain ⟨w3, _⟩ := getR hT.rowL (togL_at s.L t.L f hFk) hT.len
        simp only [hcc] at w3
        have hnx : togL s.L t.L f (k + 1) = ((togL s.L t.L f k).1 ++ [⟨cc, 0⟩], (togL s.L t.L f k).2) := by rw [togL_succ, hF, if_pos hFk, togL_ca s.L t.L f hFk, hcc]
        have hA1 := (Below.refl wr.heap.size wr).alloc (Nat.le_refl _) (.cells #[.int .i64 cc, .int .i64 0] 79)
        have hA2 := hA1.alloc (by simp) (.cells #[.int .i64 cc, .int .i64 0] 79)
        have hS := hT.below hA2
        have HS := Lib.hid (And.intro hS hnx)
        have hWX : w.heap.size + 3 ≤ wr.heap.size := by have := hT.res.lt; omega
        have hnw := World.alloc_heap_new (wr.alloc (.cells #[.int .i64 cc, .int .i64 0] 79)) (.cells #[.int .i64 cc, .int .i64 0] 79)
        rw [World.size_alloc] at hnw
        have HK := Lib.hid (And.intro hS.rowL (World.news_of_block (cs := #[.int .i64 cc, .int .i64 0]) (t := 79) (fr := (0, 0)) hnw))
        have hFN : (F : Int) < (k : Int) := by omega
        obtain ⟨nn, hnn⟩ : ∃ n, (togL s.L t.L f k).2 = n := ⟨_, rfl⟩
        rw [hnn] at hnx ⊢
        have HNN := Lib.hid hnn
        have hbl : b < wr.heap.size := hT.out.lt
        have hgl : g4 < wr.heap.size := (hT.rowL.lt g4 rfl).2
        clear hS hA1 hA2 hT hc hcc hnx hov hF hnn hnw
        go_wp2_with (at_builtin; (refine wpList_append_own _ rfl _ _ 22 rfl (w.heap.size + 3) 79 j0 (.agg #[.int .i64 0, .int .i64 0]) 2 16 Try.underlying22 hjI hy0 hy1 hy2 rfl (by decide) _ _ _ rfl HK.out.1 ⟨wr.heap.size + 1, 0, none⟩ 1 1 [.int .i64 cc, .int .i64 0] rfl rfl HK.out.2 (fun x hx => by simp at hx; rcases hx with rfl | rfl <;> rfl) (by unfold maxLen; omega) (by omega) (by simp; omega) ?_); intro v2 w2 hown2 hg2 _; obtain ⟨o2, c2, rfl, _⟩ := own_slice hown2; (have hA := HS.out.1.app hg2 hown2); (have HA := Lib.hid hA); obtain ⟨z0, z1, z2, z3⟩ := HS.out.1.cellsG hg2)
        go_roundw
        case rel => exact ⟨k + 1, _, by go_num, by rw [HS.out.2]; simp only [HNN.out], by omega, by rw [HS.out.2]; exact HA.out⟩
        case measure => simp [intOf]; omega
      · obtain rfl : F = k := by omega
        have d1 : decide ((F : Int) < (F : Int)) = false := decide_eq_false (by omega)
        have d2 : decide (F < F) = false := decide_eq_false hFk
        obtain ⟨x, hx⟩ : ∃ x, s.L[F]? = some x := ⟨_, List.getElem?_eq_getElem hlt⟩
        obtain ⟨y, hy⟩ : ∃ x, t.L[F]? = some x := ⟨_, List.getElem?_eq_getElem (by have := HR.out.2.2.2; omega)⟩
        have hra := HR.out.1.1.below encR_len (by decide) hT.bel
        have hrb := HR.out.1.2.below encR_len (by decide) hT.bel
        obtain ⟨ga, oa, rfl, hca⟩ := hra F x hx
        obtain ⟨gb, ob, rfl, hcb⟩ := hrb F y hy
        have q2 := hca 0 (by decide)
        have q3 := hcb 0 (by decide)
        simp only [encR, List.getElem?_cons_succ, List.getElem?_cons_zero, Nat.add_zero] at q2 q3
        have hga : ga < wr.heap.size := lt_cell q2
        have hgb : gb < wr.heap.size := lt_cell q3
        have x0 : wr.cell? ⟨w.heap.size, 0, none⟩ = some (.slice (some ⟨ga, oa, none⟩) s.L.length cl) := hT.ba.cell 0
        have z0 : wr.cell? ⟨w.heap.size + 1, 0, none⟩ = some (.slice (some ⟨gb, ob, none⟩) t.L.length cl') := hT.bb.cell 0
        have hkT : (F : Int) < (t.L.length : Int) := by have := HR.out.2.2.2; omega
        have hxc := ca_some hx
        have hyc := ca_some hy
        obtain ⟨xc, hxe⟩ : ∃ xc, x.c = xc := ⟨_, rfl⟩
        obtain ⟨yc, hye⟩ : ∃ yc, y.c = yc := ⟨_, rfl⟩
        rw [hxe] at q2 hxc
        rw [hye] at q3 hyc
        have hWX : w.heap.size + 3 ≤ wr.heap.size := by have := hT.res.lt; omega
        have hbl : b < wr.heap.size := hT.out.lt
        have hw0 : w.heap.size < wr.heap.size := hT.ba.lt
        have hw1 : w.heap.size + 1 < wr.heap.size := hT.bb.lt
        have HT2 := Lib.hid hT
        obtain ⟨nn, hnn⟩ : ∃ n, (togL s.L t.L f F).2 = n := ⟨_, rfl⟩
        have hnl : nn ≤ F := by rw [← hnn]; exact (togL_num _ _ _ _).2
        rw [hnn]
        have HNN := Lib.hid (And.intro hnn hF)
        clear hT hca hcb hx hy hxe hye hnn hc hov hra hrb hF
        have s1 : IntKind.i64.wrap ((nn : Int) + 1) = ((nn + 1 : Nat) : Int) := by rw [IntWalk.i64_in _ (by omega)]; omega
        by_cases hp : 0 ≤ xc
        · have d3 : decide ((0 : Int) ≤ xc) = true := decide_eq_true hp
          have hnx : togL s.L t.L f (F + 1) = ((togL s.L t.L f F).1 ++ [⟨(nn : Nat), 0⟩], (togL s.L t.L f F).2 + 1) := by rw [togL_succ, HNN.out.2, if_neg hFk, if_pos (.inl (by rw [hxc]; exact hp)), HNN.out.1]
          have hA1 := (Below.refl wr.heap.size wr).alloc (Nat.le_refl _) (.cells #[.int .i64 nn, .int .i64 0] 79)
          have hA2 := hA1.alloc (by simp) (.cells #[.int .i64 nn, .int .i64 0] 79)
          have hS := HT2.out.below hA2
          have HS := Lib.hid (And.intro hS hnx)
          have hnw := World.alloc_heap_new (wr.alloc (.cells #[.int .i64 nn, .int .i64 0] 79)) (.cells #[.int .i64 nn, .int .i64 0] 79)
          rw [World.size_alloc] at hnw
          have HK := Lib.hid (And.intro hS.rowL (World.news_of_block (cs := #[.int .i64 nn, .int .i64 0]) (t := 79) (fr := (0, 0)) hnw))
          clear hS hA1 hA2 hnx hnw hxc hyc hp HT2
          go_wp2_with (at_builtin; (refine wpList_append_own _ rfl _ _ 22 rfl (w.heap.size + 3) 79 j0 (.agg #[.int .i64 0, .int .i64 0]) 2 16 Try.underlying22 hjI hy0 hy1 hy2 rfl (by decide) _ _ _ rfl HK.out.1 ⟨wr.heap.size + 1, 0, none⟩ 1 1 [.int .i64 nn, .int .i64 0] rfl rfl HK.out.2 (fun x hx => by simp at hx; rcases hx with rfl | rfl <;> rfl) (by unfold maxLen; omega) (by omega) (by simp; omega) ?_); intro v2 w2 hown2 hg2 _; obtain ⟨o2, c2, rfl, _⟩ := own_slice hown2; (have hA := HS.out.1.app hg2 hown2); (have HA := Lib.hid hA); obtain ⟨z0, z1, z2, z3⟩ := HS.out.1.cellsG hg2)
          go_roundw
          case rel => exact ⟨F + 1, _, by go_num, by rw [HS.out.2]; simp only [HNN.out.1]; go_num, by omega, by rw [HS.out.2]; exact HA.out⟩
          case measure => simp [intOf]; omega
        · have d3 : decide ((0 : Int) ≤ xc) = false := decide_eq_false hp
          by_cases hr : 0 ≤ yc
          · have d4 : decide ((0 : Int) ≤ yc) = true := decide_eq_true hr
            have hnx : togL s.L t.L f (F + 1) = ((togL s.L t.L f F).1 ++ [⟨(nn : Nat), 0⟩], (togL s.L t.L f F).2 + 1) := by rw [togL_succ, HNN.out.2, if_neg hFk, if_pos (.inr (by rw [hyc]; exact hr)), HNN.out.1]
            have hA1 := (Below.refl wr.heap.size wr).alloc (Nat.le_refl _) (.cells #[.int .i64 nn, .int .i64 0] 79)
            have hA2 := hA1.alloc (by simp) (.cells #[.int .i64 nn, .int .i64 0] 79)
            have hS := HT2.out.below hA2
            have HS := Lib.hid (And.intro hS hnx)
            have hnw := World.alloc_heap_new (wr.alloc (.cells #[.int .i64 nn, .int .i64 0] 79)) (.cells #[.int .i64 nn, .int .i64 0] 79)
            rw [World.size_alloc] at hnw
            have HK := Lib.hid (And.intro hS.rowL (World.news_of_block (cs := #[.int .i64 nn, .int .i64 0]) (t := 79) (fr := (0, 0)) hnw))
            clear hS hA1 hA2 hnx hnw hxc hyc hp hr HT2
            go_wp2_with (at_builtin; (refine wpList_append_own _ rfl _ _ 22 rfl (w.heap.size + 3) 79 j0 (.agg #[.int .i64 0, .int .i64 0]) 2 16 Try.underlying22 hjI hy0 hy1 hy2 rfl (by decide) _ _ _ rfl HK.out.1 ⟨wr.heap.size + 1, 0, none⟩ 1 1 [.int .i64 nn, .int .i64 0] rfl rfl HK.out.2 (fun x hx => by simp at hx; rcases hx with rfl | rfl <;> rfl) (by unfold maxLen; omega) (by omega) (by simp; omega) ?_); intro v2 w2 hown2 hg2 _; obtain ⟨o2, c2, rfl, _⟩ := own_slice hown2; (have hA := HS.out.1.app hg2 hown2); (have HA := Lib.hid hA); obtain ⟨z0, z1, z2, z3⟩ := HS.out.1.cellsG hg2)
            go_roundw
            case rel => exact ⟨F + 1, _, by go_num, by rw [HS.out.2]; simp only [HNN.out.1]; go_num, by omega, by rw [HS.out.2]; exact HA.out⟩
            case measure => simp [intOf]; omega
          · have d4 : decide ((0 : Int) ≤ yc) = false := decide_eq_false hr
            have hnx : togL s.L t.L f (F + 1) = ((togL s.L t.L f F).1 ++ [⟨-1, 0⟩], (togL s.L t.L f F).2) := by rw [togL_succ, HNN.out.2, if_neg hFk, if_neg (by rw [hxc, hyc]; omega)]
            have hA1 := (Below.refl wr.heap.size wr).alloc (Nat.le_refl _) (.cells #[.int .i64 (-1), .int .i64 0] 79)
            have hA2 := hA1.alloc (by simp) (.cells #[.int .i64 (-1), .int .i64 0] 79)
            have hS := HT2.out.below hA2
            have HS := Lib.hid (And.intro hS hnx)
            have hnw := World.alloc_heap_new (wr.alloc (.cells #[.int .i64 (-1), .int .i64 0] 79)) (.cells #[.int .i64 (-1), .int .i64 0] 79)
            rw [World.size_alloc] at hnw
            have HK := Lib.hid (And.intro hS.rowL (World.news_of_block (cs := #[.int .i64 (-1), .int .i64 0]) (t := 79) (fr := (0, 0)) hnw))
            clear hS hA1 hA2 hnx hnw hxc hyc hp hr HT2
            go_wp2_with (at_builtin; (refine wpList_append_own _ rfl _ _ 22 rfl (w.heap.size + 3) 79 j0 (.agg #[.int .i64 0, .int .i64 0]) 2 16 Try.underlying22 hjI hy0 hy1 hy2 rfl (by decide) _ _ _ rfl HK.out.1 ⟨wr.heap.size + 1, 0, none⟩ 1 1 [.int .i64 (-1), .int .i64 0] rfl rfl HK.out.2 (fun x hx => by simp at hx; rcases hx with rfl | rfl <;> rfl) (by unfold maxLen; omega) (by omega) (by simp; omega) ?_); intro v2 w2 hown2 hg2 _; obtain ⟨o2, c2, rfl, _⟩ := own_slice hown2; (have hA := HS.out.1.app hg2 hown2); (have HA := Lib.hid hA); obtain ⟨z0, z1, z2, z3⟩ := HS.out.1.cellsG hg2)
            go_roundw
            case rel => exact ⟨F + 1, _, by go_num, by rw [HS.out.2]; simp only [HNN.out.1], by omega, by rw [HS.out.2]; exact HA.out⟩
            case measure => simp [intOf]; omega
    · obtain rfl : k = s.L.length := by omega
      obtain ⟨nn, hnn⟩ : ∃ n, (togL s.L t.L f s.L.length).2 = n := ⟨_, rfl⟩
      have hnl : nn ≤ s.L.length := by rw [← hnn]; exact (togL_num _ _ _ _).2
      obtain ⟨o4, c4, rfl, _⟩ := own_slice hT.rowL
      have f0 := hT.res.frozen 0
      have f1 := hT.res.frozen 1
      have n0 : wr.cell? ⟨w.heap.size + 2, 0, none⟩ = some (.slice none 0 0) := hT.res.cell 0
      have n1 : wr.cell? ⟨w.heap.size + 2, 1, none⟩ = some (.slice none 0 0) := hT.res.cell 1
      have y0 : wr.cell? ⟨b, 0, none⟩ = some (.slice o4 s.L.length c4) := hT.out.cell 0
      have y1 : wr.cell? ⟨b, 1, none⟩ = some (.slice o5 s.S.length c5) := hT.out.cell 1
      by_cases h25 : 25 < nn
      · have d2 : decide ((25 : Int) < (nn : Int)) = true := decide_eq_true (by omega)
        have d3 : decide (25 < nn) = true := decide_eq_true h25
        have hR : togR s t f = (⟨[], []⟩, 5) := by unfold togR; rw [hnn, if_pos h25]
        obtain ⟨g0, g1, rB⟩ := hT.fin0
        obtain ⟨F, hF⟩ : ∃ F, (wr.setCell ⟨w.heap.size + 2, 0, none⟩ (.slice none 0 0)).setCell ⟨w.heap.size + 2, 1, none⟩ (.slice none 0 0) = F := ⟨_, rfl⟩
        rw [hF] at g0 g1 rB
        rw [hnn]
        have HB := Lib.hid (And.intro rB hR)
        clear hT rB hR hnn hlt hk
        go_wp2
        try rw [hF]
        clear hF
        exact bodyPost_ret (v := .tuple #[.agg #[.slice none 0 0, .slice none 0 0], .int .i64 5]) (by simp [results, Try.f63, go_sem, g0, g1]) rfl (by rw [HB.out.2]; exact ⟨_, _, rfl, World.ownsRow_nil _ _ _ _, World.ownsRow_nil _ _ _ _, HB.out.1⟩)
      · have d2 : decide ((25 : Int) < (nn : Int)) = false := decide_eq_false (by omega)
        have d3 : decide (25 < nn) = false := decide_eq_false h25
        have hR : togR s t f = (⟨(togL s.L t.L f s.L.length).1, s.S⟩, 0) := by unfold togR; rw [hnn, if_neg h25]
        obtain ⟨g0, g1, r0, r1, rB⟩ := hT.fin
        obtain ⟨F, hF⟩ : ∃ F, (wr.setCell ⟨w.heap.size + 2, 0, none⟩ (.slice o4 s.L.length c4)).setCell ⟨w.heap.size + 2, 1, none⟩ (.slice o5 s.S.length c5) = F := ⟨_, rfl⟩
        rw [hF] at g0 g1 r0 r1 rB
        rw [hnn]
        have HB := Lib.hid (And.intro (And.intro r0 r1) (And.intro rB hR))
        clear hT rB hR hnn hlt hk r0 r1
        go_wp2
        try rw [hF]
        clear hF
        exact bodyPost_ret (v := .tuple #[.agg #[.slice o4 s.L.length c4, .slice o5 s.S.length c5], .int .i64 0]) (by simp [results, Try.f63, go_sem, g0, g1]) rfl (by rw [HB.out.2.2]; exact ⟨_, _, rfl, by simp only [togL_len]; exact HB.out.1.1, HB.out.1.2, HB.out.2.1⟩)
end Go.Proofs.Ytdcmkiggnmajgaa
