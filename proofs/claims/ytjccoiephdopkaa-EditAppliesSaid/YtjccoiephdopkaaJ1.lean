/- Stage 27: the document's Say, exactly. -/
import Derived.Test.YtjccoiephdopkaaZ10
namespace Go.Proofs.Ytjccoiephdopkaa
set_option linter.unusedVariables false
set_option linter.unusedSimpArgs false
open Go Go.RowKit Go.Shelf
set_option maxRecDepth 100000

/-- What Say hands back, exactly. -/
def SayXR (l : List Sp) (F : Nat) (w : World) (e : Ending) (w' : World) : Prop :=
  ∃ (Ps : List ByteArray) (Ds : List Bool) (Bs : List UInt8) (vP vD vB : Value), e = .returned (.agg #[vP, vD, vB]) ∧ w'.ownsRow w.heap.size 9 1 vP (F + 1) (Ps.flatMap encP) ∧ w'.ownsRow w.heap.size 4 1 vD F (Ds.flatMap encO) ∧ w'.ownsRow w.heap.size 5 1 vB F (Bs.map u8V) ∧
    Ps.length = F + 1 ∧ Ds.length = F ∧ Bs.length = F ∧ frS Ps Ds Bs F 0 = atL (plainM l) ∧ Below w.heap.size w w'
theorem can_len (ps ds : List UInt8) (A : List Atm) : (canA ps ds A).length = ps.length + ds.length + A.length := by
  induction A generalizing ps ds with
  | nil => simp [canA]
  | cons a A ih => cases a <;> simp only [canA, List.length_append, List.length_map, List.length_cons, List.length_nil, ih] <;> omega
theorem sayx_small {l : List Sp} {F T pl gp : Nat} {Ps : List ByteArray} {Ds : List Bool} {xs : List Value} {R : List Atm} {y : ByteArray} (hok : sizeG l 0 0 = some (F, T)) (hS : SayX F (atL l) Ps Ds xs pl gp R) (hy : Ps[gp]? = some y) : y.size ≤ 131072 := by
  obtain ⟨Bs, h1, h2, h3⟩ := hS.bs
  have h4 := congrArg List.length h3
  have h5 := sizeG_in l 0 0 F T hok
  have h6 := plain_cu hok
  have h7 := at_len (atL l)
  rw [can_len, hy] at h4
  simp only [List.length_append, can_len, Option.getD_some, bL_len, List.length_nil] at h4
  obtain ⟨_, _, _, g1, g2, _⟩ := h6
  omega
theorem drop_cons {d : ByteArray} {jn : Nat} (h : jn < d.size) (B : List Atm) : ((bL d).drop jn).map .D ++ B = .D (d[jn]'h) :: (((bL d).drop (jn + 1)).map .D ++ B) := by
  have h1 : (bL d).drop jn = d[jn]'h :: (bL d).drop (jn + 1) := by
    rw [List.drop_eq_getElem_cons (by rw [bL_len]; exact h)]; rfl
  rw [h1]; rfl
set_option maxHeartbeats 16000000 in
theorem sayx_any (l : List Sp) (o : Option Addr) (c F T : Nat) (hn : l.length ≤ 9223372036854775807) (ho : OkS l) (hok : sizeG l 0 0 = some (F, T)) (w : World) (hr : RowAt w encS 3 o l) :
    Calls Try.prog 14 #[.slice o l.length c] w (SayXR l F w) := by
  have hF6 := (sizeG_ok l 0 0 F T hok (by omega) (by omega)).2.1
  have hb := (Below.refl w.heap.size w).alloc (Nat.le_refl _) (.cells #[.slice none 0 0, .slice none 0 0, .slice none 0 0] 43)
  have n2 := Blk.new w #[.slice none 0 0, .slice none 0 0, .slice none 0 0] 43
  have hrA := hr.below encS_len (by decide) hb
  have cS := sizesD_any l o c hn ho (w.alloc (.cells #[.slice none 0 0, .slice none 0 0, .slice none 0 0] 43)) hrA
  rw [hok] at cS
  have HN := Lib.hid (And.intro hok (And.intro hr ho))
  have HA := Lib.hid (And.intro hb n2)
  clear hok hr ho hb n2 hrA
  go_enter Try.func14, Try.ntmps14
  go_wp2_with (fail)
  refine cS.mono ?_
  rintro e W ⟨rfl, hB⟩
  simp only [szD]
  have HW := Lib.hid (And.intro (HA.out.1.trans (hB.mono (by simp))) (HA.out.2.below' hB))
  clear hB cS HA
  have j1 : IntKind.i64.wrap ((F : Int) + 1) = (F : Int) + 1 := IntWalk.i64_in _ (by omega)
  have mP : ∀ X, (Instr.makeSlice 39 (.int .i64 ((F : Int) + 1)) (.int .i64 ((F : Int) + 1))).run Try.prog X = .ok (.slice (some ⟨X.heap.size, 0, none⟩) (F + 1) (F + 1)) (X.alloc (.cells (madeCells #[.string .empty] (F + 1)) 9)) := fun X => make_strs X (F + 1) (by omega)
  have mD := fun X => make_bools X F (by omega)
  have mB := fun X => make_bytes X F (by omega)
  go_wp2
  refine wp_cutV (α := Nat × Nat × Nat × Nat) (fun v X => SayK X W F v.1 v.2.1 v.2.2.1 v.2.2.2 (List.replicate (F + 1) .empty) (List.replicate F false) (List.replicate F (.int .u8 0)) ∧ W.heap.size ≤ v.2.2.2) (fun v => [(18, .int .i64 F), (19, .int .i64 ((F : Int) + 1)), (20, .slice (some ⟨v.1, 0, none⟩) (F + 1) (F + 1)), (21, .int .i64 F), (22, .slice (some ⟨v.2.1, 0, none⟩) F F), (23, .int .i64 F), (24, .slice (some ⟨v.2.2.1, 0, none⟩) F F), (25, .agg #[.slice (some ⟨v.1, 0, none⟩) (F + 1) (F + 1), .slice (some ⟨v.2.1, 0, none⟩) F F, .slice (some ⟨v.2.2.1, 0, none⟩) F F]), (6, .pointer (some ⟨v.2.2.2, 0, none⟩))]) ?_ ?_
  · refine wp_region_noPanic ?_
    refine wp_region_g (S := untilG [] (fun X => Below W.heap.size W X)) (by kernel_rfl) ?_
    have T0 : Below W.heap.size W W.drew := (Below.refl _ _).drew
    obtain ⟨X0, hX0⟩ : ∃ X, W.drew = X := ⟨_, rfl⟩
    rw [hX0] at T0 ⊢
    clear hX0
    refine wpAnyG_take [0, 1, 2, 7, 9] (i := 0) (v := (.int .i64 F)) rfl (by kernel_rfl) (by kernel_rfl) (by kernel_rfl) (by kernel_rfl) (by kernel_rfl) (by kernel_rfl) (by kernel_rfl) (by kernel_rfl) (fun _ _ _ h => h) (Or.inl ⟨by rfl, ?hy⟩) T0 ?_
    case hy =>
      intro X hX
      go_simp
    try simp only [Act.put, List.getElem_toArray, List.getElem_cons_zero, List.getElem_cons_succ, List.setIfInBounds_toArray, List.set_cons_zero, List.set_cons_succ]
    refine wpAnyG_take [1, 2, 7, 9] (i := 1) (v := (.int .i64 ((F : Int) + 1))) rfl (by kernel_rfl) (by kernel_rfl) (by kernel_rfl) (by kernel_rfl) (by kernel_rfl) (by kernel_rfl) (by kernel_rfl) (by kernel_rfl) (fun _ _ _ h => h) (Or.inl ⟨by rfl, ?hy⟩) T0 ?_
    case hy =>
      intro X hX
      go_simp
    try simp only [Act.put, List.getElem_toArray, List.getElem_cons_zero, List.getElem_cons_succ, List.setIfInBounds_toArray, List.set_cons_zero, List.set_cons_succ]
    refine wpAnyG_take [3, 4, 7, 9] (i := 3) (v := (.int .i64 F)) rfl (by kernel_rfl) (by kernel_rfl) (by kernel_rfl) (by kernel_rfl) (by kernel_rfl) (by kernel_rfl) (by kernel_rfl) (by kernel_rfl) (fun _ _ _ h => h) (Or.inl ⟨by rfl, ?hy⟩) T0 ?_
    case hy =>
      intro X hX
      go_simp
    try simp only [Act.put, List.getElem_toArray, List.getElem_cons_zero, List.getElem_cons_succ, List.setIfInBounds_toArray, List.set_cons_zero, List.set_cons_succ]
    refine wpAnyG_take [5, 6, 7, 9] (i := 5) (v := (.int .i64 F)) rfl (by kernel_rfl) (by kernel_rfl) (by kernel_rfl) (by kernel_rfl) (by kernel_rfl) (by kernel_rfl) (by kernel_rfl) (by kernel_rfl) (fun _ _ _ h => h) (Or.inl ⟨by rfl, ?hy⟩) T0 ?_
    case hy =>
      intro X hX
      go_simp
    try simp only [Act.put, List.getElem_toArray, List.getElem_cons_zero, List.getElem_cons_succ, List.setIfInBounds_toArray, List.set_cons_zero, List.set_cons_succ]
    refine wpAnyG_all (rs := [2, 4, 6, 8]) (by kernel_rfl) (by simp) ?_
    intro i hi
    simp only [List.mem_cons, List.not_mem_nil, or_false] at hi
    rcases hi with rfl | rfl | rfl | rfl
    · skip
      refine wpOp_now rfl rfl ?_
      go_simp
      have hbase : W.heap.size ≤ X0.heap.size := T0.size
      have rP := rowP0 X0 W.heap.size F hbase (by omega)
      have hbk := (Below.refl X0.heap.size X0).alloc (Nat.le_refl _) (.cells (madeCells #[.string .empty] (F + 1)) 9)
      replace T0 := T0.alloc T0.size (.cells (madeCells #[.string .empty] (F + 1)) 9)
      obtain ⟨X1, hX1⟩ : ∃ Z, X0.alloc (.cells (madeCells #[.string .empty] (F + 1)) 9) = Z := ⟨_, rfl⟩
      obtain ⟨gP, hgP⟩ : ∃ g, X0.heap.size = g := ⟨_, rfl⟩
      rw [hX1] at T0 rP ⊢
      rw [hgP] at rP ⊢
      clear hX1 hbk
      clear hgP
      clear hbase
      refine ⟨fun _ => T0, ?_⟩
      try simp only [Act.put, List.getElem_toArray, List.getElem_cons_zero, List.getElem_cons_succ, List.setIfInBounds_toArray, List.set_cons_zero, List.set_cons_succ]
      refine wpAnyG_all (rs := [4, 6, 8]) (by kernel_rfl) (by simp) ?_
      intro i hi
      simp only [List.mem_cons, List.not_mem_nil, or_false] at hi
      rcases hi with rfl | rfl | rfl
      · skip
        refine wpOp_now rfl rfl ?_
        go_simp
        have hbase : W.heap.size ≤ X1.heap.size := T0.size
        have rD := rowD0 X1 W.heap.size F hbase (by omega)
        have hbk := (Below.refl X1.heap.size X1).alloc (Nat.le_refl _) (.cells (madeCells #[.bool false] F) 4)
        replace T0 := T0.alloc T0.size (.cells (madeCells #[.bool false] F) 4)
        replace rP := own_below rP hbk
        obtain ⟨X2, hX2⟩ : ∃ Z, X1.alloc (.cells (madeCells #[.bool false] F) 4) = Z := ⟨_, rfl⟩
        obtain ⟨gD, hgD⟩ : ∃ g, X1.heap.size = g := ⟨_, rfl⟩
        rw [hX2] at T0 rP rD ⊢
        rw [hgD] at rD ⊢
        clear hX2 hbk
        clear hgD
        clear hbase
        refine ⟨fun _ => T0, ?_⟩
        try simp only [Act.put, List.getElem_toArray, List.getElem_cons_zero, List.getElem_cons_succ, List.setIfInBounds_toArray, List.set_cons_zero, List.set_cons_succ]
        refine wpAnyG_all (rs := [6, 8]) (by kernel_rfl) (by simp) ?_
        intro i hi
        simp only [List.mem_cons, List.not_mem_nil, or_false] at hi
        rcases hi with rfl | rfl
        · skip
          refine wpOp_now rfl rfl ?_
          go_simp
          have hbase : W.heap.size ≤ X2.heap.size := T0.size
          have rB := rowB0 X2 W.heap.size F hbase (by omega)
          have hbk := (Below.refl X2.heap.size X2).alloc (Nat.le_refl _) (.cells (madeCells #[.int .u8 0] F) 5)
          replace T0 := T0.alloc T0.size (.cells (madeCells #[.int .u8 0] F) 5)
          replace rP := own_below rP hbk
          replace rD := own_below rD hbk
          obtain ⟨X3, hX3⟩ : ∃ Z, X2.alloc (.cells (madeCells #[.int .u8 0] F) 5) = Z := ⟨_, rfl⟩
          obtain ⟨gB, hgB⟩ : ∃ g, X2.heap.size = g := ⟨_, rfl⟩
          rw [hX3] at T0 rP rD rB ⊢
          rw [hgB] at rB ⊢
          clear hX3 hbk
          clear hgB
          clear hbase
          refine ⟨fun _ => T0, ?_⟩
          try simp only [Act.put, List.getElem_toArray, List.getElem_cons_zero, List.getElem_cons_succ, List.setIfInBounds_toArray, List.set_cons_zero, List.set_cons_succ]
          refine wpAnyG_take [7, 9] (i := 7) (v := (.agg #[.slice (some ⟨gP, 0, none⟩) (F + 1) (F + 1), .slice (some ⟨gD, 0, none⟩) F F, .slice (some ⟨gB, 0, none⟩) F F])) rfl (by kernel_rfl) (by kernel_rfl) (by kernel_rfl) (by kernel_rfl) (by kernel_rfl) (by kernel_rfl) (by kernel_rfl) (by kernel_rfl) (fun _ _ _ h => h) (Or.inl ⟨by rfl, ?hy⟩) T0 ?_
          case hy =>
            intro X hX
            go_simp
          try simp only [Act.put, List.getElem_toArray, List.getElem_cons_zero, List.getElem_cons_succ, List.setIfInBounds_toArray, List.set_cons_zero, List.set_cons_succ]
          refine wpAnyG_all (rs := [8]) (by kernel_rfl) (by simp) ?_
          intro i hi
          simp only [List.mem_cons, List.not_mem_nil, or_false] at hi
          subst hi
          refine wpOp_now rfl rfl ?_
          go_simp
          have hbase : W.heap.size ≤ X3.heap.size := T0.size
          have bk := Blk.new X3 #[.slice none 0 0, .slice none 0 0, .slice none 0 0] 43
          have hbk := (Below.refl X3.heap.size X3).alloc (Nat.le_refl _) (.cells #[.slice none 0 0, .slice none 0 0, .slice none 0 0] 43)
          replace T0 := T0.alloc T0.size (.cells #[.slice none 0 0, .slice none 0 0, .slice none 0 0] 43)
          replace rP := own_below rP hbk
          replace rD := own_below rD hbk
          replace rB := own_below rB hbk
          obtain ⟨X4, hX4⟩ : ∃ Z, X3.alloc (.cells #[.slice none 0 0, .slice none 0 0, .slice none 0 0] 43) = Z := ⟨_, rfl⟩
          obtain ⟨b6, hb6⟩ : ∃ g, X3.heap.size = g := ⟨_, rfl⟩
          rw [hX4] at T0 rP rD rB bk ⊢
          rw [hb6] at bk ⊢
          clear hX4 hbk
          have hb6 : W.heap.size ≤ b6 := hb6 ▸ hbase
          refine ⟨fun _ => T0, ?_⟩
          try simp only [Act.put, List.getElem_toArray, List.getElem_cons_zero, List.getElem_cons_succ, List.setIfInBounds_toArray, List.set_cons_zero, List.set_cons_succ]
          refine wpAnyG_all (rs := [9]) (by kernel_rfl) (by simp) ?_
          intro i hi
          simp only [List.mem_cons, List.not_mem_nil, or_false] at hi
          subst hi
          refine wpOp_now rfl rfl ?_
          have k0 : X4.cell? ⟨b6, 0, none⟩ = some (.slice none 0 0) := bk.cell 0
          have k1 : X4.cell? ⟨b6, 1, none⟩ = some (.slice none 0 0) := bk.cell 1
          have k2 : X4.cell? ⟨b6, 2, none⟩ = some (.slice none 0 0) := bk.cell 2
          have f0 := bk.frozen 0
          have f1 := bk.frozen 1
          have f2 := bk.frozen 2
          have HF := Lib.hid (say_cut hb6 bk rP rD rB T0)
          clear bk rP rD rB
          go_simp
          refine ⟨fun _ => HF.out.2.2.2.2, ?_⟩
          refine wpAnyG_done (by kernel_rfl) ?_ _
          refine NoPanic.normal ?_
          exact ⟨rfl, (gP, gD, gB, b6), by kernel_rfl, HF.out, hb6⟩
        · skip
          refine wpOp_now rfl rfl ?_
          go_simp
          have hbase : W.heap.size ≤ X2.heap.size := T0.size
          have bk := Blk.new X2 #[.slice none 0 0, .slice none 0 0, .slice none 0 0] 43
          have hbk := (Below.refl X2.heap.size X2).alloc (Nat.le_refl _) (.cells #[.slice none 0 0, .slice none 0 0, .slice none 0 0] 43)
          replace T0 := T0.alloc T0.size (.cells #[.slice none 0 0, .slice none 0 0, .slice none 0 0] 43)
          replace rP := own_below rP hbk
          replace rD := own_below rD hbk
          obtain ⟨X3, hX3⟩ : ∃ Z, X2.alloc (.cells #[.slice none 0 0, .slice none 0 0, .slice none 0 0] 43) = Z := ⟨_, rfl⟩
          obtain ⟨b6, hb6⟩ : ∃ g, X2.heap.size = g := ⟨_, rfl⟩
          rw [hX3] at T0 rP rD bk ⊢
          rw [hb6] at bk ⊢
          clear hX3 hbk
          have hb6 : W.heap.size ≤ b6 := hb6 ▸ hbase
          refine ⟨fun _ => T0, ?_⟩
          try simp only [Act.put, List.getElem_toArray, List.getElem_cons_zero, List.getElem_cons_succ, List.setIfInBounds_toArray, List.set_cons_zero, List.set_cons_succ]
          refine wpAnyG_all (rs := [6]) (by kernel_rfl) (by simp) ?_
          intro i hi
          simp only [List.mem_cons, List.not_mem_nil, or_false] at hi
          subst hi
          refine wpOp_now rfl rfl ?_
          go_simp
          have hbase : W.heap.size ≤ X3.heap.size := T0.size
          have rB := rowB0 X3 W.heap.size F hbase (by omega)
          have hbk := (Below.refl X3.heap.size X3).alloc (Nat.le_refl _) (.cells (madeCells #[.int .u8 0] F) 5)
          replace T0 := T0.alloc T0.size (.cells (madeCells #[.int .u8 0] F) 5)
          replace rP := own_below rP hbk
          replace rD := own_below rD hbk
          replace bk := Blk.below' bk hbk
          obtain ⟨X4, hX4⟩ : ∃ Z, X3.alloc (.cells (madeCells #[.int .u8 0] F) 5) = Z := ⟨_, rfl⟩
          obtain ⟨gB, hgB⟩ : ∃ g, X3.heap.size = g := ⟨_, rfl⟩
          rw [hX4] at T0 rP rD bk rB ⊢
          rw [hgB] at rB ⊢
          clear hX4 hbk
          clear hgB
          clear hbase
          refine ⟨fun _ => T0, ?_⟩
          try simp only [Act.put, List.getElem_toArray, List.getElem_cons_zero, List.getElem_cons_succ, List.setIfInBounds_toArray, List.set_cons_zero, List.set_cons_succ]
          refine wpAnyG_take [7, 9] (i := 7) (v := (.agg #[.slice (some ⟨gP, 0, none⟩) (F + 1) (F + 1), .slice (some ⟨gD, 0, none⟩) F F, .slice (some ⟨gB, 0, none⟩) F F])) rfl (by kernel_rfl) (by kernel_rfl) (by kernel_rfl) (by kernel_rfl) (by kernel_rfl) (by kernel_rfl) (by kernel_rfl) (by kernel_rfl) (fun _ _ _ h => h) (Or.inl ⟨by rfl, ?hy⟩) T0 ?_
          case hy =>
            intro X hX
            go_simp
          try simp only [Act.put, List.getElem_toArray, List.getElem_cons_zero, List.getElem_cons_succ, List.setIfInBounds_toArray, List.set_cons_zero, List.set_cons_succ]
          refine wpAnyG_all (rs := [9]) (by kernel_rfl) (by simp) ?_
          intro i hi
          simp only [List.mem_cons, List.not_mem_nil, or_false] at hi
          subst hi
          refine wpOp_now rfl rfl ?_
          have k0 : X4.cell? ⟨b6, 0, none⟩ = some (.slice none 0 0) := bk.cell 0
          have k1 : X4.cell? ⟨b6, 1, none⟩ = some (.slice none 0 0) := bk.cell 1
          have k2 : X4.cell? ⟨b6, 2, none⟩ = some (.slice none 0 0) := bk.cell 2
          have f0 := bk.frozen 0
          have f1 := bk.frozen 1
          have f2 := bk.frozen 2
          have HF := Lib.hid (say_cut hb6 bk rP rD rB T0)
          clear bk rP rD rB
          go_simp
          refine ⟨fun _ => HF.out.2.2.2.2, ?_⟩
          refine wpAnyG_done (by kernel_rfl) ?_ _
          refine NoPanic.normal ?_
          exact ⟨rfl, (gP, gD, gB, b6), by kernel_rfl, HF.out, hb6⟩
      · skip
        refine wpOp_now rfl rfl ?_
        go_simp
        have hbase : W.heap.size ≤ X1.heap.size := T0.size
        have rB := rowB0 X1 W.heap.size F hbase (by omega)
        have hbk := (Below.refl X1.heap.size X1).alloc (Nat.le_refl _) (.cells (madeCells #[.int .u8 0] F) 5)
        replace T0 := T0.alloc T0.size (.cells (madeCells #[.int .u8 0] F) 5)
        replace rP := own_below rP hbk
        obtain ⟨X2, hX2⟩ : ∃ Z, X1.alloc (.cells (madeCells #[.int .u8 0] F) 5) = Z := ⟨_, rfl⟩
        obtain ⟨gB, hgB⟩ : ∃ g, X1.heap.size = g := ⟨_, rfl⟩
        rw [hX2] at T0 rP rB ⊢
        rw [hgB] at rB ⊢
        clear hX2 hbk
        clear hgB
        clear hbase
        refine ⟨fun _ => T0, ?_⟩
        try simp only [Act.put, List.getElem_toArray, List.getElem_cons_zero, List.getElem_cons_succ, List.setIfInBounds_toArray, List.set_cons_zero, List.set_cons_succ]
        refine wpAnyG_all (rs := [4, 8]) (by kernel_rfl) (by simp) ?_
        intro i hi
        simp only [List.mem_cons, List.not_mem_nil, or_false] at hi
        rcases hi with rfl | rfl
        · skip
          refine wpOp_now rfl rfl ?_
          go_simp
          have hbase : W.heap.size ≤ X2.heap.size := T0.size
          have rD := rowD0 X2 W.heap.size F hbase (by omega)
          have hbk := (Below.refl X2.heap.size X2).alloc (Nat.le_refl _) (.cells (madeCells #[.bool false] F) 4)
          replace T0 := T0.alloc T0.size (.cells (madeCells #[.bool false] F) 4)
          replace rP := own_below rP hbk
          replace rB := own_below rB hbk
          obtain ⟨X3, hX3⟩ : ∃ Z, X2.alloc (.cells (madeCells #[.bool false] F) 4) = Z := ⟨_, rfl⟩
          obtain ⟨gD, hgD⟩ : ∃ g, X2.heap.size = g := ⟨_, rfl⟩
          rw [hX3] at T0 rP rB rD ⊢
          rw [hgD] at rD ⊢
          clear hX3 hbk
          clear hgD
          clear hbase
          refine ⟨fun _ => T0, ?_⟩
          try simp only [Act.put, List.getElem_toArray, List.getElem_cons_zero, List.getElem_cons_succ, List.setIfInBounds_toArray, List.set_cons_zero, List.set_cons_succ]
          refine wpAnyG_take [7, 9] (i := 7) (v := (.agg #[.slice (some ⟨gP, 0, none⟩) (F + 1) (F + 1), .slice (some ⟨gD, 0, none⟩) F F, .slice (some ⟨gB, 0, none⟩) F F])) rfl (by kernel_rfl) (by kernel_rfl) (by kernel_rfl) (by kernel_rfl) (by kernel_rfl) (by kernel_rfl) (by kernel_rfl) (by kernel_rfl) (fun _ _ _ h => h) (Or.inl ⟨by rfl, ?hy⟩) T0 ?_
          case hy =>
            intro X hX
            go_simp
          try simp only [Act.put, List.getElem_toArray, List.getElem_cons_zero, List.getElem_cons_succ, List.setIfInBounds_toArray, List.set_cons_zero, List.set_cons_succ]
          refine wpAnyG_all (rs := [8]) (by kernel_rfl) (by simp) ?_
          intro i hi
          simp only [List.mem_cons, List.not_mem_nil, or_false] at hi
          subst hi
          refine wpOp_now rfl rfl ?_
          go_simp
          have hbase : W.heap.size ≤ X3.heap.size := T0.size
          have bk := Blk.new X3 #[.slice none 0 0, .slice none 0 0, .slice none 0 0] 43
          have hbk := (Below.refl X3.heap.size X3).alloc (Nat.le_refl _) (.cells #[.slice none 0 0, .slice none 0 0, .slice none 0 0] 43)
          replace T0 := T0.alloc T0.size (.cells #[.slice none 0 0, .slice none 0 0, .slice none 0 0] 43)
          replace rP := own_below rP hbk
          replace rB := own_below rB hbk
          replace rD := own_below rD hbk
          obtain ⟨X4, hX4⟩ : ∃ Z, X3.alloc (.cells #[.slice none 0 0, .slice none 0 0, .slice none 0 0] 43) = Z := ⟨_, rfl⟩
          obtain ⟨b6, hb6⟩ : ∃ g, X3.heap.size = g := ⟨_, rfl⟩
          rw [hX4] at T0 rP rB rD bk ⊢
          rw [hb6] at bk ⊢
          clear hX4 hbk
          have hb6 : W.heap.size ≤ b6 := hb6 ▸ hbase
          refine ⟨fun _ => T0, ?_⟩
          try simp only [Act.put, List.getElem_toArray, List.getElem_cons_zero, List.getElem_cons_succ, List.setIfInBounds_toArray, List.set_cons_zero, List.set_cons_succ]
          refine wpAnyG_all (rs := [9]) (by kernel_rfl) (by simp) ?_
          intro i hi
          simp only [List.mem_cons, List.not_mem_nil, or_false] at hi
          subst hi
          refine wpOp_now rfl rfl ?_
          have k0 : X4.cell? ⟨b6, 0, none⟩ = some (.slice none 0 0) := bk.cell 0
          have k1 : X4.cell? ⟨b6, 1, none⟩ = some (.slice none 0 0) := bk.cell 1
          have k2 : X4.cell? ⟨b6, 2, none⟩ = some (.slice none 0 0) := bk.cell 2
          have f0 := bk.frozen 0
          have f1 := bk.frozen 1
          have f2 := bk.frozen 2
          have HF := Lib.hid (say_cut hb6 bk rP rD rB T0)
          clear bk rP rD rB
          go_simp
          refine ⟨fun _ => HF.out.2.2.2.2, ?_⟩
          refine wpAnyG_done (by kernel_rfl) ?_ _
          refine NoPanic.normal ?_
          exact ⟨rfl, (gP, gD, gB, b6), by kernel_rfl, HF.out, hb6⟩
        · skip
          refine wpOp_now rfl rfl ?_
          go_simp
          have hbase : W.heap.size ≤ X2.heap.size := T0.size
          have bk := Blk.new X2 #[.slice none 0 0, .slice none 0 0, .slice none 0 0] 43
          have hbk := (Below.refl X2.heap.size X2).alloc (Nat.le_refl _) (.cells #[.slice none 0 0, .slice none 0 0, .slice none 0 0] 43)
          replace T0 := T0.alloc T0.size (.cells #[.slice none 0 0, .slice none 0 0, .slice none 0 0] 43)
          replace rP := own_below rP hbk
          replace rB := own_below rB hbk
          obtain ⟨X3, hX3⟩ : ∃ Z, X2.alloc (.cells #[.slice none 0 0, .slice none 0 0, .slice none 0 0] 43) = Z := ⟨_, rfl⟩
          obtain ⟨b6, hb6⟩ : ∃ g, X2.heap.size = g := ⟨_, rfl⟩
          rw [hX3] at T0 rP rB bk ⊢
          rw [hb6] at bk ⊢
          clear hX3 hbk
          have hb6 : W.heap.size ≤ b6 := hb6 ▸ hbase
          refine ⟨fun _ => T0, ?_⟩
          try simp only [Act.put, List.getElem_toArray, List.getElem_cons_zero, List.getElem_cons_succ, List.setIfInBounds_toArray, List.set_cons_zero, List.set_cons_succ]
          refine wpAnyG_all (rs := [4]) (by kernel_rfl) (by simp) ?_
          intro i hi
          simp only [List.mem_cons, List.not_mem_nil, or_false] at hi
          subst hi
          refine wpOp_now rfl rfl ?_
          go_simp
          have hbase : W.heap.size ≤ X3.heap.size := T0.size
          have rD := rowD0 X3 W.heap.size F hbase (by omega)
          have hbk := (Below.refl X3.heap.size X3).alloc (Nat.le_refl _) (.cells (madeCells #[.bool false] F) 4)
          replace T0 := T0.alloc T0.size (.cells (madeCells #[.bool false] F) 4)
          replace rP := own_below rP hbk
          replace rB := own_below rB hbk
          replace bk := Blk.below' bk hbk
          obtain ⟨X4, hX4⟩ : ∃ Z, X3.alloc (.cells (madeCells #[.bool false] F) 4) = Z := ⟨_, rfl⟩
          obtain ⟨gD, hgD⟩ : ∃ g, X3.heap.size = g := ⟨_, rfl⟩
          rw [hX4] at T0 rP rB bk rD ⊢
          rw [hgD] at rD ⊢
          clear hX4 hbk
          clear hgD
          clear hbase
          refine ⟨fun _ => T0, ?_⟩
          try simp only [Act.put, List.getElem_toArray, List.getElem_cons_zero, List.getElem_cons_succ, List.setIfInBounds_toArray, List.set_cons_zero, List.set_cons_succ]
          refine wpAnyG_take [7, 9] (i := 7) (v := (.agg #[.slice (some ⟨gP, 0, none⟩) (F + 1) (F + 1), .slice (some ⟨gD, 0, none⟩) F F, .slice (some ⟨gB, 0, none⟩) F F])) rfl (by kernel_rfl) (by kernel_rfl) (by kernel_rfl) (by kernel_rfl) (by kernel_rfl) (by kernel_rfl) (by kernel_rfl) (by kernel_rfl) (fun _ _ _ h => h) (Or.inl ⟨by rfl, ?hy⟩) T0 ?_
          case hy =>
            intro X hX
            go_simp
          try simp only [Act.put, List.getElem_toArray, List.getElem_cons_zero, List.getElem_cons_succ, List.setIfInBounds_toArray, List.set_cons_zero, List.set_cons_succ]
          refine wpAnyG_all (rs := [9]) (by kernel_rfl) (by simp) ?_
          intro i hi
          simp only [List.mem_cons, List.not_mem_nil, or_false] at hi
          subst hi
          refine wpOp_now rfl rfl ?_
          have k0 : X4.cell? ⟨b6, 0, none⟩ = some (.slice none 0 0) := bk.cell 0
          have k1 : X4.cell? ⟨b6, 1, none⟩ = some (.slice none 0 0) := bk.cell 1
          have k2 : X4.cell? ⟨b6, 2, none⟩ = some (.slice none 0 0) := bk.cell 2
          have f0 := bk.frozen 0
          have f1 := bk.frozen 1
          have f2 := bk.frozen 2
          have HF := Lib.hid (say_cut hb6 bk rP rD rB T0)
          clear bk rP rD rB
          go_simp
          refine ⟨fun _ => HF.out.2.2.2.2, ?_⟩
          refine wpAnyG_done (by kernel_rfl) ?_ _
          refine NoPanic.normal ?_
          exact ⟨rfl, (gP, gD, gB, b6), by kernel_rfl, HF.out, hb6⟩
      · skip
        refine wpOp_now rfl rfl ?_
        go_simp
        have hbase : W.heap.size ≤ X1.heap.size := T0.size
        have bk := Blk.new X1 #[.slice none 0 0, .slice none 0 0, .slice none 0 0] 43
        have hbk := (Below.refl X1.heap.size X1).alloc (Nat.le_refl _) (.cells #[.slice none 0 0, .slice none 0 0, .slice none 0 0] 43)
        replace T0 := T0.alloc T0.size (.cells #[.slice none 0 0, .slice none 0 0, .slice none 0 0] 43)
        replace rP := own_below rP hbk
        obtain ⟨X2, hX2⟩ : ∃ Z, X1.alloc (.cells #[.slice none 0 0, .slice none 0 0, .slice none 0 0] 43) = Z := ⟨_, rfl⟩
        obtain ⟨b6, hb6⟩ : ∃ g, X1.heap.size = g := ⟨_, rfl⟩
        rw [hX2] at T0 rP bk ⊢
        rw [hb6] at bk ⊢
        clear hX2 hbk
        have hb6 : W.heap.size ≤ b6 := hb6 ▸ hbase
        refine ⟨fun _ => T0, ?_⟩
        try simp only [Act.put, List.getElem_toArray, List.getElem_cons_zero, List.getElem_cons_succ, List.setIfInBounds_toArray, List.set_cons_zero, List.set_cons_succ]
        refine wpAnyG_all (rs := [4, 6]) (by kernel_rfl) (by simp) ?_
        intro i hi
        simp only [List.mem_cons, List.not_mem_nil, or_false] at hi
        rcases hi with rfl | rfl
        · skip
          refine wpOp_now rfl rfl ?_
          go_simp
          have hbase : W.heap.size ≤ X2.heap.size := T0.size
          have rD := rowD0 X2 W.heap.size F hbase (by omega)
          have hbk := (Below.refl X2.heap.size X2).alloc (Nat.le_refl _) (.cells (madeCells #[.bool false] F) 4)
          replace T0 := T0.alloc T0.size (.cells (madeCells #[.bool false] F) 4)
          replace rP := own_below rP hbk
          replace bk := Blk.below' bk hbk
          obtain ⟨X3, hX3⟩ : ∃ Z, X2.alloc (.cells (madeCells #[.bool false] F) 4) = Z := ⟨_, rfl⟩
          obtain ⟨gD, hgD⟩ : ∃ g, X2.heap.size = g := ⟨_, rfl⟩
          rw [hX3] at T0 rP bk rD ⊢
          rw [hgD] at rD ⊢
          clear hX3 hbk
          clear hgD
          clear hbase
          refine ⟨fun _ => T0, ?_⟩
          try simp only [Act.put, List.getElem_toArray, List.getElem_cons_zero, List.getElem_cons_succ, List.setIfInBounds_toArray, List.set_cons_zero, List.set_cons_succ]
          refine wpAnyG_all (rs := [6]) (by kernel_rfl) (by simp) ?_
          intro i hi
          simp only [List.mem_cons, List.not_mem_nil, or_false] at hi
          subst hi
          refine wpOp_now rfl rfl ?_
          go_simp
          have hbase : W.heap.size ≤ X3.heap.size := T0.size
          have rB := rowB0 X3 W.heap.size F hbase (by omega)
          have hbk := (Below.refl X3.heap.size X3).alloc (Nat.le_refl _) (.cells (madeCells #[.int .u8 0] F) 5)
          replace T0 := T0.alloc T0.size (.cells (madeCells #[.int .u8 0] F) 5)
          replace rP := own_below rP hbk
          replace bk := Blk.below' bk hbk
          replace rD := own_below rD hbk
          obtain ⟨X4, hX4⟩ : ∃ Z, X3.alloc (.cells (madeCells #[.int .u8 0] F) 5) = Z := ⟨_, rfl⟩
          obtain ⟨gB, hgB⟩ : ∃ g, X3.heap.size = g := ⟨_, rfl⟩
          rw [hX4] at T0 rP bk rD rB ⊢
          rw [hgB] at rB ⊢
          clear hX4 hbk
          clear hgB
          clear hbase
          refine ⟨fun _ => T0, ?_⟩
          try simp only [Act.put, List.getElem_toArray, List.getElem_cons_zero, List.getElem_cons_succ, List.setIfInBounds_toArray, List.set_cons_zero, List.set_cons_succ]
          refine wpAnyG_take [7, 9] (i := 7) (v := (.agg #[.slice (some ⟨gP, 0, none⟩) (F + 1) (F + 1), .slice (some ⟨gD, 0, none⟩) F F, .slice (some ⟨gB, 0, none⟩) F F])) rfl (by kernel_rfl) (by kernel_rfl) (by kernel_rfl) (by kernel_rfl) (by kernel_rfl) (by kernel_rfl) (by kernel_rfl) (by kernel_rfl) (fun _ _ _ h => h) (Or.inl ⟨by rfl, ?hy⟩) T0 ?_
          case hy =>
            intro X hX
            go_simp
          try simp only [Act.put, List.getElem_toArray, List.getElem_cons_zero, List.getElem_cons_succ, List.setIfInBounds_toArray, List.set_cons_zero, List.set_cons_succ]
          refine wpAnyG_all (rs := [9]) (by kernel_rfl) (by simp) ?_
          intro i hi
          simp only [List.mem_cons, List.not_mem_nil, or_false] at hi
          subst hi
          refine wpOp_now rfl rfl ?_
          have k0 : X4.cell? ⟨b6, 0, none⟩ = some (.slice none 0 0) := bk.cell 0
          have k1 : X4.cell? ⟨b6, 1, none⟩ = some (.slice none 0 0) := bk.cell 1
          have k2 : X4.cell? ⟨b6, 2, none⟩ = some (.slice none 0 0) := bk.cell 2
          have f0 := bk.frozen 0
          have f1 := bk.frozen 1
          have f2 := bk.frozen 2
          have HF := Lib.hid (say_cut hb6 bk rP rD rB T0)
          clear bk rP rD rB
          go_simp
          refine ⟨fun _ => HF.out.2.2.2.2, ?_⟩
          refine wpAnyG_done (by kernel_rfl) ?_ _
          refine NoPanic.normal ?_
          exact ⟨rfl, (gP, gD, gB, b6), by kernel_rfl, HF.out, hb6⟩
        · skip
          refine wpOp_now rfl rfl ?_
          go_simp
          have hbase : W.heap.size ≤ X2.heap.size := T0.size
          have rB := rowB0 X2 W.heap.size F hbase (by omega)
          have hbk := (Below.refl X2.heap.size X2).alloc (Nat.le_refl _) (.cells (madeCells #[.int .u8 0] F) 5)
          replace T0 := T0.alloc T0.size (.cells (madeCells #[.int .u8 0] F) 5)
          replace rP := own_below rP hbk
          replace bk := Blk.below' bk hbk
          obtain ⟨X3, hX3⟩ : ∃ Z, X2.alloc (.cells (madeCells #[.int .u8 0] F) 5) = Z := ⟨_, rfl⟩
          obtain ⟨gB, hgB⟩ : ∃ g, X2.heap.size = g := ⟨_, rfl⟩
          rw [hX3] at T0 rP bk rB ⊢
          rw [hgB] at rB ⊢
          clear hX3 hbk
          clear hgB
          clear hbase
          refine ⟨fun _ => T0, ?_⟩
          try simp only [Act.put, List.getElem_toArray, List.getElem_cons_zero, List.getElem_cons_succ, List.setIfInBounds_toArray, List.set_cons_zero, List.set_cons_succ]
          refine wpAnyG_all (rs := [4]) (by kernel_rfl) (by simp) ?_
          intro i hi
          simp only [List.mem_cons, List.not_mem_nil, or_false] at hi
          subst hi
          refine wpOp_now rfl rfl ?_
          go_simp
          have hbase : W.heap.size ≤ X3.heap.size := T0.size
          have rD := rowD0 X3 W.heap.size F hbase (by omega)
          have hbk := (Below.refl X3.heap.size X3).alloc (Nat.le_refl _) (.cells (madeCells #[.bool false] F) 4)
          replace T0 := T0.alloc T0.size (.cells (madeCells #[.bool false] F) 4)
          replace rP := own_below rP hbk
          replace bk := Blk.below' bk hbk
          replace rB := own_below rB hbk
          obtain ⟨X4, hX4⟩ : ∃ Z, X3.alloc (.cells (madeCells #[.bool false] F) 4) = Z := ⟨_, rfl⟩
          obtain ⟨gD, hgD⟩ : ∃ g, X3.heap.size = g := ⟨_, rfl⟩
          rw [hX4] at T0 rP bk rB rD ⊢
          rw [hgD] at rD ⊢
          clear hX4 hbk
          clear hgD
          clear hbase
          refine ⟨fun _ => T0, ?_⟩
          try simp only [Act.put, List.getElem_toArray, List.getElem_cons_zero, List.getElem_cons_succ, List.setIfInBounds_toArray, List.set_cons_zero, List.set_cons_succ]
          refine wpAnyG_take [7, 9] (i := 7) (v := (.agg #[.slice (some ⟨gP, 0, none⟩) (F + 1) (F + 1), .slice (some ⟨gD, 0, none⟩) F F, .slice (some ⟨gB, 0, none⟩) F F])) rfl (by kernel_rfl) (by kernel_rfl) (by kernel_rfl) (by kernel_rfl) (by kernel_rfl) (by kernel_rfl) (by kernel_rfl) (by kernel_rfl) (fun _ _ _ h => h) (Or.inl ⟨by rfl, ?hy⟩) T0 ?_
          case hy =>
            intro X hX
            go_simp
          try simp only [Act.put, List.getElem_toArray, List.getElem_cons_zero, List.getElem_cons_succ, List.setIfInBounds_toArray, List.set_cons_zero, List.set_cons_succ]
          refine wpAnyG_all (rs := [9]) (by kernel_rfl) (by simp) ?_
          intro i hi
          simp only [List.mem_cons, List.not_mem_nil, or_false] at hi
          subst hi
          refine wpOp_now rfl rfl ?_
          have k0 : X4.cell? ⟨b6, 0, none⟩ = some (.slice none 0 0) := bk.cell 0
          have k1 : X4.cell? ⟨b6, 1, none⟩ = some (.slice none 0 0) := bk.cell 1
          have k2 : X4.cell? ⟨b6, 2, none⟩ = some (.slice none 0 0) := bk.cell 2
          have f0 := bk.frozen 0
          have f1 := bk.frozen 1
          have f2 := bk.frozen 2
          have HF := Lib.hid (say_cut hb6 bk rP rD rB T0)
          clear bk rP rD rB
          go_simp
          refine ⟨fun _ => HF.out.2.2.2.2, ?_⟩
          refine wpAnyG_done (by kernel_rfl) ?_ _
          refine NoPanic.normal ?_
          exact ⟨rfl, (gP, gD, gB, b6), by kernel_rfl, HF.out, hb6⟩
    · skip
      refine wpOp_now rfl rfl ?_
      go_simp
      have hbase : W.heap.size ≤ X0.heap.size := T0.size
      have rD := rowD0 X0 W.heap.size F hbase (by omega)
      have hbk := (Below.refl X0.heap.size X0).alloc (Nat.le_refl _) (.cells (madeCells #[.bool false] F) 4)
      replace T0 := T0.alloc T0.size (.cells (madeCells #[.bool false] F) 4)
      obtain ⟨X1, hX1⟩ : ∃ Z, X0.alloc (.cells (madeCells #[.bool false] F) 4) = Z := ⟨_, rfl⟩
      obtain ⟨gD, hgD⟩ : ∃ g, X0.heap.size = g := ⟨_, rfl⟩
      rw [hX1] at T0 rD ⊢
      rw [hgD] at rD ⊢
      clear hX1 hbk
      clear hgD
      clear hbase
      refine ⟨fun _ => T0, ?_⟩
      try simp only [Act.put, List.getElem_toArray, List.getElem_cons_zero, List.getElem_cons_succ, List.setIfInBounds_toArray, List.set_cons_zero, List.set_cons_succ]
      refine wpAnyG_all (rs := [2, 6, 8]) (by kernel_rfl) (by simp) ?_
      intro i hi
      simp only [List.mem_cons, List.not_mem_nil, or_false] at hi
      rcases hi with rfl | rfl | rfl
      · skip
        refine wpOp_now rfl rfl ?_
        go_simp
        have hbase : W.heap.size ≤ X1.heap.size := T0.size
        have rP := rowP0 X1 W.heap.size F hbase (by omega)
        have hbk := (Below.refl X1.heap.size X1).alloc (Nat.le_refl _) (.cells (madeCells #[.string .empty] (F + 1)) 9)
        replace T0 := T0.alloc T0.size (.cells (madeCells #[.string .empty] (F + 1)) 9)
        replace rD := own_below rD hbk
        obtain ⟨X2, hX2⟩ : ∃ Z, X1.alloc (.cells (madeCells #[.string .empty] (F + 1)) 9) = Z := ⟨_, rfl⟩
        obtain ⟨gP, hgP⟩ : ∃ g, X1.heap.size = g := ⟨_, rfl⟩
        rw [hX2] at T0 rD rP ⊢
        rw [hgP] at rP ⊢
        clear hX2 hbk
        clear hgP
        clear hbase
        refine ⟨fun _ => T0, ?_⟩
        try simp only [Act.put, List.getElem_toArray, List.getElem_cons_zero, List.getElem_cons_succ, List.setIfInBounds_toArray, List.set_cons_zero, List.set_cons_succ]
        refine wpAnyG_all (rs := [6, 8]) (by kernel_rfl) (by simp) ?_
        intro i hi
        simp only [List.mem_cons, List.not_mem_nil, or_false] at hi
        rcases hi with rfl | rfl
        · skip
          refine wpOp_now rfl rfl ?_
          go_simp
          have hbase : W.heap.size ≤ X2.heap.size := T0.size
          have rB := rowB0 X2 W.heap.size F hbase (by omega)
          have hbk := (Below.refl X2.heap.size X2).alloc (Nat.le_refl _) (.cells (madeCells #[.int .u8 0] F) 5)
          replace T0 := T0.alloc T0.size (.cells (madeCells #[.int .u8 0] F) 5)
          replace rD := own_below rD hbk
          replace rP := own_below rP hbk
          obtain ⟨X3, hX3⟩ : ∃ Z, X2.alloc (.cells (madeCells #[.int .u8 0] F) 5) = Z := ⟨_, rfl⟩
          obtain ⟨gB, hgB⟩ : ∃ g, X2.heap.size = g := ⟨_, rfl⟩
          rw [hX3] at T0 rD rP rB ⊢
          rw [hgB] at rB ⊢
          clear hX3 hbk
          clear hgB
          clear hbase
          refine ⟨fun _ => T0, ?_⟩
          try simp only [Act.put, List.getElem_toArray, List.getElem_cons_zero, List.getElem_cons_succ, List.setIfInBounds_toArray, List.set_cons_zero, List.set_cons_succ]
          refine wpAnyG_take [7, 9] (i := 7) (v := (.agg #[.slice (some ⟨gP, 0, none⟩) (F + 1) (F + 1), .slice (some ⟨gD, 0, none⟩) F F, .slice (some ⟨gB, 0, none⟩) F F])) rfl (by kernel_rfl) (by kernel_rfl) (by kernel_rfl) (by kernel_rfl) (by kernel_rfl) (by kernel_rfl) (by kernel_rfl) (by kernel_rfl) (fun _ _ _ h => h) (Or.inl ⟨by rfl, ?hy⟩) T0 ?_
          case hy =>
            intro X hX
            go_simp
          try simp only [Act.put, List.getElem_toArray, List.getElem_cons_zero, List.getElem_cons_succ, List.setIfInBounds_toArray, List.set_cons_zero, List.set_cons_succ]
          refine wpAnyG_all (rs := [8]) (by kernel_rfl) (by simp) ?_
          intro i hi
          simp only [List.mem_cons, List.not_mem_nil, or_false] at hi
          subst hi
          refine wpOp_now rfl rfl ?_
          go_simp
          have hbase : W.heap.size ≤ X3.heap.size := T0.size
          have bk := Blk.new X3 #[.slice none 0 0, .slice none 0 0, .slice none 0 0] 43
          have hbk := (Below.refl X3.heap.size X3).alloc (Nat.le_refl _) (.cells #[.slice none 0 0, .slice none 0 0, .slice none 0 0] 43)
          replace T0 := T0.alloc T0.size (.cells #[.slice none 0 0, .slice none 0 0, .slice none 0 0] 43)
          replace rD := own_below rD hbk
          replace rP := own_below rP hbk
          replace rB := own_below rB hbk
          obtain ⟨X4, hX4⟩ : ∃ Z, X3.alloc (.cells #[.slice none 0 0, .slice none 0 0, .slice none 0 0] 43) = Z := ⟨_, rfl⟩
          obtain ⟨b6, hb6⟩ : ∃ g, X3.heap.size = g := ⟨_, rfl⟩
          rw [hX4] at T0 rD rP rB bk ⊢
          rw [hb6] at bk ⊢
          clear hX4 hbk
          have hb6 : W.heap.size ≤ b6 := hb6 ▸ hbase
          refine ⟨fun _ => T0, ?_⟩
          try simp only [Act.put, List.getElem_toArray, List.getElem_cons_zero, List.getElem_cons_succ, List.setIfInBounds_toArray, List.set_cons_zero, List.set_cons_succ]
          refine wpAnyG_all (rs := [9]) (by kernel_rfl) (by simp) ?_
          intro i hi
          simp only [List.mem_cons, List.not_mem_nil, or_false] at hi
          subst hi
          refine wpOp_now rfl rfl ?_
          have k0 : X4.cell? ⟨b6, 0, none⟩ = some (.slice none 0 0) := bk.cell 0
          have k1 : X4.cell? ⟨b6, 1, none⟩ = some (.slice none 0 0) := bk.cell 1
          have k2 : X4.cell? ⟨b6, 2, none⟩ = some (.slice none 0 0) := bk.cell 2
          have f0 := bk.frozen 0
          have f1 := bk.frozen 1
          have f2 := bk.frozen 2
          have HF := Lib.hid (say_cut hb6 bk rP rD rB T0)
          clear bk rP rD rB
          go_simp
          refine ⟨fun _ => HF.out.2.2.2.2, ?_⟩
          refine wpAnyG_done (by kernel_rfl) ?_ _
          refine NoPanic.normal ?_
          exact ⟨rfl, (gP, gD, gB, b6), by kernel_rfl, HF.out, hb6⟩
        · skip
          refine wpOp_now rfl rfl ?_
          go_simp
          have hbase : W.heap.size ≤ X2.heap.size := T0.size
          have bk := Blk.new X2 #[.slice none 0 0, .slice none 0 0, .slice none 0 0] 43
          have hbk := (Below.refl X2.heap.size X2).alloc (Nat.le_refl _) (.cells #[.slice none 0 0, .slice none 0 0, .slice none 0 0] 43)
          replace T0 := T0.alloc T0.size (.cells #[.slice none 0 0, .slice none 0 0, .slice none 0 0] 43)
          replace rD := own_below rD hbk
          replace rP := own_below rP hbk
          obtain ⟨X3, hX3⟩ : ∃ Z, X2.alloc (.cells #[.slice none 0 0, .slice none 0 0, .slice none 0 0] 43) = Z := ⟨_, rfl⟩
          obtain ⟨b6, hb6⟩ : ∃ g, X2.heap.size = g := ⟨_, rfl⟩
          rw [hX3] at T0 rD rP bk ⊢
          rw [hb6] at bk ⊢
          clear hX3 hbk
          have hb6 : W.heap.size ≤ b6 := hb6 ▸ hbase
          refine ⟨fun _ => T0, ?_⟩
          try simp only [Act.put, List.getElem_toArray, List.getElem_cons_zero, List.getElem_cons_succ, List.setIfInBounds_toArray, List.set_cons_zero, List.set_cons_succ]
          refine wpAnyG_all (rs := [6]) (by kernel_rfl) (by simp) ?_
          intro i hi
          simp only [List.mem_cons, List.not_mem_nil, or_false] at hi
          subst hi
          refine wpOp_now rfl rfl ?_
          go_simp
          have hbase : W.heap.size ≤ X3.heap.size := T0.size
          have rB := rowB0 X3 W.heap.size F hbase (by omega)
          have hbk := (Below.refl X3.heap.size X3).alloc (Nat.le_refl _) (.cells (madeCells #[.int .u8 0] F) 5)
          replace T0 := T0.alloc T0.size (.cells (madeCells #[.int .u8 0] F) 5)
          replace rD := own_below rD hbk
          replace rP := own_below rP hbk
          replace bk := Blk.below' bk hbk
          obtain ⟨X4, hX4⟩ : ∃ Z, X3.alloc (.cells (madeCells #[.int .u8 0] F) 5) = Z := ⟨_, rfl⟩
          obtain ⟨gB, hgB⟩ : ∃ g, X3.heap.size = g := ⟨_, rfl⟩
          rw [hX4] at T0 rD rP bk rB ⊢
          rw [hgB] at rB ⊢
          clear hX4 hbk
          clear hgB
          clear hbase
          refine ⟨fun _ => T0, ?_⟩
          try simp only [Act.put, List.getElem_toArray, List.getElem_cons_zero, List.getElem_cons_succ, List.setIfInBounds_toArray, List.set_cons_zero, List.set_cons_succ]
          refine wpAnyG_take [7, 9] (i := 7) (v := (.agg #[.slice (some ⟨gP, 0, none⟩) (F + 1) (F + 1), .slice (some ⟨gD, 0, none⟩) F F, .slice (some ⟨gB, 0, none⟩) F F])) rfl (by kernel_rfl) (by kernel_rfl) (by kernel_rfl) (by kernel_rfl) (by kernel_rfl) (by kernel_rfl) (by kernel_rfl) (by kernel_rfl) (fun _ _ _ h => h) (Or.inl ⟨by rfl, ?hy⟩) T0 ?_
          case hy =>
            intro X hX
            go_simp
          try simp only [Act.put, List.getElem_toArray, List.getElem_cons_zero, List.getElem_cons_succ, List.setIfInBounds_toArray, List.set_cons_zero, List.set_cons_succ]
          refine wpAnyG_all (rs := [9]) (by kernel_rfl) (by simp) ?_
          intro i hi
          simp only [List.mem_cons, List.not_mem_nil, or_false] at hi
          subst hi
          refine wpOp_now rfl rfl ?_
          have k0 : X4.cell? ⟨b6, 0, none⟩ = some (.slice none 0 0) := bk.cell 0
          have k1 : X4.cell? ⟨b6, 1, none⟩ = some (.slice none 0 0) := bk.cell 1
          have k2 : X4.cell? ⟨b6, 2, none⟩ = some (.slice none 0 0) := bk.cell 2
          have f0 := bk.frozen 0
          have f1 := bk.frozen 1
          have f2 := bk.frozen 2
          have HF := Lib.hid (say_cut hb6 bk rP rD rB T0)
          clear bk rP rD rB
          go_simp
          refine ⟨fun _ => HF.out.2.2.2.2, ?_⟩
          refine wpAnyG_done (by kernel_rfl) ?_ _
          refine NoPanic.normal ?_
          exact ⟨rfl, (gP, gD, gB, b6), by kernel_rfl, HF.out, hb6⟩
      · skip
        refine wpOp_now rfl rfl ?_
        go_simp
        have hbase : W.heap.size ≤ X1.heap.size := T0.size
        have rB := rowB0 X1 W.heap.size F hbase (by omega)
        have hbk := (Below.refl X1.heap.size X1).alloc (Nat.le_refl _) (.cells (madeCells #[.int .u8 0] F) 5)
        replace T0 := T0.alloc T0.size (.cells (madeCells #[.int .u8 0] F) 5)
        replace rD := own_below rD hbk
        obtain ⟨X2, hX2⟩ : ∃ Z, X1.alloc (.cells (madeCells #[.int .u8 0] F) 5) = Z := ⟨_, rfl⟩
        obtain ⟨gB, hgB⟩ : ∃ g, X1.heap.size = g := ⟨_, rfl⟩
        rw [hX2] at T0 rD rB ⊢
        rw [hgB] at rB ⊢
        clear hX2 hbk
        clear hgB
        clear hbase
        refine ⟨fun _ => T0, ?_⟩
        try simp only [Act.put, List.getElem_toArray, List.getElem_cons_zero, List.getElem_cons_succ, List.setIfInBounds_toArray, List.set_cons_zero, List.set_cons_succ]
        refine wpAnyG_all (rs := [2, 8]) (by kernel_rfl) (by simp) ?_
        intro i hi
        simp only [List.mem_cons, List.not_mem_nil, or_false] at hi
        rcases hi with rfl | rfl
        · skip
          refine wpOp_now rfl rfl ?_
          go_simp
          have hbase : W.heap.size ≤ X2.heap.size := T0.size
          have rP := rowP0 X2 W.heap.size F hbase (by omega)
          have hbk := (Below.refl X2.heap.size X2).alloc (Nat.le_refl _) (.cells (madeCells #[.string .empty] (F + 1)) 9)
          replace T0 := T0.alloc T0.size (.cells (madeCells #[.string .empty] (F + 1)) 9)
          replace rD := own_below rD hbk
          replace rB := own_below rB hbk
          obtain ⟨X3, hX3⟩ : ∃ Z, X2.alloc (.cells (madeCells #[.string .empty] (F + 1)) 9) = Z := ⟨_, rfl⟩
          obtain ⟨gP, hgP⟩ : ∃ g, X2.heap.size = g := ⟨_, rfl⟩
          rw [hX3] at T0 rD rB rP ⊢
          rw [hgP] at rP ⊢
          clear hX3 hbk
          clear hgP
          clear hbase
          refine ⟨fun _ => T0, ?_⟩
          try simp only [Act.put, List.getElem_toArray, List.getElem_cons_zero, List.getElem_cons_succ, List.setIfInBounds_toArray, List.set_cons_zero, List.set_cons_succ]
          refine wpAnyG_take [7, 9] (i := 7) (v := (.agg #[.slice (some ⟨gP, 0, none⟩) (F + 1) (F + 1), .slice (some ⟨gD, 0, none⟩) F F, .slice (some ⟨gB, 0, none⟩) F F])) rfl (by kernel_rfl) (by kernel_rfl) (by kernel_rfl) (by kernel_rfl) (by kernel_rfl) (by kernel_rfl) (by kernel_rfl) (by kernel_rfl) (fun _ _ _ h => h) (Or.inl ⟨by rfl, ?hy⟩) T0 ?_
          case hy =>
            intro X hX
            go_simp
          try simp only [Act.put, List.getElem_toArray, List.getElem_cons_zero, List.getElem_cons_succ, List.setIfInBounds_toArray, List.set_cons_zero, List.set_cons_succ]
          refine wpAnyG_all (rs := [8]) (by kernel_rfl) (by simp) ?_
          intro i hi
          simp only [List.mem_cons, List.not_mem_nil, or_false] at hi
          subst hi
          refine wpOp_now rfl rfl ?_
          go_simp
          have hbase : W.heap.size ≤ X3.heap.size := T0.size
          have bk := Blk.new X3 #[.slice none 0 0, .slice none 0 0, .slice none 0 0] 43
          have hbk := (Below.refl X3.heap.size X3).alloc (Nat.le_refl _) (.cells #[.slice none 0 0, .slice none 0 0, .slice none 0 0] 43)
          replace T0 := T0.alloc T0.size (.cells #[.slice none 0 0, .slice none 0 0, .slice none 0 0] 43)
          replace rD := own_below rD hbk
          replace rB := own_below rB hbk
          replace rP := own_below rP hbk
          obtain ⟨X4, hX4⟩ : ∃ Z, X3.alloc (.cells #[.slice none 0 0, .slice none 0 0, .slice none 0 0] 43) = Z := ⟨_, rfl⟩
          obtain ⟨b6, hb6⟩ : ∃ g, X3.heap.size = g := ⟨_, rfl⟩
          rw [hX4] at T0 rD rB rP bk ⊢
          rw [hb6] at bk ⊢
          clear hX4 hbk
          have hb6 : W.heap.size ≤ b6 := hb6 ▸ hbase
          refine ⟨fun _ => T0, ?_⟩
          try simp only [Act.put, List.getElem_toArray, List.getElem_cons_zero, List.getElem_cons_succ, List.setIfInBounds_toArray, List.set_cons_zero, List.set_cons_succ]
          refine wpAnyG_all (rs := [9]) (by kernel_rfl) (by simp) ?_
          intro i hi
          simp only [List.mem_cons, List.not_mem_nil, or_false] at hi
          subst hi
          refine wpOp_now rfl rfl ?_
          have k0 : X4.cell? ⟨b6, 0, none⟩ = some (.slice none 0 0) := bk.cell 0
          have k1 : X4.cell? ⟨b6, 1, none⟩ = some (.slice none 0 0) := bk.cell 1
          have k2 : X4.cell? ⟨b6, 2, none⟩ = some (.slice none 0 0) := bk.cell 2
          have f0 := bk.frozen 0
          have f1 := bk.frozen 1
          have f2 := bk.frozen 2
          have HF := Lib.hid (say_cut hb6 bk rP rD rB T0)
          clear bk rP rD rB
          go_simp
          refine ⟨fun _ => HF.out.2.2.2.2, ?_⟩
          refine wpAnyG_done (by kernel_rfl) ?_ _
          refine NoPanic.normal ?_
          exact ⟨rfl, (gP, gD, gB, b6), by kernel_rfl, HF.out, hb6⟩
        · skip
          refine wpOp_now rfl rfl ?_
          go_simp
          have hbase : W.heap.size ≤ X2.heap.size := T0.size
          have bk := Blk.new X2 #[.slice none 0 0, .slice none 0 0, .slice none 0 0] 43
          have hbk := (Below.refl X2.heap.size X2).alloc (Nat.le_refl _) (.cells #[.slice none 0 0, .slice none 0 0, .slice none 0 0] 43)
          replace T0 := T0.alloc T0.size (.cells #[.slice none 0 0, .slice none 0 0, .slice none 0 0] 43)
          replace rD := own_below rD hbk
          replace rB := own_below rB hbk
          obtain ⟨X3, hX3⟩ : ∃ Z, X2.alloc (.cells #[.slice none 0 0, .slice none 0 0, .slice none 0 0] 43) = Z := ⟨_, rfl⟩
          obtain ⟨b6, hb6⟩ : ∃ g, X2.heap.size = g := ⟨_, rfl⟩
          rw [hX3] at T0 rD rB bk ⊢
          rw [hb6] at bk ⊢
          clear hX3 hbk
          have hb6 : W.heap.size ≤ b6 := hb6 ▸ hbase
          refine ⟨fun _ => T0, ?_⟩
          try simp only [Act.put, List.getElem_toArray, List.getElem_cons_zero, List.getElem_cons_succ, List.setIfInBounds_toArray, List.set_cons_zero, List.set_cons_succ]
          refine wpAnyG_all (rs := [2]) (by kernel_rfl) (by simp) ?_
          intro i hi
          simp only [List.mem_cons, List.not_mem_nil, or_false] at hi
          subst hi
          refine wpOp_now rfl rfl ?_
          go_simp
          have hbase : W.heap.size ≤ X3.heap.size := T0.size
          have rP := rowP0 X3 W.heap.size F hbase (by omega)
          have hbk := (Below.refl X3.heap.size X3).alloc (Nat.le_refl _) (.cells (madeCells #[.string .empty] (F + 1)) 9)
          replace T0 := T0.alloc T0.size (.cells (madeCells #[.string .empty] (F + 1)) 9)
          replace rD := own_below rD hbk
          replace rB := own_below rB hbk
          replace bk := Blk.below' bk hbk
          obtain ⟨X4, hX4⟩ : ∃ Z, X3.alloc (.cells (madeCells #[.string .empty] (F + 1)) 9) = Z := ⟨_, rfl⟩
          obtain ⟨gP, hgP⟩ : ∃ g, X3.heap.size = g := ⟨_, rfl⟩
          rw [hX4] at T0 rD rB bk rP ⊢
          rw [hgP] at rP ⊢
          clear hX4 hbk
          clear hgP
          clear hbase
          refine ⟨fun _ => T0, ?_⟩
          try simp only [Act.put, List.getElem_toArray, List.getElem_cons_zero, List.getElem_cons_succ, List.setIfInBounds_toArray, List.set_cons_zero, List.set_cons_succ]
          refine wpAnyG_take [7, 9] (i := 7) (v := (.agg #[.slice (some ⟨gP, 0, none⟩) (F + 1) (F + 1), .slice (some ⟨gD, 0, none⟩) F F, .slice (some ⟨gB, 0, none⟩) F F])) rfl (by kernel_rfl) (by kernel_rfl) (by kernel_rfl) (by kernel_rfl) (by kernel_rfl) (by kernel_rfl) (by kernel_rfl) (by kernel_rfl) (fun _ _ _ h => h) (Or.inl ⟨by rfl, ?hy⟩) T0 ?_
          case hy =>
            intro X hX
            go_simp
          try simp only [Act.put, List.getElem_toArray, List.getElem_cons_zero, List.getElem_cons_succ, List.setIfInBounds_toArray, List.set_cons_zero, List.set_cons_succ]
          refine wpAnyG_all (rs := [9]) (by kernel_rfl) (by simp) ?_
          intro i hi
          simp only [List.mem_cons, List.not_mem_nil, or_false] at hi
          subst hi
          refine wpOp_now rfl rfl ?_
          have k0 : X4.cell? ⟨b6, 0, none⟩ = some (.slice none 0 0) := bk.cell 0
          have k1 : X4.cell? ⟨b6, 1, none⟩ = some (.slice none 0 0) := bk.cell 1
          have k2 : X4.cell? ⟨b6, 2, none⟩ = some (.slice none 0 0) := bk.cell 2
          have f0 := bk.frozen 0
          have f1 := bk.frozen 1
          have f2 := bk.frozen 2
          have HF := Lib.hid (say_cut hb6 bk rP rD rB T0)
          clear bk rP rD rB
          go_simp
          refine ⟨fun _ => HF.out.2.2.2.2, ?_⟩
          refine wpAnyG_done (by kernel_rfl) ?_ _
          refine NoPanic.normal ?_
          exact ⟨rfl, (gP, gD, gB, b6), by kernel_rfl, HF.out, hb6⟩
      · skip
        refine wpOp_now rfl rfl ?_
        go_simp
        have hbase : W.heap.size ≤ X1.heap.size := T0.size
        have bk := Blk.new X1 #[.slice none 0 0, .slice none 0 0, .slice none 0 0] 43
        have hbk := (Below.refl X1.heap.size X1).alloc (Nat.le_refl _) (.cells #[.slice none 0 0, .slice none 0 0, .slice none 0 0] 43)
        replace T0 := T0.alloc T0.size (.cells #[.slice none 0 0, .slice none 0 0, .slice none 0 0] 43)
        replace rD := own_below rD hbk
        obtain ⟨X2, hX2⟩ : ∃ Z, X1.alloc (.cells #[.slice none 0 0, .slice none 0 0, .slice none 0 0] 43) = Z := ⟨_, rfl⟩
        obtain ⟨b6, hb6⟩ : ∃ g, X1.heap.size = g := ⟨_, rfl⟩
        rw [hX2] at T0 rD bk ⊢
        rw [hb6] at bk ⊢
        clear hX2 hbk
        have hb6 : W.heap.size ≤ b6 := hb6 ▸ hbase
        refine ⟨fun _ => T0, ?_⟩
        try simp only [Act.put, List.getElem_toArray, List.getElem_cons_zero, List.getElem_cons_succ, List.setIfInBounds_toArray, List.set_cons_zero, List.set_cons_succ]
        refine wpAnyG_all (rs := [2, 6]) (by kernel_rfl) (by simp) ?_
        intro i hi
        simp only [List.mem_cons, List.not_mem_nil, or_false] at hi
        rcases hi with rfl | rfl
        · skip
          refine wpOp_now rfl rfl ?_
          go_simp
          have hbase : W.heap.size ≤ X2.heap.size := T0.size
          have rP := rowP0 X2 W.heap.size F hbase (by omega)
          have hbk := (Below.refl X2.heap.size X2).alloc (Nat.le_refl _) (.cells (madeCells #[.string .empty] (F + 1)) 9)
          replace T0 := T0.alloc T0.size (.cells (madeCells #[.string .empty] (F + 1)) 9)
          replace rD := own_below rD hbk
          replace bk := Blk.below' bk hbk
          obtain ⟨X3, hX3⟩ : ∃ Z, X2.alloc (.cells (madeCells #[.string .empty] (F + 1)) 9) = Z := ⟨_, rfl⟩
          obtain ⟨gP, hgP⟩ : ∃ g, X2.heap.size = g := ⟨_, rfl⟩
          rw [hX3] at T0 rD bk rP ⊢
          rw [hgP] at rP ⊢
          clear hX3 hbk
          clear hgP
          clear hbase
          refine ⟨fun _ => T0, ?_⟩
          try simp only [Act.put, List.getElem_toArray, List.getElem_cons_zero, List.getElem_cons_succ, List.setIfInBounds_toArray, List.set_cons_zero, List.set_cons_succ]
          refine wpAnyG_all (rs := [6]) (by kernel_rfl) (by simp) ?_
          intro i hi
          simp only [List.mem_cons, List.not_mem_nil, or_false] at hi
          subst hi
          refine wpOp_now rfl rfl ?_
          go_simp
          have hbase : W.heap.size ≤ X3.heap.size := T0.size
          have rB := rowB0 X3 W.heap.size F hbase (by omega)
          have hbk := (Below.refl X3.heap.size X3).alloc (Nat.le_refl _) (.cells (madeCells #[.int .u8 0] F) 5)
          replace T0 := T0.alloc T0.size (.cells (madeCells #[.int .u8 0] F) 5)
          replace rD := own_below rD hbk
          replace bk := Blk.below' bk hbk
          replace rP := own_below rP hbk
          obtain ⟨X4, hX4⟩ : ∃ Z, X3.alloc (.cells (madeCells #[.int .u8 0] F) 5) = Z := ⟨_, rfl⟩
          obtain ⟨gB, hgB⟩ : ∃ g, X3.heap.size = g := ⟨_, rfl⟩
          rw [hX4] at T0 rD bk rP rB ⊢
          rw [hgB] at rB ⊢
          clear hX4 hbk
          clear hgB
          clear hbase
          refine ⟨fun _ => T0, ?_⟩
          try simp only [Act.put, List.getElem_toArray, List.getElem_cons_zero, List.getElem_cons_succ, List.setIfInBounds_toArray, List.set_cons_zero, List.set_cons_succ]
          refine wpAnyG_take [7, 9] (i := 7) (v := (.agg #[.slice (some ⟨gP, 0, none⟩) (F + 1) (F + 1), .slice (some ⟨gD, 0, none⟩) F F, .slice (some ⟨gB, 0, none⟩) F F])) rfl (by kernel_rfl) (by kernel_rfl) (by kernel_rfl) (by kernel_rfl) (by kernel_rfl) (by kernel_rfl) (by kernel_rfl) (by kernel_rfl) (fun _ _ _ h => h) (Or.inl ⟨by rfl, ?hy⟩) T0 ?_
          case hy =>
            intro X hX
            go_simp
          try simp only [Act.put, List.getElem_toArray, List.getElem_cons_zero, List.getElem_cons_succ, List.setIfInBounds_toArray, List.set_cons_zero, List.set_cons_succ]
          refine wpAnyG_all (rs := [9]) (by kernel_rfl) (by simp) ?_
          intro i hi
          simp only [List.mem_cons, List.not_mem_nil, or_false] at hi
          subst hi
          refine wpOp_now rfl rfl ?_
          have k0 : X4.cell? ⟨b6, 0, none⟩ = some (.slice none 0 0) := bk.cell 0
          have k1 : X4.cell? ⟨b6, 1, none⟩ = some (.slice none 0 0) := bk.cell 1
          have k2 : X4.cell? ⟨b6, 2, none⟩ = some (.slice none 0 0) := bk.cell 2
          have f0 := bk.frozen 0
          have f1 := bk.frozen 1
          have f2 := bk.frozen 2
          have HF := Lib.hid (say_cut hb6 bk rP rD rB T0)
          clear bk rP rD rB
          go_simp
          refine ⟨fun _ => HF.out.2.2.2.2, ?_⟩
          refine wpAnyG_done (by kernel_rfl) ?_ _
          refine NoPanic.normal ?_
          exact ⟨rfl, (gP, gD, gB, b6), by kernel_rfl, HF.out, hb6⟩
        · skip
          refine wpOp_now rfl rfl ?_
          go_simp
          have hbase : W.heap.size ≤ X2.heap.size := T0.size
          have rB := rowB0 X2 W.heap.size F hbase (by omega)
          have hbk := (Below.refl X2.heap.size X2).alloc (Nat.le_refl _) (.cells (madeCells #[.int .u8 0] F) 5)
          replace T0 := T0.alloc T0.size (.cells (madeCells #[.int .u8 0] F) 5)
          replace rD := own_below rD hbk
          replace bk := Blk.below' bk hbk
          obtain ⟨X3, hX3⟩ : ∃ Z, X2.alloc (.cells (madeCells #[.int .u8 0] F) 5) = Z := ⟨_, rfl⟩
          obtain ⟨gB, hgB⟩ : ∃ g, X2.heap.size = g := ⟨_, rfl⟩
          rw [hX3] at T0 rD bk rB ⊢
          rw [hgB] at rB ⊢
          clear hX3 hbk
          clear hgB
          clear hbase
          refine ⟨fun _ => T0, ?_⟩
          try simp only [Act.put, List.getElem_toArray, List.getElem_cons_zero, List.getElem_cons_succ, List.setIfInBounds_toArray, List.set_cons_zero, List.set_cons_succ]
          refine wpAnyG_all (rs := [2]) (by kernel_rfl) (by simp) ?_
          intro i hi
          simp only [List.mem_cons, List.not_mem_nil, or_false] at hi
          subst hi
          refine wpOp_now rfl rfl ?_
          go_simp
          have hbase : W.heap.size ≤ X3.heap.size := T0.size
          have rP := rowP0 X3 W.heap.size F hbase (by omega)
          have hbk := (Below.refl X3.heap.size X3).alloc (Nat.le_refl _) (.cells (madeCells #[.string .empty] (F + 1)) 9)
          replace T0 := T0.alloc T0.size (.cells (madeCells #[.string .empty] (F + 1)) 9)
          replace rD := own_below rD hbk
          replace bk := Blk.below' bk hbk
          replace rB := own_below rB hbk
          obtain ⟨X4, hX4⟩ : ∃ Z, X3.alloc (.cells (madeCells #[.string .empty] (F + 1)) 9) = Z := ⟨_, rfl⟩
          obtain ⟨gP, hgP⟩ : ∃ g, X3.heap.size = g := ⟨_, rfl⟩
          rw [hX4] at T0 rD bk rB rP ⊢
          rw [hgP] at rP ⊢
          clear hX4 hbk
          clear hgP
          clear hbase
          refine ⟨fun _ => T0, ?_⟩
          try simp only [Act.put, List.getElem_toArray, List.getElem_cons_zero, List.getElem_cons_succ, List.setIfInBounds_toArray, List.set_cons_zero, List.set_cons_succ]
          refine wpAnyG_take [7, 9] (i := 7) (v := (.agg #[.slice (some ⟨gP, 0, none⟩) (F + 1) (F + 1), .slice (some ⟨gD, 0, none⟩) F F, .slice (some ⟨gB, 0, none⟩) F F])) rfl (by kernel_rfl) (by kernel_rfl) (by kernel_rfl) (by kernel_rfl) (by kernel_rfl) (by kernel_rfl) (by kernel_rfl) (by kernel_rfl) (fun _ _ _ h => h) (Or.inl ⟨by rfl, ?hy⟩) T0 ?_
          case hy =>
            intro X hX
            go_simp
          try simp only [Act.put, List.getElem_toArray, List.getElem_cons_zero, List.getElem_cons_succ, List.setIfInBounds_toArray, List.set_cons_zero, List.set_cons_succ]
          refine wpAnyG_all (rs := [9]) (by kernel_rfl) (by simp) ?_
          intro i hi
          simp only [List.mem_cons, List.not_mem_nil, or_false] at hi
          subst hi
          refine wpOp_now rfl rfl ?_
          have k0 : X4.cell? ⟨b6, 0, none⟩ = some (.slice none 0 0) := bk.cell 0
          have k1 : X4.cell? ⟨b6, 1, none⟩ = some (.slice none 0 0) := bk.cell 1
          have k2 : X4.cell? ⟨b6, 2, none⟩ = some (.slice none 0 0) := bk.cell 2
          have f0 := bk.frozen 0
          have f1 := bk.frozen 1
          have f2 := bk.frozen 2
          have HF := Lib.hid (say_cut hb6 bk rP rD rB T0)
          clear bk rP rD rB
          go_simp
          refine ⟨fun _ => HF.out.2.2.2.2, ?_⟩
          refine wpAnyG_done (by kernel_rfl) ?_ _
          refine NoPanic.normal ?_
          exact ⟨rfl, (gP, gD, gB, b6), by kernel_rfl, HF.out, hb6⟩
    · skip
      refine wpOp_now rfl rfl ?_
      go_simp
      have hbase : W.heap.size ≤ X0.heap.size := T0.size
      have rB := rowB0 X0 W.heap.size F hbase (by omega)
      have hbk := (Below.refl X0.heap.size X0).alloc (Nat.le_refl _) (.cells (madeCells #[.int .u8 0] F) 5)
      replace T0 := T0.alloc T0.size (.cells (madeCells #[.int .u8 0] F) 5)
      obtain ⟨X1, hX1⟩ : ∃ Z, X0.alloc (.cells (madeCells #[.int .u8 0] F) 5) = Z := ⟨_, rfl⟩
      obtain ⟨gB, hgB⟩ : ∃ g, X0.heap.size = g := ⟨_, rfl⟩
      rw [hX1] at T0 rB ⊢
      rw [hgB] at rB ⊢
      clear hX1 hbk
      clear hgB
      clear hbase
      refine ⟨fun _ => T0, ?_⟩
      try simp only [Act.put, List.getElem_toArray, List.getElem_cons_zero, List.getElem_cons_succ, List.setIfInBounds_toArray, List.set_cons_zero, List.set_cons_succ]
      refine wpAnyG_all (rs := [2, 4, 8]) (by kernel_rfl) (by simp) ?_
      intro i hi
      simp only [List.mem_cons, List.not_mem_nil, or_false] at hi
      rcases hi with rfl | rfl | rfl
      · skip
        refine wpOp_now rfl rfl ?_
        go_simp
        have hbase : W.heap.size ≤ X1.heap.size := T0.size
        have rP := rowP0 X1 W.heap.size F hbase (by omega)
        have hbk := (Below.refl X1.heap.size X1).alloc (Nat.le_refl _) (.cells (madeCells #[.string .empty] (F + 1)) 9)
        replace T0 := T0.alloc T0.size (.cells (madeCells #[.string .empty] (F + 1)) 9)
        replace rB := own_below rB hbk
        obtain ⟨X2, hX2⟩ : ∃ Z, X1.alloc (.cells (madeCells #[.string .empty] (F + 1)) 9) = Z := ⟨_, rfl⟩
        obtain ⟨gP, hgP⟩ : ∃ g, X1.heap.size = g := ⟨_, rfl⟩
        rw [hX2] at T0 rB rP ⊢
        rw [hgP] at rP ⊢
        clear hX2 hbk
        clear hgP
        clear hbase
        refine ⟨fun _ => T0, ?_⟩
        try simp only [Act.put, List.getElem_toArray, List.getElem_cons_zero, List.getElem_cons_succ, List.setIfInBounds_toArray, List.set_cons_zero, List.set_cons_succ]
        refine wpAnyG_all (rs := [4, 8]) (by kernel_rfl) (by simp) ?_
        intro i hi
        simp only [List.mem_cons, List.not_mem_nil, or_false] at hi
        rcases hi with rfl | rfl
        · skip
          refine wpOp_now rfl rfl ?_
          go_simp
          have hbase : W.heap.size ≤ X2.heap.size := T0.size
          have rD := rowD0 X2 W.heap.size F hbase (by omega)
          have hbk := (Below.refl X2.heap.size X2).alloc (Nat.le_refl _) (.cells (madeCells #[.bool false] F) 4)
          replace T0 := T0.alloc T0.size (.cells (madeCells #[.bool false] F) 4)
          replace rB := own_below rB hbk
          replace rP := own_below rP hbk
          obtain ⟨X3, hX3⟩ : ∃ Z, X2.alloc (.cells (madeCells #[.bool false] F) 4) = Z := ⟨_, rfl⟩
          obtain ⟨gD, hgD⟩ : ∃ g, X2.heap.size = g := ⟨_, rfl⟩
          rw [hX3] at T0 rB rP rD ⊢
          rw [hgD] at rD ⊢
          clear hX3 hbk
          clear hgD
          clear hbase
          refine ⟨fun _ => T0, ?_⟩
          try simp only [Act.put, List.getElem_toArray, List.getElem_cons_zero, List.getElem_cons_succ, List.setIfInBounds_toArray, List.set_cons_zero, List.set_cons_succ]
          refine wpAnyG_take [7, 9] (i := 7) (v := (.agg #[.slice (some ⟨gP, 0, none⟩) (F + 1) (F + 1), .slice (some ⟨gD, 0, none⟩) F F, .slice (some ⟨gB, 0, none⟩) F F])) rfl (by kernel_rfl) (by kernel_rfl) (by kernel_rfl) (by kernel_rfl) (by kernel_rfl) (by kernel_rfl) (by kernel_rfl) (by kernel_rfl) (fun _ _ _ h => h) (Or.inl ⟨by rfl, ?hy⟩) T0 ?_
          case hy =>
            intro X hX
            go_simp
          try simp only [Act.put, List.getElem_toArray, List.getElem_cons_zero, List.getElem_cons_succ, List.setIfInBounds_toArray, List.set_cons_zero, List.set_cons_succ]
          refine wpAnyG_all (rs := [8]) (by kernel_rfl) (by simp) ?_
          intro i hi
          simp only [List.mem_cons, List.not_mem_nil, or_false] at hi
          subst hi
          refine wpOp_now rfl rfl ?_
          go_simp
          have hbase : W.heap.size ≤ X3.heap.size := T0.size
          have bk := Blk.new X3 #[.slice none 0 0, .slice none 0 0, .slice none 0 0] 43
          have hbk := (Below.refl X3.heap.size X3).alloc (Nat.le_refl _) (.cells #[.slice none 0 0, .slice none 0 0, .slice none 0 0] 43)
          replace T0 := T0.alloc T0.size (.cells #[.slice none 0 0, .slice none 0 0, .slice none 0 0] 43)
          replace rB := own_below rB hbk
          replace rP := own_below rP hbk
          replace rD := own_below rD hbk
          obtain ⟨X4, hX4⟩ : ∃ Z, X3.alloc (.cells #[.slice none 0 0, .slice none 0 0, .slice none 0 0] 43) = Z := ⟨_, rfl⟩
          obtain ⟨b6, hb6⟩ : ∃ g, X3.heap.size = g := ⟨_, rfl⟩
          rw [hX4] at T0 rB rP rD bk ⊢
          rw [hb6] at bk ⊢
          clear hX4 hbk
          have hb6 : W.heap.size ≤ b6 := hb6 ▸ hbase
          refine ⟨fun _ => T0, ?_⟩
          try simp only [Act.put, List.getElem_toArray, List.getElem_cons_zero, List.getElem_cons_succ, List.setIfInBounds_toArray, List.set_cons_zero, List.set_cons_succ]
          refine wpAnyG_all (rs := [9]) (by kernel_rfl) (by simp) ?_
          intro i hi
          simp only [List.mem_cons, List.not_mem_nil, or_false] at hi
          subst hi
          refine wpOp_now rfl rfl ?_
          have k0 : X4.cell? ⟨b6, 0, none⟩ = some (.slice none 0 0) := bk.cell 0
          have k1 : X4.cell? ⟨b6, 1, none⟩ = some (.slice none 0 0) := bk.cell 1
          have k2 : X4.cell? ⟨b6, 2, none⟩ = some (.slice none 0 0) := bk.cell 2
          have f0 := bk.frozen 0
          have f1 := bk.frozen 1
          have f2 := bk.frozen 2
          have HF := Lib.hid (say_cut hb6 bk rP rD rB T0)
          clear bk rP rD rB
          go_simp
          refine ⟨fun _ => HF.out.2.2.2.2, ?_⟩
          refine wpAnyG_done (by kernel_rfl) ?_ _
          refine NoPanic.normal ?_
          exact ⟨rfl, (gP, gD, gB, b6), by kernel_rfl, HF.out, hb6⟩
        · skip
          refine wpOp_now rfl rfl ?_
          go_simp
          have hbase : W.heap.size ≤ X2.heap.size := T0.size
          have bk := Blk.new X2 #[.slice none 0 0, .slice none 0 0, .slice none 0 0] 43
          have hbk := (Below.refl X2.heap.size X2).alloc (Nat.le_refl _) (.cells #[.slice none 0 0, .slice none 0 0, .slice none 0 0] 43)
          replace T0 := T0.alloc T0.size (.cells #[.slice none 0 0, .slice none 0 0, .slice none 0 0] 43)
          replace rB := own_below rB hbk
          replace rP := own_below rP hbk
          obtain ⟨X3, hX3⟩ : ∃ Z, X2.alloc (.cells #[.slice none 0 0, .slice none 0 0, .slice none 0 0] 43) = Z := ⟨_, rfl⟩
          obtain ⟨b6, hb6⟩ : ∃ g, X2.heap.size = g := ⟨_, rfl⟩
          rw [hX3] at T0 rB rP bk ⊢
          rw [hb6] at bk ⊢
          clear hX3 hbk
          have hb6 : W.heap.size ≤ b6 := hb6 ▸ hbase
          refine ⟨fun _ => T0, ?_⟩
          try simp only [Act.put, List.getElem_toArray, List.getElem_cons_zero, List.getElem_cons_succ, List.setIfInBounds_toArray, List.set_cons_zero, List.set_cons_succ]
          refine wpAnyG_all (rs := [4]) (by kernel_rfl) (by simp) ?_
          intro i hi
          simp only [List.mem_cons, List.not_mem_nil, or_false] at hi
          subst hi
          refine wpOp_now rfl rfl ?_
          go_simp
          have hbase : W.heap.size ≤ X3.heap.size := T0.size
          have rD := rowD0 X3 W.heap.size F hbase (by omega)
          have hbk := (Below.refl X3.heap.size X3).alloc (Nat.le_refl _) (.cells (madeCells #[.bool false] F) 4)
          replace T0 := T0.alloc T0.size (.cells (madeCells #[.bool false] F) 4)
          replace rB := own_below rB hbk
          replace rP := own_below rP hbk
          replace bk := Blk.below' bk hbk
          obtain ⟨X4, hX4⟩ : ∃ Z, X3.alloc (.cells (madeCells #[.bool false] F) 4) = Z := ⟨_, rfl⟩
          obtain ⟨gD, hgD⟩ : ∃ g, X3.heap.size = g := ⟨_, rfl⟩
          rw [hX4] at T0 rB rP bk rD ⊢
          rw [hgD] at rD ⊢
          clear hX4 hbk
          clear hgD
          clear hbase
          refine ⟨fun _ => T0, ?_⟩
          try simp only [Act.put, List.getElem_toArray, List.getElem_cons_zero, List.getElem_cons_succ, List.setIfInBounds_toArray, List.set_cons_zero, List.set_cons_succ]
          refine wpAnyG_take [7, 9] (i := 7) (v := (.agg #[.slice (some ⟨gP, 0, none⟩) (F + 1) (F + 1), .slice (some ⟨gD, 0, none⟩) F F, .slice (some ⟨gB, 0, none⟩) F F])) rfl (by kernel_rfl) (by kernel_rfl) (by kernel_rfl) (by kernel_rfl) (by kernel_rfl) (by kernel_rfl) (by kernel_rfl) (by kernel_rfl) (fun _ _ _ h => h) (Or.inl ⟨by rfl, ?hy⟩) T0 ?_
          case hy =>
            intro X hX
            go_simp
          try simp only [Act.put, List.getElem_toArray, List.getElem_cons_zero, List.getElem_cons_succ, List.setIfInBounds_toArray, List.set_cons_zero, List.set_cons_succ]
          refine wpAnyG_all (rs := [9]) (by kernel_rfl) (by simp) ?_
          intro i hi
          simp only [List.mem_cons, List.not_mem_nil, or_false] at hi
          subst hi
          refine wpOp_now rfl rfl ?_
          have k0 : X4.cell? ⟨b6, 0, none⟩ = some (.slice none 0 0) := bk.cell 0
          have k1 : X4.cell? ⟨b6, 1, none⟩ = some (.slice none 0 0) := bk.cell 1
          have k2 : X4.cell? ⟨b6, 2, none⟩ = some (.slice none 0 0) := bk.cell 2
          have f0 := bk.frozen 0
          have f1 := bk.frozen 1
          have f2 := bk.frozen 2
          have HF := Lib.hid (say_cut hb6 bk rP rD rB T0)
          clear bk rP rD rB
          go_simp
          refine ⟨fun _ => HF.out.2.2.2.2, ?_⟩
          refine wpAnyG_done (by kernel_rfl) ?_ _
          refine NoPanic.normal ?_
          exact ⟨rfl, (gP, gD, gB, b6), by kernel_rfl, HF.out, hb6⟩
      · skip
        refine wpOp_now rfl rfl ?_
        go_simp
        have hbase : W.heap.size ≤ X1.heap.size := T0.size
        have rD := rowD0 X1 W.heap.size F hbase (by omega)
        have hbk := (Below.refl X1.heap.size X1).alloc (Nat.le_refl _) (.cells (madeCells #[.bool false] F) 4)
        replace T0 := T0.alloc T0.size (.cells (madeCells #[.bool false] F) 4)
        replace rB := own_below rB hbk
        obtain ⟨X2, hX2⟩ : ∃ Z, X1.alloc (.cells (madeCells #[.bool false] F) 4) = Z := ⟨_, rfl⟩
        obtain ⟨gD, hgD⟩ : ∃ g, X1.heap.size = g := ⟨_, rfl⟩
        rw [hX2] at T0 rB rD ⊢
        rw [hgD] at rD ⊢
        clear hX2 hbk
        clear hgD
        clear hbase
        refine ⟨fun _ => T0, ?_⟩
        try simp only [Act.put, List.getElem_toArray, List.getElem_cons_zero, List.getElem_cons_succ, List.setIfInBounds_toArray, List.set_cons_zero, List.set_cons_succ]
        refine wpAnyG_all (rs := [2, 8]) (by kernel_rfl) (by simp) ?_
        intro i hi
        simp only [List.mem_cons, List.not_mem_nil, or_false] at hi
        rcases hi with rfl | rfl
        · skip
          refine wpOp_now rfl rfl ?_
          go_simp
          have hbase : W.heap.size ≤ X2.heap.size := T0.size
          have rP := rowP0 X2 W.heap.size F hbase (by omega)
          have hbk := (Below.refl X2.heap.size X2).alloc (Nat.le_refl _) (.cells (madeCells #[.string .empty] (F + 1)) 9)
          replace T0 := T0.alloc T0.size (.cells (madeCells #[.string .empty] (F + 1)) 9)
          replace rB := own_below rB hbk
          replace rD := own_below rD hbk
          obtain ⟨X3, hX3⟩ : ∃ Z, X2.alloc (.cells (madeCells #[.string .empty] (F + 1)) 9) = Z := ⟨_, rfl⟩
          obtain ⟨gP, hgP⟩ : ∃ g, X2.heap.size = g := ⟨_, rfl⟩
          rw [hX3] at T0 rB rD rP ⊢
          rw [hgP] at rP ⊢
          clear hX3 hbk
          clear hgP
          clear hbase
          refine ⟨fun _ => T0, ?_⟩
          try simp only [Act.put, List.getElem_toArray, List.getElem_cons_zero, List.getElem_cons_succ, List.setIfInBounds_toArray, List.set_cons_zero, List.set_cons_succ]
          refine wpAnyG_take [7, 9] (i := 7) (v := (.agg #[.slice (some ⟨gP, 0, none⟩) (F + 1) (F + 1), .slice (some ⟨gD, 0, none⟩) F F, .slice (some ⟨gB, 0, none⟩) F F])) rfl (by kernel_rfl) (by kernel_rfl) (by kernel_rfl) (by kernel_rfl) (by kernel_rfl) (by kernel_rfl) (by kernel_rfl) (by kernel_rfl) (fun _ _ _ h => h) (Or.inl ⟨by rfl, ?hy⟩) T0 ?_
          case hy =>
            intro X hX
            go_simp
          try simp only [Act.put, List.getElem_toArray, List.getElem_cons_zero, List.getElem_cons_succ, List.setIfInBounds_toArray, List.set_cons_zero, List.set_cons_succ]
          refine wpAnyG_all (rs := [8]) (by kernel_rfl) (by simp) ?_
          intro i hi
          simp only [List.mem_cons, List.not_mem_nil, or_false] at hi
          subst hi
          refine wpOp_now rfl rfl ?_
          go_simp
          have hbase : W.heap.size ≤ X3.heap.size := T0.size
          have bk := Blk.new X3 #[.slice none 0 0, .slice none 0 0, .slice none 0 0] 43
          have hbk := (Below.refl X3.heap.size X3).alloc (Nat.le_refl _) (.cells #[.slice none 0 0, .slice none 0 0, .slice none 0 0] 43)
          replace T0 := T0.alloc T0.size (.cells #[.slice none 0 0, .slice none 0 0, .slice none 0 0] 43)
          replace rB := own_below rB hbk
          replace rD := own_below rD hbk
          replace rP := own_below rP hbk
          obtain ⟨X4, hX4⟩ : ∃ Z, X3.alloc (.cells #[.slice none 0 0, .slice none 0 0, .slice none 0 0] 43) = Z := ⟨_, rfl⟩
          obtain ⟨b6, hb6⟩ : ∃ g, X3.heap.size = g := ⟨_, rfl⟩
          rw [hX4] at T0 rB rD rP bk ⊢
          rw [hb6] at bk ⊢
          clear hX4 hbk
          have hb6 : W.heap.size ≤ b6 := hb6 ▸ hbase
          refine ⟨fun _ => T0, ?_⟩
          try simp only [Act.put, List.getElem_toArray, List.getElem_cons_zero, List.getElem_cons_succ, List.setIfInBounds_toArray, List.set_cons_zero, List.set_cons_succ]
          refine wpAnyG_all (rs := [9]) (by kernel_rfl) (by simp) ?_
          intro i hi
          simp only [List.mem_cons, List.not_mem_nil, or_false] at hi
          subst hi
          refine wpOp_now rfl rfl ?_
          have k0 : X4.cell? ⟨b6, 0, none⟩ = some (.slice none 0 0) := bk.cell 0
          have k1 : X4.cell? ⟨b6, 1, none⟩ = some (.slice none 0 0) := bk.cell 1
          have k2 : X4.cell? ⟨b6, 2, none⟩ = some (.slice none 0 0) := bk.cell 2
          have f0 := bk.frozen 0
          have f1 := bk.frozen 1
          have f2 := bk.frozen 2
          have HF := Lib.hid (say_cut hb6 bk rP rD rB T0)
          clear bk rP rD rB
          go_simp
          refine ⟨fun _ => HF.out.2.2.2.2, ?_⟩
          refine wpAnyG_done (by kernel_rfl) ?_ _
          refine NoPanic.normal ?_
          exact ⟨rfl, (gP, gD, gB, b6), by kernel_rfl, HF.out, hb6⟩
        · skip
          refine wpOp_now rfl rfl ?_
          go_simp
          have hbase : W.heap.size ≤ X2.heap.size := T0.size
          have bk := Blk.new X2 #[.slice none 0 0, .slice none 0 0, .slice none 0 0] 43
          have hbk := (Below.refl X2.heap.size X2).alloc (Nat.le_refl _) (.cells #[.slice none 0 0, .slice none 0 0, .slice none 0 0] 43)
          replace T0 := T0.alloc T0.size (.cells #[.slice none 0 0, .slice none 0 0, .slice none 0 0] 43)
          replace rB := own_below rB hbk
          replace rD := own_below rD hbk
          obtain ⟨X3, hX3⟩ : ∃ Z, X2.alloc (.cells #[.slice none 0 0, .slice none 0 0, .slice none 0 0] 43) = Z := ⟨_, rfl⟩
          obtain ⟨b6, hb6⟩ : ∃ g, X2.heap.size = g := ⟨_, rfl⟩
          rw [hX3] at T0 rB rD bk ⊢
          rw [hb6] at bk ⊢
          clear hX3 hbk
          have hb6 : W.heap.size ≤ b6 := hb6 ▸ hbase
          refine ⟨fun _ => T0, ?_⟩
          try simp only [Act.put, List.getElem_toArray, List.getElem_cons_zero, List.getElem_cons_succ, List.setIfInBounds_toArray, List.set_cons_zero, List.set_cons_succ]
          refine wpAnyG_all (rs := [2]) (by kernel_rfl) (by simp) ?_
          intro i hi
          simp only [List.mem_cons, List.not_mem_nil, or_false] at hi
          subst hi
          refine wpOp_now rfl rfl ?_
          go_simp
          have hbase : W.heap.size ≤ X3.heap.size := T0.size
          have rP := rowP0 X3 W.heap.size F hbase (by omega)
          have hbk := (Below.refl X3.heap.size X3).alloc (Nat.le_refl _) (.cells (madeCells #[.string .empty] (F + 1)) 9)
          replace T0 := T0.alloc T0.size (.cells (madeCells #[.string .empty] (F + 1)) 9)
          replace rB := own_below rB hbk
          replace rD := own_below rD hbk
          replace bk := Blk.below' bk hbk
          obtain ⟨X4, hX4⟩ : ∃ Z, X3.alloc (.cells (madeCells #[.string .empty] (F + 1)) 9) = Z := ⟨_, rfl⟩
          obtain ⟨gP, hgP⟩ : ∃ g, X3.heap.size = g := ⟨_, rfl⟩
          rw [hX4] at T0 rB rD bk rP ⊢
          rw [hgP] at rP ⊢
          clear hX4 hbk
          clear hgP
          clear hbase
          refine ⟨fun _ => T0, ?_⟩
          try simp only [Act.put, List.getElem_toArray, List.getElem_cons_zero, List.getElem_cons_succ, List.setIfInBounds_toArray, List.set_cons_zero, List.set_cons_succ]
          refine wpAnyG_take [7, 9] (i := 7) (v := (.agg #[.slice (some ⟨gP, 0, none⟩) (F + 1) (F + 1), .slice (some ⟨gD, 0, none⟩) F F, .slice (some ⟨gB, 0, none⟩) F F])) rfl (by kernel_rfl) (by kernel_rfl) (by kernel_rfl) (by kernel_rfl) (by kernel_rfl) (by kernel_rfl) (by kernel_rfl) (by kernel_rfl) (fun _ _ _ h => h) (Or.inl ⟨by rfl, ?hy⟩) T0 ?_
          case hy =>
            intro X hX
            go_simp
          try simp only [Act.put, List.getElem_toArray, List.getElem_cons_zero, List.getElem_cons_succ, List.setIfInBounds_toArray, List.set_cons_zero, List.set_cons_succ]
          refine wpAnyG_all (rs := [9]) (by kernel_rfl) (by simp) ?_
          intro i hi
          simp only [List.mem_cons, List.not_mem_nil, or_false] at hi
          subst hi
          refine wpOp_now rfl rfl ?_
          have k0 : X4.cell? ⟨b6, 0, none⟩ = some (.slice none 0 0) := bk.cell 0
          have k1 : X4.cell? ⟨b6, 1, none⟩ = some (.slice none 0 0) := bk.cell 1
          have k2 : X4.cell? ⟨b6, 2, none⟩ = some (.slice none 0 0) := bk.cell 2
          have f0 := bk.frozen 0
          have f1 := bk.frozen 1
          have f2 := bk.frozen 2
          have HF := Lib.hid (say_cut hb6 bk rP rD rB T0)
          clear bk rP rD rB
          go_simp
          refine ⟨fun _ => HF.out.2.2.2.2, ?_⟩
          refine wpAnyG_done (by kernel_rfl) ?_ _
          refine NoPanic.normal ?_
          exact ⟨rfl, (gP, gD, gB, b6), by kernel_rfl, HF.out, hb6⟩
      · skip
        refine wpOp_now rfl rfl ?_
        go_simp
        have hbase : W.heap.size ≤ X1.heap.size := T0.size
        have bk := Blk.new X1 #[.slice none 0 0, .slice none 0 0, .slice none 0 0] 43
        have hbk := (Below.refl X1.heap.size X1).alloc (Nat.le_refl _) (.cells #[.slice none 0 0, .slice none 0 0, .slice none 0 0] 43)
        replace T0 := T0.alloc T0.size (.cells #[.slice none 0 0, .slice none 0 0, .slice none 0 0] 43)
        replace rB := own_below rB hbk
        obtain ⟨X2, hX2⟩ : ∃ Z, X1.alloc (.cells #[.slice none 0 0, .slice none 0 0, .slice none 0 0] 43) = Z := ⟨_, rfl⟩
        obtain ⟨b6, hb6⟩ : ∃ g, X1.heap.size = g := ⟨_, rfl⟩
        rw [hX2] at T0 rB bk ⊢
        rw [hb6] at bk ⊢
        clear hX2 hbk
        have hb6 : W.heap.size ≤ b6 := hb6 ▸ hbase
        refine ⟨fun _ => T0, ?_⟩
        try simp only [Act.put, List.getElem_toArray, List.getElem_cons_zero, List.getElem_cons_succ, List.setIfInBounds_toArray, List.set_cons_zero, List.set_cons_succ]
        refine wpAnyG_all (rs := [2, 4]) (by kernel_rfl) (by simp) ?_
        intro i hi
        simp only [List.mem_cons, List.not_mem_nil, or_false] at hi
        rcases hi with rfl | rfl
        · skip
          refine wpOp_now rfl rfl ?_
          go_simp
          have hbase : W.heap.size ≤ X2.heap.size := T0.size
          have rP := rowP0 X2 W.heap.size F hbase (by omega)
          have hbk := (Below.refl X2.heap.size X2).alloc (Nat.le_refl _) (.cells (madeCells #[.string .empty] (F + 1)) 9)
          replace T0 := T0.alloc T0.size (.cells (madeCells #[.string .empty] (F + 1)) 9)
          replace rB := own_below rB hbk
          replace bk := Blk.below' bk hbk
          obtain ⟨X3, hX3⟩ : ∃ Z, X2.alloc (.cells (madeCells #[.string .empty] (F + 1)) 9) = Z := ⟨_, rfl⟩
          obtain ⟨gP, hgP⟩ : ∃ g, X2.heap.size = g := ⟨_, rfl⟩
          rw [hX3] at T0 rB bk rP ⊢
          rw [hgP] at rP ⊢
          clear hX3 hbk
          clear hgP
          clear hbase
          refine ⟨fun _ => T0, ?_⟩
          try simp only [Act.put, List.getElem_toArray, List.getElem_cons_zero, List.getElem_cons_succ, List.setIfInBounds_toArray, List.set_cons_zero, List.set_cons_succ]
          refine wpAnyG_all (rs := [4]) (by kernel_rfl) (by simp) ?_
          intro i hi
          simp only [List.mem_cons, List.not_mem_nil, or_false] at hi
          subst hi
          refine wpOp_now rfl rfl ?_
          go_simp
          have hbase : W.heap.size ≤ X3.heap.size := T0.size
          have rD := rowD0 X3 W.heap.size F hbase (by omega)
          have hbk := (Below.refl X3.heap.size X3).alloc (Nat.le_refl _) (.cells (madeCells #[.bool false] F) 4)
          replace T0 := T0.alloc T0.size (.cells (madeCells #[.bool false] F) 4)
          replace rB := own_below rB hbk
          replace bk := Blk.below' bk hbk
          replace rP := own_below rP hbk
          obtain ⟨X4, hX4⟩ : ∃ Z, X3.alloc (.cells (madeCells #[.bool false] F) 4) = Z := ⟨_, rfl⟩
          obtain ⟨gD, hgD⟩ : ∃ g, X3.heap.size = g := ⟨_, rfl⟩
          rw [hX4] at T0 rB bk rP rD ⊢
          rw [hgD] at rD ⊢
          clear hX4 hbk
          clear hgD
          clear hbase
          refine ⟨fun _ => T0, ?_⟩
          try simp only [Act.put, List.getElem_toArray, List.getElem_cons_zero, List.getElem_cons_succ, List.setIfInBounds_toArray, List.set_cons_zero, List.set_cons_succ]
          refine wpAnyG_take [7, 9] (i := 7) (v := (.agg #[.slice (some ⟨gP, 0, none⟩) (F + 1) (F + 1), .slice (some ⟨gD, 0, none⟩) F F, .slice (some ⟨gB, 0, none⟩) F F])) rfl (by kernel_rfl) (by kernel_rfl) (by kernel_rfl) (by kernel_rfl) (by kernel_rfl) (by kernel_rfl) (by kernel_rfl) (by kernel_rfl) (fun _ _ _ h => h) (Or.inl ⟨by rfl, ?hy⟩) T0 ?_
          case hy =>
            intro X hX
            go_simp
          try simp only [Act.put, List.getElem_toArray, List.getElem_cons_zero, List.getElem_cons_succ, List.setIfInBounds_toArray, List.set_cons_zero, List.set_cons_succ]
          refine wpAnyG_all (rs := [9]) (by kernel_rfl) (by simp) ?_
          intro i hi
          simp only [List.mem_cons, List.not_mem_nil, or_false] at hi
          subst hi
          refine wpOp_now rfl rfl ?_
          have k0 : X4.cell? ⟨b6, 0, none⟩ = some (.slice none 0 0) := bk.cell 0
          have k1 : X4.cell? ⟨b6, 1, none⟩ = some (.slice none 0 0) := bk.cell 1
          have k2 : X4.cell? ⟨b6, 2, none⟩ = some (.slice none 0 0) := bk.cell 2
          have f0 := bk.frozen 0
          have f1 := bk.frozen 1
          have f2 := bk.frozen 2
          have HF := Lib.hid (say_cut hb6 bk rP rD rB T0)
          clear bk rP rD rB
          go_simp
          refine ⟨fun _ => HF.out.2.2.2.2, ?_⟩
          refine wpAnyG_done (by kernel_rfl) ?_ _
          refine NoPanic.normal ?_
          exact ⟨rfl, (gP, gD, gB, b6), by kernel_rfl, HF.out, hb6⟩
        · skip
          refine wpOp_now rfl rfl ?_
          go_simp
          have hbase : W.heap.size ≤ X2.heap.size := T0.size
          have rD := rowD0 X2 W.heap.size F hbase (by omega)
          have hbk := (Below.refl X2.heap.size X2).alloc (Nat.le_refl _) (.cells (madeCells #[.bool false] F) 4)
          replace T0 := T0.alloc T0.size (.cells (madeCells #[.bool false] F) 4)
          replace rB := own_below rB hbk
          replace bk := Blk.below' bk hbk
          obtain ⟨X3, hX3⟩ : ∃ Z, X2.alloc (.cells (madeCells #[.bool false] F) 4) = Z := ⟨_, rfl⟩
          obtain ⟨gD, hgD⟩ : ∃ g, X2.heap.size = g := ⟨_, rfl⟩
          rw [hX3] at T0 rB bk rD ⊢
          rw [hgD] at rD ⊢
          clear hX3 hbk
          clear hgD
          clear hbase
          refine ⟨fun _ => T0, ?_⟩
          try simp only [Act.put, List.getElem_toArray, List.getElem_cons_zero, List.getElem_cons_succ, List.setIfInBounds_toArray, List.set_cons_zero, List.set_cons_succ]
          refine wpAnyG_all (rs := [2]) (by kernel_rfl) (by simp) ?_
          intro i hi
          simp only [List.mem_cons, List.not_mem_nil, or_false] at hi
          subst hi
          refine wpOp_now rfl rfl ?_
          go_simp
          have hbase : W.heap.size ≤ X3.heap.size := T0.size
          have rP := rowP0 X3 W.heap.size F hbase (by omega)
          have hbk := (Below.refl X3.heap.size X3).alloc (Nat.le_refl _) (.cells (madeCells #[.string .empty] (F + 1)) 9)
          replace T0 := T0.alloc T0.size (.cells (madeCells #[.string .empty] (F + 1)) 9)
          replace rB := own_below rB hbk
          replace bk := Blk.below' bk hbk
          replace rD := own_below rD hbk
          obtain ⟨X4, hX4⟩ : ∃ Z, X3.alloc (.cells (madeCells #[.string .empty] (F + 1)) 9) = Z := ⟨_, rfl⟩
          obtain ⟨gP, hgP⟩ : ∃ g, X3.heap.size = g := ⟨_, rfl⟩
          rw [hX4] at T0 rB bk rD rP ⊢
          rw [hgP] at rP ⊢
          clear hX4 hbk
          clear hgP
          clear hbase
          refine ⟨fun _ => T0, ?_⟩
          try simp only [Act.put, List.getElem_toArray, List.getElem_cons_zero, List.getElem_cons_succ, List.setIfInBounds_toArray, List.set_cons_zero, List.set_cons_succ]
          refine wpAnyG_take [7, 9] (i := 7) (v := (.agg #[.slice (some ⟨gP, 0, none⟩) (F + 1) (F + 1), .slice (some ⟨gD, 0, none⟩) F F, .slice (some ⟨gB, 0, none⟩) F F])) rfl (by kernel_rfl) (by kernel_rfl) (by kernel_rfl) (by kernel_rfl) (by kernel_rfl) (by kernel_rfl) (by kernel_rfl) (by kernel_rfl) (fun _ _ _ h => h) (Or.inl ⟨by rfl, ?hy⟩) T0 ?_
          case hy =>
            intro X hX
            go_simp
          try simp only [Act.put, List.getElem_toArray, List.getElem_cons_zero, List.getElem_cons_succ, List.setIfInBounds_toArray, List.set_cons_zero, List.set_cons_succ]
          refine wpAnyG_all (rs := [9]) (by kernel_rfl) (by simp) ?_
          intro i hi
          simp only [List.mem_cons, List.not_mem_nil, or_false] at hi
          subst hi
          refine wpOp_now rfl rfl ?_
          have k0 : X4.cell? ⟨b6, 0, none⟩ = some (.slice none 0 0) := bk.cell 0
          have k1 : X4.cell? ⟨b6, 1, none⟩ = some (.slice none 0 0) := bk.cell 1
          have k2 : X4.cell? ⟨b6, 2, none⟩ = some (.slice none 0 0) := bk.cell 2
          have f0 := bk.frozen 0
          have f1 := bk.frozen 1
          have f2 := bk.frozen 2
          have HF := Lib.hid (say_cut hb6 bk rP rD rB T0)
          clear bk rP rD rB
          go_simp
          refine ⟨fun _ => HF.out.2.2.2.2, ?_⟩
          refine wpAnyG_done (by kernel_rfl) ?_ _
          refine NoPanic.normal ?_
          exact ⟨rfl, (gP, gD, gB, b6), by kernel_rfl, HF.out, hb6⟩
    · skip
      refine wpOp_now rfl rfl ?_
      go_simp
      have hbase : W.heap.size ≤ X0.heap.size := T0.size
      have bk := Blk.new X0 #[.slice none 0 0, .slice none 0 0, .slice none 0 0] 43
      have hbk := (Below.refl X0.heap.size X0).alloc (Nat.le_refl _) (.cells #[.slice none 0 0, .slice none 0 0, .slice none 0 0] 43)
      replace T0 := T0.alloc T0.size (.cells #[.slice none 0 0, .slice none 0 0, .slice none 0 0] 43)
      obtain ⟨X1, hX1⟩ : ∃ Z, X0.alloc (.cells #[.slice none 0 0, .slice none 0 0, .slice none 0 0] 43) = Z := ⟨_, rfl⟩
      obtain ⟨b6, hb6⟩ : ∃ g, X0.heap.size = g := ⟨_, rfl⟩
      rw [hX1] at T0 bk ⊢
      rw [hb6] at bk ⊢
      clear hX1 hbk
      have hb6 : W.heap.size ≤ b6 := hb6 ▸ hbase
      refine ⟨fun _ => T0, ?_⟩
      try simp only [Act.put, List.getElem_toArray, List.getElem_cons_zero, List.getElem_cons_succ, List.setIfInBounds_toArray, List.set_cons_zero, List.set_cons_succ]
      refine wpAnyG_all (rs := [2, 4, 6]) (by kernel_rfl) (by simp) ?_
      intro i hi
      simp only [List.mem_cons, List.not_mem_nil, or_false] at hi
      rcases hi with rfl | rfl | rfl
      · skip
        refine wpOp_now rfl rfl ?_
        go_simp
        have hbase : W.heap.size ≤ X1.heap.size := T0.size
        have rP := rowP0 X1 W.heap.size F hbase (by omega)
        have hbk := (Below.refl X1.heap.size X1).alloc (Nat.le_refl _) (.cells (madeCells #[.string .empty] (F + 1)) 9)
        replace T0 := T0.alloc T0.size (.cells (madeCells #[.string .empty] (F + 1)) 9)
        replace bk := Blk.below' bk hbk
        obtain ⟨X2, hX2⟩ : ∃ Z, X1.alloc (.cells (madeCells #[.string .empty] (F + 1)) 9) = Z := ⟨_, rfl⟩
        obtain ⟨gP, hgP⟩ : ∃ g, X1.heap.size = g := ⟨_, rfl⟩
        rw [hX2] at T0 bk rP ⊢
        rw [hgP] at rP ⊢
        clear hX2 hbk
        clear hgP
        clear hbase
        refine ⟨fun _ => T0, ?_⟩
        try simp only [Act.put, List.getElem_toArray, List.getElem_cons_zero, List.getElem_cons_succ, List.setIfInBounds_toArray, List.set_cons_zero, List.set_cons_succ]
        refine wpAnyG_all (rs := [4, 6]) (by kernel_rfl) (by simp) ?_
        intro i hi
        simp only [List.mem_cons, List.not_mem_nil, or_false] at hi
        rcases hi with rfl | rfl
        · skip
          refine wpOp_now rfl rfl ?_
          go_simp
          have hbase : W.heap.size ≤ X2.heap.size := T0.size
          have rD := rowD0 X2 W.heap.size F hbase (by omega)
          have hbk := (Below.refl X2.heap.size X2).alloc (Nat.le_refl _) (.cells (madeCells #[.bool false] F) 4)
          replace T0 := T0.alloc T0.size (.cells (madeCells #[.bool false] F) 4)
          replace bk := Blk.below' bk hbk
          replace rP := own_below rP hbk
          obtain ⟨X3, hX3⟩ : ∃ Z, X2.alloc (.cells (madeCells #[.bool false] F) 4) = Z := ⟨_, rfl⟩
          obtain ⟨gD, hgD⟩ : ∃ g, X2.heap.size = g := ⟨_, rfl⟩
          rw [hX3] at T0 bk rP rD ⊢
          rw [hgD] at rD ⊢
          clear hX3 hbk
          clear hgD
          clear hbase
          refine ⟨fun _ => T0, ?_⟩
          try simp only [Act.put, List.getElem_toArray, List.getElem_cons_zero, List.getElem_cons_succ, List.setIfInBounds_toArray, List.set_cons_zero, List.set_cons_succ]
          refine wpAnyG_all (rs := [6]) (by kernel_rfl) (by simp) ?_
          intro i hi
          simp only [List.mem_cons, List.not_mem_nil, or_false] at hi
          subst hi
          refine wpOp_now rfl rfl ?_
          go_simp
          have hbase : W.heap.size ≤ X3.heap.size := T0.size
          have rB := rowB0 X3 W.heap.size F hbase (by omega)
          have hbk := (Below.refl X3.heap.size X3).alloc (Nat.le_refl _) (.cells (madeCells #[.int .u8 0] F) 5)
          replace T0 := T0.alloc T0.size (.cells (madeCells #[.int .u8 0] F) 5)
          replace bk := Blk.below' bk hbk
          replace rP := own_below rP hbk
          replace rD := own_below rD hbk
          obtain ⟨X4, hX4⟩ : ∃ Z, X3.alloc (.cells (madeCells #[.int .u8 0] F) 5) = Z := ⟨_, rfl⟩
          obtain ⟨gB, hgB⟩ : ∃ g, X3.heap.size = g := ⟨_, rfl⟩
          rw [hX4] at T0 bk rP rD rB ⊢
          rw [hgB] at rB ⊢
          clear hX4 hbk
          clear hgB
          clear hbase
          refine ⟨fun _ => T0, ?_⟩
          try simp only [Act.put, List.getElem_toArray, List.getElem_cons_zero, List.getElem_cons_succ, List.setIfInBounds_toArray, List.set_cons_zero, List.set_cons_succ]
          refine wpAnyG_take [7, 9] (i := 7) (v := (.agg #[.slice (some ⟨gP, 0, none⟩) (F + 1) (F + 1), .slice (some ⟨gD, 0, none⟩) F F, .slice (some ⟨gB, 0, none⟩) F F])) rfl (by kernel_rfl) (by kernel_rfl) (by kernel_rfl) (by kernel_rfl) (by kernel_rfl) (by kernel_rfl) (by kernel_rfl) (by kernel_rfl) (fun _ _ _ h => h) (Or.inl ⟨by rfl, ?hy⟩) T0 ?_
          case hy =>
            intro X hX
            go_simp
          try simp only [Act.put, List.getElem_toArray, List.getElem_cons_zero, List.getElem_cons_succ, List.setIfInBounds_toArray, List.set_cons_zero, List.set_cons_succ]
          refine wpAnyG_all (rs := [9]) (by kernel_rfl) (by simp) ?_
          intro i hi
          simp only [List.mem_cons, List.not_mem_nil, or_false] at hi
          subst hi
          refine wpOp_now rfl rfl ?_
          have k0 : X4.cell? ⟨b6, 0, none⟩ = some (.slice none 0 0) := bk.cell 0
          have k1 : X4.cell? ⟨b6, 1, none⟩ = some (.slice none 0 0) := bk.cell 1
          have k2 : X4.cell? ⟨b6, 2, none⟩ = some (.slice none 0 0) := bk.cell 2
          have f0 := bk.frozen 0
          have f1 := bk.frozen 1
          have f2 := bk.frozen 2
          have HF := Lib.hid (say_cut hb6 bk rP rD rB T0)
          clear bk rP rD rB
          go_simp
          refine ⟨fun _ => HF.out.2.2.2.2, ?_⟩
          refine wpAnyG_done (by kernel_rfl) ?_ _
          refine NoPanic.normal ?_
          exact ⟨rfl, (gP, gD, gB, b6), by kernel_rfl, HF.out, hb6⟩
        · skip
          refine wpOp_now rfl rfl ?_
          go_simp
          have hbase : W.heap.size ≤ X2.heap.size := T0.size
          have rB := rowB0 X2 W.heap.size F hbase (by omega)
          have hbk := (Below.refl X2.heap.size X2).alloc (Nat.le_refl _) (.cells (madeCells #[.int .u8 0] F) 5)
          replace T0 := T0.alloc T0.size (.cells (madeCells #[.int .u8 0] F) 5)
          replace bk := Blk.below' bk hbk
          replace rP := own_below rP hbk
          obtain ⟨X3, hX3⟩ : ∃ Z, X2.alloc (.cells (madeCells #[.int .u8 0] F) 5) = Z := ⟨_, rfl⟩
          obtain ⟨gB, hgB⟩ : ∃ g, X2.heap.size = g := ⟨_, rfl⟩
          rw [hX3] at T0 bk rP rB ⊢
          rw [hgB] at rB ⊢
          clear hX3 hbk
          clear hgB
          clear hbase
          refine ⟨fun _ => T0, ?_⟩
          try simp only [Act.put, List.getElem_toArray, List.getElem_cons_zero, List.getElem_cons_succ, List.setIfInBounds_toArray, List.set_cons_zero, List.set_cons_succ]
          refine wpAnyG_all (rs := [4]) (by kernel_rfl) (by simp) ?_
          intro i hi
          simp only [List.mem_cons, List.not_mem_nil, or_false] at hi
          subst hi
          refine wpOp_now rfl rfl ?_
          go_simp
          have hbase : W.heap.size ≤ X3.heap.size := T0.size
          have rD := rowD0 X3 W.heap.size F hbase (by omega)
          have hbk := (Below.refl X3.heap.size X3).alloc (Nat.le_refl _) (.cells (madeCells #[.bool false] F) 4)
          replace T0 := T0.alloc T0.size (.cells (madeCells #[.bool false] F) 4)
          replace bk := Blk.below' bk hbk
          replace rP := own_below rP hbk
          replace rB := own_below rB hbk
          obtain ⟨X4, hX4⟩ : ∃ Z, X3.alloc (.cells (madeCells #[.bool false] F) 4) = Z := ⟨_, rfl⟩
          obtain ⟨gD, hgD⟩ : ∃ g, X3.heap.size = g := ⟨_, rfl⟩
          rw [hX4] at T0 bk rP rB rD ⊢
          rw [hgD] at rD ⊢
          clear hX4 hbk
          clear hgD
          clear hbase
          refine ⟨fun _ => T0, ?_⟩
          try simp only [Act.put, List.getElem_toArray, List.getElem_cons_zero, List.getElem_cons_succ, List.setIfInBounds_toArray, List.set_cons_zero, List.set_cons_succ]
          refine wpAnyG_take [7, 9] (i := 7) (v := (.agg #[.slice (some ⟨gP, 0, none⟩) (F + 1) (F + 1), .slice (some ⟨gD, 0, none⟩) F F, .slice (some ⟨gB, 0, none⟩) F F])) rfl (by kernel_rfl) (by kernel_rfl) (by kernel_rfl) (by kernel_rfl) (by kernel_rfl) (by kernel_rfl) (by kernel_rfl) (by kernel_rfl) (fun _ _ _ h => h) (Or.inl ⟨by rfl, ?hy⟩) T0 ?_
          case hy =>
            intro X hX
            go_simp
          try simp only [Act.put, List.getElem_toArray, List.getElem_cons_zero, List.getElem_cons_succ, List.setIfInBounds_toArray, List.set_cons_zero, List.set_cons_succ]
          refine wpAnyG_all (rs := [9]) (by kernel_rfl) (by simp) ?_
          intro i hi
          simp only [List.mem_cons, List.not_mem_nil, or_false] at hi
          subst hi
          refine wpOp_now rfl rfl ?_
          have k0 : X4.cell? ⟨b6, 0, none⟩ = some (.slice none 0 0) := bk.cell 0
          have k1 : X4.cell? ⟨b6, 1, none⟩ = some (.slice none 0 0) := bk.cell 1
          have k2 : X4.cell? ⟨b6, 2, none⟩ = some (.slice none 0 0) := bk.cell 2
          have f0 := bk.frozen 0
          have f1 := bk.frozen 1
          have f2 := bk.frozen 2
          have HF := Lib.hid (say_cut hb6 bk rP rD rB T0)
          clear bk rP rD rB
          go_simp
          refine ⟨fun _ => HF.out.2.2.2.2, ?_⟩
          refine wpAnyG_done (by kernel_rfl) ?_ _
          refine NoPanic.normal ?_
          exact ⟨rfl, (gP, gD, gB, b6), by kernel_rfl, HF.out, hb6⟩
      · skip
        refine wpOp_now rfl rfl ?_
        go_simp
        have hbase : W.heap.size ≤ X1.heap.size := T0.size
        have rD := rowD0 X1 W.heap.size F hbase (by omega)
        have hbk := (Below.refl X1.heap.size X1).alloc (Nat.le_refl _) (.cells (madeCells #[.bool false] F) 4)
        replace T0 := T0.alloc T0.size (.cells (madeCells #[.bool false] F) 4)
        replace bk := Blk.below' bk hbk
        obtain ⟨X2, hX2⟩ : ∃ Z, X1.alloc (.cells (madeCells #[.bool false] F) 4) = Z := ⟨_, rfl⟩
        obtain ⟨gD, hgD⟩ : ∃ g, X1.heap.size = g := ⟨_, rfl⟩
        rw [hX2] at T0 bk rD ⊢
        rw [hgD] at rD ⊢
        clear hX2 hbk
        clear hgD
        clear hbase
        refine ⟨fun _ => T0, ?_⟩
        try simp only [Act.put, List.getElem_toArray, List.getElem_cons_zero, List.getElem_cons_succ, List.setIfInBounds_toArray, List.set_cons_zero, List.set_cons_succ]
        refine wpAnyG_all (rs := [2, 6]) (by kernel_rfl) (by simp) ?_
        intro i hi
        simp only [List.mem_cons, List.not_mem_nil, or_false] at hi
        rcases hi with rfl | rfl
        · skip
          refine wpOp_now rfl rfl ?_
          go_simp
          have hbase : W.heap.size ≤ X2.heap.size := T0.size
          have rP := rowP0 X2 W.heap.size F hbase (by omega)
          have hbk := (Below.refl X2.heap.size X2).alloc (Nat.le_refl _) (.cells (madeCells #[.string .empty] (F + 1)) 9)
          replace T0 := T0.alloc T0.size (.cells (madeCells #[.string .empty] (F + 1)) 9)
          replace bk := Blk.below' bk hbk
          replace rD := own_below rD hbk
          obtain ⟨X3, hX3⟩ : ∃ Z, X2.alloc (.cells (madeCells #[.string .empty] (F + 1)) 9) = Z := ⟨_, rfl⟩
          obtain ⟨gP, hgP⟩ : ∃ g, X2.heap.size = g := ⟨_, rfl⟩
          rw [hX3] at T0 bk rD rP ⊢
          rw [hgP] at rP ⊢
          clear hX3 hbk
          clear hgP
          clear hbase
          refine ⟨fun _ => T0, ?_⟩
          try simp only [Act.put, List.getElem_toArray, List.getElem_cons_zero, List.getElem_cons_succ, List.setIfInBounds_toArray, List.set_cons_zero, List.set_cons_succ]
          refine wpAnyG_all (rs := [6]) (by kernel_rfl) (by simp) ?_
          intro i hi
          simp only [List.mem_cons, List.not_mem_nil, or_false] at hi
          subst hi
          refine wpOp_now rfl rfl ?_
          go_simp
          have hbase : W.heap.size ≤ X3.heap.size := T0.size
          have rB := rowB0 X3 W.heap.size F hbase (by omega)
          have hbk := (Below.refl X3.heap.size X3).alloc (Nat.le_refl _) (.cells (madeCells #[.int .u8 0] F) 5)
          replace T0 := T0.alloc T0.size (.cells (madeCells #[.int .u8 0] F) 5)
          replace bk := Blk.below' bk hbk
          replace rD := own_below rD hbk
          replace rP := own_below rP hbk
          obtain ⟨X4, hX4⟩ : ∃ Z, X3.alloc (.cells (madeCells #[.int .u8 0] F) 5) = Z := ⟨_, rfl⟩
          obtain ⟨gB, hgB⟩ : ∃ g, X3.heap.size = g := ⟨_, rfl⟩
          rw [hX4] at T0 bk rD rP rB ⊢
          rw [hgB] at rB ⊢
          clear hX4 hbk
          clear hgB
          clear hbase
          refine ⟨fun _ => T0, ?_⟩
          try simp only [Act.put, List.getElem_toArray, List.getElem_cons_zero, List.getElem_cons_succ, List.setIfInBounds_toArray, List.set_cons_zero, List.set_cons_succ]
          refine wpAnyG_take [7, 9] (i := 7) (v := (.agg #[.slice (some ⟨gP, 0, none⟩) (F + 1) (F + 1), .slice (some ⟨gD, 0, none⟩) F F, .slice (some ⟨gB, 0, none⟩) F F])) rfl (by kernel_rfl) (by kernel_rfl) (by kernel_rfl) (by kernel_rfl) (by kernel_rfl) (by kernel_rfl) (by kernel_rfl) (by kernel_rfl) (fun _ _ _ h => h) (Or.inl ⟨by rfl, ?hy⟩) T0 ?_
          case hy =>
            intro X hX
            go_simp
          try simp only [Act.put, List.getElem_toArray, List.getElem_cons_zero, List.getElem_cons_succ, List.setIfInBounds_toArray, List.set_cons_zero, List.set_cons_succ]
          refine wpAnyG_all (rs := [9]) (by kernel_rfl) (by simp) ?_
          intro i hi
          simp only [List.mem_cons, List.not_mem_nil, or_false] at hi
          subst hi
          refine wpOp_now rfl rfl ?_
          have k0 : X4.cell? ⟨b6, 0, none⟩ = some (.slice none 0 0) := bk.cell 0
          have k1 : X4.cell? ⟨b6, 1, none⟩ = some (.slice none 0 0) := bk.cell 1
          have k2 : X4.cell? ⟨b6, 2, none⟩ = some (.slice none 0 0) := bk.cell 2
          have f0 := bk.frozen 0
          have f1 := bk.frozen 1
          have f2 := bk.frozen 2
          have HF := Lib.hid (say_cut hb6 bk rP rD rB T0)
          clear bk rP rD rB
          go_simp
          refine ⟨fun _ => HF.out.2.2.2.2, ?_⟩
          refine wpAnyG_done (by kernel_rfl) ?_ _
          refine NoPanic.normal ?_
          exact ⟨rfl, (gP, gD, gB, b6), by kernel_rfl, HF.out, hb6⟩
        · skip
          refine wpOp_now rfl rfl ?_
          go_simp
          have hbase : W.heap.size ≤ X2.heap.size := T0.size
          have rB := rowB0 X2 W.heap.size F hbase (by omega)
          have hbk := (Below.refl X2.heap.size X2).alloc (Nat.le_refl _) (.cells (madeCells #[.int .u8 0] F) 5)
          replace T0 := T0.alloc T0.size (.cells (madeCells #[.int .u8 0] F) 5)
          replace bk := Blk.below' bk hbk
          replace rD := own_below rD hbk
          obtain ⟨X3, hX3⟩ : ∃ Z, X2.alloc (.cells (madeCells #[.int .u8 0] F) 5) = Z := ⟨_, rfl⟩
          obtain ⟨gB, hgB⟩ : ∃ g, X2.heap.size = g := ⟨_, rfl⟩
          rw [hX3] at T0 bk rD rB ⊢
          rw [hgB] at rB ⊢
          clear hX3 hbk
          clear hgB
          clear hbase
          refine ⟨fun _ => T0, ?_⟩
          try simp only [Act.put, List.getElem_toArray, List.getElem_cons_zero, List.getElem_cons_succ, List.setIfInBounds_toArray, List.set_cons_zero, List.set_cons_succ]
          refine wpAnyG_all (rs := [2]) (by kernel_rfl) (by simp) ?_
          intro i hi
          simp only [List.mem_cons, List.not_mem_nil, or_false] at hi
          subst hi
          refine wpOp_now rfl rfl ?_
          go_simp
          have hbase : W.heap.size ≤ X3.heap.size := T0.size
          have rP := rowP0 X3 W.heap.size F hbase (by omega)
          have hbk := (Below.refl X3.heap.size X3).alloc (Nat.le_refl _) (.cells (madeCells #[.string .empty] (F + 1)) 9)
          replace T0 := T0.alloc T0.size (.cells (madeCells #[.string .empty] (F + 1)) 9)
          replace bk := Blk.below' bk hbk
          replace rD := own_below rD hbk
          replace rB := own_below rB hbk
          obtain ⟨X4, hX4⟩ : ∃ Z, X3.alloc (.cells (madeCells #[.string .empty] (F + 1)) 9) = Z := ⟨_, rfl⟩
          obtain ⟨gP, hgP⟩ : ∃ g, X3.heap.size = g := ⟨_, rfl⟩
          rw [hX4] at T0 bk rD rB rP ⊢
          rw [hgP] at rP ⊢
          clear hX4 hbk
          clear hgP
          clear hbase
          refine ⟨fun _ => T0, ?_⟩
          try simp only [Act.put, List.getElem_toArray, List.getElem_cons_zero, List.getElem_cons_succ, List.setIfInBounds_toArray, List.set_cons_zero, List.set_cons_succ]
          refine wpAnyG_take [7, 9] (i := 7) (v := (.agg #[.slice (some ⟨gP, 0, none⟩) (F + 1) (F + 1), .slice (some ⟨gD, 0, none⟩) F F, .slice (some ⟨gB, 0, none⟩) F F])) rfl (by kernel_rfl) (by kernel_rfl) (by kernel_rfl) (by kernel_rfl) (by kernel_rfl) (by kernel_rfl) (by kernel_rfl) (by kernel_rfl) (fun _ _ _ h => h) (Or.inl ⟨by rfl, ?hy⟩) T0 ?_
          case hy =>
            intro X hX
            go_simp
          try simp only [Act.put, List.getElem_toArray, List.getElem_cons_zero, List.getElem_cons_succ, List.setIfInBounds_toArray, List.set_cons_zero, List.set_cons_succ]
          refine wpAnyG_all (rs := [9]) (by kernel_rfl) (by simp) ?_
          intro i hi
          simp only [List.mem_cons, List.not_mem_nil, or_false] at hi
          subst hi
          refine wpOp_now rfl rfl ?_
          have k0 : X4.cell? ⟨b6, 0, none⟩ = some (.slice none 0 0) := bk.cell 0
          have k1 : X4.cell? ⟨b6, 1, none⟩ = some (.slice none 0 0) := bk.cell 1
          have k2 : X4.cell? ⟨b6, 2, none⟩ = some (.slice none 0 0) := bk.cell 2
          have f0 := bk.frozen 0
          have f1 := bk.frozen 1
          have f2 := bk.frozen 2
          have HF := Lib.hid (say_cut hb6 bk rP rD rB T0)
          clear bk rP rD rB
          go_simp
          refine ⟨fun _ => HF.out.2.2.2.2, ?_⟩
          refine wpAnyG_done (by kernel_rfl) ?_ _
          refine NoPanic.normal ?_
          exact ⟨rfl, (gP, gD, gB, b6), by kernel_rfl, HF.out, hb6⟩
      · skip
        refine wpOp_now rfl rfl ?_
        go_simp
        have hbase : W.heap.size ≤ X1.heap.size := T0.size
        have rB := rowB0 X1 W.heap.size F hbase (by omega)
        have hbk := (Below.refl X1.heap.size X1).alloc (Nat.le_refl _) (.cells (madeCells #[.int .u8 0] F) 5)
        replace T0 := T0.alloc T0.size (.cells (madeCells #[.int .u8 0] F) 5)
        replace bk := Blk.below' bk hbk
        obtain ⟨X2, hX2⟩ : ∃ Z, X1.alloc (.cells (madeCells #[.int .u8 0] F) 5) = Z := ⟨_, rfl⟩
        obtain ⟨gB, hgB⟩ : ∃ g, X1.heap.size = g := ⟨_, rfl⟩
        rw [hX2] at T0 bk rB ⊢
        rw [hgB] at rB ⊢
        clear hX2 hbk
        clear hgB
        clear hbase
        refine ⟨fun _ => T0, ?_⟩
        try simp only [Act.put, List.getElem_toArray, List.getElem_cons_zero, List.getElem_cons_succ, List.setIfInBounds_toArray, List.set_cons_zero, List.set_cons_succ]
        refine wpAnyG_all (rs := [2, 4]) (by kernel_rfl) (by simp) ?_
        intro i hi
        simp only [List.mem_cons, List.not_mem_nil, or_false] at hi
        rcases hi with rfl | rfl
        · skip
          refine wpOp_now rfl rfl ?_
          go_simp
          have hbase : W.heap.size ≤ X2.heap.size := T0.size
          have rP := rowP0 X2 W.heap.size F hbase (by omega)
          have hbk := (Below.refl X2.heap.size X2).alloc (Nat.le_refl _) (.cells (madeCells #[.string .empty] (F + 1)) 9)
          replace T0 := T0.alloc T0.size (.cells (madeCells #[.string .empty] (F + 1)) 9)
          replace bk := Blk.below' bk hbk
          replace rB := own_below rB hbk
          obtain ⟨X3, hX3⟩ : ∃ Z, X2.alloc (.cells (madeCells #[.string .empty] (F + 1)) 9) = Z := ⟨_, rfl⟩
          obtain ⟨gP, hgP⟩ : ∃ g, X2.heap.size = g := ⟨_, rfl⟩
          rw [hX3] at T0 bk rB rP ⊢
          rw [hgP] at rP ⊢
          clear hX3 hbk
          clear hgP
          clear hbase
          refine ⟨fun _ => T0, ?_⟩
          try simp only [Act.put, List.getElem_toArray, List.getElem_cons_zero, List.getElem_cons_succ, List.setIfInBounds_toArray, List.set_cons_zero, List.set_cons_succ]
          refine wpAnyG_all (rs := [4]) (by kernel_rfl) (by simp) ?_
          intro i hi
          simp only [List.mem_cons, List.not_mem_nil, or_false] at hi
          subst hi
          refine wpOp_now rfl rfl ?_
          go_simp
          have hbase : W.heap.size ≤ X3.heap.size := T0.size
          have rD := rowD0 X3 W.heap.size F hbase (by omega)
          have hbk := (Below.refl X3.heap.size X3).alloc (Nat.le_refl _) (.cells (madeCells #[.bool false] F) 4)
          replace T0 := T0.alloc T0.size (.cells (madeCells #[.bool false] F) 4)
          replace bk := Blk.below' bk hbk
          replace rB := own_below rB hbk
          replace rP := own_below rP hbk
          obtain ⟨X4, hX4⟩ : ∃ Z, X3.alloc (.cells (madeCells #[.bool false] F) 4) = Z := ⟨_, rfl⟩
          obtain ⟨gD, hgD⟩ : ∃ g, X3.heap.size = g := ⟨_, rfl⟩
          rw [hX4] at T0 bk rB rP rD ⊢
          rw [hgD] at rD ⊢
          clear hX4 hbk
          clear hgD
          clear hbase
          refine ⟨fun _ => T0, ?_⟩
          try simp only [Act.put, List.getElem_toArray, List.getElem_cons_zero, List.getElem_cons_succ, List.setIfInBounds_toArray, List.set_cons_zero, List.set_cons_succ]
          refine wpAnyG_take [7, 9] (i := 7) (v := (.agg #[.slice (some ⟨gP, 0, none⟩) (F + 1) (F + 1), .slice (some ⟨gD, 0, none⟩) F F, .slice (some ⟨gB, 0, none⟩) F F])) rfl (by kernel_rfl) (by kernel_rfl) (by kernel_rfl) (by kernel_rfl) (by kernel_rfl) (by kernel_rfl) (by kernel_rfl) (by kernel_rfl) (fun _ _ _ h => h) (Or.inl ⟨by rfl, ?hy⟩) T0 ?_
          case hy =>
            intro X hX
            go_simp
          try simp only [Act.put, List.getElem_toArray, List.getElem_cons_zero, List.getElem_cons_succ, List.setIfInBounds_toArray, List.set_cons_zero, List.set_cons_succ]
          refine wpAnyG_all (rs := [9]) (by kernel_rfl) (by simp) ?_
          intro i hi
          simp only [List.mem_cons, List.not_mem_nil, or_false] at hi
          subst hi
          refine wpOp_now rfl rfl ?_
          have k0 : X4.cell? ⟨b6, 0, none⟩ = some (.slice none 0 0) := bk.cell 0
          have k1 : X4.cell? ⟨b6, 1, none⟩ = some (.slice none 0 0) := bk.cell 1
          have k2 : X4.cell? ⟨b6, 2, none⟩ = some (.slice none 0 0) := bk.cell 2
          have f0 := bk.frozen 0
          have f1 := bk.frozen 1
          have f2 := bk.frozen 2
          have HF := Lib.hid (say_cut hb6 bk rP rD rB T0)
          clear bk rP rD rB
          go_simp
          refine ⟨fun _ => HF.out.2.2.2.2, ?_⟩
          refine wpAnyG_done (by kernel_rfl) ?_ _
          refine NoPanic.normal ?_
          exact ⟨rfl, (gP, gD, gB, b6), by kernel_rfl, HF.out, hb6⟩
        · skip
          refine wpOp_now rfl rfl ?_
          go_simp
          have hbase : W.heap.size ≤ X2.heap.size := T0.size
          have rD := rowD0 X2 W.heap.size F hbase (by omega)
          have hbk := (Below.refl X2.heap.size X2).alloc (Nat.le_refl _) (.cells (madeCells #[.bool false] F) 4)
          replace T0 := T0.alloc T0.size (.cells (madeCells #[.bool false] F) 4)
          replace bk := Blk.below' bk hbk
          replace rB := own_below rB hbk
          obtain ⟨X3, hX3⟩ : ∃ Z, X2.alloc (.cells (madeCells #[.bool false] F) 4) = Z := ⟨_, rfl⟩
          obtain ⟨gD, hgD⟩ : ∃ g, X2.heap.size = g := ⟨_, rfl⟩
          rw [hX3] at T0 bk rB rD ⊢
          rw [hgD] at rD ⊢
          clear hX3 hbk
          clear hgD
          clear hbase
          refine ⟨fun _ => T0, ?_⟩
          try simp only [Act.put, List.getElem_toArray, List.getElem_cons_zero, List.getElem_cons_succ, List.setIfInBounds_toArray, List.set_cons_zero, List.set_cons_succ]
          refine wpAnyG_all (rs := [2]) (by kernel_rfl) (by simp) ?_
          intro i hi
          simp only [List.mem_cons, List.not_mem_nil, or_false] at hi
          subst hi
          refine wpOp_now rfl rfl ?_
          go_simp
          have hbase : W.heap.size ≤ X3.heap.size := T0.size
          have rP := rowP0 X3 W.heap.size F hbase (by omega)
          have hbk := (Below.refl X3.heap.size X3).alloc (Nat.le_refl _) (.cells (madeCells #[.string .empty] (F + 1)) 9)
          replace T0 := T0.alloc T0.size (.cells (madeCells #[.string .empty] (F + 1)) 9)
          replace bk := Blk.below' bk hbk
          replace rB := own_below rB hbk
          replace rD := own_below rD hbk
          obtain ⟨X4, hX4⟩ : ∃ Z, X3.alloc (.cells (madeCells #[.string .empty] (F + 1)) 9) = Z := ⟨_, rfl⟩
          obtain ⟨gP, hgP⟩ : ∃ g, X3.heap.size = g := ⟨_, rfl⟩
          rw [hX4] at T0 bk rB rD rP ⊢
          rw [hgP] at rP ⊢
          clear hX4 hbk
          clear hgP
          clear hbase
          refine ⟨fun _ => T0, ?_⟩
          try simp only [Act.put, List.getElem_toArray, List.getElem_cons_zero, List.getElem_cons_succ, List.setIfInBounds_toArray, List.set_cons_zero, List.set_cons_succ]
          refine wpAnyG_take [7, 9] (i := 7) (v := (.agg #[.slice (some ⟨gP, 0, none⟩) (F + 1) (F + 1), .slice (some ⟨gD, 0, none⟩) F F, .slice (some ⟨gB, 0, none⟩) F F])) rfl (by kernel_rfl) (by kernel_rfl) (by kernel_rfl) (by kernel_rfl) (by kernel_rfl) (by kernel_rfl) (by kernel_rfl) (by kernel_rfl) (fun _ _ _ h => h) (Or.inl ⟨by rfl, ?hy⟩) T0 ?_
          case hy =>
            intro X hX
            go_simp
          try simp only [Act.put, List.getElem_toArray, List.getElem_cons_zero, List.getElem_cons_succ, List.setIfInBounds_toArray, List.set_cons_zero, List.set_cons_succ]
          refine wpAnyG_all (rs := [9]) (by kernel_rfl) (by simp) ?_
          intro i hi
          simp only [List.mem_cons, List.not_mem_nil, or_false] at hi
          subst hi
          refine wpOp_now rfl rfl ?_
          have k0 : X4.cell? ⟨b6, 0, none⟩ = some (.slice none 0 0) := bk.cell 0
          have k1 : X4.cell? ⟨b6, 1, none⟩ = some (.slice none 0 0) := bk.cell 1
          have k2 : X4.cell? ⟨b6, 2, none⟩ = some (.slice none 0 0) := bk.cell 2
          have f0 := bk.frozen 0
          have f1 := bk.frozen 1
          have f2 := bk.frozen 2
          have HF := Lib.hid (say_cut hb6 bk rP rD rB T0)
          clear bk rP rD rB
          go_simp
          refine ⟨fun _ => HF.out.2.2.2.2, ?_⟩
          refine wpAnyG_done (by kernel_rfl) ?_ _
          refine NoPanic.normal ?_
          exact ⟨rfl, (gP, gD, gB, b6), by kernel_rfl, HF.out, hb6⟩
  rintro ⟨gP, gD, gB, b6⟩ X ⟨hK, hb6⟩
  simp only [putsG, List.foldl_cons, List.foldl_nil, List.setIfInBounds_toArray, List.set_cons_zero, List.set_cons_succ]
  simp only at hK hb6
  have H0 := Lib.hid hK
  clear hK mP mD mB j1
  go_wp2
  go_loopw [7, 8, 9] (fun a g i Y => ∃ (k pl gp t : Nat) (Ps : List ByteArray) (Ds : List Bool) (xs : List Value), a = .int .i64 pl ∧ g = .int .i64 gp ∧ i = .int .i64 k ∧ k ≤ l.length ∧ SayK Y W F gP gD gB b6 Ps Ds xs ∧ SayX F (atL l) Ps Ds xs pl gp (atL (l.drop k)) ∧ True ∧ sizeG (l.drop k) pl t = some (F, T) ∧ t ≤ 65536) (fun _ _ i _ => l.length - (intOf i).toNat)
  case atStart => exact ⟨0, 0, 0, 0, _, _, _, rfl, rfl, rfl, by omega, H0.out, SayX.new F (atL l), trivial, HN.out.1, by omega⟩
  case round =>
    obtain ⟨k, pl, gp, t, Ps, Ds, xs, rfl, rfl, rfl, hk, hK, hS, hpl, hsz, ht⟩ := hrel
    by_cases hlt : k < l.length
    · obtain ⟨x, hx⟩ : ∃ x, l[k]? = some x := ⟨_, List.getElem?_eq_getElem hlt⟩
      obtain ⟨g, off, rfl, hc⟩ := HN.out.2.1.below encS_len (by decide) (HW.out.1.trans (hK.2.2.2.2.mono HW.out.1.size)) k x hx
      obtain ⟨q0, q1, q2⟩ := get3 (l := l) hc
      have hd : l.drop k = x :: l.drop (k + 1) := (List.drop_eq_getElem_cons hlt).trans (by rw [(List.getElem?_eq_some_iff.1 hx).2])
      rw [hd, sizeG] at hsz
      by_cases hk0 : kindN x = 0 ∨ 65536 < x.k
      · rw [if_pos hk0] at hsz; cases hsz
      · rw [if_neg hk0] at hsz
        by_cases hs6 : 65536 < pl + x.k.toNat + x.d.size ∨ 65536 < t + x.k.toNat + x.p.size
        · rw [if_pos hs6] at hsz; cases hsz
        · rw [if_neg hs6] at hsz
          have hkp := kind_pos (x := x) (fun e => hk0 (.inl e))
          have hle := (sizeG_ok _ _ _ F T hsz (by omega) (by omega)).2.2.2.1
          obtain ⟨kk, d, p⟩ := x
          simp only at hkp hs6 hk0 hsz hle q0 q1 q2
          have hk3 := kind_three kk d p
          obtain ⟨kn, rfl⟩ : ∃ kn : Nat, kk = kn := ⟨kk.toNat, by omega⟩
          rw [Int.toNat_natCast] at hs6 hsz hle
          have hkd : 0 < kn → d.size = 0 := fun h => by
            rcases hk3 with h1 | ⟨_, h1, _⟩ | ⟨h1, _⟩ | ⟨h1, _⟩
            · exact absurd (.inl h1) hk0
            · rw [h1]; rfl
            · omega
            · omega
          have n := Blk.new wr #[.int .i64 kn, .string d, .string p] 54
          have hb := (Below.refl wr.heap.size wr).alloc (Nat.le_refl _) (.cells #[.int .i64 kn, .string d, .string p] 54)
          have hK1 := hK.below hb
          have j5 : IntKind.i64.wrap ((k : Int) + 1) = ((k + 1 : Nat) : Int) := by rw [IntWalk.i64_in _ (by omega)]; omega
          have hkl : (k : Int) < (l.length : Int) := by omega
          have HSz := Lib.hid hsz
          have HS : Hid (pl + kn + d.size ≤ F ∧ t + kn + p.size ≤ 65536) := Lib.hid ⟨hle, by omega⟩
          have HKd := Lib.hid hkd
          have hR : atL (l.drop k) = (bL p).map .P ++ ((bL d).map .D ++ (List.replicate kn .K ++ atL (l.drop (k + 1)))) := by
            rw [hd, atL_cons, atS_pdk (fun e => hk0 (.inl e))]
            simp only [Int.toNat_natCast, List.append_assoc]
          replace hS := hS.cast hR
          obtain ⟨V, hV⟩ : ∃ V, wr.alloc (.cells #[.int .i64 kn, .string d, .string p] 54) = V := ⟨_, rfl⟩
          obtain ⟨q, hq⟩ : ∃ q, wr.heap.size = q := ⟨_, rfl⟩
          rw [hV] at n hK1
          rw [hq] at n
          have HV := Lib.hid (And.intro hK1 (And.intro hS n))
          have HVe := Lib.hid (And.intro hV hq)
          obtain ⟨c0, c1, c2⟩ := hK1.cells
          have x2 : V.cell? ⟨q, 2, none⟩ = some (.string p) := n.cell 2
          clear hsz hs6 hle hkd hR hK hS hK1 hb n hd hx hc hk0 hk3 hV hq hkp
          rcases emp_or p with rfl | ⟨p0, p1, p2, p3⟩
          · have HM : Hid (SayK V W F gP gD gB b6 Ps Ds xs ∧ SayX F (atL l) Ps Ds xs pl gp ((bL d).map .D ++ (List.replicate kn .K ++ atL (l.drop (k + 1)))) ∧ Blk V q #[.int .i64 kn, .string d, .string .empty] 54) := Lib.hid ⟨HV.out.1, HV.out.2.1.skip, HV.out.2.2⟩
            go_wp2_with (fail)
            rw [HVe.out.1, HVe.out.2]
            go_wp2
            go_loopw [7, 11] (fun a j Z => ∃ (u jn : Nat) (Ds2 : List Bool) (xs2 : List Value), a = .int .i64 u ∧ j = .int .i64 jn ∧ u = pl + jn ∧ jn ≤ d.size ∧ SayK Z W F gP gD gB b6 Ps Ds2 xs2 ∧ SayX F (atL l) Ps Ds2 xs2 u gp (((bL d).drop jn).map .D ++ (List.replicate kn .K ++ atL (l.drop (k + 1)))) ∧ Blk Z q #[.int .i64 kn, .string d, .string .empty] 54) (fun _ j _ => d.size - (intOf j).toNat)
            case atStart => exact ⟨pl, 0, Ds, xs, rfl, rfl, rfl, by omega, HM.out.1, HM.out.2.1, HM.out.2.2⟩
            case round =>
              obtain ⟨u, jn, Ds2, xs2, rfl, rfl, hu, hjn, hK, hS, hbx⟩ := hrel
              have x1 : wr.cell? ⟨q, 1, none⟩ = some (.string d) := hbx.cell 1
              by_cases hjd : jn < d.size
              · obtain ⟨c0, c1, c2⟩ := hK.cells
                have huF : u < F := by have := HS.out; omega
                have huF2 : (u : Int) < (F : Int) := by omega
                have hjd2 : (jn : Int) < (d.size : Int) := by omega
                have hcl := hS.cl u (Nat.le_refl _) huF
                have cd : wr.cell? ⟨gD, u, none⟩ = some (.bool false) := by
                  obtain ⟨g', o', e', hc⟩ := RowAt.of_own encO_len hK.2.2.1 hS.lD u false hcl
                  cases e'
                  have h := hc 0 (by decide)
                  simpa [encO] using h
                have fd := own_freeK hK.2.2.1 u
                have j8 : IntKind.i64.wrap ((u : Int) + 1) = ((u + 1 : Nat) : Int) := by rw [IntWalk.i64_in _ (by omega)]; omega
                have j9 : IntKind.i64.wrap ((jn : Int) + 1) = ((jn + 1 : Nat) : Int) := by rw [IntWalk.i64_in _ (by omega)]; omega
                have hK2 := hK.putD hS.lD huF true
                have hb2 := hbx.other (B' := gD) (fun e => Blk.not_row hbx (by decide) hK.2.2.1 (by rw [e]; rfl)) u (.bool true)
                obtain ⟨Z2, hZ2⟩ : ∃ Z, wr.setCell ⟨gD, u, none⟩ (.bool true) = Z := ⟨_, rfl⟩
                rw [hZ2] at hK2 hb2
                have HZ2 := Lib.hid (And.intro hK2 hb2)
                have HW2 := Lib.hid hZ2
                have HD2 := Lib.hid (And.intro ((hS.cast (drop_cons hjd _)).drop huF) (And.intro hu hjn))
                have g2 : Z2.cell? ⟨b6, 2, none⟩ = some (.slice (some ⟨gB, 0, none⟩) F F) := hK2.cells.2.2
                have g1 : Z2.cell? ⟨q, 1, none⟩ = some (.string d) := hb2.cell 1
                clear hK hS hbx hcl hu hjn hK2 hb2 hZ2
                go_wp2
                rw [HW2.out]
                refine wp_region_noPanic ?_
                refine wp_region_g (S := untilG [8] (fun X => Below Z2.heap.size Z2 X)) (by kernel_rfl) ?_
                obtain ⟨X0, hX0⟩ : ∃ Z, Z2.drew = Z := ⟨_, rfl⟩
                have T0 : Below Z2.heap.size Z2 X0 := hX0 ▸ (Below.refl Z2.heap.size Z2).drew
                rw [hX0]
                clear hX0
                refine wpAnyG_take [0, 1, 7, 8] (i := 0) (v := (.pointer (some ⟨b6, 2, none⟩))) rfl (by kernel_rfl) (by kernel_rfl) (by kernel_rfl) (by kernel_rfl) (by kernel_rfl) (by kernel_rfl) (by kernel_rfl) (by kernel_rfl) (fun _ _ _ h => h) (Or.inl ⟨by rfl, ?hy⟩) T0 ?_
                case hy =>
                  intro X hX
                  go_simp
                try simp only [Act.put, List.getElem_toArray, List.getElem_cons_zero, List.getElem_cons_succ, List.setIfInBounds_toArray, List.set_cons_zero, List.set_cons_succ]
                refine wpAnyG_take [1, 7, 8] (i := 1) (v := (.slice (some ⟨gB, 0, none⟩) F F)) rfl (by kernel_rfl) (by kernel_rfl) (by kernel_rfl) (by kernel_rfl) (by kernel_rfl) (by kernel_rfl) (by kernel_rfl) (by kernel_rfl) (fun _ _ _ h => h) (Or.inl ⟨by rfl, ?hy⟩) T0 ?_
                case hy =>
                  intro X hX
                  have e0 := at_below g2 hX
                  go_simp
                try simp only [Act.put, List.getElem_toArray, List.getElem_cons_zero, List.getElem_cons_succ, List.setIfInBounds_toArray, List.set_cons_zero, List.set_cons_succ]
                refine wpAnyG_take [2, 7, 8] (i := 2) (v := (.int .i64 u)) rfl (by kernel_rfl) (by kernel_rfl) (by kernel_rfl) (by kernel_rfl) (by kernel_rfl) (by kernel_rfl) (by kernel_rfl) (by kernel_rfl) (fun _ _ _ h => h) (Or.inl ⟨by rfl, ?hy⟩) T0 ?_
                case hy =>
                  intro X hX
                  go_simp
                try simp only [Act.put, List.getElem_toArray, List.getElem_cons_zero, List.getElem_cons_succ, List.setIfInBounds_toArray, List.set_cons_zero, List.set_cons_succ]
                refine wpAnyG_take [3, 4, 6, 8] (i := 3) (v := (.pointer (some ⟨q, 1, none⟩))) rfl (by kernel_rfl) (by kernel_rfl) (by kernel_rfl) (by kernel_rfl) (by kernel_rfl) (by kernel_rfl) (by kernel_rfl) (by kernel_rfl) (fun _ _ _ h => h) (Or.inl ⟨by rfl, ?hy⟩) T0 ?_
                case hy =>
                  intro X hX
                  go_simp
                try simp only [Act.put, List.getElem_toArray, List.getElem_cons_zero, List.getElem_cons_succ, List.setIfInBounds_toArray, List.set_cons_zero, List.set_cons_succ]
                refine wpAnyG_take [4, 6, 8] (i := 4) (v := (.string d)) rfl (by kernel_rfl) (by kernel_rfl) (by kernel_rfl) (by kernel_rfl) (by kernel_rfl) (by kernel_rfl) (by kernel_rfl) (by kernel_rfl) (fun _ _ _ h => h) (Or.inl ⟨by rfl, ?hy⟩) T0 ?_
                case hy =>
                  intro X hX
                  have e0 := at_below g1 hX
                  go_simp
                try simp only [Act.put, List.getElem_toArray, List.getElem_cons_zero, List.getElem_cons_succ, List.setIfInBounds_toArray, List.set_cons_zero, List.set_cons_succ]
                refine wpAnyG_take [5, 6, 8] (i := 5) (v := (.int .i64 jn)) rfl (by kernel_rfl) (by kernel_rfl) (by kernel_rfl) (by kernel_rfl) (by kernel_rfl) (by kernel_rfl) (by kernel_rfl) (by kernel_rfl) (fun _ _ _ h => h) (Or.inl ⟨by rfl, ?hy⟩) T0 ?_
                case hy =>
                  intro X hX
                  go_simp
                try simp only [Act.put, List.getElem_toArray, List.getElem_cons_zero, List.getElem_cons_succ, List.setIfInBounds_toArray, List.set_cons_zero, List.set_cons_succ]
                refine wpAnyG_take [6, 8] (i := 6) (v := (.int .u8 ((d[jn]'hjd).toNat))) rfl (by kernel_rfl) (by kernel_rfl) (by kernel_rfl) (by kernel_rfl) (by kernel_rfl) (by kernel_rfl) (by kernel_rfl) (by kernel_rfl) (fun _ _ _ h => h) (Or.inl ⟨by rfl, ?hy⟩) T0 ?_
                case hy =>
                  intro X hX
                  (go_simp; try rfl)
                try simp only [Act.put, List.getElem_toArray, List.getElem_cons_zero, List.getElem_cons_succ, List.setIfInBounds_toArray, List.set_cons_zero, List.set_cons_succ]
                have HZ3 := Lib.hid (HZ2.out.1.below T0)
                have HZ4 := Lib.hid (HZ2.out.2.below' T0)
                obtain ⟨vb, cb⟩ : ∃ vb, X0.cell? ⟨gB, u, none⟩ = some vb := by
                  have h1 := HZ3.out.2.2.2.1
                  have hlen := h1.1
                  exact ⟨_, (h1.cellAt u (by omega)).trans (List.getElem?_eq_getElem (by omega))⟩
                have fb := own_freeK HZ3.out.2.2.2.1 u
                refine wpAnyG_all (rs := [7]) (by kernel_rfl) (by simp) ?_
                intro i hi
                simp only [List.mem_cons, List.not_mem_nil, or_false] at hi
                subst hi
                refine wpOp_now rfl rfl ?_
                go_simp
                refine ⟨fun _ => T0, ?_⟩
                try simp only [Act.put, List.getElem_toArray, List.getElem_cons_zero, List.getElem_cons_succ, List.setIfInBounds_toArray, List.set_cons_zero, List.set_cons_succ]
                refine wpAnyG_all (rs := [8]) (by kernel_rfl) (by simp) ?_
                intro i hi
                simp only [List.mem_cons, List.not_mem_nil, or_false] at hi
                subst hi
                refine wpOp_now rfl rfl ?_
                go_simp
                refine ⟨fun h => (nomatch (show (false : Bool) = true from h)), ?_⟩
                refine wpAnyG_done (by kernel_rfl) ?_ _
                refine NoPanic.normal ?_
                have HZ5 := Lib.hid (HZ3.out.putB huF (.int .u8 ((d[jn]'hjd).toNat)))
                have HZ6 := Lib.hid (HZ4.out.other (B' := gB) (fun e => Blk.not_row HZ4.out (by decide) HZ3.out.2.2.2.1 (by rw [e]; rfl)) u (.int .u8 ((d[jn]'hjd).toNat)))
                clear T0 cb fb c0 c1 c2 cd fd g1 g2 x1
                go_wp2
                go_roundw
                case rel => exact ⟨u + 1, jn + 1, _, _, by go_num, by go_num, by have := HD2.out.2.1; omega, by omega, HZ5.out, HD2.out.1, HZ6.out⟩
                case measure => simp [intOf] <;> omega
              · obtain rfl : jn = d.size := by omega
                have x0 : wr.cell? ⟨q, 0, none⟩ = some (.int .i64 kn) := hbx.cell 0
                have hjd2 : ¬ (d.size : Int) < (d.size : Int) := by omega
                have HZ := Lib.hid (And.intro hK (And.intro hS hu))
                clear hK hS hbx hjn
                by_cases hk0 : 0 < kn
                · have d9 : decide ((0 : Int) < (kn : Int)) = true := decide_eq_true (by omega)
                  have j8 : IntKind.i64.wrap ((u : Int) + (kn : Int)) = ((u + kn : Nat) : Int) := by rw [IntWalk.i64_in _ (by have := HS.out; omega)]; omega
                  clear hu
                  go_wp2
                  go_roundw
                  case rel =>
                    have hd0 := HKd.out hk0
                    have hu := HZ.out.2.2
                    refine ⟨k + 1, u + kn, u + kn, t + kn + ByteArray.empty.size, _, _, _, by go_num, by go_num, by go_num, by omega, HZ.out.1, ((HZ.out.2.1.cast (by rw [List.drop_of_length_le (by rw [bL_len]; exact Nat.le_refl _)]; rfl : _ = (List.replicate kn .K ++ atL (l.drop (k + 1))))).keep hk0 (by have := HS.out; omega)), trivial, ?_, by have := HS.out; omega⟩
                    · rw [hu]; have := HSz.out; rw [show pl + d.size + kn = pl + kn + d.size from by omega]; exact this
                  case measure => simp [intOf] <;> omega
                · have d9 : decide ((0 : Int) < (kn : Int)) = false := decide_eq_false (by omega)
                  clear hu
                  go_wp2
                  go_roundw
                  case rel =>
                    have hu := HZ.out.2.2
                    obtain rfl : kn = 0 := by omega
                    refine ⟨k + 1, u, gp, t + 0 + ByteArray.empty.size, _, _, _, by go_num, by go_num, by go_num, by omega, HZ.out.1, ((HZ.out.2.1.cast (by rw [List.drop_of_length_le (by rw [bL_len]; exact Nat.le_refl _)]; rfl : _ = (List.replicate 0 .K ++ atL (l.drop (k + 1)))))), trivial, ?_, by have := HS.out; omega⟩
                    · rw [hu]; exact HSz.out
                  case measure => simp [intOf] <;> omega
          · obtain ⟨y, hy⟩ : ∃ y, Ps[gp]? = some y := ⟨_, List.getElem?_eq_getElem (by rw [HV.out.2.1.lP]; have := HV.out.2.1.gl; have := HV.out.2.1.pf; omega)⟩
            have cy : V.cell? ⟨gP, gp, none⟩ = some (.string y) := by
              obtain ⟨g', o', e', hc⟩ := RowAt.of_own encP_len HV.out.1.2.1 HV.out.2.1.lP gp y hy
              cases e'
              have h := hc 0 (by decide)
              simpa [encP] using h
            have hgF : gp < F + 1 := by have := HV.out.2.1.gl; have := HV.out.2.1.pf; omega
            have hgF2 : (gp : Int) < (F : Int) + 1 := by omega
            have hys : y.size + p.size ≤ 9223372036854775807 := by have := sayx_small HN.out.1 HV.out.2.1 hy; have := HS.out; omega
            have HY := Lib.hid hy
            clear hy
            go_wp2_with (fail)
            rw [HVe.out.1, HVe.out.2]
            go_wp2_with (fail)
            refine wp_region_noPanic ?_
            refine wp_region_g (S := untilG [12] (fun X => Below V.heap.size V X)) (by kernel_rfl) ?_
            obtain ⟨X0, hX0⟩ : ∃ Z, V.drew = Z := ⟨_, rfl⟩
            have T0 : Below V.heap.size V X0 := hX0 ▸ (Below.refl V.heap.size V).drew
            rw [hX0]
            clear hX0
            refine wpAnyG_take [0, 1, 11, 12] (i := 0) (v := (.pointer (some ⟨b6, 0, none⟩))) rfl (by kernel_rfl) (by kernel_rfl) (by kernel_rfl) (by kernel_rfl) (by kernel_rfl) (by kernel_rfl) (by kernel_rfl) (by kernel_rfl) (fun _ _ _ h => h) (Or.inl ⟨by rfl, ?hy⟩) T0 ?_
            case hy =>
              intro X hX
              go_simp
            try simp only [Act.put, List.getElem_toArray, List.getElem_cons_zero, List.getElem_cons_succ, List.setIfInBounds_toArray, List.set_cons_zero, List.set_cons_succ]
            refine wpAnyG_take [1, 11, 12] (i := 1) (v := (.slice (some ⟨gP, 0, none⟩) (F + 1) (F + 1))) rfl (by kernel_rfl) (by kernel_rfl) (by kernel_rfl) (by kernel_rfl) (by kernel_rfl) (by kernel_rfl) (by kernel_rfl) (by kernel_rfl) (fun _ _ _ h => h) (Or.inl ⟨by rfl, ?hy⟩) T0 ?_
            case hy =>
              intro X hX
              have e0 := at_below c0 hX
              go_simp
            try simp only [Act.put, List.getElem_toArray, List.getElem_cons_zero, List.getElem_cons_succ, List.setIfInBounds_toArray, List.set_cons_zero, List.set_cons_succ]
            refine wpAnyG_take [2, 11, 12] (i := 2) (v := (.int .i64 gp)) rfl (by kernel_rfl) (by kernel_rfl) (by kernel_rfl) (by kernel_rfl) (by kernel_rfl) (by kernel_rfl) (by kernel_rfl) (by kernel_rfl) (fun _ _ _ h => h) (Or.inl ⟨by rfl, ?hy⟩) T0 ?_
            case hy =>
              intro X hX
              go_simp
            try simp only [Act.put, List.getElem_toArray, List.getElem_cons_zero, List.getElem_cons_succ, List.setIfInBounds_toArray, List.set_cons_zero, List.set_cons_succ]
            refine wpAnyG_take [3, 4, 6, 7, 10, 12] (i := 3) (v := (.pointer (some ⟨b6, 0, none⟩))) rfl (by kernel_rfl) (by kernel_rfl) (by kernel_rfl) (by kernel_rfl) (by kernel_rfl) (by kernel_rfl) (by kernel_rfl) (by kernel_rfl) (fun _ _ _ h => h) (Or.inl ⟨by rfl, ?hy⟩) T0 ?_
            case hy =>
              intro X hX
              go_simp
            try simp only [Act.put, List.getElem_toArray, List.getElem_cons_zero, List.getElem_cons_succ, List.setIfInBounds_toArray, List.set_cons_zero, List.set_cons_succ]
            refine wpAnyG_take [4, 6, 7, 10, 12] (i := 4) (v := (.slice (some ⟨gP, 0, none⟩) (F + 1) (F + 1))) rfl (by kernel_rfl) (by kernel_rfl) (by kernel_rfl) (by kernel_rfl) (by kernel_rfl) (by kernel_rfl) (by kernel_rfl) (by kernel_rfl) (fun _ _ _ h => h) (Or.inl ⟨by rfl, ?hy⟩) T0 ?_
            case hy =>
              intro X hX
              have e0 := at_below c0 hX
              go_simp
            try simp only [Act.put, List.getElem_toArray, List.getElem_cons_zero, List.getElem_cons_succ, List.setIfInBounds_toArray, List.set_cons_zero, List.set_cons_succ]
            refine wpAnyG_take [5, 6, 7, 10, 12] (i := 5) (v := (.int .i64 gp)) rfl (by kernel_rfl) (by kernel_rfl) (by kernel_rfl) (by kernel_rfl) (by kernel_rfl) (by kernel_rfl) (by kernel_rfl) (by kernel_rfl) (fun _ _ _ h => h) (Or.inl ⟨by rfl, ?hy⟩) T0 ?_
            case hy =>
              intro X hX
              go_simp
            try simp only [Act.put, List.getElem_toArray, List.getElem_cons_zero, List.getElem_cons_succ, List.setIfInBounds_toArray, List.set_cons_zero, List.set_cons_succ]
            refine wpAnyG_take [6, 7, 10, 12] (i := 6) (v := (.pointer (some ⟨gP, gp, none⟩))) rfl (by kernel_rfl) (by kernel_rfl) (by kernel_rfl) (by kernel_rfl) (by kernel_rfl) (by kernel_rfl) (by kernel_rfl) (by kernel_rfl) (fun _ _ _ h => h) (Or.inl ⟨by rfl, ?hy⟩) T0 ?_
            case hy =>
              intro X hX
              go_simp
            try simp only [Act.put, List.getElem_toArray, List.getElem_cons_zero, List.getElem_cons_succ, List.setIfInBounds_toArray, List.set_cons_zero, List.set_cons_succ]
            refine wpAnyG_take [7, 10, 12] (i := 7) (v := (.string y)) rfl (by kernel_rfl) (by kernel_rfl) (by kernel_rfl) (by kernel_rfl) (by kernel_rfl) (by kernel_rfl) (by kernel_rfl) (by kernel_rfl) (fun _ _ _ h => h) (Or.inl ⟨by rfl, ?hy⟩) T0 ?_
            case hy =>
              intro X hX
              have e0 := at_below cy hX
              go_simp
            try simp only [Act.put, List.getElem_toArray, List.getElem_cons_zero, List.getElem_cons_succ, List.setIfInBounds_toArray, List.set_cons_zero, List.set_cons_succ]
            refine wpAnyG_take [8, 9, 10, 12] (i := 8) (v := (.pointer (some ⟨q, 2, none⟩))) rfl (by kernel_rfl) (by kernel_rfl) (by kernel_rfl) (by kernel_rfl) (by kernel_rfl) (by kernel_rfl) (by kernel_rfl) (by kernel_rfl) (fun _ _ _ h => h) (Or.inl ⟨by rfl, ?hy⟩) T0 ?_
            case hy =>
              intro X hX
              go_simp
            try simp only [Act.put, List.getElem_toArray, List.getElem_cons_zero, List.getElem_cons_succ, List.setIfInBounds_toArray, List.set_cons_zero, List.set_cons_succ]
            refine wpAnyG_take [9, 10, 12] (i := 9) (v := (.string p)) rfl (by kernel_rfl) (by kernel_rfl) (by kernel_rfl) (by kernel_rfl) (by kernel_rfl) (by kernel_rfl) (by kernel_rfl) (by kernel_rfl) (fun _ _ _ h => h) (Or.inl ⟨by rfl, ?hy⟩) T0 ?_
            case hy =>
              intro X hX
              have e0 := at_below x2 hX
              go_simp
            try simp only [Act.put, List.getElem_toArray, List.getElem_cons_zero, List.getElem_cons_succ, List.setIfInBounds_toArray, List.set_cons_zero, List.set_cons_succ]
            refine wpAnyG_take [10, 12] (i := 10) (v := (.string (y ++ p))) rfl (by kernel_rfl) (by kernel_rfl) (by kernel_rfl) (by kernel_rfl) (by kernel_rfl) (by kernel_rfl) (by kernel_rfl) (by kernel_rfl) (fun _ _ _ h => h) (Or.inl ⟨by rfl, ?hy⟩) T0 ?_
            case hy =>
              intro X hX
              go_simp
            try simp only [Act.put, List.getElem_toArray, List.getElem_cons_zero, List.getElem_cons_succ, List.setIfInBounds_toArray, List.set_cons_zero, List.set_cons_succ]
            have ky := at_below cy T0
            have fy := own_freeK (HV.out.1.below T0).2.1 gp
            have HP := Lib.hid ((HV.out.1.below T0).putP HV.out.2.1.lP (i := gp) (by have := HV.out.2.1.gl; have := HV.out.2.1.pf; omega) (y ++ p))
            have HQ := Lib.hid ((HV.out.2.2.below' T0).other (B' := gP) (fun e => Blk.not_row HV.out.2.2 (by decide) HV.out.1.2.1 (by rw [e]; rfl)) gp (.string (y ++ p)))
            refine wpAnyG_all (rs := [11]) (by kernel_rfl) (by simp) ?_
            intro i hi
            simp only [List.mem_cons, List.not_mem_nil, or_false] at hi
            subst hi
            refine wpOp_now rfl rfl ?_
            go_simp
            refine ⟨fun _ => T0, ?_⟩
            try simp only [Act.put, List.getElem_toArray, List.getElem_cons_zero, List.getElem_cons_succ, List.setIfInBounds_toArray, List.set_cons_zero, List.set_cons_succ]
            refine wpAnyG_all (rs := [12]) (by kernel_rfl) (by simp) ?_
            intro i hi
            simp only [List.mem_cons, List.not_mem_nil, or_false] at hi
            subst hi
            refine wpOp_now rfl rfl ?_
            go_simp
            refine ⟨fun h => (nomatch (show (false : Bool) = true from h)), ?_⟩
            refine wpAnyG_done (by kernel_rfl) ?_ _
            refine NoPanic.normal ?_
            have HM : Hid (SayK _ W F gP gD gB b6 (Ps.set gp (y ++ p)) Ds xs ∧ SayX F (atL l) (Ps.set gp (y ++ p)) Ds xs pl gp ((bL d).map .D ++ (List.replicate kn .K ++ atL (l.drop (k + 1)))) ∧ Blk _ q #[.int .i64 kn, .string d, .string p] 54) := Lib.hid ⟨HP.out, HV.out.2.1.put p HY.out, HQ.out⟩
            clear T0 ky fy HP HQ cy
            go_wp2
            go_loopw [7, 11] (fun a j Z => ∃ (u jn : Nat) (Ds2 : List Bool) (xs2 : List Value), a = .int .i64 u ∧ j = .int .i64 jn ∧ u = pl + jn ∧ jn ≤ d.size ∧ SayK Z W F gP gD gB b6 (Ps.set gp (y ++ p)) Ds2 xs2 ∧ SayX F (atL l) (Ps.set gp (y ++ p)) Ds2 xs2 u gp (((bL d).drop jn).map .D ++ (List.replicate kn .K ++ atL (l.drop (k + 1)))) ∧ Blk Z q #[.int .i64 kn, .string d, .string p] 54) (fun _ j _ => d.size - (intOf j).toNat)
            case atStart => exact ⟨pl, 0, Ds, xs, rfl, rfl, rfl, by omega, HM.out.1, HM.out.2.1, HM.out.2.2⟩
            case round =>
              obtain ⟨u, jn, Ds2, xs2, rfl, rfl, hu, hjn, hK, hS, hbx⟩ := hrel
              have x1 : wr.cell? ⟨q, 1, none⟩ = some (.string d) := hbx.cell 1
              by_cases hjd : jn < d.size
              · obtain ⟨c0, c1, c2⟩ := hK.cells
                have huF : u < F := by have := HS.out; omega
                have huF2 : (u : Int) < (F : Int) := by omega
                have hjd2 : (jn : Int) < (d.size : Int) := by omega
                have hcl := hS.cl u (Nat.le_refl _) huF
                have cd : wr.cell? ⟨gD, u, none⟩ = some (.bool false) := by
                  obtain ⟨g', o', e', hc⟩ := RowAt.of_own encO_len hK.2.2.1 hS.lD u false hcl
                  cases e'
                  have h := hc 0 (by decide)
                  simpa [encO] using h
                have fd := own_freeK hK.2.2.1 u
                have j8 : IntKind.i64.wrap ((u : Int) + 1) = ((u + 1 : Nat) : Int) := by rw [IntWalk.i64_in _ (by omega)]; omega
                have j9 : IntKind.i64.wrap ((jn : Int) + 1) = ((jn + 1 : Nat) : Int) := by rw [IntWalk.i64_in _ (by omega)]; omega
                have hK2 := hK.putD hS.lD huF true
                have hb2 := hbx.other (B' := gD) (fun e => Blk.not_row hbx (by decide) hK.2.2.1 (by rw [e]; rfl)) u (.bool true)
                obtain ⟨Z2, hZ2⟩ : ∃ Z, wr.setCell ⟨gD, u, none⟩ (.bool true) = Z := ⟨_, rfl⟩
                rw [hZ2] at hK2 hb2
                have HZ2 := Lib.hid (And.intro hK2 hb2)
                have HW2 := Lib.hid hZ2
                have HD2 := Lib.hid (And.intro ((hS.cast (drop_cons hjd _)).drop huF) (And.intro hu hjn))
                have g2 : Z2.cell? ⟨b6, 2, none⟩ = some (.slice (some ⟨gB, 0, none⟩) F F) := hK2.cells.2.2
                have g1 : Z2.cell? ⟨q, 1, none⟩ = some (.string d) := hb2.cell 1
                clear hK hS hbx hcl hu hjn hK2 hb2 hZ2
                go_wp2
                rw [HW2.out]
                refine wp_region_noPanic ?_
                refine wp_region_g (S := untilG [8] (fun X => Below Z2.heap.size Z2 X)) (by kernel_rfl) ?_
                obtain ⟨X0, hX0⟩ : ∃ Z, Z2.drew = Z := ⟨_, rfl⟩
                have T0 : Below Z2.heap.size Z2 X0 := hX0 ▸ (Below.refl Z2.heap.size Z2).drew
                rw [hX0]
                clear hX0
                refine wpAnyG_take [0, 1, 7, 8] (i := 0) (v := (.pointer (some ⟨b6, 2, none⟩))) rfl (by kernel_rfl) (by kernel_rfl) (by kernel_rfl) (by kernel_rfl) (by kernel_rfl) (by kernel_rfl) (by kernel_rfl) (by kernel_rfl) (fun _ _ _ h => h) (Or.inl ⟨by rfl, ?hy⟩) T0 ?_
                case hy =>
                  intro X hX
                  go_simp
                try simp only [Act.put, List.getElem_toArray, List.getElem_cons_zero, List.getElem_cons_succ, List.setIfInBounds_toArray, List.set_cons_zero, List.set_cons_succ]
                refine wpAnyG_take [1, 7, 8] (i := 1) (v := (.slice (some ⟨gB, 0, none⟩) F F)) rfl (by kernel_rfl) (by kernel_rfl) (by kernel_rfl) (by kernel_rfl) (by kernel_rfl) (by kernel_rfl) (by kernel_rfl) (by kernel_rfl) (fun _ _ _ h => h) (Or.inl ⟨by rfl, ?hy⟩) T0 ?_
                case hy =>
                  intro X hX
                  have e0 := at_below g2 hX
                  go_simp
                try simp only [Act.put, List.getElem_toArray, List.getElem_cons_zero, List.getElem_cons_succ, List.setIfInBounds_toArray, List.set_cons_zero, List.set_cons_succ]
                refine wpAnyG_take [2, 7, 8] (i := 2) (v := (.int .i64 u)) rfl (by kernel_rfl) (by kernel_rfl) (by kernel_rfl) (by kernel_rfl) (by kernel_rfl) (by kernel_rfl) (by kernel_rfl) (by kernel_rfl) (fun _ _ _ h => h) (Or.inl ⟨by rfl, ?hy⟩) T0 ?_
                case hy =>
                  intro X hX
                  go_simp
                try simp only [Act.put, List.getElem_toArray, List.getElem_cons_zero, List.getElem_cons_succ, List.setIfInBounds_toArray, List.set_cons_zero, List.set_cons_succ]
                refine wpAnyG_take [3, 4, 6, 8] (i := 3) (v := (.pointer (some ⟨q, 1, none⟩))) rfl (by kernel_rfl) (by kernel_rfl) (by kernel_rfl) (by kernel_rfl) (by kernel_rfl) (by kernel_rfl) (by kernel_rfl) (by kernel_rfl) (fun _ _ _ h => h) (Or.inl ⟨by rfl, ?hy⟩) T0 ?_
                case hy =>
                  intro X hX
                  go_simp
                try simp only [Act.put, List.getElem_toArray, List.getElem_cons_zero, List.getElem_cons_succ, List.setIfInBounds_toArray, List.set_cons_zero, List.set_cons_succ]
                refine wpAnyG_take [4, 6, 8] (i := 4) (v := (.string d)) rfl (by kernel_rfl) (by kernel_rfl) (by kernel_rfl) (by kernel_rfl) (by kernel_rfl) (by kernel_rfl) (by kernel_rfl) (by kernel_rfl) (fun _ _ _ h => h) (Or.inl ⟨by rfl, ?hy⟩) T0 ?_
                case hy =>
                  intro X hX
                  have e0 := at_below g1 hX
                  go_simp
                try simp only [Act.put, List.getElem_toArray, List.getElem_cons_zero, List.getElem_cons_succ, List.setIfInBounds_toArray, List.set_cons_zero, List.set_cons_succ]
                refine wpAnyG_take [5, 6, 8] (i := 5) (v := (.int .i64 jn)) rfl (by kernel_rfl) (by kernel_rfl) (by kernel_rfl) (by kernel_rfl) (by kernel_rfl) (by kernel_rfl) (by kernel_rfl) (by kernel_rfl) (fun _ _ _ h => h) (Or.inl ⟨by rfl, ?hy⟩) T0 ?_
                case hy =>
                  intro X hX
                  go_simp
                try simp only [Act.put, List.getElem_toArray, List.getElem_cons_zero, List.getElem_cons_succ, List.setIfInBounds_toArray, List.set_cons_zero, List.set_cons_succ]
                refine wpAnyG_take [6, 8] (i := 6) (v := (.int .u8 ((d[jn]'hjd).toNat))) rfl (by kernel_rfl) (by kernel_rfl) (by kernel_rfl) (by kernel_rfl) (by kernel_rfl) (by kernel_rfl) (by kernel_rfl) (by kernel_rfl) (fun _ _ _ h => h) (Or.inl ⟨by rfl, ?hy⟩) T0 ?_
                case hy =>
                  intro X hX
                  (go_simp; try rfl)
                try simp only [Act.put, List.getElem_toArray, List.getElem_cons_zero, List.getElem_cons_succ, List.setIfInBounds_toArray, List.set_cons_zero, List.set_cons_succ]
                have HZ3 := Lib.hid (HZ2.out.1.below T0)
                have HZ4 := Lib.hid (HZ2.out.2.below' T0)
                obtain ⟨vb, cb⟩ : ∃ vb, X0.cell? ⟨gB, u, none⟩ = some vb := by
                  have h1 := HZ3.out.2.2.2.1
                  have hlen := h1.1
                  exact ⟨_, (h1.cellAt u (by omega)).trans (List.getElem?_eq_getElem (by omega))⟩
                have fb := own_freeK HZ3.out.2.2.2.1 u
                refine wpAnyG_all (rs := [7]) (by kernel_rfl) (by simp) ?_
                intro i hi
                simp only [List.mem_cons, List.not_mem_nil, or_false] at hi
                subst hi
                refine wpOp_now rfl rfl ?_
                go_simp
                refine ⟨fun _ => T0, ?_⟩
                try simp only [Act.put, List.getElem_toArray, List.getElem_cons_zero, List.getElem_cons_succ, List.setIfInBounds_toArray, List.set_cons_zero, List.set_cons_succ]
                refine wpAnyG_all (rs := [8]) (by kernel_rfl) (by simp) ?_
                intro i hi
                simp only [List.mem_cons, List.not_mem_nil, or_false] at hi
                subst hi
                refine wpOp_now rfl rfl ?_
                go_simp
                refine ⟨fun h => (nomatch (show (false : Bool) = true from h)), ?_⟩
                refine wpAnyG_done (by kernel_rfl) ?_ _
                refine NoPanic.normal ?_
                have HZ5 := Lib.hid (HZ3.out.putB huF (.int .u8 ((d[jn]'hjd).toNat)))
                have HZ6 := Lib.hid (HZ4.out.other (B' := gB) (fun e => Blk.not_row HZ4.out (by decide) HZ3.out.2.2.2.1 (by rw [e]; rfl)) u (.int .u8 ((d[jn]'hjd).toNat)))
                clear T0 cb fb c0 c1 c2 cd fd g1 g2 x1
                go_wp2
                go_roundw
                case rel => exact ⟨u + 1, jn + 1, _, _, by go_num, by go_num, by have := HD2.out.2.1; omega, by omega, HZ5.out, HD2.out.1, HZ6.out⟩
                case measure => simp [intOf] <;> omega
              · obtain rfl : jn = d.size := by omega
                have x0 : wr.cell? ⟨q, 0, none⟩ = some (.int .i64 kn) := hbx.cell 0
                have hjd2 : ¬ (d.size : Int) < (d.size : Int) := by omega
                have HZ := Lib.hid (And.intro hK (And.intro hS hu))
                clear hK hS hbx hjn
                by_cases hk0 : 0 < kn
                · have d9 : decide ((0 : Int) < (kn : Int)) = true := decide_eq_true (by omega)
                  have j8 : IntKind.i64.wrap ((u : Int) + (kn : Int)) = ((u + kn : Nat) : Int) := by rw [IntWalk.i64_in _ (by have := HS.out; omega)]; omega
                  clear hu
                  go_wp2
                  go_roundw
                  case rel =>
                    have hd0 := HKd.out hk0
                    have hu := HZ.out.2.2
                    refine ⟨k + 1, u + kn, u + kn, t + kn + p.size, _, _, _, by go_num, by go_num, by go_num, by omega, HZ.out.1, ((HZ.out.2.1.cast (by rw [List.drop_of_length_le (by rw [bL_len]; exact Nat.le_refl _)]; rfl : _ = (List.replicate kn .K ++ atL (l.drop (k + 1))))).keep hk0 (by have := HS.out; omega)), trivial, ?_, by have := HS.out; omega⟩
                    · rw [hu]; have := HSz.out; rw [show pl + d.size + kn = pl + kn + d.size from by omega]; exact this
                  case measure => simp [intOf] <;> omega
                · have d9 : decide ((0 : Int) < (kn : Int)) = false := decide_eq_false (by omega)
                  clear hu
                  go_wp2
                  go_roundw
                  case rel =>
                    have hu := HZ.out.2.2
                    obtain rfl : kn = 0 := by omega
                    refine ⟨k + 1, u, gp, t + 0 + p.size, _, _, _, by go_num, by go_num, by go_num, by omega, HZ.out.1, ((HZ.out.2.1.cast (by rw [List.drop_of_length_le (by rw [bL_len]; exact Nat.le_refl _)]; rfl : _ = (List.replicate 0 .K ++ atL (l.drop (k + 1)))))), trivial, ?_, by have := HS.out; omega⟩
                    · rw [hu]; exact HSz.out
                  case measure => simp [intOf] <;> omega
    · obtain rfl : k = l.length := by omega
      rw [List.drop_length, sizeG] at hsz
      rw [List.drop_length] at hS
      cases hsz
      obtain ⟨c0, c1, c2⟩ := hK.cells
      have n3 := Blk.below' HW.out.2 hK.2.2.2.2
      have f0 := n3.frozen 0
      have f1 := n3.frozen 1
      have f2 := n3.frozen 2
      have z0 : wr.cell? ⟨w.heap.size, 0, none⟩ = some (.slice none 0 0) := n3.cell 0
      have z1 : wr.cell? ⟨w.heap.size, 1, none⟩ = some (.slice none 0 0) := n3.cell 1
      have z2 : wr.cell? ⟨w.heap.size, 2, none⟩ = some (.slice none 0 0) := n3.cell 2
      have nF := ((n3.set 0 (.slice (some ⟨gP, 0, none⟩) (F + 1) (F + 1))).set 1 (.slice (some ⟨gD, 0, none⟩) F F)).set 2 (.slice (some ⟨gB, 0, none⟩) F F)
      simp only [List.setIfInBounds_toArray, List.set_cons_zero, List.set_cons_succ] at nF
      have hwW : w.heap.size < W.heap.size := HW.out.2.lt
      have rP := own_low (own_low (own_low (own_base hK.2.1 (Nat.le_refl _)) hwW 0 (.slice (some ⟨gP, 0, none⟩) (F + 1) (F + 1))) hwW 1 (.slice (some ⟨gD, 0, none⟩) F F)) hwW 2 (.slice (some ⟨gB, 0, none⟩) F F)
      have rD := own_low (own_low (own_low (own_base hK.2.2.1 (Nat.le_refl _)) hwW 0 (.slice (some ⟨gP, 0, none⟩) (F + 1) (F + 1))) hwW 1 (.slice (some ⟨gD, 0, none⟩) F F)) hwW 2 (.slice (some ⟨gB, 0, none⟩) F F)
      have rB := own_low (own_low (own_low (own_base hK.2.2.2.1 (Nat.le_refl _)) hwW 0 (.slice (some ⟨gP, 0, none⟩) (F + 1) (F + 1))) hwW 1 (.slice (some ⟨gD, 0, none⟩) F F)) hwW 2 (.slice (some ⟨gB, 0, none⟩) F F)
      have hBF : Below w.heap.size w (((wr.setCell ⟨w.heap.size, 0, none⟩ (.slice (some ⟨gP, 0, none⟩) (F + 1) (F + 1))).setCell ⟨w.heap.size, 1, none⟩ (.slice (some ⟨gD, 0, none⟩) F F)).setCell ⟨w.heap.size, 2, none⟩ (.slice (some ⟨gB, 0, none⟩) F F)) :=
        (((HW.out.1.trans (hK.2.2.2.2.mono HW.out.1.size)).setCell (p := ⟨w.heap.size, 0, none⟩) (Nat.le_refl _) _).setCell (p := ⟨w.heap.size, 1, none⟩) (Nat.le_refl _) _).setCell (p := ⟨w.heap.size, 2, none⟩) (Nat.le_refl _) _
      obtain ⟨Zf, hZf⟩ : ∃ Z, (((wr.setCell ⟨w.heap.size, 0, none⟩ (.slice (some ⟨gP, 0, none⟩) (F + 1) (F + 1))).setCell ⟨w.heap.size, 1, none⟩ (.slice (some ⟨gD, 0, none⟩) F F)).setCell ⟨w.heap.size, 2, none⟩ (.slice (some ⟨gB, 0, none⟩) F F)) = Z := ⟨_, rfl⟩
      rw [hZf] at nF rP rD rB hBF
      have y0 : Zf.cell? ⟨w.heap.size, 0, none⟩ = some (.slice (some ⟨gP, 0, none⟩) (F + 1) (F + 1)) := nF.cell 0
      have y1 : Zf.cell? ⟨w.heap.size, 1, none⟩ = some (.slice (some ⟨gD, 0, none⟩) F F) := nF.cell 1
      have y2 : Zf.cell? ⟨w.heap.size, 2, none⟩ = some (.slice (some ⟨gB, 0, none⟩) F F) := nF.cell 2
      have HE := Lib.hid (And.intro (own_base (b' := w.heap.size) rP (Nat.le_of_lt hwW)) (And.intro (own_base (b' := w.heap.size) rD (Nat.le_of_lt hwW)) (And.intro (own_base (b' := w.heap.size) rB (Nat.le_of_lt hwW)) (And.intro (And.intro hS.lP hS.lD) (And.intro hS.fin hBF)))))
      have HZf := Lib.hid hZf
      clear nF rP rD rB hBF hS hK n3 hZf
      go_wp2
      try rw [HZf.out]
      exact bodyPost_ret (v := .agg #[.slice (some ⟨gP, 0, none⟩) (F + 1) (F + 1), .slice (some ⟨gD, 0, none⟩) F F, .slice (some ⟨gB, 0, none⟩) F F]) (by simp [results, Try.f14, go_sem, y0, y1, y2]) rfl (by
        obtain ⟨Bs, e1, e2, e3⟩ := HE.out.2.2.2.2.1
        have rB := HE.out.2.2.1
        rw [e1] at rB
        exact ⟨_, _, Bs, _, _, _, rfl, HE.out.1, HE.out.2.1, rB, HE.out.2.2.2.1.1, HE.out.2.2.2.1.2, e2, by rw [e3, plain_fd, nf_can], HE.out.2.2.2.2.2⟩)
end Go.Proofs.Ytjccoiephdopkaa
