/- Stage 31: Scale, the document's. -/
import Derived.Test.YtieaeicpmibjkaaChy
namespace Go.Proofs.Ytieaeicpmibjkaa
set_option linter.unusedVariables false
set_option linter.unusedSimpArgs false
open Go Go.RowKit Go.Shelf
set_option maxRecDepth 100000

def okE (total r : Nat) : Bool := finB total && finB r && !flt total 0 && fgt r 0
def ScPostD (l : List Nt) (total : Nat) (w : World) (e : Ending) (w' : World) : Prop := ∃ r, LenIs l r ∧ ((okE total r = false ∧ e = .returned (.tuple #[.slice none 0 0, .bool false])) ∨
  (okE total r = true ∧ ∃ q v l', FIs .quo total r q ∧ ScOK q l l' ∧ e = .returned (.tuple #[v, .bool true]) ∧ w'.ownsRow w.heap.size 48 6 v l.length (l'.flatMap encN))) ∧ Below w.heap.size w w'
def ScD (w : World) (n nb : Nat) (v : Value) (cs : Array Value) (xs : List Value) (X : World) : Prop := X.ownsRow w.heap.size 48 6 v n xs ∧ Blk X nb cs 48 ∧ Below w.heap.size w X
theorem ScD.drewN {w : World} {n nb : Nat} {v : Value} {cs : Array Value} {xs : List Value} {X : World} (h : ScD w n nb v cs xs X) (k : Nat) : ScD w n nb v cs xs (X.drewN k) :=
  ⟨h.1, h.2.1, ⟨h.2.2.os, h.2.2.tape, h.2.2.output, h.2.2.size, h.2.2.block⟩⟩
theorem ScD.set {w : World} {n nb : Nat} {v : Value} {cs : Array Value} {xs : List Value} {X : World} (h : ScD w n nb v cs xs X) (hne : v.ownBlock ≠ some nb) (hb : w.heap.size ≤ nb) (j : Nat) (u : Value) : ScD w n nb v (cs.setIfInBounds j u) xs (X.setCell ⟨nb, j, none⟩ u) :=
  ⟨h.1.kept (grownBy_setCell X nb j u) (by
    cases e : v.ownBlock with
    | none => exact .inl rfl
    | some q => exact .inr (fun e2 => hne (e.trans (by first | exact e2 | exact e2.symm)))), h.2.1.set j u, h.2.2.setCell (p := ⟨nb, j, none⟩) hb u⟩
def ScJ (l : List Nt) (q : Nat) (w : World) (i s : Value) (wr : World) : Prop := ∃ (k : Nat) (v : Value) (done : List Nt), i = .int .i64 k ∧ v = s ∧ k ≤ l.length ∧ ScOK q (l.take k) done ∧ wr.ownsRow w.heap.size 48 6 v k (done.flatMap encN) ∧ Below w.heap.size w wr

set_option maxHeartbeats 8000000 in
theorem scaleD_any (l : List Nt) (o : Option Addr) (cap total : Nat) (hn : l.length ≤ 1048576) (w : World) (hr : RowAt w encN 6 o l) :
    Calls Try.prog 12 #[.slice o l.length cap, .float .f64 total] w (ScPostD l total w) := by
  obtain ⟨i0, hi, hz0, hz1, hz2⟩ := info_parts infoNote
  have cL := fun W h => lengthD_any l o cap (by omega) W h
  have cT := fun W => finiteD_any total W
  obtain ⟨n, hnn⟩ : ∃ n, l.length = n := ⟨_, rfl⟩
  rw [hnn] at cL hn
  rw [hnn]
  obtain ⟨f1, hf1⟩ : ∃ b, finB total = b := ⟨_, rfl⟩
  obtain ⟨f3, hf3⟩ : ∃ b, (FloatKind.f64.format.order total 0 == some .lt) = b := ⟨_, rfl⟩
  rw [hf1] at cT
  have HN := Lib.hid (And.intro hnn (And.intro hf1 hf3))
  clear hnn hf1
  go_enter Try.func12, Try.ntmps12
  go_wp2_with (fail)
  refine (cL _ hr).mono ?_
  rintro e w1 ⟨r, rfl, hlen, hB1⟩
  have cR := fun W => finiteD_any r W
  have hr1 := hr.below encN_len (by decide) hB1
  obtain ⟨f2, hf2⟩ : ∃ b, finB r = b := ⟨_, rfl⟩
  obtain ⟨f4, hf4⟩ : ∃ b, (FloatKind.f64.format.order r 0 == some .gt) = b := ⟨_, rfl⟩
  rw [hf2] at cR
  have hok : okE total r = (f1 && f2 && !f3 && f4) := by
    unfold okE flt fgt ford
    rw [HN.out.2.1, hf2]
    show (_ && _ && !(FloatKind.f64.format.order total 0 == some .lt) && (FloatKind.f64.format.order r 0 == some .gt)) = _
    rw [hf3, hf4]
  have HO := Lib.hid (And.intro hok (And.intro hlen hB1))
  have HR := Lib.hid hr
  clear hok hlen hf2 cL hr hB1
  go_wp2_with (fail)
  refine (cT _).mono ?_
  rintro e w' ⟨rfl, rfl⟩
  have bad : ∀ W, Below w1.heap.size w1 W → (f1 && f2 && !f3 && f4) = false → ScPostD l total w (.returned (.tuple #[.slice none 0 0, .bool false])) W := fun W hW hb =>
    ⟨r, HO.out.2.1, .inl ⟨HO.out.1.trans hb, rfl⟩, HO.out.2.2.trans (hW.mono HO.out.2.2.size)⟩
  have d0 : ∀ k, Below w1.heap.size w1 (w1.drewN k) := fun k => ⟨rfl, rfl, rfl, Nat.le_refl _, fun _ _ => rfl⟩
  have HBAD := Lib.hid (And.intro bad d0)
  clear bad d0
  cases f1
  · go_wp2
    go_ret2
    exact HBAD.out.1 _ (HBAD.out.2 _) rfl
  go_wp2_with (fail)
  refine (cR _).mono ?_
  rintro e w' ⟨rfl, rfl⟩
  cases f2
  · go_wp2
    go_ret2
    exact HBAD.out.1 _ (HBAD.out.2 _) rfl
  cases f3
  case true =>
    go_wp2
    go_ret2
    exact HBAD.out.1 _ (HBAD.out.2 _) rfl
  cases f4
  case false =>
    go_wp2
    go_ret2
    exact HBAD.out.1 _ (HBAD.out.2 _) rfl
  go_wp2
  have Fq := fres_is .quo total r (w1.drewN (fnd .sub total total + fnd .sub r r))
  obtain ⟨q, hq⟩ : ∃ q, fres .quo total r (w1.drewN (fnd .sub total total + fnd .sub r r)) = q := ⟨_, rfl⟩
  rw [hq] at Fq ⊢
  have hB2 := HBAD.out.2 (fnd .sub total total + fnd .sub r r + fnd .quo total r)
  obtain ⟨W2, hW2⟩ : ∃ Z, w1.drewN (fnd .sub total total + fnd .sub r r + fnd .quo total r) = Z := ⟨_, rfl⟩
  rw [hW2] at hB2 ⊢
  have hr2 := hr1.below encN_len (by decide) hB2
  clear hq hW2 hr1
  have hBw := HO.out.2.2.trans (hB2.mono HO.out.2.2.size)
  have hst : ScJ l q w (.int .i64 0) (.slice none 0 0) W2 := ⟨0, _, [], rfl, rfl, by omega, ⟨by simp, fun i x y h _ => by simp at h⟩, World.ownsRow_nil _ _ _ _, hBw⟩
  have HF := Lib.hid Fq
  clear Fq HBAD cT cR
  go_loopw [35, 8] (ScJ l q w) (fun i _ _ => n - (intOf i).toNat)
  case atStart => exact hst
  case round =>
    clear hst
    obtain ⟨k, v, done, rfl, rfl, hk, hd, hown, hB⟩ := hrel
    rw [HN.out.1] at hk
    by_cases hlt : k < n
    · obtain ⟨x, hx⟩ : ∃ x, l[k]? = some x := ⟨_, List.getElem?_eq_getElem (by rw [HN.out.1]; exact hlt)⟩
      obtain ⟨g, off, rfl, hcl⟩ := (HR.out.below encN_len (by decide) hB) k x hx
      have hdl : done.length = k := by rw [hd.1, List.length_take, HN.out.1]; omega
      have hsn := fun a b (ha : FIs .mul x.at' q a) (hb : FIs .mul x.long q b) => ScOK.snoc hd hx (y := { x with at' := plainF a, long := plainF b }) ⟨rfl, rfl, rfl, rfl, ⟨a, ha, rfl⟩, ⟨b, hb, rfl⟩⟩
      obtain ⟨xl, xb, xw, xs, xa, xo⟩ := x
      have x0 := hcl 0 (by decide)
      have x1 := hcl 1 (by decide)
      have x2 := hcl 2 (by decide)
      have x3 := hcl 3 (by decide)
      have x4 := hcl 4 (by decide)
      have x5 := hcl 5 (by decide)
      simp only [encN, List.getElem?_cons_succ, List.getElem?_cons_zero, Nat.add_zero, Nat.zero_add] at x0 x1 x2 x3 x4 x5
      dsimp only at hsn
      obtain ⟨zs, hzs⟩ : ∃ z, done.flatMap encN = z := ⟨_, rfl⟩
      rw [hzs] at hown
      have hvb : v.ownBlock ≠ some wr.heap.size := fun e => by have := (hown.lt _ e).2; omega
      have cP := fun a W => plainD_any a W
      have K0 : ScD w k wr.heap.size v #[.int .i64 xl, .int .i64 xb, .int .i64 xw, .bool xs, .float .f64 xa, .float .f64 xo] zs (wr.alloc (.cells #[.int .i64 xl, .int .i64 xb, .int .i64 xw, .bool xs, .float .f64 xa, .float .f64 xo] 48)) := ⟨hown.alloc _, Blk.new wr #[.int .i64 xl, .int .i64 xb, .int .i64 xw, .bool xs, .float .f64 xa, .float .f64 xo] 48, hB.alloc hB.size _⟩
      have hbn := hB.size
      have HS := Lib.hid (And.intro hsn (And.intro hdl hzs))
      clear hsn hdl hzs hcl hown hB hd hx
      go_wp2_with (fail)
      obtain ⟨nb, hnb⟩ : ∃ z, wr.heap.size = z := ⟨_, rfl⟩
      obtain ⟨W1, hW1⟩ : ∃ Y, wr.alloc (.cells #[.int .i64 xl, .int .i64 xb, .int .i64 xw, .bool xs, .float .f64 xa, .float .f64 xo] 48) = Y := ⟨_, rfl⟩
      rw [hW1, hnb] at K0
      rw [hW1, hnb]
      rw [hnb] at hvb hbn
      clear hW1 hnb x0 x1 x2 x3 x4 x5
      refine wp_region_noPanic ?_
      refine wp_region_g (S := untilG [11, 13] (fun Y => Blk Y nb #[.int .i64 xl, .int .i64 xb, .int .i64 xw, .bool xs, .float .f64 xa, .float .f64 xo] 48)) (by kernel_rfl) ?_
      have K1 : ScD w k nb v #[.int .i64 xl, .int .i64 xb, .int .i64 xw, .bool xs, .float .f64 xa, .float .f64 xo] zs W1.drew := K0.drewN 1
      obtain ⟨X0, hX0⟩ : ∃ Y, W1.drew = Y := ⟨_, rfl⟩
      rw [hX0] at K1 ⊢
      have T0 := K1.2.1
      clear hX0 K0
      refine wpAnyG_take [0, 1, 3, 4] (i := 0) (v := (.pointer (some ⟨nb, 4, none⟩))) rfl (by kernel_rfl) (by kernel_rfl) (by kernel_rfl) (by kernel_rfl) (by kernel_rfl) (by kernel_rfl) (by kernel_rfl) (by kernel_rfl) (fun _ _ _ h => h) (Or.inl ⟨by rfl, ?hy⟩) T0 ?_
      case hy =>
        intro X hX
        have e4 := hX.cell 4
        have e5 := hX.cell 5
        simp only [List.getElem?_toArray, List.getElem?_cons_succ, List.getElem?_cons_zero] at e4 e5
        go_simp
      try simp only [Act.put, List.getElem_toArray, List.getElem_cons_zero, List.getElem_cons_succ, List.setIfInBounds_toArray, List.set_cons_zero, List.set_cons_succ]
      refine wpAnyG_take [1, 3, 4] (i := 1) (v := (.float .f64 xa)) rfl (by kernel_rfl) (by kernel_rfl) (by kernel_rfl) (by kernel_rfl) (by kernel_rfl) (by kernel_rfl) (by kernel_rfl) (by kernel_rfl) (fun _ _ _ h => h) (Or.inl ⟨by rfl, ?hy⟩) T0 ?_
      case hy =>
        intro X hX
        have e4 := hX.cell 4
        have e5 := hX.cell 5
        simp only [List.getElem?_toArray, List.getElem?_cons_succ, List.getElem?_cons_zero] at e4 e5
        go_simp
      try simp only [Act.put, List.getElem_toArray, List.getElem_cons_zero, List.getElem_cons_succ, List.setIfInBounds_toArray, List.set_cons_zero, List.set_cons_succ]
      refine wpAnyG_take [2, 3, 4] (i := 2) (v := (.float .f64 q)) rfl (by kernel_rfl) (by kernel_rfl) (by kernel_rfl) (by kernel_rfl) (by kernel_rfl) (by kernel_rfl) (by kernel_rfl) (by kernel_rfl) (fun _ _ _ h => h) (Or.inl ⟨by rfl, ?hy⟩) T0 ?_
      case hy =>
        intro X hX
        have e4 := hX.cell 4
        have e5 := hX.cell 5
        simp only [List.getElem?_toArray, List.getElem?_cons_succ, List.getElem?_cons_zero] at e4 e5
        go_simp
      try simp only [Act.put, List.getElem_toArray, List.getElem_cons_zero, List.getElem_cons_succ, List.setIfInBounds_toArray, List.set_cons_zero, List.set_cons_succ]
      refine wpAnyG_take [5, 6, 8, 9] (i := 5) (v := (.pointer (some ⟨nb, 5, none⟩))) rfl (by kernel_rfl) (by kernel_rfl) (by kernel_rfl) (by kernel_rfl) (by kernel_rfl) (by kernel_rfl) (by kernel_rfl) (by kernel_rfl) (fun _ _ _ h => h) (Or.inl ⟨by rfl, ?hy⟩) T0 ?_
      case hy =>
        intro X hX
        have e4 := hX.cell 4
        have e5 := hX.cell 5
        simp only [List.getElem?_toArray, List.getElem?_cons_succ, List.getElem?_cons_zero] at e4 e5
        go_simp
      try simp only [Act.put, List.getElem_toArray, List.getElem_cons_zero, List.getElem_cons_succ, List.setIfInBounds_toArray, List.set_cons_zero, List.set_cons_succ]
      refine wpAnyG_take [6, 8, 9] (i := 6) (v := (.float .f64 xo)) rfl (by kernel_rfl) (by kernel_rfl) (by kernel_rfl) (by kernel_rfl) (by kernel_rfl) (by kernel_rfl) (by kernel_rfl) (by kernel_rfl) (fun _ _ _ h => h) (Or.inl ⟨by rfl, ?hy⟩) T0 ?_
      case hy =>
        intro X hX
        have e4 := hX.cell 4
        have e5 := hX.cell 5
        simp only [List.getElem?_toArray, List.getElem?_cons_succ, List.getElem?_cons_zero] at e4 e5
        go_simp
      try simp only [Act.put, List.getElem_toArray, List.getElem_cons_zero, List.getElem_cons_succ, List.setIfInBounds_toArray, List.set_cons_zero, List.set_cons_succ]
      refine wpAnyG_take [7, 8, 9] (i := 7) (v := (.float .f64 q)) rfl (by kernel_rfl) (by kernel_rfl) (by kernel_rfl) (by kernel_rfl) (by kernel_rfl) (by kernel_rfl) (by kernel_rfl) (by kernel_rfl) (fun _ _ _ h => h) (Or.inl ⟨by rfl, ?hy⟩) T0 ?_
      case hy =>
        intro X hX
        have e4 := hX.cell 4
        have e5 := hX.cell 5
        simp only [List.getElem?_toArray, List.getElem?_cons_succ, List.getElem?_cons_zero] at e4 e5
        go_simp
      try simp only [Act.put, List.getElem_toArray, List.getElem_cons_zero, List.getElem_cons_succ, List.setIfInBounds_toArray, List.set_cons_zero, List.set_cons_succ]
      refine wpAnyG_all (rs := [3, 8]) (by kernel_rfl) (by simp) ?_
      intro i hi
      simp only [List.mem_cons, List.not_mem_nil, or_false] at hi
      rcases hi with rfl | rfl
      · refine wpOp_now rfl rfl ?_
        go_simp
        have K1x := K1.drewN (fnd .mul xa q)
        have F3 := fres_is .mul xa q X0
        obtain ⟨a3, ha3⟩ : ∃ z, fres .mul xa q X0 = z := ⟨_, rfl⟩
        rw [ha3] at F3 ⊢
        obtain ⟨X1, hX1⟩ : ∃ Y, World.drewN X0 (fnd .mul xa q) = Y := ⟨_, rfl⟩
        rw [hX1] at K1x ⊢
        clear hX1 ha3
        refine ⟨fun _ => K1x.2.1, ?_⟩
        try simp only [Act.put, List.getElem_toArray, List.getElem_cons_zero, List.getElem_cons_succ, List.setIfInBounds_toArray, List.set_cons_zero, List.set_cons_succ]
        refine wpAnyG_all (rs := [4, 8]) (by kernel_rfl) (by simp) ?_
        intro i hi
        simp only [List.mem_cons, List.not_mem_nil, or_false] at hi
        rcases hi with rfl | rfl
        · refine wpOp_now rfl rfl ?_
          go_simp
          refine (cP _ _).mono ?_
          rintro e Y2 ⟨rfl, hY⟩
          subst hY
          refine ⟨fun _ => K1x.2.1, ?_⟩
          try simp only [Act.put, List.getElem_toArray, List.getElem_cons_zero, List.getElem_cons_succ, List.setIfInBounds_toArray, List.set_cons_zero, List.set_cons_succ]
          have T0 := K1x.2.1
          refine wpAnyG_take [10] (i := 10) (v := (.pointer (some ⟨nb, 4, none⟩))) rfl (by kernel_rfl) (by kernel_rfl) (by kernel_rfl) (by kernel_rfl) (by kernel_rfl) (by kernel_rfl) (by kernel_rfl) (by kernel_rfl) (fun _ _ _ h => h) (Or.inl ⟨by rfl, ?hy⟩) T0 ?_
          case hy =>
            intro X hX
            go_simp
          try simp only [Act.put, List.getElem_toArray, List.getElem_cons_zero, List.getElem_cons_succ, List.setIfInBounds_toArray, List.set_cons_zero, List.set_cons_succ]
          clear T0
          refine wpAnyG_all (rs := [8]) (by kernel_rfl) (by simp) ?_
          intro i hi
          simp only [List.mem_cons, List.not_mem_nil, or_false] at hi
          subst hi
          refine wpOp_now rfl rfl ?_
          go_simp
          have K3x := K1x.drewN (fnd .mul xo q)
          have F8 := fres_is .mul xo q Y2
          obtain ⟨a8, ha8⟩ : ∃ z, fres .mul xo q Y2 = z := ⟨_, rfl⟩
          rw [ha8] at F8 ⊢
          obtain ⟨X3, hX3⟩ : ∃ Y, World.drewN Y2 (fnd .mul xo q) = Y := ⟨_, rfl⟩
          rw [hX3] at K3x ⊢
          clear hX3 ha8
          refine ⟨fun _ => K3x.2.1, ?_⟩
          try simp only [Act.put, List.getElem_toArray, List.getElem_cons_zero, List.getElem_cons_succ, List.setIfInBounds_toArray, List.set_cons_zero, List.set_cons_succ]
          refine wpAnyG_all (rs := [9]) (by kernel_rfl) (by simp) ?_
          intro i hi
          simp only [List.mem_cons, List.not_mem_nil, or_false] at hi
          subst hi
          refine wpOp_now rfl rfl ?_
          go_simp
          refine (cP _ _).mono ?_
          rintro e Y4 ⟨rfl, hY⟩
          subst hY
          refine ⟨fun _ => K3x.2.1, ?_⟩
          try simp only [Act.put, List.getElem_toArray, List.getElem_cons_zero, List.getElem_cons_succ, List.setIfInBounds_toArray, List.set_cons_zero, List.set_cons_succ]
          refine wpAnyG_all (rs := [11]) (by kernel_rfl) (by simp) ?_
          intro i hi
          simp only [List.mem_cons, List.not_mem_nil, or_false] at hi
          subst hi
          refine wpOp_now rfl rfl ?_
          have u5 := K3x.2.1.cell 4
          simp only [List.setIfInBounds_toArray, List.set_cons_succ, List.set_cons_zero, List.getElem?_toArray, List.getElem?_cons_succ, List.getElem?_cons_zero] at u5
          have fr5 := K3x.2.1.frozen 4
          go_simp
          have K5x := K3x.set hvb hbn 4 (.float .f64 (plainF a3))
          refine ⟨fun h => (nomatch (show (false : Bool) = true from h)), ?_⟩
          try simp only [Act.put, List.getElem_toArray, List.getElem_cons_zero, List.getElem_cons_succ, List.setIfInBounds_toArray, List.set_cons_zero, List.set_cons_succ]
          refine wpAnyG_all (rs := [12]) (by kernel_rfl) (by simp) ?_
          intro i hi
          simp only [List.mem_cons, List.not_mem_nil, or_false] at hi
          subst hi
          refine wpOp_now rfl rfl ?_
          go_simp
          refine ⟨fun h => (nomatch (show (false : Bool) = true from h)), ?_⟩
          try simp only [Act.put, List.getElem_toArray, List.getElem_cons_zero, List.getElem_cons_succ, List.setIfInBounds_toArray, List.set_cons_zero, List.set_cons_succ]
          refine wpAnyG_all (rs := [13]) (by kernel_rfl) (by simp) ?_
          intro i hi
          simp only [List.mem_cons, List.not_mem_nil, or_false] at hi
          subst hi
          refine wpOp_now rfl rfl ?_
          have u7 := K5x.2.1.cell 5
          simp only [List.setIfInBounds_toArray, List.set_cons_succ, List.set_cons_zero, List.getElem?_toArray, List.getElem?_cons_succ, List.getElem?_cons_zero] at u7
          have fr7 := K5x.2.1.frozen 5
          go_simp
          have K7x := K5x.set hvb hbn 5 (.float .f64 (plainF a8))
          refine ⟨fun h => (nomatch (show (false : Bool) = true from h)), ?_⟩
          try simp only [Act.put, List.getElem_toArray, List.getElem_cons_zero, List.getElem_cons_succ, List.setIfInBounds_toArray, List.set_cons_zero, List.set_cons_succ]
          refine wpAnyG_done (by kernel_rfl) ?_ _
          refine NoPanic.normal ?_
          obtain ⟨Z, hZ⟩ : ∃ Z, ((Y4.setCell ⟨nb, 4, none⟩ (.float .f64 (plainF a3))).setCell ⟨nb, 5, none⟩ (.float .f64 (plainF a8))) = Z := ⟨_, rfl⟩
          rw [hZ] at K7x ⊢
          clear hZ
          simp only [List.setIfInBounds_toArray, List.set_cons_succ, List.set_cons_zero] at K7x
          have w0 := K7x.2.1.cell 0
          have w1 := K7x.2.1.cell 1
          have w2 := K7x.2.1.cell 2
          have w3 := K7x.2.1.cell 3
          have w4 := K7x.2.1.cell 4
          have w5 := K7x.2.1.cell 5
          simp only [List.getElem?_toArray, List.getElem?_cons_succ, List.getElem?_cons_zero] at w0 w1 w2 w3 w4 w5
          obtain ⟨oo, oc, rfl, _⟩ := own_slice K7x.1
          have hsz := K7x.2.2.size
          have HK := Lib.hid (And.intro (K7x.2.2.alloc hsz (.cells #[.int .i64 xl, .int .i64 xb, .int .i64 xw, .bool xs, .float .f64 (plainF a3), .float .f64 (plainF a8)] 48)) (K7x.1.alloc (.cells #[.int .i64 xl, .int .i64 xb, .int .i64 xw, .bool xs, .float .f64 (plainF a3), .float .f64 (plainF a8)] 48)))
          clear K7x
          go_wp2_with (at_builtin; refine wpList_append_own _ rfl _ _ 27 rfl w.heap.size 48 i0 (.agg #[.int .i64 0, .int .i64 0, .int .i64 0, .bool false, .float .f64 0, .float .f64 0]) 6 48 Try.underlying27 hi hz0 hz1 hz2 rfl (by decide) _ _ _ rfl HK.out.2 ⟨Z.heap.size, 0, none⟩ 1 1 [.int .i64 xl, .int .i64 xb, .int .i64 xw, .bool xs, .float .f64 (plainF a3), .float .f64 (plainF a8)] rfl rfl (World.news_of_block (cs := #[.int .i64 xl, .int .i64 xb, .int .i64 xw, .bool xs, .float .f64 (plainF a3), .float .f64 (plainF a8)]) (t := 48) (fr := (0, 0)) (World.alloc_heap_new Z _)) (fun x hx => by simp at hx; rcases hx with rfl | rfl | rfl | rfl | rfl | rfl <;> rfl) (by unfold maxLen; omega) (by omega) (by simp; omega) ?_; intro v' w9 hown' hgrow _)
          go_roundw
          case rel =>
            obtain ⟨hsn, hdl, hzs⟩ := HS.out
            refine ⟨k + 1, v', _, by go_num, rfl, by rw [HN.out.1]; omega, hsn a3 a8 F3 F8, ?_, HK.out.1.grown hgrow (by simp; omega) (fun r hr => (HK.out.2.lt r hr).1)⟩
            rw [List.flatMap_append, hzs]
            exact hown'
          case measure => simp [intOf]; omega
        · refine wpOp_now rfl rfl ?_
          go_simp
          have K8x := K1x.drewN (fnd .mul xo q)
          have F8 := fres_is .mul xo q X1
          obtain ⟨a8, ha8⟩ : ∃ z, fres .mul xo q X1 = z := ⟨_, rfl⟩
          rw [ha8] at F8 ⊢
          obtain ⟨X8, hX8⟩ : ∃ Y, World.drewN X1 (fnd .mul xo q) = Y := ⟨_, rfl⟩
          rw [hX8] at K8x ⊢
          clear hX8 ha8
          refine ⟨fun _ => K8x.2.1, ?_⟩
          try simp only [Act.put, List.getElem_toArray, List.getElem_cons_zero, List.getElem_cons_succ, List.setIfInBounds_toArray, List.set_cons_zero, List.set_cons_succ]
          refine wpAnyG_all (rs := [4]) (by kernel_rfl) (by simp) ?_
          intro i hi
          simp only [List.mem_cons, List.not_mem_nil, or_false] at hi
          subst hi
          refine wpOp_now rfl rfl ?_
          go_simp
          refine (cP _ _).mono ?_
          rintro e Y9 ⟨rfl, hY⟩
          subst hY
          refine ⟨fun _ => K8x.2.1, ?_⟩
          try simp only [Act.put, List.getElem_toArray, List.getElem_cons_zero, List.getElem_cons_succ, List.setIfInBounds_toArray, List.set_cons_zero, List.set_cons_succ]
          have T0 := K8x.2.1
          refine wpAnyG_take [10] (i := 10) (v := (.pointer (some ⟨nb, 4, none⟩))) rfl (by kernel_rfl) (by kernel_rfl) (by kernel_rfl) (by kernel_rfl) (by kernel_rfl) (by kernel_rfl) (by kernel_rfl) (by kernel_rfl) (fun _ _ _ h => h) (Or.inl ⟨by rfl, ?hy⟩) T0 ?_
          case hy =>
            intro X hX
            go_simp
          try simp only [Act.put, List.getElem_toArray, List.getElem_cons_zero, List.getElem_cons_succ, List.setIfInBounds_toArray, List.set_cons_zero, List.set_cons_succ]
          clear T0
          refine wpAnyG_all (rs := [9]) (by kernel_rfl) (by simp) ?_
          intro i hi
          simp only [List.mem_cons, List.not_mem_nil, or_false] at hi
          subst hi
          refine wpOp_now rfl rfl ?_
          go_simp
          refine (cP _ _).mono ?_
          rintro e Y10 ⟨rfl, hY⟩
          subst hY
          refine ⟨fun _ => K8x.2.1, ?_⟩
          try simp only [Act.put, List.getElem_toArray, List.getElem_cons_zero, List.getElem_cons_succ, List.setIfInBounds_toArray, List.set_cons_zero, List.set_cons_succ]
          refine wpAnyG_all (rs := [11]) (by kernel_rfl) (by simp) ?_
          intro i hi
          simp only [List.mem_cons, List.not_mem_nil, or_false] at hi
          subst hi
          refine wpOp_now rfl rfl ?_
          have u11 := K8x.2.1.cell 4
          simp only [List.setIfInBounds_toArray, List.set_cons_succ, List.set_cons_zero, List.getElem?_toArray, List.getElem?_cons_succ, List.getElem?_cons_zero] at u11
          have fr11 := K8x.2.1.frozen 4
          go_simp
          have K11x := K8x.set hvb hbn 4 (.float .f64 (plainF a3))
          refine ⟨fun h => (nomatch (show (false : Bool) = true from h)), ?_⟩
          try simp only [Act.put, List.getElem_toArray, List.getElem_cons_zero, List.getElem_cons_succ, List.setIfInBounds_toArray, List.set_cons_zero, List.set_cons_succ]
          refine wpAnyG_all (rs := [12]) (by kernel_rfl) (by simp) ?_
          intro i hi
          simp only [List.mem_cons, List.not_mem_nil, or_false] at hi
          subst hi
          refine wpOp_now rfl rfl ?_
          go_simp
          refine ⟨fun h => (nomatch (show (false : Bool) = true from h)), ?_⟩
          try simp only [Act.put, List.getElem_toArray, List.getElem_cons_zero, List.getElem_cons_succ, List.setIfInBounds_toArray, List.set_cons_zero, List.set_cons_succ]
          refine wpAnyG_all (rs := [13]) (by kernel_rfl) (by simp) ?_
          intro i hi
          simp only [List.mem_cons, List.not_mem_nil, or_false] at hi
          subst hi
          refine wpOp_now rfl rfl ?_
          have u13 := K11x.2.1.cell 5
          simp only [List.setIfInBounds_toArray, List.set_cons_succ, List.set_cons_zero, List.getElem?_toArray, List.getElem?_cons_succ, List.getElem?_cons_zero] at u13
          have fr13 := K11x.2.1.frozen 5
          go_simp
          have K13x := K11x.set hvb hbn 5 (.float .f64 (plainF a8))
          refine ⟨fun h => (nomatch (show (false : Bool) = true from h)), ?_⟩
          try simp only [Act.put, List.getElem_toArray, List.getElem_cons_zero, List.getElem_cons_succ, List.setIfInBounds_toArray, List.set_cons_zero, List.set_cons_succ]
          refine wpAnyG_done (by kernel_rfl) ?_ _
          refine NoPanic.normal ?_
          obtain ⟨Z, hZ⟩ : ∃ Z, ((Y10.setCell ⟨nb, 4, none⟩ (.float .f64 (plainF a3))).setCell ⟨nb, 5, none⟩ (.float .f64 (plainF a8))) = Z := ⟨_, rfl⟩
          rw [hZ] at K13x ⊢
          clear hZ
          simp only [List.setIfInBounds_toArray, List.set_cons_succ, List.set_cons_zero] at K13x
          have w0 := K13x.2.1.cell 0
          have w1 := K13x.2.1.cell 1
          have w2 := K13x.2.1.cell 2
          have w3 := K13x.2.1.cell 3
          have w4 := K13x.2.1.cell 4
          have w5 := K13x.2.1.cell 5
          simp only [List.getElem?_toArray, List.getElem?_cons_succ, List.getElem?_cons_zero] at w0 w1 w2 w3 w4 w5
          obtain ⟨oo, oc, rfl, _⟩ := own_slice K13x.1
          have hsz := K13x.2.2.size
          have HK := Lib.hid (And.intro (K13x.2.2.alloc hsz (.cells #[.int .i64 xl, .int .i64 xb, .int .i64 xw, .bool xs, .float .f64 (plainF a3), .float .f64 (plainF a8)] 48)) (K13x.1.alloc (.cells #[.int .i64 xl, .int .i64 xb, .int .i64 xw, .bool xs, .float .f64 (plainF a3), .float .f64 (plainF a8)] 48)))
          clear K13x
          go_wp2_with (at_builtin; refine wpList_append_own _ rfl _ _ 27 rfl w.heap.size 48 i0 (.agg #[.int .i64 0, .int .i64 0, .int .i64 0, .bool false, .float .f64 0, .float .f64 0]) 6 48 Try.underlying27 hi hz0 hz1 hz2 rfl (by decide) _ _ _ rfl HK.out.2 ⟨Z.heap.size, 0, none⟩ 1 1 [.int .i64 xl, .int .i64 xb, .int .i64 xw, .bool xs, .float .f64 (plainF a3), .float .f64 (plainF a8)] rfl rfl (World.news_of_block (cs := #[.int .i64 xl, .int .i64 xb, .int .i64 xw, .bool xs, .float .f64 (plainF a3), .float .f64 (plainF a8)]) (t := 48) (fr := (0, 0)) (World.alloc_heap_new Z _)) (fun x hx => by simp at hx; rcases hx with rfl | rfl | rfl | rfl | rfl | rfl <;> rfl) (by unfold maxLen; omega) (by omega) (by simp; omega) ?_; intro v' w9 hown' hgrow _)
          go_roundw
          case rel =>
            obtain ⟨hsn, hdl, hzs⟩ := HS.out
            refine ⟨k + 1, v', _, by go_num, rfl, by rw [HN.out.1]; omega, hsn a3 a8 F3 F8, ?_, HK.out.1.grown hgrow (by simp; omega) (fun r hr => (HK.out.2.lt r hr).1)⟩
            rw [List.flatMap_append, hzs]
            exact hown'
          case measure => simp [intOf]; omega
      · refine wpOp_now rfl rfl ?_
        go_simp
        have K14x := K1.drewN (fnd .mul xo q)
        have F8 := fres_is .mul xo q X0
        obtain ⟨a8, ha8⟩ : ∃ z, fres .mul xo q X0 = z := ⟨_, rfl⟩
        rw [ha8] at F8 ⊢
        obtain ⟨X14, hX14⟩ : ∃ Y, World.drewN X0 (fnd .mul xo q) = Y := ⟨_, rfl⟩
        rw [hX14] at K14x ⊢
        clear hX14 ha8
        refine ⟨fun _ => K14x.2.1, ?_⟩
        try simp only [Act.put, List.getElem_toArray, List.getElem_cons_zero, List.getElem_cons_succ, List.setIfInBounds_toArray, List.set_cons_zero, List.set_cons_succ]
        refine wpAnyG_all (rs := [3]) (by kernel_rfl) (by simp) ?_
        intro i hi
        simp only [List.mem_cons, List.not_mem_nil, or_false] at hi
        subst hi
        refine wpOp_now rfl rfl ?_
        go_simp
        have K15x := K14x.drewN (fnd .mul xa q)
        have F3 := fres_is .mul xa q X14
        obtain ⟨a3, ha3⟩ : ∃ z, fres .mul xa q X14 = z := ⟨_, rfl⟩
        rw [ha3] at F3 ⊢
        obtain ⟨X15, hX15⟩ : ∃ Y, World.drewN X14 (fnd .mul xa q) = Y := ⟨_, rfl⟩
        rw [hX15] at K15x ⊢
        clear hX15 ha3
        refine ⟨fun _ => K15x.2.1, ?_⟩
        try simp only [Act.put, List.getElem_toArray, List.getElem_cons_zero, List.getElem_cons_succ, List.setIfInBounds_toArray, List.set_cons_zero, List.set_cons_succ]
        refine wpAnyG_all (rs := [4]) (by kernel_rfl) (by simp) ?_
        intro i hi
        simp only [List.mem_cons, List.not_mem_nil, or_false] at hi
        subst hi
        refine wpOp_now rfl rfl ?_
        go_simp
        refine (cP _ _).mono ?_
        rintro e Y16 ⟨rfl, hY⟩
        subst hY
        refine ⟨fun _ => K15x.2.1, ?_⟩
        try simp only [Act.put, List.getElem_toArray, List.getElem_cons_zero, List.getElem_cons_succ, List.setIfInBounds_toArray, List.set_cons_zero, List.set_cons_succ]
        have T0 := K15x.2.1
        refine wpAnyG_take [10] (i := 10) (v := (.pointer (some ⟨nb, 4, none⟩))) rfl (by kernel_rfl) (by kernel_rfl) (by kernel_rfl) (by kernel_rfl) (by kernel_rfl) (by kernel_rfl) (by kernel_rfl) (by kernel_rfl) (fun _ _ _ h => h) (Or.inl ⟨by rfl, ?hy⟩) T0 ?_
        case hy =>
          intro X hX
          go_simp
        try simp only [Act.put, List.getElem_toArray, List.getElem_cons_zero, List.getElem_cons_succ, List.setIfInBounds_toArray, List.set_cons_zero, List.set_cons_succ]
        clear T0
        refine wpAnyG_all (rs := [9]) (by kernel_rfl) (by simp) ?_
        intro i hi
        simp only [List.mem_cons, List.not_mem_nil, or_false] at hi
        subst hi
        refine wpOp_now rfl rfl ?_
        go_simp
        refine (cP _ _).mono ?_
        rintro e Y17 ⟨rfl, hY⟩
        subst hY
        refine ⟨fun _ => K15x.2.1, ?_⟩
        try simp only [Act.put, List.getElem_toArray, List.getElem_cons_zero, List.getElem_cons_succ, List.setIfInBounds_toArray, List.set_cons_zero, List.set_cons_succ]
        refine wpAnyG_all (rs := [11]) (by kernel_rfl) (by simp) ?_
        intro i hi
        simp only [List.mem_cons, List.not_mem_nil, or_false] at hi
        subst hi
        refine wpOp_now rfl rfl ?_
        have u18 := K15x.2.1.cell 4
        simp only [List.setIfInBounds_toArray, List.set_cons_succ, List.set_cons_zero, List.getElem?_toArray, List.getElem?_cons_succ, List.getElem?_cons_zero] at u18
        have fr18 := K15x.2.1.frozen 4
        go_simp
        have K18x := K15x.set hvb hbn 4 (.float .f64 (plainF a3))
        refine ⟨fun h => (nomatch (show (false : Bool) = true from h)), ?_⟩
        try simp only [Act.put, List.getElem_toArray, List.getElem_cons_zero, List.getElem_cons_succ, List.setIfInBounds_toArray, List.set_cons_zero, List.set_cons_succ]
        refine wpAnyG_all (rs := [12]) (by kernel_rfl) (by simp) ?_
        intro i hi
        simp only [List.mem_cons, List.not_mem_nil, or_false] at hi
        subst hi
        refine wpOp_now rfl rfl ?_
        go_simp
        refine ⟨fun h => (nomatch (show (false : Bool) = true from h)), ?_⟩
        try simp only [Act.put, List.getElem_toArray, List.getElem_cons_zero, List.getElem_cons_succ, List.setIfInBounds_toArray, List.set_cons_zero, List.set_cons_succ]
        refine wpAnyG_all (rs := [13]) (by kernel_rfl) (by simp) ?_
        intro i hi
        simp only [List.mem_cons, List.not_mem_nil, or_false] at hi
        subst hi
        refine wpOp_now rfl rfl ?_
        have u20 := K18x.2.1.cell 5
        simp only [List.setIfInBounds_toArray, List.set_cons_succ, List.set_cons_zero, List.getElem?_toArray, List.getElem?_cons_succ, List.getElem?_cons_zero] at u20
        have fr20 := K18x.2.1.frozen 5
        go_simp
        have K20x := K18x.set hvb hbn 5 (.float .f64 (plainF a8))
        refine ⟨fun h => (nomatch (show (false : Bool) = true from h)), ?_⟩
        try simp only [Act.put, List.getElem_toArray, List.getElem_cons_zero, List.getElem_cons_succ, List.setIfInBounds_toArray, List.set_cons_zero, List.set_cons_succ]
        refine wpAnyG_done (by kernel_rfl) ?_ _
        refine NoPanic.normal ?_
        obtain ⟨Z, hZ⟩ : ∃ Z, ((Y17.setCell ⟨nb, 4, none⟩ (.float .f64 (plainF a3))).setCell ⟨nb, 5, none⟩ (.float .f64 (plainF a8))) = Z := ⟨_, rfl⟩
        rw [hZ] at K20x ⊢
        clear hZ
        simp only [List.setIfInBounds_toArray, List.set_cons_succ, List.set_cons_zero] at K20x
        have w0 := K20x.2.1.cell 0
        have w1 := K20x.2.1.cell 1
        have w2 := K20x.2.1.cell 2
        have w3 := K20x.2.1.cell 3
        have w4 := K20x.2.1.cell 4
        have w5 := K20x.2.1.cell 5
        simp only [List.getElem?_toArray, List.getElem?_cons_succ, List.getElem?_cons_zero] at w0 w1 w2 w3 w4 w5
        obtain ⟨oo, oc, rfl, _⟩ := own_slice K20x.1
        have hsz := K20x.2.2.size
        have HK := Lib.hid (And.intro (K20x.2.2.alloc hsz (.cells #[.int .i64 xl, .int .i64 xb, .int .i64 xw, .bool xs, .float .f64 (plainF a3), .float .f64 (plainF a8)] 48)) (K20x.1.alloc (.cells #[.int .i64 xl, .int .i64 xb, .int .i64 xw, .bool xs, .float .f64 (plainF a3), .float .f64 (plainF a8)] 48)))
        clear K20x
        go_wp2_with (at_builtin; refine wpList_append_own _ rfl _ _ 27 rfl w.heap.size 48 i0 (.agg #[.int .i64 0, .int .i64 0, .int .i64 0, .bool false, .float .f64 0, .float .f64 0]) 6 48 Try.underlying27 hi hz0 hz1 hz2 rfl (by decide) _ _ _ rfl HK.out.2 ⟨Z.heap.size, 0, none⟩ 1 1 [.int .i64 xl, .int .i64 xb, .int .i64 xw, .bool xs, .float .f64 (plainF a3), .float .f64 (plainF a8)] rfl rfl (World.news_of_block (cs := #[.int .i64 xl, .int .i64 xb, .int .i64 xw, .bool xs, .float .f64 (plainF a3), .float .f64 (plainF a8)]) (t := 48) (fr := (0, 0)) (World.alloc_heap_new Z _)) (fun x hx => by simp at hx; rcases hx with rfl | rfl | rfl | rfl | rfl | rfl <;> rfl) (by unfold maxLen; omega) (by omega) (by simp; omega) ?_; intro v' w9 hown' hgrow _)
        go_roundw
        case rel =>
          obtain ⟨hsn, hdl, hzs⟩ := HS.out
          refine ⟨k + 1, v', _, by go_num, rfl, by rw [HN.out.1]; omega, hsn a3 a8 F3 F8, ?_, HK.out.1.grown hgrow (by simp; omega) (fun r hr => (HK.out.2.lt r hr).1)⟩
          rw [List.flatMap_append, hzs]
          exact hown'
        case measure => simp [intOf]; omega
    · obtain rfl : k = n := by omega
      obtain ⟨oo, oc, rfl, _⟩ := own_slice hown
      have hfin : ScPostD l total w (.returned (.tuple #[.slice oo k oc, .bool true])) wr := by
        refine ⟨r, HO.out.2.1, .inr ⟨HO.out.1, q, .slice oo k oc, done, HF.out, ?_, rfl, ?_⟩, hB⟩
        · rw [List.take_of_length_le (by rw [HN.out.1]; omega)] at hd
          exact hd
        · rw [HN.out.1]; exact hown
      have HZ := Lib.hid hfin
      clear hfin hown hB hd
      go_wp2
      go_ret2
      exact HZ.out
end Go.Proofs.Ytieaeicpmibjkaa
