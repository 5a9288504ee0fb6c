/- Stage 31: Scale, the program's. -/
import Derived.Test.YtieaeicpmibjkaaChx
import Derived.WalkLawsBesides
namespace Go.Proofs.Ytieaeicpmibjkaa
set_option linter.unusedVariables false
set_option linter.unusedSimpArgs false
open Go Go.RowKit Go.Shelf
set_option maxRecDepth 100000

theorem own_empty (w : World) (base : Nat) (hb : base ≤ w.heap.size) : (w.alloc (.cells #[] 48)).ownsRow base 48 6 (.slice (some ⟨w.heap.size, 0, none⟩) 0 0) 0 [] :=
  ⟨rfl, .inr ⟨w.heap.size, 0, #[], rfl, hb, World.alloc_heap_new w _, Nat.le_refl _, by unfold maxLen; omega, rfl, rfl⟩⟩
set_option maxHeartbeats 4000000 in
theorem clone_any (l : List Nt) (o : Option Addr) (cap : Nat) (hf : NForm o l.length cap) (hn : l.length ≤ 1048576) (w : World) (hr : RowAt w encN 6 o l) :
    Calls Try.prog 37 #[.slice o l.length cap] w fun e w' => ∃ v, e = .returned v ∧ w'.ownsRow w.heap.size 48 6 v l.length (l.flatMap encN) ∧ Below w.heap.size w w' := by
  obtain ⟨i0, hi, hz0, hz1, hz2⟩ := info_parts infoNote
  rcases hf with ⟨rfl, rfl, h0⟩ | ⟨a, rfl, h1, h2⟩
  · obtain rfl : l = [] := List.eq_nil_of_length_eq_zero h0
    have hnil : ∀ W, (binOp .eql 27 (.slice none 0 0) (.slice none 0 0)).run Try.prog W = .ok (.bool true) W := fun _ => by kernel_rfl
    simp only [List.length_nil]
    go_enter Try.func37, Try.ntmps37
    go_wp2
    go_ret
    exact ⟨_, rfl, World.ownsRow_nil _ _ _ _, Below.refl _ _⟩
  · have hnil : ∀ W, (binOp .eql 27 (.slice (some a) l.length cap) (.slice none 0 0)).run Try.prog W = .ok (.bool false) W := fun _ => by kernel_rfl
    have hB := (Below.refl w.heap.size w).alloc (Nat.le_refl _) (.cells #[] 48)
    have hown := own_empty w w.heap.size (Nat.le_refl _)
    have hnews := rowAt_news (hr.below encN_len (by decide) hB)
    go_enter Try.func37, Try.ntmps37
    go_wp2_with (at_builtin; refine wpList_append_own _ rfl _ _ 27 rfl w.heap.size 48 i0 (.agg #[.int .i64 0, .int .i64 0, .int .i64 0, .bool false, .float .f64 0, .float .f64 0]) 6 48 Try.underlying27 hi hz0 hz1 hz2 rfl (by decide) _ 0 [] rfl hown a l.length cap (l.flatMap encN) rfl (fl_len encN_len l) hnews (encN_one l) (by unfold maxLen; omega) (by omega) (by simp) ?_; intro v2 w2 hown2 hg2 _)
    go_ret
    exact ⟨v2, rfl, by simpa using hown2, hB.grown hg2 (by simp) (fun r hr => (hown.lt r hr).1)⟩

def okS (total r : Nat) : Bool := finB total && finB r && !flt total 0 && !(flt r 0 || feq r 0)
/-- A note scaled. -/
def ScN (q : Nat) (x y : Nt) : Prop := y.line = x.line ∧ y.beat = x.beat ∧ y.word = x.word ∧ y.strong = x.strong ∧ (∃ a, FIs .mul x.at' q a ∧ y.at' = plainF a) ∧ ∃ b, FIs .mul x.long q b ∧ y.long = plainF b
def ScOK (q : Nat) (l l' : List Nt) : Prop := l'.length = l.length ∧ ∀ (i : Nat) (x y : Nt), l[i]? = some x → l'[i]? = some y → ScN q x y
def ScPost (l : List Nt) (total : Nat) (w : World) (e : Ending) (w' : World) : Prop := ∃ r, LenIs l r ∧ ((okS total r = false ∧ e = .returned (.tuple #[.slice none 0 0, .int .i64 2])) ∨
  (okS total r = true ∧ ∃ q v l', FIs .quo total r q ∧ ScOK q l l' ∧ e = .returned (.tuple #[v, .int .i64 0]) ∧ w'.ownsRow w.heap.size 48 6 v l.length (l'.flatMap encN))) ∧ Below w.heap.size w w'

theorem set_two (done rest : List Nt) (x : Nt) (a b : Nat) : (((done ++ x :: rest).flatMap encN).set (done.length * 6 + 4) (.float .f64 a)).set (done.length * 6 + 5) (.float .f64 b) = (done ++ { x with at' := a, long := b } :: rest).flatMap encN := by
  rw [List.flatMap_append, List.flatMap_append, List.flatMap_cons, List.flatMap_cons]
  have hl : (done.flatMap encN).length = done.length * 6 := fl_len encN_len done
  rw [List.set_append_right _ _ (by omega), List.set_append_right _ _ (by omega), hl]
  rw [show done.length * 6 + 4 - done.length * 6 = 4 by omega, show done.length * 6 + 5 - done.length * 6 = 5 by omega]
  rfl
def ScG (w : World) (n g c nb : Nat) (cs : Array Value) (xs : List Value) (X : World) : Prop := X.ownsRow w.heap.size 48 6 (.slice (some ⟨g, 0, none⟩) n c) n xs ∧ Blk X nb cs 48 ∧ Below w.heap.size w X
theorem ScG.drewN {w : World} {n g c nb : Nat} {cs : Array Value} {xs : List Value} {X : World} (h : ScG w n g c nb cs xs X) (k : Nat) : ScG w n g c nb cs xs (X.drewN k) :=
  ⟨h.1, h.2.1, ⟨h.2.2.os, h.2.2.tape, h.2.2.output, h.2.2.size, h.2.2.block⟩⟩
theorem ScG.set {w : World} {n g c nb : Nat} {cs : Array Value} {xs : List Value} {X : World} (h : ScG w n g c nb cs xs X) (hne : nb ≠ g) (j : Nat) (v : Value) : ScG w n g c nb cs (xs.set j v) (X.setCell ⟨g, j, none⟩ v) :=
  ⟨(h.1.stored j v).1, h.2.1.other hne j v, h.2.2.setCell (p := ⟨g, j, none⟩) (h.1.lt g rfl).1 v⟩
theorem ScG.cell {w : World} {n g c nb j : Nat} {cs : Array Value} {xs : List Value} {X : World} (h : ScG w n g c nb cs xs X) (hj : j < n * 6) : ∃ u, X.cell? ⟨g, j, none⟩ = some u := by
  obtain ⟨u, hu⟩ := own_has h.1 hj
  exact ⟨u, (h.1.cellAt j hj).trans hu⟩

theorem own_base {w : World} {b b' n sz : Nat} {e : TypeId} {v : Value} {xs : List Value} (h : w.ownsRow b e sz v n xs) (hb : b' ≤ b) : w.ownsRow b' e sz v n xs :=
  ⟨h.1, h.2.imp id (fun ⟨g, c, cur, a1, a2, a3⟩ => ⟨g, c, cur, a1, Nat.le_trans hb a2, a3⟩)⟩
def ScI (l : List Nt) (q : Nat) (v : Value) (w : World) (i : Value) (wr : World) : Prop := ∃ (k : Nat) (done : List Nt), i = .int .i64 k ∧ k ≤ l.length ∧ ScOK q (l.take k) done ∧ wr.ownsRow w.heap.size 48 6 v l.length ((done ++ l.drop k).flatMap encN) ∧ Below w.heap.size w wr
theorem ScOK.snoc {q k : Nat} {l done : List Nt} {x y : Nt} (h : ScOK q (l.take k) done) (hx : l[k]? = some x) (hs : ScN q x y) : ScOK q (l.take (k + 1)) (done ++ [y]) := by
  have hk : k < l.length := (List.getElem?_eq_some_iff.1 hx).1
  have hd : done.length = k := by rw [h.1]; simp; omega
  refine ⟨by simp [hd]; omega, fun i a b ha hb => ?_⟩
  by_cases hi : i < k
  · rw [List.getElem?_append_left (by omega)] at hb
    refine h.2 i a b ?_ hb
    rw [List.getElem?_take, if_pos hi]
    rw [List.getElem?_take, if_pos (by omega)] at ha
    exact ha
  · have : i < (done ++ [y]).length := (List.getElem?_eq_some_iff.1 hb).1
    simp at this
    obtain rfl : i = k := by omega
    rw [List.getElem?_append_right (by omega), hd] at hb
    simp at hb
    subst hb
    rw [List.getElem?_take, if_pos (by omega), hx] at ha
    cases ha
    exact hs

set_option maxHeartbeats 8000000 in
theorem scale_any (l : List Nt) (o : Option Addr) (cap total : Nat) (hf : NForm o l.length cap) (hn : l.length ≤ 1048576) (w : World) (hr : RowAt w encN 6 o l) :
    Calls Try.prog 17 #[.slice o l.length cap, .float .f64 total] w (ScPost l total w) := by
  have cL := fun W h => length_any l o cap (by omega) W h
  have cT := fun W => finite_any total W
  have cC := fun W h => clone_any l o cap hf hn W h
  obtain ⟨n, hnn⟩ : ∃ n, l.length = n := ⟨_, rfl⟩
  rw [hnn] at cL cC hn
  rw [hnn]
  obtain ⟨f1, hf1⟩ : ∃ b, finB total = b := ⟨_, rfl⟩
  obtain ⟨f3, hf3⟩ : ∃ b, (FloatKind.f64.format.order total 0 == some .lt) = b := ⟨_, rfl⟩
  rw [hf1] at cT
  have HN := Lib.hid (And.intro hnn (And.intro hf1 hf3))
  clear hnn hf1
  go_enter Try.func17, Try.ntmps17
  go_wp2_with (fail)
  refine (cL _ hr).mono ?_
  rintro e w1 ⟨r, rfl, hlen, hB1⟩
  have cR := fun W => finite_any r W
  have hr1 := hr.below encN_len (by decide) hB1
  obtain ⟨f2, hf2⟩ : ∃ b, finB r = b := ⟨_, rfl⟩
  obtain ⟨f4, hf4⟩ : ∃ b, (FloatKind.f64.format.order r 0 == some .lt) = b := ⟨_, rfl⟩
  obtain ⟨f5, hf5⟩ : ∃ b, (FloatKind.f64.format.order r 0 == some .eq) = b := ⟨_, rfl⟩
  rw [hf2] at cR
  have hok : okS total r = (f1 && f2 && !f3 && !(f4 || f5)) := by
    unfold okS flt feq ford
    rw [HN.out.2.1, hf2]
    show (_ && _ && !(FloatKind.f64.format.order total 0 == some .lt) && !((FloatKind.f64.format.order r 0 == some .lt) || (FloatKind.f64.format.order r 0 == some .eq))) = _
    rw [hf3, hf4, hf5]
  have HO := Lib.hid (And.intro hok (And.intro hlen hB1))
  clear hok hlen hf2 cL hr hB1
  go_wp2_with (fail)
  refine (cT _).mono ?_
  rintro e w' ⟨rfl, rfl⟩
  have bad : ∀ W, Below w1.heap.size w1 W → (f1 && f2 && !f3 && !(f4 || f5)) = false → ScPost l total w (.returned (.tuple #[.slice none 0 0, .int .i64 2])) W := fun W hW hb =>
    ⟨r, HO.out.2.1, .inl ⟨HO.out.1.trans hb, rfl⟩, HO.out.2.2.trans (hW.mono HO.out.2.2.size)⟩
  have d1 : ∀ k j, Below w1.heap.size w1 ((w1.drewN k).drewN j) := fun k j => ⟨rfl, rfl, rfl, Nat.le_refl _, fun _ _ => rfl⟩
  have d0 : ∀ k, Below w1.heap.size w1 (w1.drewN k) := fun k => ⟨rfl, rfl, rfl, Nat.le_refl _, fun _ _ => rfl⟩
  have HBAD := Lib.hid (And.intro bad (And.intro d0 d1))
  clear bad d0 d1
  cases f1
  · go_wp2
    go_ret2
    exact HBAD.out.1 _ (HBAD.out.2.1 _) rfl
  go_wp2_with (fail)
  refine (cR _).mono ?_
  rintro e w' ⟨rfl, rfl⟩
  cases f2
  · go_wp2
    go_ret2
    exact HBAD.out.1 _ (HBAD.out.2.1 _) rfl
  cases f3
  case true =>
    go_wp2
    go_ret2
    exact HBAD.out.1 _ (HBAD.out.2.1 _) rfl
  cases f4
  case true =>
    go_wp2
    go_ret2
    exact HBAD.out.1 _ (HBAD.out.2.1 _) rfl
  cases f5
  case true =>
    go_wp2
    go_ret2
    exact HBAD.out.1 _ (HBAD.out.2.1 _) rfl
  go_wp2_with (fail)
  have Fq := fres_is .quo total r (w1.drewN (fnd .sub total total + fnd .sub r r))
  obtain ⟨q, hq⟩ : ∃ q, fres .quo total r (w1.drewN (fnd .sub total total + fnd .sub r r)) = q := ⟨_, rfl⟩
  rw [hq] at Fq ⊢
  have hB2 := HBAD.out.2.1 (fnd .sub total total + fnd .sub r r + fnd .quo total r)
  obtain ⟨W2, hW2⟩ : ∃ Z, w1.drewN (fnd .sub total total + fnd .sub r r + fnd .quo total r) = Z := ⟨_, rfl⟩
  rw [hW2] at hB2 ⊢
  have hr2 := hr1.below encN_len (by decide) hB2
  clear hq hW2 hr1
  refine (cC _ hr2).mono ?_
  rintro e w3 ⟨v, rfl, hown, hb3⟩
  have hBw := (HO.out.2.2.trans (hB2.mono HO.out.2.2.size)).trans (hb3.mono (Nat.le_trans HO.out.2.2.size hB2.size))
  have hown := own_base hown (Nat.le_trans HO.out.2.2.size hB2.size)
  obtain ⟨o', c', rfl, hoo⟩ := own_slice hown
  have hst : ScI l q (.slice o' n c') w (.int .i64 0) w3 := ⟨0, [], rfl, by omega, ⟨by simp, fun i x y h _ => by simp at h⟩, by rw [HN.out.1]; simpa using hown, hBw⟩
  have HF := Lib.hid Fq
  clear hr2 hB2 hown hb3 hBw Fq HBAD cC cT cR
  go_wp2
  go_loopw [36] (ScI l q (.slice o' n c') w) (fun i _ => n - (intOf i).toNat)
  case atStart => exact hst
  case round =>
    clear hst
    obtain ⟨k, done, rfl, hk, hd, hown, hB⟩ := hrel
    rw [HN.out.1] at hk hown
    by_cases hlt : k < n
    · obtain ⟨x, hx⟩ : ∃ x, l[k]? = some x := ⟨_, List.getElem?_eq_getElem (by rw [HN.out.1]; exact hlt)⟩
      have hdl : done.length = k := by rw [hd.1, List.length_take, HN.out.1]; omega
      have hdrop : l.drop k = x :: l.drop (k + 1) := by
        rw [List.drop_eq_getElem_cons (by rw [HN.out.1]; exact hlt)]
        rw [(List.getElem?_eq_some_iff.1 hx).2]
      rw [hdrop] at hown
      have hlen2 : (done ++ x :: l.drop (k + 1)).length = n := by
        have := hown.1
        rw [fl_len encN_len] at this
        omega
      have hRA := RowAt.of_own encN_len hown hlen2
      obtain ⟨g, rfl⟩ := hoo (by omega)
      obtain ⟨g', off', hgo, hcl⟩ := hRA k x (by rw [List.getElem?_append_right (by omega), hdl]; simp)
      cases hgo
      have hs2 := fun a b => set_two done (l.drop (k + 1)) x a b
      have hsn := fun a b (ha : FIs .mul x.at' q a) (hb : FIs .mul x.long q b) => ScOK.snoc hd hx (y := { x with at' := plainF a, long := plainF b }) ⟨rfl, rfl, rfl, rfl, ⟨a, ha, rfl⟩, ⟨b, hb, rfl⟩⟩
      obtain ⟨xl, xb, xw, xs, xa, xo⟩ := x
      have x0 := hcl 0 (by decide)
      have x1 := hcl 1 (by decide)
      have x2 := hcl 2 (by decide)
      have x3 := hcl 3 (by decide)
      have x4 := hcl 4 (by decide)
      have x5 := hcl 5 (by decide)
      simp only [encN, List.getElem?_cons_succ, List.getElem?_cons_zero, Nat.add_zero, Nat.zero_add] at x0 x1 x2 x3 x4 x5
      dsimp only at hs2 hsn
      obtain ⟨zs, hzs⟩ : ∃ z, (done ++ { line := xl, beat := xb, word := xw, strong := xs, at' := xa, long := xo } :: l.drop (k + 1)).flatMap encN = z := ⟨_, rfl⟩
      rw [hzs] at hown
      have hgl := (hown.lt g rfl).2
      have cP := fun a W => plain_any a W
      have q1 : (0 : Int) ≤ (k : Int) := by omega
      have q2 : (k : Int) < (n : Int) := by omega
      have K0 : ScG w n g c' wr.heap.size #[.int .i64 xl, .int .i64 xb, .int .i64 xw, .bool xs, .float .f64 xa, .float .f64 xo] zs (wr.alloc (.cells #[.int .i64 xl, .int .i64 xb, .int .i64 xw, .bool xs, .float .f64 xa, .float .f64 xo] 48)) := ⟨hown.alloc _, Blk.new wr #[.int .i64 xl, .int .i64 xb, .int .i64 xw, .bool xs, .float .f64 xa, .float .f64 xo] 48, hB.alloc hB.size _⟩
      have HS := Lib.hid (And.intro hs2 (And.intro hsn (And.intro hdl hzs)))
      clear hs2 hsn hdl hzs hcl hRA hlen2 hdrop hown hB hd hx
      go_wp2_with (fail)
      have hne : wr.heap.size ≠ g := by omega
      obtain ⟨nb, hnb⟩ : ∃ z, wr.heap.size = z := ⟨_, rfl⟩
      obtain ⟨W1, hW1⟩ : ∃ Y, wr.alloc (.cells #[.int .i64 xl, .int .i64 xb, .int .i64 xw, .bool xs, .float .f64 xa, .float .f64 xo] 48) = Y := ⟨_, rfl⟩
      rw [hW1, hnb] at K0
      rw [hW1, hnb]
      rw [hnb] at hne
      clear hW1 hnb x0 x1 x2 x3 x4 x5
      refine wp_region_noPanic ?_
      refine wp_region_g (S := untilG [] (fun Y => Blk Y nb #[.int .i64 xl, .int .i64 xb, .int .i64 xw, .bool xs, .float .f64 xa, .float .f64 xo] 48)) (by kernel_rfl) ?_
      have K1 : ScG w n g c' nb #[.int .i64 xl, .int .i64 xb, .int .i64 xw, .bool xs, .float .f64 xa, .float .f64 xo] zs W1.drew := K0.drewN 1
      obtain ⟨X0, hX0⟩ : ∃ Y, W1.drew = Y := ⟨_, rfl⟩
      rw [hX0] at K1 ⊢
      have T0 := K1.2.1
      clear hX0 K0
      refine wpAnyG_take [0, 14, 15, 16] (i := 0) (v := (.slice (some ⟨g, 0, none⟩) n c')) rfl (by kernel_rfl) (by kernel_rfl) (by kernel_rfl) (by kernel_rfl) (by kernel_rfl) (by kernel_rfl) (by kernel_rfl) (by kernel_rfl) (fun _ _ _ h => h) (Or.inl ⟨by rfl, ?hy⟩) T0 ?_
      case hy =>
        intro X hX
        have e4 := hX.cell 4
        have e5 := hX.cell 5
        simp only [List.getElem?_toArray, List.getElem?_cons_succ, List.getElem?_cons_zero] at e4 e5
        go_simp
      try simp only [Act.put, List.getElem_toArray, List.getElem_cons_zero, List.getElem_cons_succ, List.setIfInBounds_toArray, List.set_cons_zero, List.set_cons_succ]
      refine wpAnyG_take [1, 14, 15, 16] (i := 1) (v := (.int .i64 k)) rfl (by kernel_rfl) (by kernel_rfl) (by kernel_rfl) (by kernel_rfl) (by kernel_rfl) (by kernel_rfl) (by kernel_rfl) (by kernel_rfl) (fun _ _ _ h => h) (Or.inl ⟨by rfl, ?hy⟩) T0 ?_
      case hy =>
        intro X hX
        have e4 := hX.cell 4
        have e5 := hX.cell 5
        simp only [List.getElem?_toArray, List.getElem?_cons_succ, List.getElem?_cons_zero] at e4 e5
        go_simp
      try simp only [Act.put, List.getElem_toArray, List.getElem_cons_zero, List.getElem_cons_succ, List.setIfInBounds_toArray, List.set_cons_zero, List.set_cons_succ]
      refine wpAnyG_take [2, 17, 18, 19] (i := 2) (v := (.slice (some ⟨g, 0, none⟩) n c')) rfl (by kernel_rfl) (by kernel_rfl) (by kernel_rfl) (by kernel_rfl) (by kernel_rfl) (by kernel_rfl) (by kernel_rfl) (by kernel_rfl) (fun _ _ _ h => h) (Or.inl ⟨by rfl, ?hy⟩) T0 ?_
      case hy =>
        intro X hX
        have e4 := hX.cell 4
        have e5 := hX.cell 5
        simp only [List.getElem?_toArray, List.getElem?_cons_succ, List.getElem?_cons_zero] at e4 e5
        go_simp
      try simp only [Act.put, List.getElem_toArray, List.getElem_cons_zero, List.getElem_cons_succ, List.setIfInBounds_toArray, List.set_cons_zero, List.set_cons_succ]
      refine wpAnyG_take [3, 17, 18, 19] (i := 3) (v := (.int .i64 k)) rfl (by kernel_rfl) (by kernel_rfl) (by kernel_rfl) (by kernel_rfl) (by kernel_rfl) (by kernel_rfl) (by kernel_rfl) (by kernel_rfl) (fun _ _ _ h => h) (Or.inl ⟨by rfl, ?hy⟩) T0 ?_
      case hy =>
        intro X hX
        have e4 := hX.cell 4
        have e5 := hX.cell 5
        simp only [List.getElem?_toArray, List.getElem?_cons_succ, List.getElem?_cons_zero] at e4 e5
        go_simp
      try simp only [Act.put, List.getElem_toArray, List.getElem_cons_zero, List.getElem_cons_succ, List.setIfInBounds_toArray, List.set_cons_zero, List.set_cons_succ]
      refine wpAnyG_take [4, 5, 7, 8, 16] (i := 4) (v := (.pointer (some ⟨nb, 4, none⟩))) rfl (by kernel_rfl) (by kernel_rfl) (by kernel_rfl) (by kernel_rfl) (by kernel_rfl) (by kernel_rfl) (by kernel_rfl) (by kernel_rfl) (fun _ _ _ h => h) (Or.inl ⟨by rfl, ?hy⟩) T0 ?_
      case hy =>
        intro X hX
        have e4 := hX.cell 4
        have e5 := hX.cell 5
        simp only [List.getElem?_toArray, List.getElem?_cons_succ, List.getElem?_cons_zero] at e4 e5
        go_simp
      try simp only [Act.put, List.getElem_toArray, List.getElem_cons_zero, List.getElem_cons_succ, List.setIfInBounds_toArray, List.set_cons_zero, List.set_cons_succ]
      refine wpAnyG_take [5, 7, 8, 16] (i := 5) (v := (.float .f64 xa)) rfl (by kernel_rfl) (by kernel_rfl) (by kernel_rfl) (by kernel_rfl) (by kernel_rfl) (by kernel_rfl) (by kernel_rfl) (by kernel_rfl) (fun _ _ _ h => h) (Or.inl ⟨by rfl, ?hy⟩) T0 ?_
      case hy =>
        intro X hX
        have e4 := hX.cell 4
        have e5 := hX.cell 5
        simp only [List.getElem?_toArray, List.getElem?_cons_succ, List.getElem?_cons_zero] at e4 e5
        go_simp
      try simp only [Act.put, List.getElem_toArray, List.getElem_cons_zero, List.getElem_cons_succ, List.setIfInBounds_toArray, List.set_cons_zero, List.set_cons_succ]
      refine wpAnyG_take [6, 7, 8, 16] (i := 6) (v := (.float .f64 q)) rfl (by kernel_rfl) (by kernel_rfl) (by kernel_rfl) (by kernel_rfl) (by kernel_rfl) (by kernel_rfl) (by kernel_rfl) (by kernel_rfl) (fun _ _ _ h => h) (Or.inl ⟨by rfl, ?hy⟩) T0 ?_
      case hy =>
        intro X hX
        have e4 := hX.cell 4
        have e5 := hX.cell 5
        simp only [List.getElem?_toArray, List.getElem?_cons_succ, List.getElem?_cons_zero] at e4 e5
        go_simp
      try simp only [Act.put, List.getElem_toArray, List.getElem_cons_zero, List.getElem_cons_succ, List.setIfInBounds_toArray, List.set_cons_zero, List.set_cons_succ]
      refine wpAnyG_take [9, 10, 12, 13, 19] (i := 9) (v := (.pointer (some ⟨nb, 5, none⟩))) rfl (by kernel_rfl) (by kernel_rfl) (by kernel_rfl) (by kernel_rfl) (by kernel_rfl) (by kernel_rfl) (by kernel_rfl) (by kernel_rfl) (fun _ _ _ h => h) (Or.inl ⟨by rfl, ?hy⟩) T0 ?_
      case hy =>
        intro X hX
        have e4 := hX.cell 4
        have e5 := hX.cell 5
        simp only [List.getElem?_toArray, List.getElem?_cons_succ, List.getElem?_cons_zero] at e4 e5
        go_simp
      try simp only [Act.put, List.getElem_toArray, List.getElem_cons_zero, List.getElem_cons_succ, List.setIfInBounds_toArray, List.set_cons_zero, List.set_cons_succ]
      refine wpAnyG_take [10, 12, 13, 19] (i := 10) (v := (.float .f64 xo)) rfl (by kernel_rfl) (by kernel_rfl) (by kernel_rfl) (by kernel_rfl) (by kernel_rfl) (by kernel_rfl) (by kernel_rfl) (by kernel_rfl) (fun _ _ _ h => h) (Or.inl ⟨by rfl, ?hy⟩) T0 ?_
      case hy =>
        intro X hX
        have e4 := hX.cell 4
        have e5 := hX.cell 5
        simp only [List.getElem?_toArray, List.getElem?_cons_succ, List.getElem?_cons_zero] at e4 e5
        go_simp
      try simp only [Act.put, List.getElem_toArray, List.getElem_cons_zero, List.getElem_cons_succ, List.setIfInBounds_toArray, List.set_cons_zero, List.set_cons_succ]
      refine wpAnyG_take [11, 12, 13, 19] (i := 11) (v := (.float .f64 q)) rfl (by kernel_rfl) (by kernel_rfl) (by kernel_rfl) (by kernel_rfl) (by kernel_rfl) (by kernel_rfl) (by kernel_rfl) (by kernel_rfl) (fun _ _ _ h => h) (Or.inl ⟨by rfl, ?hy⟩) T0 ?_
      case hy =>
        intro X hX
        have e4 := hX.cell 4
        have e5 := hX.cell 5
        simp only [List.getElem?_toArray, List.getElem?_cons_succ, List.getElem?_cons_zero] at e4 e5
        go_simp
      try simp only [Act.put, List.getElem_toArray, List.getElem_cons_zero, List.getElem_cons_succ, List.setIfInBounds_toArray, List.set_cons_zero, List.set_cons_succ]
      refine wpAnyG_all (rs := [7, 12]) (by kernel_rfl) (by simp) ?_
      intro i hi
      simp only [List.mem_cons, List.not_mem_nil, or_false] at hi
      rcases hi with rfl | rfl
      · refine wpOp_now rfl rfl ?_
        go_simp
        have K1x := K1.drewN (fnd .mul xa q)
        have F7 := fres_is .mul xa q X0
        obtain ⟨a7, ha7⟩ : ∃ z, fres .mul xa q X0 = z := ⟨_, rfl⟩
        rw [ha7] at F7 ⊢
        obtain ⟨X1, hX1⟩ : ∃ Y, World.drewN X0 (fnd .mul xa q) = Y := ⟨_, rfl⟩
        rw [hX1] at K1x ⊢
        clear hX1 ha7
        refine ⟨fun _ => K1x.2.1, ?_⟩
        try simp only [Act.put, List.getElem_toArray, List.getElem_cons_zero, List.getElem_cons_succ, List.setIfInBounds_toArray, List.set_cons_zero, List.set_cons_succ]
        refine wpAnyG_all (rs := [8, 12]) (by kernel_rfl) (by simp) ?_
        intro i hi
        simp only [List.mem_cons, List.not_mem_nil, or_false] at hi
        rcases hi with rfl | rfl
        · refine wpOp_now rfl rfl ?_
          go_simp
          refine (cP _ _).mono ?_
          rintro e Y2 ⟨rfl, hY⟩
          subst hY
          refine ⟨fun _ => K1x.2.1, ?_⟩
          try simp only [Act.put, List.getElem_toArray, List.getElem_cons_zero, List.getElem_cons_succ, List.setIfInBounds_toArray, List.set_cons_zero, List.set_cons_succ]
          refine wpAnyG_all (rs := [12]) (by kernel_rfl) (by simp) ?_
          intro i hi
          simp only [List.mem_cons, List.not_mem_nil, or_false] at hi
          subst hi
          refine wpOp_now rfl rfl ?_
          go_simp
          have K3x := K1x.drewN (fnd .mul xo q)
          have F12 := fres_is .mul xo q Y2
          obtain ⟨a12, ha12⟩ : ∃ z, fres .mul xo q Y2 = z := ⟨_, rfl⟩
          rw [ha12] at F12 ⊢
          obtain ⟨X3, hX3⟩ : ∃ Y, World.drewN Y2 (fnd .mul xo q) = Y := ⟨_, rfl⟩
          rw [hX3] at K3x ⊢
          clear hX3 ha12
          refine ⟨fun _ => K3x.2.1, ?_⟩
          try simp only [Act.put, List.getElem_toArray, List.getElem_cons_zero, List.getElem_cons_succ, List.setIfInBounds_toArray, List.set_cons_zero, List.set_cons_succ]
          refine wpAnyG_all (rs := [13]) (by kernel_rfl) (by simp) ?_
          intro i hi
          simp only [List.mem_cons, List.not_mem_nil, or_false] at hi
          subst hi
          refine wpOp_now rfl rfl ?_
          go_simp
          refine (cP _ _).mono ?_
          rintro e Y4 ⟨rfl, hY⟩
          subst hY
          refine ⟨fun _ => K3x.2.1, ?_⟩
          try simp only [Act.put, List.getElem_toArray, List.getElem_cons_zero, List.getElem_cons_succ, List.setIfInBounds_toArray, List.set_cons_zero, List.set_cons_succ]
          have T0 := K3x.2.1
          refine wpAnyG_take [14, 15, 16] (i := 14) (v := (.pointer (some ⟨g, k * 6, none⟩))) rfl (by kernel_rfl) (by kernel_rfl) (by kernel_rfl) (by kernel_rfl) (by kernel_rfl) (by kernel_rfl) (by kernel_rfl) (by kernel_rfl) (fun _ _ _ h => h) (Or.inl ⟨by rfl, ?hy⟩) T0 ?_
          case hy =>
            intro X hX
            go_simp
          try simp only [Act.put, List.getElem_toArray, List.getElem_cons_zero, List.getElem_cons_succ, List.setIfInBounds_toArray, List.set_cons_zero, List.set_cons_succ]
          refine wpAnyG_take [15, 16] (i := 15) (v := (.pointer (some ⟨g, k * 6 + 4, none⟩))) rfl (by kernel_rfl) (by kernel_rfl) (by kernel_rfl) (by kernel_rfl) (by kernel_rfl) (by kernel_rfl) (by kernel_rfl) (by kernel_rfl) (fun _ _ _ h => h) (Or.inl ⟨by rfl, ?hy⟩) T0 ?_
          case hy =>
            intro X hX
            go_simp
          try simp only [Act.put, List.getElem_toArray, List.getElem_cons_zero, List.getElem_cons_succ, List.setIfInBounds_toArray, List.set_cons_zero, List.set_cons_succ]
          clear T0
          refine wpAnyG_all (rs := [16]) (by kernel_rfl) (by simp) ?_
          intro i hi
          simp only [List.mem_cons, List.not_mem_nil, or_false] at hi
          subst hi
          refine wpOp_now rfl rfl ?_
          obtain ⟨u5, hu5⟩ := K3x.cell (j := k * 6 + 4) (by omega)
          have fr5 := own_free K3x.1 (k * 6 + 4)
          go_simp
          have K5x := K3x.set hne (k * 6 + 4) (.float .f64 (plainF a7))
          refine ⟨fun _ => K5x.2.1, ?_⟩
          try simp only [Act.put, List.getElem_toArray, List.getElem_cons_zero, List.getElem_cons_succ, List.setIfInBounds_toArray, List.set_cons_zero, List.set_cons_succ]
          have T0 := K5x.2.1
          refine wpAnyG_take [17, 18, 19] (i := 17) (v := (.pointer (some ⟨g, k * 6, none⟩))) rfl (by kernel_rfl) (by kernel_rfl) (by kernel_rfl) (by kernel_rfl) (by kernel_rfl) (by kernel_rfl) (by kernel_rfl) (by kernel_rfl) (fun _ _ _ h => h) (Or.inl ⟨by rfl, ?hy⟩) T0 ?_
          case hy =>
            intro X hX
            go_simp
          try simp only [Act.put, List.getElem_toArray, List.getElem_cons_zero, List.getElem_cons_succ, List.setIfInBounds_toArray, List.set_cons_zero, List.set_cons_succ]
          refine wpAnyG_take [18, 19] (i := 18) (v := (.pointer (some ⟨g, k * 6 + 5, none⟩))) rfl (by kernel_rfl) (by kernel_rfl) (by kernel_rfl) (by kernel_rfl) (by kernel_rfl) (by kernel_rfl) (by kernel_rfl) (by kernel_rfl) (fun _ _ _ h => h) (Or.inl ⟨by rfl, ?hy⟩) T0 ?_
          case hy =>
            intro X hX
            go_simp
          try simp only [Act.put, List.getElem_toArray, List.getElem_cons_zero, List.getElem_cons_succ, List.setIfInBounds_toArray, List.set_cons_zero, List.set_cons_succ]
          clear T0
          refine wpAnyG_all (rs := [19]) (by kernel_rfl) (by simp) ?_
          intro i hi
          simp only [List.mem_cons, List.not_mem_nil, or_false] at hi
          subst hi
          refine wpOp_now rfl rfl ?_
          obtain ⟨u6, hu6⟩ := K5x.cell (j := k * 6 + 5) (by omega)
          have fr6 := own_free K5x.1 (k * 6 + 5)
          go_simp
          have K6x := K5x.set hne (k * 6 + 5) (.float .f64 (plainF a12))
          refine ⟨fun _ => K6x.2.1, ?_⟩
          try simp only [Act.put, List.getElem_toArray, List.getElem_cons_zero, List.getElem_cons_succ, List.setIfInBounds_toArray, List.set_cons_zero, List.set_cons_succ]
          refine wpAnyG_done (by kernel_rfl) ?_ _
          refine NoPanic.normal ?_
          have HK := Lib.hid K6x
          clear K6x
          go_wp2
          go_roundw
          case rel =>
            obtain ⟨hs2, hsn, hdl, hzs⟩ := HS.out
            rw [hdl] at hs2
            refine ⟨k + 1, _, by go_num, by rw [HN.out.1]; omega, hsn a7 a12 F7 F12, ?_, HK.out.2.2⟩
            have hk := HK.out.1
            rw [← hzs, hs2] at hk
            rw [HN.out.1, List.append_assoc]
            exact hk
          case measure => simp [intOf]; omega
        · refine wpOp_now rfl rfl ?_
          go_simp
          have K7x := K1x.drewN (fnd .mul xo q)
          have F12 := fres_is .mul xo q X1
          obtain ⟨a12, ha12⟩ : ∃ z, fres .mul xo q X1 = z := ⟨_, rfl⟩
          rw [ha12] at F12 ⊢
          obtain ⟨X7, hX7⟩ : ∃ Y, World.drewN X1 (fnd .mul xo q) = Y := ⟨_, rfl⟩
          rw [hX7] at K7x ⊢
          clear hX7 ha12
          refine ⟨fun _ => K7x.2.1, ?_⟩
          try simp only [Act.put, List.getElem_toArray, List.getElem_cons_zero, List.getElem_cons_succ, List.setIfInBounds_toArray, List.set_cons_zero, List.set_cons_succ]
          refine wpAnyG_all (rs := [8]) (by kernel_rfl) (by simp) ?_
          intro i hi
          simp only [List.mem_cons, List.not_mem_nil, or_false] at hi
          subst hi
          refine wpOp_now rfl rfl ?_
          go_simp
          refine (cP _ _).mono ?_
          rintro e Y8 ⟨rfl, hY⟩
          subst hY
          refine ⟨fun _ => K7x.2.1, ?_⟩
          try simp only [Act.put, List.getElem_toArray, List.getElem_cons_zero, List.getElem_cons_succ, List.setIfInBounds_toArray, List.set_cons_zero, List.set_cons_succ]
          refine wpAnyG_all (rs := [13]) (by kernel_rfl) (by simp) ?_
          intro i hi
          simp only [List.mem_cons, List.not_mem_nil, or_false] at hi
          subst hi
          refine wpOp_now rfl rfl ?_
          go_simp
          refine (cP _ _).mono ?_
          rintro e Y9 ⟨rfl, hY⟩
          subst hY
          refine ⟨fun _ => K7x.2.1, ?_⟩
          try simp only [Act.put, List.getElem_toArray, List.getElem_cons_zero, List.getElem_cons_succ, List.setIfInBounds_toArray, List.set_cons_zero, List.set_cons_succ]
          have T0 := K7x.2.1
          refine wpAnyG_take [14, 15, 16] (i := 14) (v := (.pointer (some ⟨g, k * 6, none⟩))) rfl (by kernel_rfl) (by kernel_rfl) (by kernel_rfl) (by kernel_rfl) (by kernel_rfl) (by kernel_rfl) (by kernel_rfl) (by kernel_rfl) (fun _ _ _ h => h) (Or.inl ⟨by rfl, ?hy⟩) T0 ?_
          case hy =>
            intro X hX
            go_simp
          try simp only [Act.put, List.getElem_toArray, List.getElem_cons_zero, List.getElem_cons_succ, List.setIfInBounds_toArray, List.set_cons_zero, List.set_cons_succ]
          refine wpAnyG_take [15, 16] (i := 15) (v := (.pointer (some ⟨g, k * 6 + 4, none⟩))) rfl (by kernel_rfl) (by kernel_rfl) (by kernel_rfl) (by kernel_rfl) (by kernel_rfl) (by kernel_rfl) (by kernel_rfl) (by kernel_rfl) (fun _ _ _ h => h) (Or.inl ⟨by rfl, ?hy⟩) T0 ?_
          case hy =>
            intro X hX
            go_simp
          try simp only [Act.put, List.getElem_toArray, List.getElem_cons_zero, List.getElem_cons_succ, List.setIfInBounds_toArray, List.set_cons_zero, List.set_cons_succ]
          clear T0
          refine wpAnyG_all (rs := [16]) (by kernel_rfl) (by simp) ?_
          intro i hi
          simp only [List.mem_cons, List.not_mem_nil, or_false] at hi
          subst hi
          refine wpOp_now rfl rfl ?_
          obtain ⟨u10, hu10⟩ := K7x.cell (j := k * 6 + 4) (by omega)
          have fr10 := own_free K7x.1 (k * 6 + 4)
          go_simp
          have K10x := K7x.set hne (k * 6 + 4) (.float .f64 (plainF a7))
          refine ⟨fun _ => K10x.2.1, ?_⟩
          try simp only [Act.put, List.getElem_toArray, List.getElem_cons_zero, List.getElem_cons_succ, List.setIfInBounds_toArray, List.set_cons_zero, List.set_cons_succ]
          have T0 := K10x.2.1
          refine wpAnyG_take [17, 18, 19] (i := 17) (v := (.pointer (some ⟨g, k * 6, none⟩))) rfl (by kernel_rfl) (by kernel_rfl) (by kernel_rfl) (by kernel_rfl) (by kernel_rfl) (by kernel_rfl) (by kernel_rfl) (by kernel_rfl) (fun _ _ _ h => h) (Or.inl ⟨by rfl, ?hy⟩) T0 ?_
          case hy =>
            intro X hX
            go_simp
          try simp only [Act.put, List.getElem_toArray, List.getElem_cons_zero, List.getElem_cons_succ, List.setIfInBounds_toArray, List.set_cons_zero, List.set_cons_succ]
          refine wpAnyG_take [18, 19] (i := 18) (v := (.pointer (some ⟨g, k * 6 + 5, none⟩))) rfl (by kernel_rfl) (by kernel_rfl) (by kernel_rfl) (by kernel_rfl) (by kernel_rfl) (by kernel_rfl) (by kernel_rfl) (by kernel_rfl) (fun _ _ _ h => h) (Or.inl ⟨by rfl, ?hy⟩) T0 ?_
          case hy =>
            intro X hX
            go_simp
          try simp only [Act.put, List.getElem_toArray, List.getElem_cons_zero, List.getElem_cons_succ, List.setIfInBounds_toArray, List.set_cons_zero, List.set_cons_succ]
          clear T0
          refine wpAnyG_all (rs := [19]) (by kernel_rfl) (by simp) ?_
          intro i hi
          simp only [List.mem_cons, List.not_mem_nil, or_false] at hi
          subst hi
          refine wpOp_now rfl rfl ?_
          obtain ⟨u11, hu11⟩ := K10x.cell (j := k * 6 + 5) (by omega)
          have fr11 := own_free K10x.1 (k * 6 + 5)
          go_simp
          have K11x := K10x.set hne (k * 6 + 5) (.float .f64 (plainF a12))
          refine ⟨fun _ => K11x.2.1, ?_⟩
          try simp only [Act.put, List.getElem_toArray, List.getElem_cons_zero, List.getElem_cons_succ, List.setIfInBounds_toArray, List.set_cons_zero, List.set_cons_succ]
          refine wpAnyG_done (by kernel_rfl) ?_ _
          refine NoPanic.normal ?_
          have HK := Lib.hid K11x
          clear K11x
          go_wp2
          go_roundw
          case rel =>
            obtain ⟨hs2, hsn, hdl, hzs⟩ := HS.out
            rw [hdl] at hs2
            refine ⟨k + 1, _, by go_num, by rw [HN.out.1]; omega, hsn a7 a12 F7 F12, ?_, HK.out.2.2⟩
            have hk := HK.out.1
            rw [← hzs, hs2] at hk
            rw [HN.out.1, List.append_assoc]
            exact hk
          case measure => simp [intOf]; omega
      · refine wpOp_now rfl rfl ?_
        go_simp
        have K12x := K1.drewN (fnd .mul xo q)
        have F12 := fres_is .mul xo q X0
        obtain ⟨a12, ha12⟩ : ∃ z, fres .mul xo q X0 = z := ⟨_, rfl⟩
        rw [ha12] at F12 ⊢
        obtain ⟨X12, hX12⟩ : ∃ Y, World.drewN X0 (fnd .mul xo q) = Y := ⟨_, rfl⟩
        rw [hX12] at K12x ⊢
        clear hX12 ha12
        refine ⟨fun _ => K12x.2.1, ?_⟩
        try simp only [Act.put, List.getElem_toArray, List.getElem_cons_zero, List.getElem_cons_succ, List.setIfInBounds_toArray, List.set_cons_zero, List.set_cons_succ]
        refine wpAnyG_all (rs := [7]) (by kernel_rfl) (by simp) ?_
        intro i hi
        simp only [List.mem_cons, List.not_mem_nil, or_false] at hi
        subst hi
        refine wpOp_now rfl rfl ?_
        go_simp
        have K13x := K12x.drewN (fnd .mul xa q)
        have F7 := fres_is .mul xa q X12
        obtain ⟨a7, ha7⟩ : ∃ z, fres .mul xa q X12 = z := ⟨_, rfl⟩
        rw [ha7] at F7 ⊢
        obtain ⟨X13, hX13⟩ : ∃ Y, World.drewN X12 (fnd .mul xa q) = Y := ⟨_, rfl⟩
        rw [hX13] at K13x ⊢
        clear hX13 ha7
        refine ⟨fun _ => K13x.2.1, ?_⟩
        try simp only [Act.put, List.getElem_toArray, List.getElem_cons_zero, List.getElem_cons_succ, List.setIfInBounds_toArray, List.set_cons_zero, List.set_cons_succ]
        refine wpAnyG_all (rs := [8]) (by kernel_rfl) (by simp) ?_
        intro i hi
        simp only [List.mem_cons, List.not_mem_nil, or_false] at hi
        subst hi
        refine wpOp_now rfl rfl ?_
        go_simp
        refine (cP _ _).mono ?_
        rintro e Y14 ⟨rfl, hY⟩
        subst hY
        refine ⟨fun _ => K13x.2.1, ?_⟩
        try simp only [Act.put, List.getElem_toArray, List.getElem_cons_zero, List.getElem_cons_succ, List.setIfInBounds_toArray, List.set_cons_zero, List.set_cons_succ]
        refine wpAnyG_all (rs := [13]) (by kernel_rfl) (by simp) ?_
        intro i hi
        simp only [List.mem_cons, List.not_mem_nil, or_false] at hi
        subst hi
        refine wpOp_now rfl rfl ?_
        go_simp
        refine (cP _ _).mono ?_
        rintro e Y15 ⟨rfl, hY⟩
        subst hY
        refine ⟨fun _ => K13x.2.1, ?_⟩
        try simp only [Act.put, List.getElem_toArray, List.getElem_cons_zero, List.getElem_cons_succ, List.setIfInBounds_toArray, List.set_cons_zero, List.set_cons_succ]
        have T0 := K13x.2.1
        refine wpAnyG_take [14, 15, 16] (i := 14) (v := (.pointer (some ⟨g, k * 6, none⟩))) rfl (by kernel_rfl) (by kernel_rfl) (by kernel_rfl) (by kernel_rfl) (by kernel_rfl) (by kernel_rfl) (by kernel_rfl) (by kernel_rfl) (fun _ _ _ h => h) (Or.inl ⟨by rfl, ?hy⟩) T0 ?_
        case hy =>
          intro X hX
          go_simp
        try simp only [Act.put, List.getElem_toArray, List.getElem_cons_zero, List.getElem_cons_succ, List.setIfInBounds_toArray, List.set_cons_zero, List.set_cons_succ]
        refine wpAnyG_take [15, 16] (i := 15) (v := (.pointer (some ⟨g, k * 6 + 4, none⟩))) rfl (by kernel_rfl) (by kernel_rfl) (by kernel_rfl) (by kernel_rfl) (by kernel_rfl) (by kernel_rfl) (by kernel_rfl) (by kernel_rfl) (fun _ _ _ h => h) (Or.inl ⟨by rfl, ?hy⟩) T0 ?_
        case hy =>
          intro X hX
          go_simp
        try simp only [Act.put, List.getElem_toArray, List.getElem_cons_zero, List.getElem_cons_succ, List.setIfInBounds_toArray, List.set_cons_zero, List.set_cons_succ]
        clear T0
        refine wpAnyG_all (rs := [16]) (by kernel_rfl) (by simp) ?_
        intro i hi
        simp only [List.mem_cons, List.not_mem_nil, or_false] at hi
        subst hi
        refine wpOp_now rfl rfl ?_
        obtain ⟨u16, hu16⟩ := K13x.cell (j := k * 6 + 4) (by omega)
        have fr16 := own_free K13x.1 (k * 6 + 4)
        go_simp
        have K16x := K13x.set hne (k * 6 + 4) (.float .f64 (plainF a7))
        refine ⟨fun _ => K16x.2.1, ?_⟩
        try simp only [Act.put, List.getElem_toArray, List.getElem_cons_zero, List.getElem_cons_succ, List.setIfInBounds_toArray, List.set_cons_zero, List.set_cons_succ]
        have T0 := K16x.2.1
        refine wpAnyG_take [17, 18, 19] (i := 17) (v := (.pointer (some ⟨g, k * 6, none⟩))) rfl (by kernel_rfl) (by kernel_rfl) (by kernel_rfl) (by kernel_rfl) (by kernel_rfl) (by kernel_rfl) (by kernel_rfl) (by kernel_rfl) (fun _ _ _ h => h) (Or.inl ⟨by rfl, ?hy⟩) T0 ?_
        case hy =>
          intro X hX
          go_simp
        try simp only [Act.put, List.getElem_toArray, List.getElem_cons_zero, List.getElem_cons_succ, List.setIfInBounds_toArray, List.set_cons_zero, List.set_cons_succ]
        refine wpAnyG_take [18, 19] (i := 18) (v := (.pointer (some ⟨g, k * 6 + 5, none⟩))) rfl (by kernel_rfl) (by kernel_rfl) (by kernel_rfl) (by kernel_rfl) (by kernel_rfl) (by kernel_rfl) (by kernel_rfl) (by kernel_rfl) (fun _ _ _ h => h) (Or.inl ⟨by rfl, ?hy⟩) T0 ?_
        case hy =>
          intro X hX
          go_simp
        try simp only [Act.put, List.getElem_toArray, List.getElem_cons_zero, List.getElem_cons_succ, List.setIfInBounds_toArray, List.set_cons_zero, List.set_cons_succ]
        clear T0
        refine wpAnyG_all (rs := [19]) (by kernel_rfl) (by simp) ?_
        intro i hi
        simp only [List.mem_cons, List.not_mem_nil, or_false] at hi
        subst hi
        refine wpOp_now rfl rfl ?_
        obtain ⟨u17, hu17⟩ := K16x.cell (j := k * 6 + 5) (by omega)
        have fr17 := own_free K16x.1 (k * 6 + 5)
        go_simp
        have K17x := K16x.set hne (k * 6 + 5) (.float .f64 (plainF a12))
        refine ⟨fun _ => K17x.2.1, ?_⟩
        try simp only [Act.put, List.getElem_toArray, List.getElem_cons_zero, List.getElem_cons_succ, List.setIfInBounds_toArray, List.set_cons_zero, List.set_cons_succ]
        refine wpAnyG_done (by kernel_rfl) ?_ _
        refine NoPanic.normal ?_
        have HK := Lib.hid K17x
        clear K17x
        go_wp2
        go_roundw
        case rel =>
          obtain ⟨hs2, hsn, hdl, hzs⟩ := HS.out
          rw [hdl] at hs2
          refine ⟨k + 1, _, by go_num, by rw [HN.out.1]; omega, hsn a7 a12 F7 F12, ?_, HK.out.2.2⟩
          have hk := HK.out.1
          rw [← hzs, hs2] at hk
          rw [HN.out.1, List.append_assoc]
          exact hk
        case measure => simp [intOf]; omega
    · obtain rfl : k = n := by omega
      have hfin : ScPost l total w (.returned (.tuple #[.slice o' k c', .int .i64 0])) wr := by
        refine ⟨r, HO.out.2.1, .inr ⟨HO.out.1, q, .slice o' k c', done, HF.out, ?_, rfl, ?_⟩, hB⟩
        · rw [List.take_of_length_le (by rw [HN.out.1]; omega)] at hd
          exact hd
        · rw [List.drop_of_length_le (by rw [HN.out.1]; omega), List.append_nil] at hown
          rw [HN.out.1]; exact hown
      have HZ := Lib.hid hfin
      clear hfin hown hB hd
      go_wp2
      go_ret2
      exact HZ.out
end Go.Proofs.Ytieaeicpmibjkaa
