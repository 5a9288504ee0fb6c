/- Stage 31: chant.Most. -/
import Derived.Test.YtieaeicpmibjkaaChn
import Derived.Shelf.SlSortCmp.Whole1
namespace Go.Proofs.Ytieaeicpmibjkaa
set_option linter.unusedVariables false
set_option linter.unusedSimpArgs false
open Go Go.RowKit Go.Shelf
open Go.Sort
set_option maxRecDepth 100000

shelf_lay_g SlLaysF.n6 Slsf 6 at Try 44 as chSortF

theorem swoF : SWO (ltOf cmF) := by
  have h : ∀ x y, ltOf cmF x y = decide (mk x < mk y) := fun x y => by
    unfold ltOf
    rw [Bool.eq_iff_iff, decide_eq_true_iff, decide_eq_true_iff]
    exact (cmF_lt x y).1
  refine ⟨fun x => ?_, fun x y z => ?_, fun x y z => ?_⟩
  · rw [h]; simp
  · rw [h, h, h]; simp only [decide_eq_true_eq]; omega
  · rw [h, h, h]; simp only [decide_eq_false_iff_not]; omega

def fls (l : List Nat) : List Value := l.map (Value.float .f64)
theorem grownBy_none_refl (W : World) (r : Option Nat) : W.grownBy W r := ⟨rfl, rfl, rfl, Nat.le_refl _, fun _ _ _ => rfl⟩

theorem sortRow_any (v : Value) (n base : Nat) (l : List Nat) (W : World) (h : W.ownsRow base 22 1 v n (fls l)) (hn : n < 4611686018427387904) :
    Calls Try.prog 44 #[v, .func (.func 45) #[] #[]] W fun e w' =>
      e = .returned (.tuple #[]) ∧ ∃ l' : List Nat, l'.Perm l ∧ SortedM l' ∧ w'.ownsRow base 22 1 v n (fls l') ∧ W.grownBy w' v.ownBlock := by
  have hl : l.length = n := by have := h.1; simpa [fls] using this
  by_cases hv : v = .slice none 0 0
  · subst hv
    have hn0 : n = 0 := by
      rcases h.2 with ⟨_, h⟩ | ⟨g, c, cur, h, _⟩
      · exact h
      · cases h
    have hnil : l = [] := List.eq_nil_of_length_eq_zero (by omega)
    exact (AnyF.slices_SortFunc_none { chSortF with } none 0 (.func (.func 45) #[] #[]) W).mono fun e w' ⟨he, hw⟩ => by
      subst hw
      exact ⟨he, l, .refl _, by rw [hnil]; exact .nil, h, grownBy_none_refl _ _⟩
  · obtain ⟨g, cap, rfl, hg1, hg2, hnc, hcm, hl2, hH⟩ := Lib.holds_of_ownsRow (enc := Value.float .f64) h hv
    have eg : ∀ args w, (callFunc 45 args).run Try.prog w = .ok (.enter 45 args) w := enters_of Try.func45 (by kernel_rfl) rfl
    have hc : CmpReads Try.prog 45 #[] (Value.float .f64) cmF g 0 l.toArray.size W := fun m os dk hs x y => (moments_any x y _).mono fun e w' ⟨he, hw⟩ => ⟨he, 0, hw⟩
    have hcon := Any.slices_SortFunc chSortF (Value.float .f64) (fun _ => rfl) cmF swoF 45 #[] g 0 cap l.toArray W eg hc.lays hH hg2 (by simpa [hl] using hn)
    simp only [List.size_toArray] at hcon
    rw [hl] at hcon
    refine hcon.mono fun e w' ⟨he, d', m, os, hp, hs, hw⟩ => ?_
    have hz : d'.size = n := by have := hp.1; simpa [hl] using this
    have hlen : d'.toList.length = n := by simpa using hz
    refine ⟨he, d'.toList, ?_, ?_, ?_, ?_⟩
    · have := hp.2.2
      have e1 : d'.extract 0 n = d' := by rw [← hz]; simp
      have e2 : l.toArray.extract 0 n = l.toArray := by rw [← hl]; simp
      rw [e1, e2] at this
      simpa using this
    · unfold SortedM
      rw [List.pairwise_iff_getElem]
      intro i j hi hj hij
      have h1 := hs i j (Nat.zero_le _) hij (by rw [hlen] at hj; exact hj)
      rw [getElem!_pos d' j (by simpa using hj), getElem!_pos d' i (by simpa using hi)] at h1
      unfold ltOf at h1
      simp only [decide_eq_false_iff_not] at h1
      have h2 := (cmF_lt (d'[j]'(by simpa using hj)) (d'[i]'(by simpa using hi))).1
      simp only [Array.getElem_toList]
      omega
    · have h1 := Lib.ownsRow_putRow (q := m) (k := n) h hlen (Nat.le_refl _)
      rw [List.take_of_length_le (by omega)] at h1
      have h2 := below_grow (putRow (Value.float .f64) (Sort.ahead W m) g 0 d'.toList.toArray) os
      have h3 := own_below h1 h2
      rw [hw]
      have : d'.toList.toArray = d' := by simp
      rw [this] at h3
      exact h3
    · rw [hw]
      refine ⟨rfl, rfl, rfl, ?_, fun k hk hne => ?_⟩
      · simp [sortWorld, grow, putRow, mapBlock, Sort.ahead]
      · have hkg : g ≠ k := fun e => hne (by rw [e]; rfl)
        simp only [sortWorld, grow]
        rw [Array.getElem?_append_left (by simpa [putRow, mapBlock, Sort.ahead] using hk)]
        simp [putRow, mapBlock, Sort.ahead, Array.getElem?_modify, hkg]

theorem infoFlo : (Try.prog.info? 22).map (fun i => (i.zero, i.size, i.bytes)) = some (some (.float .f64 0), 1, 8) := by kernel_rfl

/-- Two rows of one's own, apart; a note's block. -/
def MtG (w : World) (nb : Nat) (cs : Array Value) (n m : Nat) (va vb : Value) (xs ys : List Value) (X : World) : Prop :=
  ((X.ownsRow w.heap.size 22 1 va n xs ∧ X.ownsRow w.heap.size 22 1 vb m ys) ∧ (∀ g, va.ownBlock = some g → vb.ownBlock ≠ some g)) ∧ Blk X nb cs 48 ∧ Below w.heap.size w X
theorem mtg_below {w : World} {nb n m : Nat} {cs : Array Value} {va vb : Value} {xs ys : List Value} {X Y : World} (h : MtG w nb cs n m va vb xs ys X) (hb : Below X.heap.size X Y) : MtG w nb cs n m va vb xs ys Y :=
  ⟨⟨⟨own_below h.1.1.1 hb, own_below h.1.1.2 hb⟩, h.1.2⟩, h.2.1.below' hb, h.2.2.trans (hb.mono h.2.2.size)⟩
theorem mtg_alloc {w : World} {nb n m : Nat} {cs : Array Value} {va vb : Value} {xs ys : List Value} {X : World} (h : MtG w nb cs n m va vb xs ys X) (o : Obj) : MtG w nb cs n m va vb xs ys (X.alloc o) :=
  mtg_below h ((Below.refl _ _).alloc (Nat.le_refl _) o)
theorem mtg_drew {w : World} {nb n m : Nat} {cs : Array Value} {va vb : Value} {xs ys : List Value} {X : World} (h : MtG w nb cs n m va vb xs ys X) : MtG w nb cs n m va vb xs ys X.drew :=
  mtg_below h (Below.refl _ _).drew
theorem mtg_a {w : World} {nb n m n' g cap : Nat} {cs : Array Value} {va vb : Value} {xs ys xs' : List Value} {X Y : World} (h : MtG w nb cs n m va vb xs ys X) (hg : X.grownBy Y va.ownBlock) (ho : Y.ownsRow w.heap.size 22 1 (.slice (some ⟨g, 0, none⟩) n' cap) n' xs') (hw : va.ownBlock = some g ∨ g = X.heap.size) : MtG w nb cs n' m (.slice (some ⟨g, 0, none⟩) n' cap) vb xs' ys Y := by
  obtain ⟨⟨⟨h1, h2⟩, h3⟩, h4, h5⟩ := h
  refine ⟨⟨⟨ho, h2.kept hg ?_⟩, ?_⟩, h4.kept hg (h4.not_row (by decide) h1), h5.grown hg h5.size (fun r hr => (h1.lt r hr).1)⟩
  · cases e : vb.ownBlock with
    | none => exact .inl rfl
    | some q => exact .inr (fun e2 => h3 q (by first | exact e2 | exact e2.symm) e)
  · intro q hq
    have hq' : q = g := by simpa [Value.ownBlock] using hq.symm
    subst hq'
    rcases hw with hw | hw
    · exact h3 _ hw
    · intro e
      have := (h2.lt _ e).2
      omega
theorem mtg_b {w : World} {nb n m m' g cap : Nat} {cs : Array Value} {va vb : Value} {xs ys ys' : List Value} {X Y : World} (h : MtG w nb cs n m va vb xs ys X) (hg : X.grownBy Y vb.ownBlock) (ho : Y.ownsRow w.heap.size 22 1 (.slice (some ⟨g, 0, none⟩) m' cap) m' ys') (hw : vb.ownBlock = some g ∨ g = X.heap.size) : MtG w nb cs n m' va (.slice (some ⟨g, 0, none⟩) m' cap) xs ys' Y := by
  obtain ⟨⟨⟨h1, h2⟩, h3⟩, h4, h5⟩ := h
  refine ⟨⟨⟨h1.kept hg ?_, ho⟩, ?_⟩, h4.kept hg (h4.not_row (by decide) h2), h5.grown hg h5.size (fun r hr => (h2.lt r hr).1)⟩
  · cases e : va.ownBlock with
    | none => exact .inl rfl
    | some q => exact .inr (fun e2 => h3 q e (by first | exact e2 | exact e2.symm))
  · intro q hq e
    have hq' : q = g := by simpa [Value.ownBlock] using e.symm
    subst hq'
    rcases hw with hw | hw
    · exact h3 _ hq hw
    · have := (h1.lt _ hq).2
      omega

def Mt (w : World) (L : List Nt) (va vb : Value) (X : World) : Prop := ((X.ownsRow w.heap.size 22 1 va (flN L).length (fls (begL L)) ∧ X.ownsRow w.heap.size 22 1 vb (flN L).length (fls (endL L))) ∧ (∀ g, va.ownBlock = some g → vb.ownBlock ≠ some g)) ∧ Below w.heap.size w X
theorem Mt.below {w : World} {L : List Nt} {va vb : Value} {X Y : World} (h : Mt w L va vb X) (hb : Below X.heap.size X Y) : Mt w L va vb Y :=
  ⟨⟨⟨own_below h.1.1.1 hb, own_below h.1.1.2 hb⟩, h.1.2⟩, h.2.trans (hb.mono h.2.size)⟩
theorem flN_app (a b : List Nt) : flN (a ++ b) = flN a ++ flN b := List.filter_append ..
theorem begL_yes {L : List Nt} {x : Nt} (h : sndB x x.at' = true) : begL (L ++ [x]) = begL L ++ [x.at'] := by
  unfold begL; rw [flN_app, List.map_append, show flN [x] = [x] from List.filter_cons_of_pos h]; rfl
theorem endL_yes {L : List Nt} {x : Nt} (h : sndB x x.at' = true) : endL (L ++ [x]) = endL L ++ [addV x] := by
  unfold endL; rw [flN_app, List.map_append, show flN [x] = [x] from List.filter_cons_of_pos h]; rfl
theorem flN_yes {L : List Nt} {x : Nt} (h : sndB x x.at' = true) : (flN (L ++ [x])).length = (flN L).length + 1 := by
  rw [flN_app, show flN [x] = [x] from List.filter_cons_of_pos h]; simp
theorem flN_no {L : List Nt} {x : Nt} (h : sndB x x.at' = false) : flN (L ++ [x]) = flN L := by
  rw [flN_app, show flN [x] = [] from List.filter_cons_of_neg (by rw [h]; simp)]; simp
theorem Mt.no {w : World} {L : List Nt} {x : Nt} {va vb : Value} {X : World} (h : Mt w L va vb X) (hn : sndB x x.at' = false) : Mt w (L ++ [x]) va vb X := by
  unfold Mt begL endL at *
  rw [flN_no hn]; exact h
theorem Mt.yes {w : World} {L : List Nt} {x : Nt} {va vb : Value} {X : World} {nb : Nat} {cs : Array Value} (h : MtG w nb cs ((flN L).length + 1) ((flN L).length + 1) va vb (fls (begL L) ++ [.float .f64 x.at']) (fls (endL L) ++ [.float .f64 (addV x)]) X) (hy : sndB x x.at' = true) : Mt w (L ++ [x]) va vb X := by
  obtain ⟨⟨⟨h1, h2⟩, h3⟩, h4, h5⟩ := h
  refine ⟨⟨⟨?_, ?_⟩, h3⟩, h5⟩
  · rw [flN_yes hy, begL_yes hy]; simpa [fls] using h1
  · rw [flN_yes hy, endL_yes hy]; simpa [fls] using h2

def MoO (vs : List (List Nt)) (w : World) (i a b : Value) (wr : World) : Prop := ∃ (k : Nat) (va vb : Value), i = .int .i64 k ∧ va = a ∧ vb = b ∧ k ≤ vs.length ∧ Mt w (vs.take k).flatten va vb wr
def MoI (vs : List (List Nt)) (l : List Nt) (k : Nat) (w : World) (i a b : Value) (wr : World) : Prop := ∃ (j : Nat) (va vb : Value), i = .int .i64 j ∧ va = a ∧ vb = b ∧ j ≤ l.length ∧ Mt w ((vs.take k).flatten ++ l.take j) va vb wr
/-- The third loop. -/
def ovr (B E : List Nat) (k : Nat) : Nat := match k with | 0 => 0 | k + 1 => KC E (mk (B.getD k 0))

theorem ovr_le {B E : List Nat} (hs : SortedM B) {k b : Nat} (h : B[k]? = some b) : ovr B E k ≤ KC E (mk b) := by
  cases k with
  | zero => exact Nat.zero_le _
  | succ k =>
    have hl : k + 1 < B.length := (List.getElem?_eq_some_iff.1 h).1
    have h2 : B[k]? = some (B[k]'(by omega)) := List.getElem?_eq_getElem (by omega)
    show KC E (mk (B.getD k 0)) ≤ KC E (mk b)
    rw [getD_of h2]
    refine KC_mono E ?_
    have h3 := (List.pairwise_iff_getElem.1 hs) k (k + 1) (by omega) hl (by omega)
    have h4 : B[k + 1]'hl = b := (List.getElem?_eq_some_iff.1 h).2
    rw [h4] at h3; exact h3
theorem fls_get {l : List Nat} {k b : Nat} (h : l[k]? = some b) : (fls l)[k]? = some (.float .f64 b) := by unfold fls; rw [List.getElem?_map, h]; rfl

set_option maxHeartbeats 16000000 in
theorem most_any (vs : List (List Nt)) (o : Option Addr) (cap : Nat) (hn : vs.length ≤ 1099511627776) (ht : tot vs ≤ 1099511627776) (w : World) (hv : VoicesAt w o vs) :
    Calls Try.prog 30 #[.slice o vs.length cap] w fun e w' => e = .returned (.int .i64 (mostV vs : Nat)) ∧ Below w.heap.size w w' := by
  obtain ⟨iF, hiF, hz0, hz1, hz2⟩ := info_parts infoFlo
  have hd0 : ∀ W : World, W.drewN 0 = W := fun _ => rfl
  go_enter Try.func30, Try.ntmps30
  go_wp2
  go_loopw [15, 3, 4] (MoO vs w) (fun i _ _ _ => vs.length - (intOf i).toNat)
  case atStart => exact ⟨0, _, _, rfl, rfl, rfl, by omega, ⟨⟨World.ownsRow_nil _ _ _ _, World.ownsRow_nil _ _ _ _⟩, fun g h => by cases h⟩, Below.refl _ _⟩
  case round =>
    obtain ⟨k, va, vb, rfl, rfl, rfl, hk, hM⟩ := hrel
    have hB := hM.2
    by_cases hlt : k < vs.length
    · obtain ⟨l, hl⟩ : ∃ l, vs[k]? = some l := ⟨_, List.getElem?_eq_getElem hlt⟩
      obtain ⟨g, off, ol, cp, rfl, hc0, hr0⟩ := hv k l hl
      have hc : wr.cell? ⟨g, off + k, none⟩ = some (.slice ol l.length cp) := by rw [hB.cell (p := ⟨g, off + k, none⟩) (lt_cell hc0)]; exact hc0
      have htk := tot_take hl
      have hle := tot_le vs (k + 1)
      have hfk := flat_take hl
      have hfl : ((vs.take k).flatten).length + l.length ≤ 1099511627776 := by rw [flat_len]; omega
      have hl63 : l.length ≤ 1099511627776 := by omega
      have hI : MoI vs l k w (.int .i64 0) va vb wr := ⟨0, _, _, rfl, rfl, rfl, by omega, by simpa using hM⟩
      have HV := Lib.hid (And.intro hr0 (And.intro hfk hfl))
      clear hv hl htk hle hr0 hc0 hB hfk hM hfl
      go_wp2
      go_loopw [21, 3, 4] (MoI vs l k w) (fun j _ _ _ => l.length - (intOf j).toNat)
      case atStart => exact hI
      case round =>
        clear hI
        obtain ⟨j, va2, vb2, rfl, rfl, rfl, hj, hM⟩ := hrel
        have hB := hM.2
        by_cases hlj : j < l.length
        · obtain ⟨x, hx⟩ : ∃ x, l[j]? = some x := ⟨_, List.getElem?_eq_getElem hlj⟩
          obtain ⟨gl, ofl, rfl, hcl⟩ := (HV.out.1.below encN_len (by decide) hB) j x hx
          have q0 := hcl 0 (by decide)
          have q1 := hcl 1 (by decide)
          have q2 := hcl 2 (by decide)
          have q3 := hcl 3 (by decide)
          have q4 := hcl 4 (by decide)
          have q5 := hcl 5 (by decide)
          clear hcl
          have hL : (vs.take k).flatten ++ l.take (j + 1) = ((vs.take k).flatten ++ l.take j) ++ [x] := by rw [take_nextL hx, List.append_assoc]
          have hfn : (flN ((vs.take k).flatten ++ l.take j)).length ≤ 1099511627776 := by
            have h1 : (flN ((vs.take k).flatten ++ l.take j)).length ≤ ((vs.take k).flatten ++ l.take j).length := List.length_filter_le _ _
            have h2 := HV.out.2.2
            rw [List.length_append, List.length_take] at h1
            omega
          obtain ⟨L, hLL⟩ : ∃ L, (vs.take k).flatten ++ l.take j = L := ⟨_, rfl⟩
          rw [hLL] at hM hL hfn
          have cS := fun W => sounds_any x x.at' W
          obtain ⟨b, hb⟩ : ∃ b, sndB x x.at' = b := ⟨_, rfl⟩
          rw [hb] at cS
          have hadd : b = true → floatBits .add .f64 x.at' x.long = some (addV x) := fun h => (snd_iff.1 (hb.trans h)).2.2.1
          have hyes := fun (va vb : Value) (X : World) (nb : Nat) (cs : Array Value) => Mt.yes (w := w) (L := L) (x := x) (va := va) (vb := vb) (X := X) (nb := nb) (cs := cs)
          have hno := fun (va vb : Value) (X : World) => Mt.no (w := w) (L := L) (x := x) (va := va) (vb := vb) (X := X)
          rw [hb] at hyes hno
          obtain ⟨r, hr⟩ : ∃ r, addV x = r := ⟨_, rfl⟩
          rw [hr] at hadd hyes
          have HL := Lib.hid (And.intro hL hLL)
          clear hL hLL hx hr hb
          obtain ⟨xl, xb, xw, xs, xa, xo⟩ := x
          simp only [encN, List.getElem?_cons_succ, List.getElem?_cons_zero, Nat.add_zero] at q0 q1 q2 q3 q4 q5
          simp only [encN] at cS
          dsimp only at hadd hyes cS
          have HY := Lib.hid (And.intro hyes hno)
          have al := (Below.refl wr.heap.size wr).alloc (Nat.le_refl _) (.cells #[.int .i64 xl, .int .i64 xb, .int .i64 xw, .bool xs, .float .f64 xa, .float .f64 xo] 48)
          have hM2 := hM.below al
          have bk := Blk.new wr #[.int .i64 xl, .int .i64 xb, .int .i64 xw, .bool xs, .float .f64 xa, .float .f64 xo] 48
          obtain ⟨W1, hW1⟩ : ∃ Z, wr.alloc (.cells #[.int .i64 xl, .int .i64 xb, .int .i64 xw, .bool xs, .float .f64 xa, .float .f64 xo] 48) = Z := ⟨_, rfl⟩
          obtain ⟨nb, hnb⟩ : ∃ Z, wr.heap.size = Z := ⟨_, rfl⟩
          have HW1 := Lib.hid (And.intro hW1 hnb)
          rw [hW1] at hM2 bk
          rw [hnb] at bk
          have e4 := bk.cell 4
          simp only [List.getElem?_toArray, List.getElem?_cons_succ, List.getElem?_cons_zero] at e4
          rw [← hW1, ← hnb] at e4
          have HM2 := Lib.hid (And.intro hM2 bk)
          clear hyes hno hM hB al hM2 bk hW1 hnb
          go_wp2_with (fail)
          rw [HW1.out.1, HW1.out.2]
          refine (cS _).mono ?_
          rintro e w4 ⟨rfl, hb4⟩
          have hM4 := HM2.out.1.below hb4
          have bk4 := HM2.out.2.below' hb4
          clear hb4 e4 q0 q1 q2 q3 q4 q5 cS
          cases b
          · have HM4 := Lib.hid hM4
            clear hM4 bk4 hadd
            go_wp2
            go_roundw
            case rel =>
              refine ⟨j + 1, _, _, by go_num, rfl, rfl, by omega, ?_⟩
              rw [HL.out.1]
              exact HY.out.2 _ _ _ HM4.out (by first | rfl | trivial)
            case measure => simp [intOf]; omega
          · have hadd := hadd rfl
            have hfr : ∀ W, fres .add xa xo W = r := fun W => by
              have := fres_is .add xa xo W
              unfold FIs at this
              rw [hadd] at this
              exact this
            have hfd : fnd .add xa xo = 0 := by unfold fnd; rw [hadd]; rfl
            obtain ⟨n, hnn⟩ : ∃ n, (flN L).length = n := ⟨_, rfl⟩
            obtain ⟨ax, hax⟩ : ∃ z, fls (begL L) = z := ⟨_, rfl⟩
            obtain ⟨ay, hay⟩ : ∃ z, fls (endL L) = z := ⟨_, rfl⟩
            have K0 : MtG w nb #[.int .i64 xl, .int .i64 xb, .int .i64 xw, .bool xs, .float .f64 xa, .float .f64 xo] n n va2 vb2 ax ay w4 := by
              unfold Mt at hM4
              rw [hnn, hax, hay] at hM4
              exact ⟨hM4.1, bk4, hM4.2⟩
            rw [hnn] at hfn
            have HX := Lib.hid (And.intro hnn (And.intro hax hay))
            clear hM4 bk4 hadd hnn hax hay
            go_wp2_with (fail)
            refine wp_region_noPanic ?_
            refine wp_region_g (S := untilG [] (fun X => Blk X nb #[.int .i64 xl, .int .i64 xb, .int .i64 xw, .bool xs, .float .f64 xa, .float .f64 xo] 48)) (by kernel_rfl) ?_
            have K1 := mtg_drew K0
            obtain ⟨X0, hX0⟩ : ∃ X, w4.drew = X := ⟨_, rfl⟩
            rw [hX0] at K1 ⊢
            have T0 := K1.2.1
            clear hX0 K0
            refine wpAnyG_take [0, 4, 13] (i := 0) (v := va2) rfl (by kernel_rfl) (by kernel_rfl) (by kernel_rfl) (by kernel_rfl) (by kernel_rfl) (by kernel_rfl) (by kernel_rfl) (by kernel_rfl) (fun _ _ _ h => h) (Or.inl ⟨by rfl, ?hy⟩) T0 ?_
            case hy =>
              intro X hX
              have e4 := hX.cell 4
              have e5 := hX.cell 5
              simp only [List.getElem?_toArray, List.getElem?_cons_succ, List.getElem?_cons_zero] at e4 e5
              go_simp
            try simp only [Act.put, List.getElem_toArray, List.getElem_cons_zero, List.getElem_cons_succ, List.setIfInBounds_toArray, List.set_cons_zero, List.set_cons_succ]
            refine wpAnyG_take [1, 2, 3, 4, 13] (i := 1) (v := (.pointer (some ⟨nb, 4, none⟩))) rfl (by kernel_rfl) (by kernel_rfl) (by kernel_rfl) (by kernel_rfl) (by kernel_rfl) (by kernel_rfl) (by kernel_rfl) (by kernel_rfl) (fun _ _ _ h => h) (Or.inl ⟨by rfl, ?hy⟩) T0 ?_
            case hy =>
              intro X hX
              have e4 := hX.cell 4
              have e5 := hX.cell 5
              simp only [List.getElem?_toArray, List.getElem?_cons_succ, List.getElem?_cons_zero] at e4 e5
              go_simp
            try simp only [Act.put, List.getElem_toArray, List.getElem_cons_zero, List.getElem_cons_succ, List.setIfInBounds_toArray, List.set_cons_zero, List.set_cons_succ]
            refine wpAnyG_take [2, 3, 4, 13] (i := 2) (v := (.float .f64 xa)) rfl (by kernel_rfl) (by kernel_rfl) (by kernel_rfl) (by kernel_rfl) (by kernel_rfl) (by kernel_rfl) (by kernel_rfl) (by kernel_rfl) (fun _ _ _ h => h) (Or.inl ⟨by rfl, ?hy⟩) T0 ?_
            case hy =>
              intro X hX
              have e4 := hX.cell 4
              have e5 := hX.cell 5
              simp only [List.getElem?_toArray, List.getElem?_cons_succ, List.getElem?_cons_zero] at e4 e5
              go_simp
            try simp only [Act.put, List.getElem_toArray, List.getElem_cons_zero, List.getElem_cons_succ, List.setIfInBounds_toArray, List.set_cons_zero, List.set_cons_succ]
            refine wpAnyG_take [5, 12, 14] (i := 5) (v := vb2) rfl (by kernel_rfl) (by kernel_rfl) (by kernel_rfl) (by kernel_rfl) (by kernel_rfl) (by kernel_rfl) (by kernel_rfl) (by kernel_rfl) (fun _ _ _ h => h) (Or.inl ⟨by rfl, ?hy⟩) T0 ?_
            case hy =>
              intro X hX
              have e4 := hX.cell 4
              have e5 := hX.cell 5
              simp only [List.getElem?_toArray, List.getElem?_cons_succ, List.getElem?_cons_zero] at e4 e5
              go_simp
            try simp only [Act.put, List.getElem_toArray, List.getElem_cons_zero, List.getElem_cons_succ, List.setIfInBounds_toArray, List.set_cons_zero, List.set_cons_succ]
            refine wpAnyG_take [6, 7, 10, 11, 12, 14] (i := 6) (v := (.pointer (some ⟨nb, 4, none⟩))) rfl (by kernel_rfl) (by kernel_rfl) (by kernel_rfl) (by kernel_rfl) (by kernel_rfl) (by kernel_rfl) (by kernel_rfl) (by kernel_rfl) (fun _ _ _ h => h) (Or.inl ⟨by rfl, ?hy⟩) T0 ?_
            case hy =>
              intro X hX
              have e4 := hX.cell 4
              have e5 := hX.cell 5
              simp only [List.getElem?_toArray, List.getElem?_cons_succ, List.getElem?_cons_zero] at e4 e5
              go_simp
            try simp only [Act.put, List.getElem_toArray, List.getElem_cons_zero, List.getElem_cons_succ, List.setIfInBounds_toArray, List.set_cons_zero, List.set_cons_succ]
            refine wpAnyG_take [7, 10, 11, 12, 14] (i := 7) (v := (.float .f64 xa)) rfl (by kernel_rfl) (by kernel_rfl) (by kernel_rfl) (by kernel_rfl) (by kernel_rfl) (by kernel_rfl) (by kernel_rfl) (by kernel_rfl) (fun _ _ _ h => h) (Or.inl ⟨by rfl, ?hy⟩) T0 ?_
            case hy =>
              intro X hX
              have e4 := hX.cell 4
              have e5 := hX.cell 5
              simp only [List.getElem?_toArray, List.getElem?_cons_succ, List.getElem?_cons_zero] at e4 e5
              go_simp
            try simp only [Act.put, List.getElem_toArray, List.getElem_cons_zero, List.getElem_cons_succ, List.setIfInBounds_toArray, List.set_cons_zero, List.set_cons_succ]
            refine wpAnyG_take [8, 9, 10, 11, 12, 14] (i := 8) (v := (.pointer (some ⟨nb, 5, none⟩))) rfl (by kernel_rfl) (by kernel_rfl) (by kernel_rfl) (by kernel_rfl) (by kernel_rfl) (by kernel_rfl) (by kernel_rfl) (by kernel_rfl) (fun _ _ _ h => h) (Or.inl ⟨by rfl, ?hy⟩) T0 ?_
            case hy =>
              intro X hX
              have e4 := hX.cell 4
              have e5 := hX.cell 5
              simp only [List.getElem?_toArray, List.getElem?_cons_succ, List.getElem?_cons_zero] at e4 e5
              go_simp
            try simp only [Act.put, List.getElem_toArray, List.getElem_cons_zero, List.getElem_cons_succ, List.setIfInBounds_toArray, List.set_cons_zero, List.set_cons_succ]
            refine wpAnyG_take [9, 10, 11, 12, 14] (i := 9) (v := (.float .f64 xo)) rfl (by kernel_rfl) (by kernel_rfl) (by kernel_rfl) (by kernel_rfl) (by kernel_rfl) (by kernel_rfl) (by kernel_rfl) (by kernel_rfl) (fun _ _ _ h => h) (Or.inl ⟨by rfl, ?hy⟩) T0 ?_
            case hy =>
              intro X hX
              have e4 := hX.cell 4
              have e5 := hX.cell 5
              simp only [List.getElem?_toArray, List.getElem?_cons_succ, List.getElem?_cons_zero] at e4 e5
              go_simp
            try simp only [Act.put, List.getElem_toArray, List.getElem_cons_zero, List.getElem_cons_succ, List.setIfInBounds_toArray, List.set_cons_zero, List.set_cons_succ]
            refine wpAnyG_take [10, 11, 12, 14] (i := 10) (v := (.float .f64 r)) rfl (by kernel_rfl) (by kernel_rfl) (by kernel_rfl) (by kernel_rfl) (by kernel_rfl) (by kernel_rfl) (by kernel_rfl) (by kernel_rfl) (fun _ _ _ h => h) (Or.inl ⟨by rfl, ?hy⟩) T0 ?_
            case hy =>
              intro X hX
              have e4 := hX.cell 4
              have e5 := hX.cell 5
              simp only [List.getElem?_toArray, List.getElem?_cons_succ, List.getElem?_cons_zero] at e4 e5
              go_simp
            try simp only [Act.put, List.getElem_toArray, List.getElem_cons_zero, List.getElem_cons_succ, List.setIfInBounds_toArray, List.set_cons_zero, List.set_cons_succ]
            refine wpAnyG_all (rs := [3, 11]) (by kernel_rfl) (by simp) ?_
            intro i hi
            simp only [List.mem_cons, List.not_mem_nil, or_false] at hi
            rcases hi with rfl | rfl
            · refine wpOp_now rfl rfl ?_
              go_simp
              have C1 := Blk.new X0 #[.float .f64 xa] 22
              try simp only [World.size_alloc] at C1
              have K1x := mtg_alloc K1 (.cells #[.float .f64 xa] 22)
              refine ⟨fun _ => K1x.2.1, ?_⟩
              try simp only [Act.put, List.getElem_toArray, List.getElem_cons_zero, List.getElem_cons_succ, List.setIfInBounds_toArray, List.set_cons_zero, List.set_cons_succ]
              refine wpAnyG_all (rs := [4, 11]) (by kernel_rfl) (by simp) ?_
              intro i hi
              simp only [List.mem_cons, List.not_mem_nil, or_false] at hi
              rcases hi with rfl | rfl
              · refine wpOp_now rfl rfl ?_
                refine wp_append_lies _ _ _ _ rfl w.heap.size 22 iF (.float .f64 0) 1 8 Try.underlying55 hiF hz0 hz1 hz2 rfl (by decide) va2 n ax rfl K1x.1.1.1 ⟨_, 0, none⟩ 1 1 [.float .f64 xa] rfl rfl (World.news_of_block (cs := #[.float .f64 xa]) C1) (fun x hx => by simp at hx; subst hx; rfl) (by decide) (by unfold maxLen; omega) (by omega) (by have := K1x.2.2.size; simp at this ⊢; omega) _ rfl ?_
                intro g4 cap4 Y2 hown hg hwh _
                have K2x := mtg_a K1x hg hown hwh
                clear K1x hown hg hwh
                refine ⟨fun _ => K2x.2.1, ?_⟩
                try simp only [Act.put, List.getElem_toArray, List.getElem_cons_zero, List.getElem_cons_succ, List.setIfInBounds_toArray, List.set_cons_zero, List.set_cons_succ]
                refine wpAnyG_all (rs := [11]) (by kernel_rfl) (by simp) ?_
                intro i hi
                simp only [List.mem_cons, List.not_mem_nil, or_false] at hi
                subst hi
                refine wpOp_now rfl rfl ?_
                go_simp
                have C3 := Blk.new Y2 #[.float .f64 r] 22
                try simp only [World.size_alloc] at C3
                have K3x := mtg_alloc K2x (.cells #[.float .f64 r] 22)
                refine ⟨fun _ => K3x.2.1, ?_⟩
                try simp only [Act.put, List.getElem_toArray, List.getElem_cons_zero, List.getElem_cons_succ, List.setIfInBounds_toArray, List.set_cons_zero, List.set_cons_succ]
                refine wpAnyG_all (rs := [12]) (by kernel_rfl) (by simp) ?_
                intro i hi
                simp only [List.mem_cons, List.not_mem_nil, or_false] at hi
                subst hi
                refine wpOp_now rfl rfl ?_
                refine wp_append_lies _ _ _ _ rfl w.heap.size 22 iF (.float .f64 0) 1 8 Try.underlying55 hiF hz0 hz1 hz2 rfl (by decide) vb2 n ay rfl K3x.1.1.2 ⟨_, 0, none⟩ 1 1 [.float .f64 r] rfl rfl (World.news_of_block (cs := #[.float .f64 r]) C3) (fun x hx => by simp at hx; subst hx; rfl) (by decide) (by unfold maxLen; omega) (by omega) (by have := K3x.2.2.size; simp at this ⊢; omega) _ rfl ?_
                intro g12 cap12 Y4 hown hg hwh _
                have K4x := mtg_b K3x hg hown hwh
                clear K3x hown hg hwh
                refine ⟨fun _ => K4x.2.1, ?_⟩
                try simp only [Act.put, List.getElem_toArray, List.getElem_cons_zero, List.getElem_cons_succ, List.setIfInBounds_toArray, List.set_cons_zero, List.set_cons_succ]
                have T0 := K4x.2.1
                refine wpAnyG_take [13] (i := 13) (v := (.slice (some ⟨g4, 0, none⟩) (n + 1) cap4)) rfl (by kernel_rfl) (by kernel_rfl) (by kernel_rfl) (by kernel_rfl) (by kernel_rfl) (by kernel_rfl) (by kernel_rfl) (by kernel_rfl) (fun _ _ _ h => h) (Or.inl ⟨by rfl, ?hy⟩) T0 ?_
                case hy =>
                  intro X hX
                  go_simp
                try simp only [Act.put, List.getElem_toArray, List.getElem_cons_zero, List.getElem_cons_succ, List.setIfInBounds_toArray, List.set_cons_zero, List.set_cons_succ]
                refine wpAnyG_take [14] (i := 14) (v := (.slice (some ⟨g12, 0, none⟩) (n + 1) cap12)) rfl (by kernel_rfl) (by kernel_rfl) (by kernel_rfl) (by kernel_rfl) (by kernel_rfl) (by kernel_rfl) (by kernel_rfl) (by kernel_rfl) (fun _ _ _ h => h) (Or.inl ⟨by rfl, ?hy⟩) T0 ?_
                case hy =>
                  intro X hX
                  go_simp
                try simp only [Act.put, List.getElem_toArray, List.getElem_cons_zero, List.getElem_cons_succ, List.setIfInBounds_toArray, List.set_cons_zero, List.set_cons_succ]
                refine wpAnyG_done (by kernel_rfl) ?_ _
                refine NoPanic.normal ?_
                have HK := Lib.hid K4x
                clear K4x T0
                go_wp2
                go_roundw
                case rel =>
                  refine ⟨j + 1, _, _, by go_num, rfl, rfl, by omega, ?_⟩
                  rw [HL.out.1]
                  have hk := HK.out
                  rw [← HX.out.1, ← HX.out.2.1, ← HX.out.2.2] at hk
                  rw [← HX.out.1]
                  exact HY.out.1 _ _ _ _ _ hk (by first | rfl | trivial)
                case measure => simp [intOf]; omega
              · refine wpOp_now rfl rfl ?_
                go_simp
                have C5 := Blk.new (X0.alloc (.cells #[.float .f64 xa] 22)) #[.float .f64 r] 22
                try simp only [World.size_alloc] at C5
                have K5x := mtg_alloc K1x (.cells #[.float .f64 r] 22)
                have C5o := C1.alloc (.cells #[.float .f64 r] 22)
                refine ⟨fun _ => K5x.2.1, ?_⟩
                try simp only [Act.put, List.getElem_toArray, List.getElem_cons_zero, List.getElem_cons_succ, List.setIfInBounds_toArray, List.set_cons_zero, List.set_cons_succ]
                refine wpAnyG_all (rs := [4]) (by kernel_rfl) (by simp) ?_
                intro i hi
                simp only [List.mem_cons, List.not_mem_nil, or_false] at hi
                subst hi
                refine wpOp_now rfl rfl ?_
                refine wp_append_lies _ _ _ _ rfl w.heap.size 22 iF (.float .f64 0) 1 8 Try.underlying55 hiF hz0 hz1 hz2 rfl (by decide) va2 n ax rfl K5x.1.1.1 ⟨_, 0, none⟩ 1 1 [.float .f64 xa] rfl rfl (World.news_of_block (cs := #[.float .f64 xa]) C5o) (fun x hx => by simp at hx; subst hx; rfl) (by decide) (by unfold maxLen; omega) (by omega) (by have := K5x.2.2.size; simp at this ⊢; omega) _ rfl ?_
                intro g4 cap4 Y6 hown hg hwh _
                have K6x := mtg_a K5x hg hown hwh
                have C6o := C5.kept hg (fun e => by have := (K1.1.1.1.lt _ e.symm).2; first | omega | (simp at this; done) | (simp at this; omega))
                clear K5x hown hg hwh
                refine ⟨fun _ => K6x.2.1, ?_⟩
                try simp only [Act.put, List.getElem_toArray, List.getElem_cons_zero, List.getElem_cons_succ, List.setIfInBounds_toArray, List.set_cons_zero, List.set_cons_succ]
                refine wpAnyG_all (rs := [12]) (by kernel_rfl) (by simp) ?_
                intro i hi
                simp only [List.mem_cons, List.not_mem_nil, or_false] at hi
                subst hi
                refine wpOp_now rfl rfl ?_
                refine wp_append_lies _ _ _ _ rfl w.heap.size 22 iF (.float .f64 0) 1 8 Try.underlying55 hiF hz0 hz1 hz2 rfl (by decide) vb2 n ay rfl K6x.1.1.2 ⟨_, 0, none⟩ 1 1 [.float .f64 r] rfl rfl (World.news_of_block (cs := #[.float .f64 r]) C6o) (fun x hx => by simp at hx; subst hx; rfl) (by decide) (by unfold maxLen; omega) (by omega) (by have := K6x.2.2.size; simp at this ⊢; omega) _ rfl ?_
                intro g12 cap12 Y7 hown hg hwh _
                have K7x := mtg_b K6x hg hown hwh
                clear K6x hown hg hwh
                refine ⟨fun _ => K7x.2.1, ?_⟩
                try simp only [Act.put, List.getElem_toArray, List.getElem_cons_zero, List.getElem_cons_succ, List.setIfInBounds_toArray, List.set_cons_zero, List.set_cons_succ]
                have T0 := K7x.2.1
                refine wpAnyG_take [13] (i := 13) (v := (.slice (some ⟨g4, 0, none⟩) (n + 1) cap4)) rfl (by kernel_rfl) (by kernel_rfl) (by kernel_rfl) (by kernel_rfl) (by kernel_rfl) (by kernel_rfl) (by kernel_rfl) (by kernel_rfl) (fun _ _ _ h => h) (Or.inl ⟨by rfl, ?hy⟩) T0 ?_
                case hy =>
                  intro X hX
                  go_simp
                try simp only [Act.put, List.getElem_toArray, List.getElem_cons_zero, List.getElem_cons_succ, List.setIfInBounds_toArray, List.set_cons_zero, List.set_cons_succ]
                refine wpAnyG_take [14] (i := 14) (v := (.slice (some ⟨g12, 0, none⟩) (n + 1) cap12)) rfl (by kernel_rfl) (by kernel_rfl) (by kernel_rfl) (by kernel_rfl) (by kernel_rfl) (by kernel_rfl) (by kernel_rfl) (by kernel_rfl) (fun _ _ _ h => h) (Or.inl ⟨by rfl, ?hy⟩) T0 ?_
                case hy =>
                  intro X hX
                  go_simp
                try simp only [Act.put, List.getElem_toArray, List.getElem_cons_zero, List.getElem_cons_succ, List.setIfInBounds_toArray, List.set_cons_zero, List.set_cons_succ]
                refine wpAnyG_done (by kernel_rfl) ?_ _
                refine NoPanic.normal ?_
                have HK := Lib.hid K7x
                clear K7x T0
                go_wp2
                go_roundw
                case rel =>
                  refine ⟨j + 1, _, _, by go_num, rfl, rfl, by omega, ?_⟩
                  rw [HL.out.1]
                  have hk := HK.out
                  rw [← HX.out.1, ← HX.out.2.1, ← HX.out.2.2] at hk
                  rw [← HX.out.1]
                  exact HY.out.1 _ _ _ _ _ hk (by first | rfl | trivial)
                case measure => simp [intOf]; omega
            · refine wpOp_now rfl rfl ?_
              go_simp
              have C8 := Blk.new X0 #[.float .f64 r] 22
              try simp only [World.size_alloc] at C8
              have K8x := mtg_alloc K1 (.cells #[.float .f64 r] 22)
              refine ⟨fun _ => K8x.2.1, ?_⟩
              try simp only [Act.put, List.getElem_toArray, List.getElem_cons_zero, List.getElem_cons_succ, List.setIfInBounds_toArray, List.set_cons_zero, List.set_cons_succ]
              refine wpAnyG_all (rs := [3]) (by kernel_rfl) (by simp) ?_
              intro i hi
              simp only [List.mem_cons, List.not_mem_nil, or_false] at hi
              subst hi
              refine wpOp_now rfl rfl ?_
              go_simp
              have C9 := Blk.new (X0.alloc (.cells #[.float .f64 r] 22)) #[.float .f64 xa] 22
              try simp only [World.size_alloc] at C9
              have K9x := mtg_alloc K8x (.cells #[.float .f64 xa] 22)
              have C9o := C8.alloc (.cells #[.float .f64 xa] 22)
              refine ⟨fun _ => K9x.2.1, ?_⟩
              try simp only [Act.put, List.getElem_toArray, List.getElem_cons_zero, List.getElem_cons_succ, List.setIfInBounds_toArray, List.set_cons_zero, List.set_cons_succ]
              refine wpAnyG_all (rs := [4]) (by kernel_rfl) (by simp) ?_
              intro i hi
              simp only [List.mem_cons, List.not_mem_nil, or_false] at hi
              subst hi
              refine wpOp_now rfl rfl ?_
              refine wp_append_lies _ _ _ _ rfl w.heap.size 22 iF (.float .f64 0) 1 8 Try.underlying55 hiF hz0 hz1 hz2 rfl (by decide) va2 n ax rfl K9x.1.1.1 ⟨_, 0, none⟩ 1 1 [.float .f64 xa] rfl rfl (World.news_of_block (cs := #[.float .f64 xa]) C9) (fun x hx => by simp at hx; subst hx; rfl) (by decide) (by unfold maxLen; omega) (by omega) (by have := K9x.2.2.size; simp at this ⊢; omega) _ rfl ?_
              intro g4 cap4 Y10 hown hg hwh _
              have K10x := mtg_a K9x hg hown hwh
              have C10o := C9o.kept hg (fun e => by have := (K1.1.1.1.lt _ e.symm).2; first | omega | (simp at this; done) | (simp at this; omega))
              clear K9x hown hg hwh
              refine ⟨fun _ => K10x.2.1, ?_⟩
              try simp only [Act.put, List.getElem_toArray, List.getElem_cons_zero, List.getElem_cons_succ, List.setIfInBounds_toArray, List.set_cons_zero, List.set_cons_succ]
              refine wpAnyG_all (rs := [12]) (by kernel_rfl) (by simp) ?_
              intro i hi
              simp only [List.mem_cons, List.not_mem_nil, or_false] at hi
              subst hi
              refine wpOp_now rfl rfl ?_
              refine wp_append_lies _ _ _ _ rfl w.heap.size 22 iF (.float .f64 0) 1 8 Try.underlying55 hiF hz0 hz1 hz2 rfl (by decide) vb2 n ay rfl K10x.1.1.2 ⟨_, 0, none⟩ 1 1 [.float .f64 r] rfl rfl (World.news_of_block (cs := #[.float .f64 r]) C10o) (fun x hx => by simp at hx; subst hx; rfl) (by decide) (by unfold maxLen; omega) (by omega) (by have := K10x.2.2.size; simp at this ⊢; omega) _ rfl ?_
              intro g12 cap12 Y11 hown hg hwh _
              have K11x := mtg_b K10x hg hown hwh
              clear K10x hown hg hwh
              refine ⟨fun _ => K11x.2.1, ?_⟩
              try simp only [Act.put, List.getElem_toArray, List.getElem_cons_zero, List.getElem_cons_succ, List.setIfInBounds_toArray, List.set_cons_zero, List.set_cons_succ]
              have T0 := K11x.2.1
              refine wpAnyG_take [13] (i := 13) (v := (.slice (some ⟨g4, 0, none⟩) (n + 1) cap4)) rfl (by kernel_rfl) (by kernel_rfl) (by kernel_rfl) (by kernel_rfl) (by kernel_rfl) (by kernel_rfl) (by kernel_rfl) (by kernel_rfl) (fun _ _ _ h => h) (Or.inl ⟨by rfl, ?hy⟩) T0 ?_
              case hy =>
                intro X hX
                go_simp
              try simp only [Act.put, List.getElem_toArray, List.getElem_cons_zero, List.getElem_cons_succ, List.setIfInBounds_toArray, List.set_cons_zero, List.set_cons_succ]
              refine wpAnyG_take [14] (i := 14) (v := (.slice (some ⟨g12, 0, none⟩) (n + 1) cap12)) rfl (by kernel_rfl) (by kernel_rfl) (by kernel_rfl) (by kernel_rfl) (by kernel_rfl) (by kernel_rfl) (by kernel_rfl) (by kernel_rfl) (fun _ _ _ h => h) (Or.inl ⟨by rfl, ?hy⟩) T0 ?_
              case hy =>
                intro X hX
                go_simp
              try simp only [Act.put, List.getElem_toArray, List.getElem_cons_zero, List.getElem_cons_succ, List.setIfInBounds_toArray, List.set_cons_zero, List.set_cons_succ]
              refine wpAnyG_done (by kernel_rfl) ?_ _
              refine NoPanic.normal ?_
              have HK := Lib.hid K11x
              clear K11x T0
              go_wp2
              go_roundw
              case rel =>
                refine ⟨j + 1, _, _, by go_num, rfl, rfl, by omega, ?_⟩
                rw [HL.out.1]
                have hk := HK.out
                rw [← HX.out.1, ← HX.out.2.1, ← HX.out.2.2] at hk
                rw [← HX.out.1]
                exact HY.out.1 _ _ _ _ _ hk (by first | rfl | trivial)
              case measure => simp [intOf]; omega
        · obtain rfl : j = l.length := by omega
          have hO : MoO vs w (.int .i64 (k + 1 : Nat)) va2 vb2 wr := ⟨k + 1, _, _, rfl, rfl, rfl, by omega, by
            rw [HV.out.2.1]
            rwa [List.take_of_length_le (Nat.le_refl _)] at hM⟩
          have HO := Lib.hid hO
          clear hO hM hB
          go_wp2
          go_roundw
          case rel => exact HO.out
          case measure => simp [intOf]; omega
    · obtain rfl : k = vs.length := by omega
      rw [List.take_of_length_le (Nat.le_refl _)] at hM
      have hfn : (flN vs.flatten).length ≤ 1099511627776 := by
        have h1 : (flN vs.flatten).length ≤ vs.flatten.length := List.length_filter_le _ _
        rw [flat_len] at h1; omega
      obtain ⟨⟨⟨h1, h2⟩, h3⟩, h4⟩ := hM
      obtain ⟨n, hnn⟩ : ∃ n, (flN vs.flatten).length = n := ⟨_, rfl⟩
      rw [hnn] at h1 h2 hfn
      have c1 := sortRow_any va n w.heap.size (begL vs.flatten) wr h1 (by omega)
      have HQ := Lib.hid (And.intro h1 (And.intro h2 (And.intro h3 h4)))
      have HN := Lib.hid hnn
      obtain ⟨oa, ca, rfl, hoa⟩ := own_slice h1
      obtain ⟨ob, cb, rfl, hob⟩ := own_slice h2
      clear h1 h2 h3 h4 hnn hv hB
      go_wp2_with (fail)
      refine c1.mono ?_
      rintro e w1 ⟨rfl, B, hBp, hBs, hA1, hg1⟩
      have hB1 : w1.ownsRow w.heap.size 22 1 (.slice ob n cb) n (fls (endL vs.flatten)) := HQ.out.2.1.kept hg1 (by
        cases e : (Value.slice ob n cb).ownBlock with
        | none => exact .inl rfl
        | some q => exact .inr (fun e2 => HQ.out.2.2.1 q (by first | exact e2 | exact e2.symm) e))
      have c2 := sortRow_any (.slice ob n cb) n w.heap.size (endL vs.flatten) w1 hB1 (by omega)
      have HB1 := Lib.hid (And.intro hA1 (And.intro hg1 (And.intro hBp hBs)))
      have HB1' := Lib.hid hB1
      clear hA1 hB1 hg1 hBp hBs c1
      go_wp2_with (fail)
      refine c2.mono ?_
      rintro e w2 ⟨rfl, E, hEp, hEs, hE2, hg2⟩
      obtain ⟨hA1, hg1, hBp, hBs⟩ := HB1.out
      have hA2 : w2.ownsRow w.heap.size 22 1 (.slice oa n ca) n (fls B) := hA1.kept hg2 (by
        cases e : (Value.slice oa n ca).ownBlock with
        | none => exact .inl rfl
        | some q => exact .inr (fun e2 => HQ.out.2.2.1 q e (by first | exact e2 | exact e2.symm)))
      have hBel : Below w.heap.size w w2 := (HQ.out.2.2.2.grown hg1 HQ.out.2.2.2.size (fun r hr => (HQ.out.1.lt r hr).1)).grown hg2 (Nat.le_trans HQ.out.2.2.2.size hg1.size) (fun r hr => (HB1'.out.lt r hr).1)
      have hBl : B.length = n := by have := hA2.1; simpa [fls] using this
      have hEl : E.length = n := by have := hE2.1; simpa [fls] using this
      have hBn : ∀ b ∈ B, fnan b = false := fun b hb => by
        obtain ⟨x, _, _, h⟩ := begL_mem (hBp.subset hb)
        exact h
      have hEn : ∀ b ∈ E, fnan b = false := fun b hb => endL_mem (hEp.subset hb)
      have hres : mostV vs = bp B E n := by rw [most_is hBp hEp hBs, hBl]
      have hbp : bp B E n ≤ n := by
        refine bp_le fun k hk => ?_
        omega
      have hbpk : ∀ k, bp B E k ≤ k := fun k => by
        refine bp_le fun k hk => ?_
        omega
      have HZ := Lib.hid (And.intro hA2 (And.intro hE2 (And.intro hBel (And.intro hres (And.intro hBn (And.intro hEn (And.intro hBs (And.intro hEs (And.intro hBp (And.intro hEp (And.intro hBl (And.intro hEl hbpk))))))))))))
      clear hA1 hg1 hBp hBs hEp hEs hE2 hg2 hA2 hBel hBl hEl hBn hEn hres hbp hbpk c2
      go_wp2
      go_loop [50, 9, 10] (fun i best ov => ∃ k : Nat, k ≤ n ∧ i = .int .i64 k ∧ best = .int .i64 (bp B E k : Nat) ∧ ov = .int .i64 (ovr B E k : Nat)) (fun i _ _ => n - (intOf i).toNat)
      case atStart => exact ⟨0, by omega, rfl, rfl, rfl⟩
      case round =>
        obtain ⟨k, hk, rfl, rfl, rfl⟩ := hrel
        by_cases hkn : k < n
        · obtain ⟨hA2, hE2, hBel, hres, hBn, hEn, hBs, hEs, hBp, hEp, hBl, hEl, hbpk⟩ := HZ.out
          obtain ⟨b, hb⟩ : ∃ b, B[k]? = some b := ⟨_, List.getElem?_eq_getElem (by rw [hBl]; exact hkn)⟩
          obtain ⟨ga, rfl⟩ := hoa (by omega)
          obtain ⟨gb, rfl⟩ := hob (by omega)
          have cA : w2.cell? ⟨ga, k, none⟩ = some (.float .f64 b) := (hA2.cellAt k (by omega)).trans (fls_get hb)
          have hov := ovr_le (E := E) hBs hb
          have hkc := over_le hBp hEp hBs hb
          have hnx : bp B E (k + 1) = max (bp B E k) (k + 1 - KC E (mk b)) := by rw [bp, getD_of hb]
          have hon : ovr B E (k + 1) = KC E (mk b) := by rw [ovr, getD_of hb]
          have hpk := hbpk k
          obtain ⟨p, hp⟩ : ∃ p, bp B E k = p := ⟨_, rfl⟩
          obtain ⟨c, hc⟩ : ∃ c, KC E (mk b) = c := ⟨_, rfl⟩
          obtain ⟨q, hq⟩ : ∃ q, ovr B E k = q := ⟨_, rfl⟩
          rw [hp] at hpk hnx ⊢
          rw [hc] at hov hkc hnx hon
          rw [hq] at hov ⊢
          have hmax : max (p : Int) ((k : Int) + 1 - (c : Int)) = ((max p (k + 1 - c) : Nat) : Int) := by omega
          have hbn := hBn b (List.mem_of_getElem? hb)
          have HX := Lib.hid (And.intro hnx (And.intro hon (And.intro hbn hc)))
          clear hA2 hE2 hBel hres hBn hEn hBs hEs hBp hEp hBl hEl hbpk hb hnx hon hp hc hq hbn
          go_wp2
          go_loop [10] (fun ov => ∃ m : Nat, ov = .int .i64 m ∧ q ≤ m ∧ m ≤ c) (fun ov => n - (intOf ov).toNat)
          case atStart => exact ⟨q, rfl, Nat.le_refl _, hov⟩
          case round =>
            obtain ⟨m, rfl, hqm, hmc⟩ := hrel
            obtain ⟨hA2, hE2, hBel, hres, hBn, hEn, hBs, hEs, hBp, hEp, hBl, hEl, hbpk⟩ := HZ.out
            obtain ⟨e, he⟩ : ∃ e, E[m]? = some e := ⟨_, List.getElem?_eq_getElem (by rw [hEl]; omega)⟩
            have cE : w2.cell? ⟨gb, m, none⟩ = some (.float .f64 e) := (hE2.cellAt m (by omega)).trans (fls_get he)
            have hse := KC_sorted hEs he (mk b)
            rw [HX.out.2.2.2] at hse
            have hle := le_of_b (a := e) (t := b)
            have hen := hEn e (List.mem_of_getElem? he)
            obtain ⟨f1, hf1⟩ : ∃ o, (FloatKind.f64.format.order e b == some .lt) = o := ⟨_, rfl⟩
            obtain ⟨f2, hf2⟩ : ∃ o, (FloatKind.f64.format.order e b == some .eq) = o := ⟨_, rfl⟩
            have hff : (f1 || f2) = decide (m < c) := by
              have h0 : (flt e b || feq e b) = (f1 || f2) := by rw [← hf1, ← hf2]; rfl
              rw [h0] at hle
              rw [Bool.eq_iff_iff, hle, decide_eq_true_iff, ← hse]
              exact ⟨fun h => h.2.2, fun h => ⟨hen, HX.out.2.2.1, h⟩⟩
            clear hA2 hE2 hBel hres hBn hEn hBs hEs hBp hEp hBl hEl hbpk he hse hle hen
            by_cases hm : m < c
            · have hm' := hm
              rw [decide_eq_true hm] at hff
              cases f1 <;> cases f2
              · cases hff
              all_goals
                clear hff
                go_wp2
                go_round
                case rel => exact ⟨m + 1, by go_num, by omega, by omega⟩
                case measure => simp [intOf]; omega
            · obtain rfl : m = c := by omega
              rw [decide_eq_false hm] at hff
              cases f1 <;> cases f2
              · clear hff
                go_wp2
                go_round
                case rel => exact ⟨k + 1, by omega, by go_num, by rw [HX.out.1], by rw [HX.out.2.1]⟩
                case measure => simp [intOf]; omega
              all_goals cases hff
        · obtain rfl : k = n := by omega
          have hz := HZ.out.2.2.2.1
          obtain ⟨z, hz2⟩ : ∃ z, bp B E k = z := ⟨_, rfl⟩
          rw [hz2] at hz ⊢
          have HZ3 := Lib.hid hz
          clear hz hz2
          go_wp2
          go_ret
          exact ⟨ret_intK (by rw [HZ3.out]), HZ.out.2.2.1⟩
end Go.Proofs.Ytieaeicpmibjkaa
