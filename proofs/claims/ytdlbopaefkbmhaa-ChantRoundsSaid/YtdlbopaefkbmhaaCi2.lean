/- Stage 31: Round, the document's. -/
import Derived.Test.YtdlbopaefkbmhaaCi1
namespace Go.Proofs.Ytdlbopaefkbmhaa
set_option linter.unusedVariables false
set_option linter.unusedSimpArgs false
open Go Go.RowKit Go.Shelf
set_option maxRecDepth 100000

/-- A note of voice v of a round. -/
def RndN (v delay : Nat) (x y : Nt) : Prop := y.line = x.line ∧ y.beat = x.beat ∧ y.word = x.word ∧ y.strong = x.strong ∧ y.long = x.long ∧ ∃ d a, FIs .mul (floatOfInt .f64 (v : Int)) delay d ∧ FIs .add x.at' d a ∧ y.at' = plainF a
def RndL (v delay : Nat) (l l' : List Nt) : Prop := l'.length = l.length ∧ ∀ (i : Nat) (x y : Nt), l[i]? = some x → l'[i]? = some y → RndN v delay x y
def RndV (delay : Nat) (l : List Nt) (ws : List (List Nt)) : Prop := ∀ (v : Nat) (lv : List Nt), ws[v]? = some lv → RndL v delay l lv
theorem RndL.same {v delay : Nat} {l a b : List Nt} (ha : RndL v delay l a) (hb : RndL v delay l b) : NotesSame a b := by
  refine ⟨ha.1.trans hb.1.symm, fun i x y hx hy => ?_⟩
  have hi : i < l.length := by have := (List.getElem?_eq_some_iff.1 hx).1; rw [ha.1] at this; exact this
  obtain ⟨z, hz⟩ : ∃ z, l[i]? = some z := ⟨_, List.getElem?_eq_getElem hi⟩
  obtain ⟨a1, a2, a3, a4, a5, d, p, a6, a7, a8⟩ := ha.2 i z x hz hx
  obtain ⟨b1, b2, b3, b4, b5, d', p', b6, b7, b8⟩ := hb.2 i z y hz hy
  refine ⟨a1.trans b1.symm, a2.trans b2.symm, a3.trans b3.symm, a4.trans b4.symm, ?_, .inl (a5.trans b5.symm)⟩
  rw [a8, b8]
  exact plain_same (a7.same (.refl _) (a6.same (.refl _) (.refl _) b6) b7)
theorem RndL.snoc {v delay k : Nat} {l done : List Nt} {x y : Nt} (h : RndL v delay (l.take k) done) (hx : l[k]? = some x) (hs : RndN v delay x y) : RndL v delay (l.take (k + 1)) (done ++ [y]) := by
  have hk : k < l.length := (List.getElem?_eq_some_iff.1 hx).1
  have hd : done.length = k := by rw [h.1]; simp; omega
  refine ⟨by simp [hd]; omega, fun i a b ha hb => ?_⟩
  by_cases hi : i < k
  · rw [List.getElem?_append_left (by omega)] at hb
    refine h.2 i a b ?_ hb
    rw [List.getElem?_take, if_pos hi]
    rw [List.getElem?_take, if_pos (by omega)] at ha
    exact ha
  · have : i < (done ++ [y]).length := (List.getElem?_eq_some_iff.1 hb).1
    simp at this
    obtain rfl : i = k := by omega
    rw [List.getElem?_append_right (by omega), hd] at hb
    simp at hb
    subst hb
    rw [List.getElem?_take, if_pos (by omega), hx] at ha
    cases ha
    exact hs
/-- Rows of one's own, one for each list, and apart. -/
def SvW (b : Nat) (W : World) (ws : List (List Nt)) (sv : List Value) : Prop := sv.length = ws.length ∧ (∀ (i : Nat) (lv : List Nt), ws[i]? = some lv → ∃ ol cp, sv[i]? = some (.slice ol lv.length cp) ∧ W.ownsRow b 37 6 (.slice ol lv.length cp) lv.length (lv.flatMap encN)) ∧
  sv.Pairwise (fun a c => ∀ g, a.ownBlock = some g → c.ownBlock ≠ some g)
theorem SvW.below {b : Nat} {W W' : World} {ws : List (List Nt)} {sv : List Value} (h : SvW b W ws sv) (hb : Below W.heap.size W W') : SvW b W' ws sv :=
  ⟨h.1, fun i lv hi => by
    obtain ⟨ol, cp, h1, h2⟩ := h.2.1 i lv hi
    exact ⟨ol, cp, h1, own_below h2 hb⟩, h.2.2⟩
theorem SvW.other {b b' n : Nat} {W W' : World} {ws : List (List Nt)} {sv xs : List Value} {v : Value} (h : SvW b W ws sv) (hv : W.ownsRow b' 22 1 v n xs) (hg : W.grownBy W' v.ownBlock) : SvW b W' ws sv :=
  ⟨h.1, fun i lv hi => by
    obtain ⟨ol, cp, h1, h2⟩ := h.2.1 i lv hi
    exact ⟨ol, cp, h1, h2.kept hg (rows_apart h2 hv (by decide))⟩, h.2.2⟩
theorem SvW.snoc {b m cp : Nat} {W : World} {ws : List (List Nt)} {sv : List Value} {l : List Nt} {ol : Option Addr} (h : SvW b W ws sv) (hm : ∀ a ∈ sv, ∀ g, a.ownBlock = some g → g < m) (hb : b ≤ m) (hown : W.ownsRow m 37 6 (.slice ol l.length cp) l.length (l.flatMap encN)) : SvW b W (ws ++ [l]) (sv ++ [.slice ol l.length cp]) := by
  refine ⟨by simp [h.1], fun i lv hi => ?_, ?_⟩
  · by_cases hlt : i < ws.length
    · rw [List.getElem?_append_left hlt] at hi
      obtain ⟨ol', cp', h1, h2⟩ := h.2.1 i lv hi
      exact ⟨ol', cp', by rw [List.getElem?_append_left (by rw [h.1]; exact hlt)]; exact h1, h2⟩
    · have : i < (ws ++ [l]).length := (List.getElem?_eq_some_iff.1 hi).1
      simp at this
      obtain rfl : i = ws.length := by omega
      rw [List.getElem?_append_right (by omega)] at hi
      simp at hi
      subst hi
      exact ⟨ol, cp, by rw [List.getElem?_append_right (by rw [h.1]; omega), h.1]; simp, own_base hown hb⟩
  · rw [List.pairwise_append]
    refine ⟨h.2.2, List.pairwise_singleton _ _, fun a ha c hc g hg hg2 => ?_⟩
    simp at hc
    subst hc
    have h1 := hm a ha g hg
    have h2 := (hown.lt g hg2).1
    omega
theorem SvW.lt {b : Nat} {W : World} {ws : List (List Nt)} {sv : List Value} (h : SvW b W ws sv) : ∀ a ∈ sv, ∀ g, a.ownBlock = some g → g < W.heap.size := by
  intro a ha g hg
  obtain ⟨i, hi⟩ := List.getElem?_of_mem ha
  have hlt : i < ws.length := by rw [← h.1]; exact (List.getElem?_eq_some_iff.1 hi).1
  obtain ⟨ol, cp, h1, h2⟩ := h.2.1 i _ (List.getElem?_eq_getElem hlt)
  rw [hi] at h1
  cases h1
  exact (h2.lt g hg).2
theorem SvW.nil (b : Nat) (W : World) : SvW b W [] [] := ⟨rfl, fun i lv h => by simp at h, .nil⟩
def RndPost (p delay : Nat) (l : List Nt) (w : World) (e : Ending) (w' : World) : Prop := ∃ (ow : Option Addr) (cw : Nat) (ws : List (List Nt)) (sv : List Value), e = .returned (.tuple #[.slice ow p cw, .int .i64 0]) ∧ ws.length = p ∧ RndV delay l ws ∧ SvW w.heap.size w' ws sv ∧
  w'.ownsRow w.heap.size 22 1 (.slice ow p cw) p sv ∧ Below w.heap.size w w'
theorem RndV.snoc {delay k : Nat} {l lv : List Nt} {ws : List (List Nt)} (h : RndV delay l ws) (hk : ws.length = k) (hl : RndL k delay l lv) : RndV delay l (ws ++ [lv]) := by
  intro i a ha
  by_cases hi : i < ws.length
  · rw [List.getElem?_append_left hi] at ha; exact h i a ha
  · have : i < (ws ++ [lv]).length := (List.getElem?_eq_some_iff.1 ha).1
    simp at this
    obtain rfl : i = ws.length := by omega
    rw [List.getElem?_append_right (by omega)] at ha
    simp at ha
    subst ha
    rw [hk]; exact hl
def RdO (p delay : Nat) (l : List Nt) (w : World) (i s : Value) (wr : World) : Prop := ∃ (k : Nat) (v : Value) (ws : List (List Nt)) (sv : List Value), i = .int .i64 k ∧ v = s ∧ k ≤ p ∧ ws.length = k ∧ RndV delay l ws ∧ SvW w.heap.size wr ws sv ∧ wr.ownsRow w.heap.size 22 1 v k sv ∧ Below w.heap.size w wr
def RdI (k delay : Nat) (l : List Nt) (U : World) (i s : Value) (wr : World) : Prop := ∃ (j : Nat) (v : Value) (done : List Nt), i = .int .i64 j ∧ v = s ∧ j ≤ l.length ∧ RndL k delay (l.take j) done ∧ wr.ownsRow U.heap.size 37 6 v j (done.flatMap encN) ∧ Below U.heap.size U wr
theorem conv_run (v : Int) (W : World) : (convert 3 23 (.int .i64 v)).run Try.prog W = .ok (.float .f64 (floatOfInt .f64 v)) W := run_convert_int_float W 3 23 .i64 .f64 v (by kernel_rfl) Try.underlying23

set_option maxHeartbeats 16000000 in
theorem roundD_ok (l : List Nt) (o : Option Addr) (cap delay p : Nat) (hp1 : 1 ≤ p) (hp2 : p ≤ 16) (hl : p * l.length ≤ 65536) (h : errR p delay = false) (w : World) (hr : RowAt w encN 6 o l) :
    Calls Try.prog 6 #[.slice o l.length cap, .int .i64 p, .float .f64 delay] w (RndPost p delay l w) := by
  obtain ⟨i0, hi, hz0, hz1, hz2⟩ := info_parts infoNote
  obtain ⟨i1, hi', hy0, hy1, hy2⟩ := info_parts infoNotes
  have cF := fun W => finiteD_any delay W
  have h' := h
  unfold errR at h'
  simp only [Bool.or_eq_false_iff, Bool.not_eq_false'] at h'
  obtain ⟨⟨⟨_, _⟩, hf1⟩, hf2'⟩ := h'
  have hf2 : (FloatKind.f64.format.order delay 0 == some .lt) = false := hf2'
  rw [hf1] at cF
  have e1 : decide ((p : Int) < 1) = false := decide_eq_false (by omega)
  have e1n : decide (p < 1) = false := decide_eq_false (by omega)
  have e2 : decide ((16 : Int) < p) = false := decide_eq_false (by omega)
  have e2n : decide (16 < p) = false := decide_eq_false (by omega)
  obtain ⟨n, hnn⟩ : ∃ n, l.length = n := ⟨_, rfl⟩
  rw [hnn] at hl ⊢
  have hn : n ≤ 65536 := Nat.le_trans (Nat.le_mul_of_pos_left n hp1) hl
  have hd : n ≤ 65536 / p := (Nat.le_div_iff_mul_le (by omega)).2 (by rw [Nat.mul_comm]; exact hl)
  have j1 : (65536 : Int) / (p : Int) = ((65536 / p : Nat) : Int) := (Int.natCast_ediv 65536 p).symm
  obtain ⟨m, hm⟩ : ∃ m, 65536 / p = m := ⟨_, rfl⟩
  rw [hm] at hd j1
  have e3 : decide (((m : Nat) : Int) < (n : Int)) = false := decide_eq_false (by omega)
  have e3n : decide (m < n) = false := decide_eq_false (by omega)
  have hcv := conv_run
  have HN := Lib.hid hnn
  have HR := Lib.hid hr
  have d0 : Below w.heap.size w (w.drewN (fnd .sub delay delay)) := ⟨rfl, rfl, rfl, Nat.le_refl _, fun _ _ => rfl⟩
  clear h hf1 hf2' hl hm hnn hr
  go_enter Try.func6, Try.ntmps6
  go_wp2_with (fail)
  refine (cF _).mono ?_
  rintro e w' ⟨rfl, rfl⟩
  go_wp2
  clear j1 e3 e3n
  go_loopw [9, 8] (RdO p delay l w) (fun i _ _ => p - (intOf i).toNat)
  case atStart => exact ⟨0, _, [], [], rfl, rfl, by omega, rfl, fun i a ha => by simp at ha, SvW.nil _ _, World.ownsRow_nil _ _ _ _, d0⟩
  case round =>
    obtain ⟨k, out, ws, sv, rfl, rfl, hk, hwl, hV, hS, hO, hB⟩ := hrel
    by_cases hlt : k < p
    · have hI : RdI k delay l wr (.int .i64 0) (.slice none 0 0) wr := ⟨0, _, [], rfl, rfl, by omega, ⟨by simp, fun i x y h _ => by simp at h⟩, World.ownsRow_nil _ _ _ _, Below.refl _ _⟩
      obtain ⟨oo, oc, rfl, _⟩ := own_slice hO
      have HU := Lib.hid (And.intro hwl (And.intro hV (And.intro hS (And.intro hO hB))))
      have hszw := hB.size
      obtain ⟨U, hU⟩ : ∃ U, wr = U := ⟨_, rfl⟩
      rw [hU] at hI HU hszw ⊢
      clear hwl hV hS hO hB
      clear hU
      go_wp2
      go_loopw [40, 10] (RdI k delay l U) (fun j _ _ => n - (intOf j).toNat)
      case atStart => exact hI
      case round =>
        clear hI
        obtain ⟨j, v, done, rfl, rfl, hj, hdn, hown, hBU⟩ := hrel
        rw [HN.out] at hj
        by_cases hlj : j < n
        · obtain ⟨x, hx⟩ : ∃ x, l[j]? = some x := ⟨_, List.getElem?_eq_getElem (by rw [HN.out]; exact hlj)⟩
          have hBw : Below w.heap.size w wr := HU.out.2.2.2.2.trans (hBU.mono hszw)
          obtain ⟨g, off, rfl, hcl⟩ := (HR.out.below encN_len (by decide) hBw) j x hx
          have hsn := fun d a (hd : FIs .mul (floatOfInt .f64 (k : Int)) delay d) (ha : FIs .add x.at' d a) => RndL.snoc hdn hx (y := { x with at' := plainF a }) ⟨rfl, rfl, rfl, rfl, rfl, d, a, hd, ha, rfl⟩
          obtain ⟨xl, xb, xw, xs, xa, xo⟩ := x
          have x0 := hcl 0 (by decide)
          have x1 := hcl 1 (by decide)
          have x2 := hcl 2 (by decide)
          have x3 := hcl 3 (by decide)
          have x4 := hcl 4 (by decide)
          have x5 := hcl 5 (by decide)
          simp only [encN, List.getElem?_cons_succ, List.getElem?_cons_zero, Nat.add_zero, Nat.zero_add] at x0 x1 x2 x3 x4 x5
          dsimp only at hsn
          obtain ⟨zs, hzs⟩ : ∃ z, done.flatMap encN = z := ⟨_, rfl⟩
          rw [hzs] at hown
          have al := (Below.refl wr.heap.size wr).alloc (Nat.le_refl _) (.cells #[.int .i64 xl, .int .i64 xb, .int .i64 xw, .bool xs, .float .f64 xa, .float .f64 xo] 37)
          have bk := Blk.new wr #[.int .i64 xl, .int .i64 xb, .int .i64 xw, .bool xs, .float .f64 xa, .float .f64 xo] 37
          have hvb : v.ownBlock ≠ some wr.heap.size := fun e => by have := (hown.lt _ e).2; omega
          have HS := Lib.hid (And.intro hsn (And.intro hzs (And.intro hown (And.intro hBU (And.intro al bk)))))
          obtain ⟨vo, vc, rfl, _⟩ := own_slice hown
          clear hsn hzs hcl hown hBU hdn hx hBw al bk
          go_wp2_with (fail)
          refine (plainD_any _ _).mono ?_
          rintro e w5 ⟨he, hw5⟩
          obtain ⟨a, d, Fd, Fa, he⟩ : ∃ a d, FIs .mul (floatOfInt .f64 (k : Int)) delay d ∧ FIs .add xa d a ∧ e = .returned (.float .f64 (plainF a)) := ⟨_, _, fres_is _ _ _ _, fres_is _ _ _ _, he⟩
          subst he
          obtain ⟨hsn, hzs, hown, hBU, al, bk⟩ := HS.out
          have hB5 : Below wr.heap.size wr w5 := by rw [hw5]; exact ⟨al.os, al.tape, al.output, al.size, al.block⟩
          have bk5 : Blk w5 wr.heap.size #[.int .i64 xl, .int .i64 xb, .int .i64 xw, .bool xs, .float .f64 xa, .float .f64 xo] 37 := by rw [hw5]; exact bk
          have hown5 := own_below hown hB5
          have bkS := bk5.set 4 (.float .f64 (plainF a))
          simp only [List.setIfInBounds_toArray, List.set_cons_succ, List.set_cons_zero] at bkS
          have hownS : (w5.setCell ⟨wr.heap.size, 4, none⟩ (.float .f64 (plainF a))).ownsRow U.heap.size 37 6 (.slice vo j vc) j zs := hown5.kept (grownBy_setCell w5 wr.heap.size 4 _) (by
            cases e : (Value.slice vo j vc).ownBlock with
            | none => exact .inl rfl
            | some q => exact .inr (fun e2 => hvb (e.trans (by first | exact e2 | exact e2.symm))))
          have hBS : Below U.heap.size U (w5.setCell ⟨wr.heap.size, 4, none⟩ (.float .f64 (plainF a))) := (hBU.trans (hB5.mono hBU.size)).setCell (p := ⟨wr.heap.size, 4, none⟩) hBU.size _
          have b0 := bk5.cell 0
          have b1 := bk5.cell 1
          have b2 := bk5.cell 2
          have b3 := bk5.cell 3
          have b4 := bk5.cell 4
          have b5 := bk5.cell 5
          simp only [List.getElem?_toArray, List.getElem?_cons_succ, List.getElem?_cons_zero] at b0 b1 b2 b3 b4 b5
          have g4 := bk5.frozen 4
          have hszS := hBS.size
          rw [show (w5.setCell ⟨wr.heap.size, 4, none⟩ (.float .f64 (plainF a))).heap.size = w5.heap.size by simp] at hszS
          have HZ := Lib.hid (And.intro (hBS.alloc hBS.size (.cells #[.int .i64 xl, .int .i64 xb, .int .i64 xw, .bool xs, .float .f64 (plainF a), .float .f64 xo] 37)) (And.intro (hownS.alloc (.cells #[.int .i64 xl, .int .i64 xb, .int .i64 xw, .bool xs, .float .f64 (plainF a), .float .f64 xo] 37)) (hsn d a Fd Fa)))
          have hnw : ((w5.setCell ⟨wr.heap.size, 4, none⟩ (.float .f64 (plainF a))).alloc (.cells #[.int .i64 xl, .int .i64 xb, .int .i64 xw, .bool xs, .float .f64 (plainF a), .float .f64 xo] 37)).heap[w5.heap.size]? = some (.cells #[.int .i64 xl, .int .i64 xb, .int .i64 xw, .bool xs, .float .f64 (plainF a), .float .f64 xo] 37 (0, 0)) := by
            have := World.alloc_heap_new (w5.setCell ⟨wr.heap.size, 4, none⟩ (.float .f64 (plainF a))) (.cells #[.int .i64 xl, .int .i64 xb, .int .i64 xw, .bool xs, .float .f64 (plainF a), .float .f64 xo] 37)
            rwa [show (w5.setCell ⟨wr.heap.size, 4, none⟩ (.float .f64 (plainF a))).heap.size = w5.heap.size by simp] at this
          have HNW := Lib.hid hnw
          have HZS := Lib.hid hzs
          clear hsn hzs hown hBU al bk hw5 hB5 bk5 hown5 bkS hownS hBS Fd Fa hvb HS hnw x0 x1 x2 x3 x4 x5
          go_wp2_with (at_builtin; refine wpList_append_own _ rfl _ _ 22 rfl U.heap.size 37 i0 (.agg #[.int .i64 0, .int .i64 0, .int .i64 0, .bool false, .float .f64 0, .float .f64 0]) 6 48 Try.underlying22 hi hz0 hz1 hz2 rfl (by decide) _ _ _ rfl HZ.out.2.1 ⟨w5.heap.size, 0, none⟩ 1 1 [.int .i64 xl, .int .i64 xb, .int .i64 xw, .bool xs, .float .f64 (plainF a), .float .f64 xo] rfl rfl (World.news_of_block (cs := #[.int .i64 xl, .int .i64 xb, .int .i64 xw, .bool xs, .float .f64 (plainF a), .float .f64 xo]) (t := 37) (fr := (0, 0)) HNW.out) (fun x hx => by simp at hx; rcases hx with rfl | rfl | rfl | rfl | rfl | rfl <;> rfl) (by unfold maxLen; omega) (by omega) (by simp; omega) ?_; intro v' w9 hown' hgrow _)
          go_roundw
          case rel =>
            refine ⟨j + 1, v', _, by go_num, rfl, by rw [HN.out]; omega, HZ.out.2.2, ?_, HZ.out.1.grown hgrow (by simp; omega) (fun r hr => (HZ.out.2.1.lt r hr).1)⟩
            rw [List.flatMap_append, HZS.out]
            exact hown'
          case measure => simp [intOf]; omega
        · obtain rfl : j = n := by omega
          rw [List.take_of_length_le (by rw [HN.out]; omega)] at hdn
          obtain ⟨hwl, hV, hS, hO, hB⟩ := HU.out
          have hdl : done.length = j := by rw [hdn.1, HN.out]
          obtain ⟨vo, vc, rfl, _⟩ := own_slice hown
          have hO2 := own_below hO hBU
          have hS2 : SvW w.heap.size wr (ws ++ [done]) (sv ++ [.slice vo j vc]) := by
            have := (hS.below hBU).snoc (l := done) (ol := vo) (cp := vc) (m := U.heap.size) hS.lt hszw (by rw [hdl]; exact hown)
            rwa [hdl] at this
          have hB2 := hB.trans (hBU.mono hszw)
          have HZ := Lib.hid (And.intro ((hB2.alloc hB2.size (.cells #[.slice vo j vc] 22))) (And.intro (hO2.alloc (.cells #[.slice vo j vc] 22)) (And.intro (hS2.below ((Below.refl wr.heap.size wr).alloc (Nat.le_refl _) (.cells #[.slice vo j vc] 22))) (And.intro (hV.snoc hwl hdn) hwl))))
          have hsz2 := hB2.size
          clear hwl hV hS hO hB hdn hdl hown hBU hO2 hS2 hB2
          go_wp2_with (at_builtin; refine wpList_append_own _ rfl _ _ 26 rfl w.heap.size 22 i1 (.slice none 0 0) 1 24 Try.underlying26 hi' hy0 hy1 hy2 rfl (by decide) _ _ _ rfl HZ.out.2.1 ⟨wr.heap.size, 0, none⟩ 1 1 [.slice vo j vc] rfl rfl (World.news_of_block (cs := #[.slice vo j vc]) (t := 22) (fr := (0, 0)) (World.alloc_heap_new wr _)) (fun x hx => by simp at hx; rcases hx with rfl; rfl) (by unfold maxLen; omega) (by omega) (by simp; omega) ?_; intro v' w9 hown' hgrow _)
          go_roundw
          case rel =>
            exact ⟨k + 1, v', ws ++ [done], sv ++ [.slice vo j vc], by go_num, rfl, by omega, by rw [List.length_append, HZ.out.2.2.2.2]; rfl, HZ.out.2.2.2.1, HZ.out.2.2.1.other HZ.out.2.1 hgrow, hown', HZ.out.1.grown hgrow (by simp; omega) (fun r hr => (HZ.out.2.1.lt r hr).1)⟩
          case measure => simp [intOf]; omega
    · obtain rfl : k = p := by omega
      obtain ⟨oo, oc, rfl, _⟩ := own_slice hO
      have hfin : RndPost k delay l w (.returned (.tuple #[.slice oo k oc, .int .i64 0])) wr := ⟨oo, oc, ws, sv, rfl, hwl, hV, hS, hO, hB⟩
      have HZ := Lib.hid hfin
      clear hfin hwl hV hS hO hB
      go_wp2
      go_ret2
      exact HZ.out
end Go.Proofs.Ytdlbopaefkbmhaa
