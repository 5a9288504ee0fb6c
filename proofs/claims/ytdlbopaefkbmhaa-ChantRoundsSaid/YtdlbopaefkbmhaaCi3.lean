/- Stage 31: Round, the program's. -/
import Derived.Test.YtdlbopaefkbmhaaCi2
namespace Go.Proofs.Ytdlbopaefkbmhaa
set_option linter.unusedVariables false
set_option linter.unusedSimpArgs false
open Go Go.RowKit Go.Shelf
set_option maxRecDepth 100000

theorem set_at (done rest : List Nt) (x : Nt) (a : Nat) : ((done ++ x :: rest).flatMap encN).set (done.length * 6 + 4) (.float .f64 a) = (done ++ { x with at' := a } :: rest).flatMap encN := by
  rw [List.flatMap_append, List.flatMap_append, List.flatMap_cons, List.flatMap_cons]
  have hl : (done.flatMap encN).length = done.length * 6 := fl_len encN_len done
  rw [List.set_append_right _ _ (by omega), hl]
  rw [show done.length * 6 + 4 - done.length * 6 = 4 by omega]
  rfl
def RdP (k delay : Nat) (l : List Nt) (v : Value) (U : World) (i : Value) (wr : World) : Prop := ∃ (j : Nat) (done : List Nt), i = .int .i64 j ∧ j ≤ l.length ∧ RndL k delay (l.take j) done ∧ wr.ownsRow U.heap.size 37 6 v l.length ((done ++ l.drop j).flatMap encN) ∧ Below U.heap.size U wr

set_option maxHeartbeats 16000000 in
theorem round_ok (l : List Nt) (o : Option Addr) (cap delay p : Nat) (hf : NForm o l.length cap) (hp1 : 1 ≤ p) (hp2 : p ≤ 16) (hl : p * l.length ≤ 65536) (h : errR p delay = false) (w : World) (hr : RowAt w encN 6 o l) :
    Calls Try.prog 8 #[.slice o l.length cap, .int .i64 p, .float .f64 delay] w (RndPost p delay l w) := by
  obtain ⟨i1, hi', hy0, hy1, hy2⟩ := info_parts infoNotes
  have cF := fun W => finite_any delay W
  have h' := h
  unfold errR at h'
  simp only [Bool.or_eq_false_iff, Bool.not_eq_false'] at h'
  obtain ⟨⟨⟨_, _⟩, hf1⟩, hf2'⟩ := h'
  have hf2 : (FloatKind.f64.format.order delay 0 == some .lt) = false := hf2'
  rw [hf1] at cF
  have e1 : decide ((p : Int) < 1) = false := decide_eq_false (by omega)
  have e1n : decide (p < 1) = false := decide_eq_false (by omega)
  have e2 : decide ((16 : Int) < p) = false := decide_eq_false (by omega)
  have e2n : decide (16 < p) = false := decide_eq_false (by omega)
  have hn0 : l.length ≤ 65536 := Nat.le_trans (Nat.le_mul_of_pos_left _ hp1) hl
  have cC := fun W h => clone_any l o cap hf (by omega) W h
  obtain ⟨n, hnn⟩ : ∃ n, l.length = n := ⟨_, rfl⟩
  rw [hnn] at hl hn0 cC ⊢
  have hn := hn0
  have hb : p * n ≤ 65536 := hl
  have j2 : (p : Int) * (n : Int) = ((p * n : Nat) : Int) := by rw [← Int.natCast_mul]
  obtain ⟨m, hm⟩ : ∃ m, p * n = m := ⟨_, rfl⟩
  rw [hm] at hb j2 hl
  have e3 : decide ((65536 : Int) < (m : Int)) = false := decide_eq_false (by omega)
  have e3n : decide (65536 < m) = false := decide_eq_false (by omega)
  have jw : wrap64 ((p : Int) * (n : Int)) = (m : Int) := by
    rw [j2]; unfold wrap64; omega
  have hcv := conv_run
  have HN := Lib.hid hnn
  have HR := Lib.hid hr
  have d0 : Below w.heap.size w (w.drewN (fnd .sub delay delay)) := ⟨rfl, rfl, rfl, Nat.le_refl _, fun _ _ => rfl⟩
  clear h hf1 hf2' hl hm hnn hr hn0 j2 hf
  go_enter Try.func8, Try.ntmps8
  go_wp2_with (fail)
  refine (cF _).mono ?_
  rintro e w' ⟨rfl, rfl⟩
  go_wp2
  clear jw e3 e3n
  go_loopw [35, 8] (RdO p delay l w) (fun i _ _ => p - (intOf i).toNat)
  case atStart => exact ⟨0, _, [], [], rfl, rfl, by omega, rfl, fun i a ha => by simp at ha, SvW.nil _ _, World.ownsRow_nil _ _ _ _, d0⟩
  case round =>
    obtain ⟨k, out, ws, sv, rfl, rfl, hk, hwl, hV, hS, hO, hB⟩ := hrel
    by_cases hlt : k < p
    · obtain ⟨oo, oc, rfl, _⟩ := own_slice hO
      have HU := Lib.hid (And.intro hwl (And.intro hV (And.intro hS (And.intro hO hB))))
      have hszw := hB.size
      obtain ⟨U, hU⟩ : ∃ U, wr = U := ⟨_, rfl⟩
      have hrU : RowAt U encN 6 o l := by rw [← hU]; exact HR.out.below encN_len (by decide) hB
      rw [hU] at HU hszw ⊢
      clear hwl hV hS hO hB
      clear hU
      go_wp2_with (fail)
      have Fq := fres_is .mul (floatOfInt .f64 (k : Int)) delay U
      have hB2 : Below U.heap.size U (U.drewN (fnd .mul (floatOfInt .f64 (k : Int)) delay)) := ⟨rfl, rfl, rfl, Nat.le_refl _, fun _ _ => rfl⟩
      obtain ⟨q, hq⟩ : ∃ q, fres .mul (floatOfInt .f64 (k : Int)) delay U = q := ⟨_, rfl⟩
      rw [hq] at Fq ⊢
      obtain ⟨W2, hW2⟩ : ∃ Z, U.drewN (fnd .mul (floatOfInt .f64 (k : Int)) delay) = Z := ⟨_, rfl⟩
      rw [hW2] at hB2 ⊢
      have hr2 := hrU.below encN_len (by decide) hB2
      clear hq hW2 hrU
      refine (cC _ hr2).mono ?_
      rintro e w3 ⟨v, rfl, hown, hb3⟩
      have hB3 := hB2.trans (hb3.mono hB2.size)
      have hown := own_base hown hB2.size
      obtain ⟨o', c', rfl, hoo⟩ := own_slice hown
      have hst : RdP k delay l (.slice o' n c') U (.int .i64 0) w3 := ⟨0, [], rfl, by omega, ⟨by simp, fun i x y h _ => by simp at h⟩, by rw [HN.out]; simpa using hown, hB3⟩
      have HF := Lib.hid Fq
      clear hr2 hB2 hown hb3 hB3 Fq
      go_wp2
      go_loopw [46] (RdP k delay l (.slice o' n c') U) (fun i _ => n - (intOf i).toNat)
      case atStart => exact hst
      case round =>
        clear hst
        obtain ⟨j, done, rfl, hj, hd, hown, hBU⟩ := hrel
        rw [HN.out] at hj hown
        by_cases hlj : j < n
        · obtain ⟨x, hx⟩ : ∃ x, l[j]? = some x := ⟨_, List.getElem?_eq_getElem (by rw [HN.out]; exact hlj)⟩
          have hdl : done.length = j := by rw [hd.1, List.length_take, HN.out]; omega
          have hdrop : l.drop j = x :: l.drop (j + 1) := by
            rw [List.drop_eq_getElem_cons (by rw [HN.out]; exact hlj)]
            rw [(List.getElem?_eq_some_iff.1 hx).2]
          rw [hdrop] at hown
          have hlen2 : (done ++ x :: l.drop (j + 1)).length = n := by
            have := hown.1
            rw [fl_len encN_len] at this
            omega
          have hRA := RowAt.of_own encN_len hown hlen2
          obtain ⟨g, rfl⟩ := hoo (by omega)
          obtain ⟨g', off', hgo, hcl⟩ := hRA j x (by rw [List.getElem?_append_right (by omega), hdl]; simp)
          cases hgo
          have hs2 := fun a => set_at done (l.drop (j + 1)) x a
          have hsn := fun a (ha : FIs .add x.at' q a) => RndL.snoc hd hx (y := { x with at' := plainF a }) ⟨rfl, rfl, rfl, rfl, rfl, q, a, HF.out, ha, rfl⟩
          obtain ⟨xl, xb, xw, xs, xa, xo⟩ := x
          have x0 := hcl 0 (by decide)
          have x1 := hcl 1 (by decide)
          have x2 := hcl 2 (by decide)
          have x3 := hcl 3 (by decide)
          have x4 := hcl 4 (by decide)
          have x5 := hcl 5 (by decide)
          simp only [encN, List.getElem?_cons_succ, List.getElem?_cons_zero, Nat.add_zero, Nat.zero_add] at x0 x1 x2 x3 x4 x5
          dsimp only at hs2 hsn
          obtain ⟨zs, hzs⟩ : ∃ z, (done ++ { line := xl, beat := xb, word := xw, strong := xs, at' := xa, long := xo } :: l.drop (j + 1)).flatMap encN = z := ⟨_, rfl⟩
          rw [hzs] at hown
          have hgl := (hown.lt g rfl).2
          have q1 : (0 : Int) ≤ (j : Int) := by omega
          have q2 : (j : Int) < (n : Int) := by omega
          have K0 : ScG U n g c' wr.heap.size #[.int .i64 xl, .int .i64 xb, .int .i64 xw, .bool xs, .float .f64 xa, .float .f64 xo] zs (wr.alloc (.cells #[.int .i64 xl, .int .i64 xb, .int .i64 xw, .bool xs, .float .f64 xa, .float .f64 xo] 37)) := ⟨hown.alloc _, Blk.new wr #[.int .i64 xl, .int .i64 xb, .int .i64 xw, .bool xs, .float .f64 xa, .float .f64 xo] 37, hBU.alloc hBU.size _⟩
          have HS := Lib.hid (And.intro hs2 (And.intro hsn (And.intro hdl (And.intro hzs K0))))
          have bk := K0.2.1
          have b4 := bk.cell 4
          simp only [List.getElem?_toArray, List.getElem?_cons_succ, List.getElem?_cons_zero] at b4
          clear hs2 hsn hdl hzs hcl hRA hlen2 hdrop hown hBU hd hx K0 bk
          go_wp2_with (fail)
          refine (plain_any _ _).mono ?_
          rintro e w5 ⟨he, hw5⟩
          obtain ⟨a, Fa, he⟩ : ∃ a, FIs .add xa q a ∧ e = .returned (.float .f64 (plainF a)) := ⟨_, fres_is _ _ _ _, he⟩
          subst he
          have hne : wr.heap.size ≠ g := by omega
          have K1 : ScG U n g c' wr.heap.size #[.int .i64 xl, .int .i64 xb, .int .i64 xw, .bool xs, .float .f64 xa, .float .f64 xo] zs w5 := by rw [hw5]; exact HS.out.2.2.2.2.drewN _
          have u5 := K1.cell (j := j * 6 + 4) (by omega)
          obtain ⟨u5, hu5⟩ := u5
          have fr5 := own_free K1.1 (j * 6 + 4)
          have K2 := K1.set hne (j * 6 + 4) (.float .f64 (plainF a))
          have HK := Lib.hid (And.intro Fa K2)
          clear K1 K2 Fa hw5 b4 x0 x1 x2 x3 x4 x5
          go_wp2
          go_roundw
          case rel =>
            obtain ⟨hs2, hsn, hdl, hzs, _⟩ := HS.out
            have hs2 := hs2 (plainF a)
            rw [hdl, hzs] at hs2
            refine ⟨j + 1, _, by go_num, by rw [HN.out]; omega, hsn a HK.out.1, ?_, HK.out.2.2.2⟩
            have hk := HK.out.2.1
            rw [hs2] at hk
            rw [HN.out, List.append_assoc]
            exact hk
          case measure => simp [intOf]; omega
        · obtain rfl : j = n := by omega
          rw [List.take_of_length_le (by rw [HN.out]; omega)] at hd
          rw [List.drop_of_length_le (by rw [HN.out]; omega), List.append_nil] at hown
          clear hoo
          obtain ⟨hwl, hV, hS, hO, hB⟩ := HU.out
          have hdl : done.length = j := by rw [hd.1, HN.out]
          have hO2 := own_below hO hBU
          have hS2 : SvW w.heap.size wr (ws ++ [done]) (sv ++ [.slice o' j c']) := by
            have := (hS.below hBU).snoc (l := done) (ol := o') (cp := c') (m := U.heap.size) hS.lt hszw (by rw [hdl]; exact hown)
            rwa [hdl] at this
          have hB2 := hB.trans (hBU.mono hszw)
          have HZ := Lib.hid (And.intro ((hB2.alloc hB2.size (.cells #[.slice o' j c'] 22))) (And.intro (hO2.alloc (.cells #[.slice o' j c'] 22)) (And.intro (hS2.below ((Below.refl wr.heap.size wr).alloc (Nat.le_refl _) (.cells #[.slice o' j c'] 22))) (And.intro (hV.snoc hwl hd) hwl))))
          have hsz2 := hB2.size
          clear hwl hV hS hO hB hd hdl hown hBU hO2 hS2 hB2
          go_wp2_with (at_builtin; refine wpList_append_own _ rfl _ _ 26 rfl w.heap.size 22 i1 (.slice none 0 0) 1 24 Try.underlying26 hi' hy0 hy1 hy2 rfl (by decide) _ _ _ rfl HZ.out.2.1 ⟨wr.heap.size, 0, none⟩ 1 1 [.slice o' j c'] rfl rfl (World.news_of_block (cs := #[.slice o' j c']) (t := 22) (fr := (0, 0)) (World.alloc_heap_new wr _)) (fun x hx => by simp at hx; rcases hx with rfl; rfl) (by unfold maxLen; omega) (by omega) (by simp; omega) ?_; intro v' w9 hown' hgrow _)
          go_roundw
          case rel =>
            exact ⟨k + 1, v', ws ++ [done], sv ++ [.slice o' j c'], by go_num, rfl, by omega, by rw [List.length_append, HZ.out.2.2.2.2]; rfl, HZ.out.2.2.2.1, HZ.out.2.2.1.other HZ.out.2.1 hgrow, hown', HZ.out.1.grown hgrow (by simp; omega) (fun r hr => (HZ.out.2.1.lt r hr).1)⟩
          case measure => simp [intOf]; omega
    · obtain rfl : k = p := by omega
      obtain ⟨oo, oc, rfl, _⟩ := own_slice hO
      have hfin : RndPost k delay l w (.returned (.tuple #[.slice oo k oc, .int .i64 0])) wr := ⟨oo, oc, ws, sv, rfl, hwl, hV, hS, hO, hB⟩
      have HZ := Lib.hid hfin
      clear hfin hwl hV hS hO hB
      go_wp2
      go_ret2
      exact HZ.out
end Go.Proofs.Ytdlbopaefkbmhaa
