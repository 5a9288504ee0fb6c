/- Stage 27: the document's Between. -/
import Derived.Test.YtepbplmggladfaaGN
import Derived.Test.YtepbplmggladfaaGJ
import Derived.Test.YtepbplmggladfaaGQ
import Derived.Deep.CutRange
namespace Go.Proofs.Ytepbplmggladfaa
set_option linter.unusedVariables false
set_option linter.unusedSimpArgs false
open Go Go.RowKit Go.Shelf
set_option maxRecDepth 100000

/-- One maker of the document's. -/
def E1 (w0 : World) (B b : Nat) (W : World) (A : List Atm) : Prop := ∃ v, DkA W B b v A ∧ w0.heap.size ≤ B ∧ Below w0.heap.size w0 W
section
variable {w0 W X : World} {B b : Nat} {A : List Atm}
theorem E1.below (h : E1 w0 B b W A) (hb : Below W.heap.size W X) : E1 w0 B b X A := by
  obtain ⟨v, h1, h2, h3⟩ := h
  exact ⟨v, h1.below hb, h2, h3.trans (hb.mono h3.size)⟩
theorem e1_keep (h : E1 w0 B b W A) (n : Nat) (hn : n ≤ 1000000) (hA : A.length ≤ 900000) :
    Calls Try.prog 33 #[.pointer (some ⟨B, 0, none⟩), .int .i64 n] W fun e W' => e = .returned (.tuple #[]) ∧ E1 w0 B b W' (A ++ List.replicate n .K) := by
  obtain ⟨v, h1, h2, h3⟩ := h
  refine (dka_keep h1 n hn hA).mono ?_
  rintro e W' ⟨rfl, v', g1, g2⟩
  exact ⟨rfl, v', g1, h2, g2.belowK h1 h2 h3⟩
theorem e1_end (h : E1 w0 B b W A) (hA : A.length ≤ 900000) :
    Calls Try.prog 34 #[.pointer (some ⟨B, 0, none⟩)] W fun e W' => e = .returned (.tuple #[]) ∧ ∃ v, W'.cell? ⟨B, 0, none⟩ = some v ∧ W'.ownsRow w0.heap.size 64 3 v (nfA A).length ((nfA A).flatMap encS) ∧ Below w0.heap.size w0 W' := by
  obtain ⟨v, h1, h2, h3⟩ := h
  refine (dka_end h1 hA).mono ?_
  rintro e W' ⟨rfl, v', g1, g2⟩
  exact ⟨rfl, v', (DkB.cells g1).1, own_base (DkB.ro g1) (by have := DkB.bb g1; omega), g2.belowK h1 h2 h3⟩
theorem E1.new {w0 W : World} (h : Below w0.heap.size w0 W) : E1 w0 W.heap.size (W.heap.size + 1) (W.alloc (.cells #[.slice none 0 0, .string .empty, .string .empty] 70)) [] :=
  ⟨.slice none 0 0, ⟨Blk.new W _ _, World.ownsRow_nil _ _ _ _, by omega, by simp⟩, h.size, h.trans (((Below.refl W.heap.size W).alloc (Nat.le_refl _) _).mono h.size)⟩
theorem keep_emp (p : Nat) : (fdL (List.replicate p .K) mk0).put = .empty ∧ (fdL (List.replicate p .K) mk0).drop = .empty := by
  rw [← keep_fd, keepM_no (by decide)]
  exact ⟨rfl, rfl⟩
theorem emp_app (s : ByteArray) : ByteArray.empty ++ s = s := by apply bL_inj; rw [bL_app, bL_emp, List.nil_append]
/-- What is put and dropped is laid into it whole. -/
theorem E1.both {p : Nat} (h : E1 w0 B b W (List.replicate p .K)) (x y : ByteArray) : E1 w0 B b ((W.setCell ⟨B, 1, none⟩ (.string x)).setCell ⟨B, 2, none⟩ (.string y)) (List.replicate p .K ++ (bL x).map .P ++ (bL y).map .D) := by
  obtain ⟨v, h1, h2, h3⟩ := h
  obtain ⟨k1, k2⟩ := keep_emp p
  obtain ⟨e1, e2, e3⟩ := row_put x (fdL (List.replicate p .K) mk0)
  rw [puts_fd, ← fdL_app] at e1 e2 e3
  obtain ⟨f1, f2, f3⟩ := row_drop y (fdL (List.replicate p .K ++ (bL x).map .P) mk0)
  rw [drops_fd, ← fdL_app] at f1 f2 f3
  have g1 : DkB (W.setCell ⟨B, 1, none⟩ (.string x)) B b v (rowM (fdL (List.replicate p .K) mk0)).out x (fdL (List.replicate p .K) mk0).drop := DkB.setP h1 x
  have g2 := DkB.setD g1 y
  refine ⟨v, ?_, h2, (KpD.set g1 2 (.string y)).belowK g1 h2 ((KpD.set h1 1 (.string x)).belowK h1 h2 h3)⟩
  unfold DkA
  rw [f1, f2, f3, e1, e2, e3, k1, k2, emp_app, emp_app]
  exact g2
theorem E1.both2 {p : Nat} (h : E1 w0 B b W (List.replicate p .K)) (x y : ByteArray) : E1 w0 B b ((W.setCell ⟨B, 2, none⟩ (.string y)).setCell ⟨B, 1, none⟩ (.string x)) (List.replicate p .K ++ (bL x).map .P ++ (bL y).map .D) := by
  obtain ⟨v, h1, h2, h3⟩ := h
  obtain ⟨k1, k2⟩ := keep_emp p
  obtain ⟨e1, e2, e3⟩ := row_put x (fdL (List.replicate p .K) mk0)
  rw [puts_fd, ← fdL_app] at e1 e2 e3
  obtain ⟨f1, f2, f3⟩ := row_drop y (fdL (List.replicate p .K ++ (bL x).map .P) mk0)
  rw [drops_fd, ← fdL_app] at f1 f2 f3
  have g1 : DkB (W.setCell ⟨B, 2, none⟩ (.string y)) B b v (rowM (fdL (List.replicate p .K) mk0)).out (fdL (List.replicate p .K) mk0).put y := DkB.setD h1 y
  have g2 := DkB.setP g1 x
  refine ⟨v, ?_, h2, (KpD.set g1 1 (.string x)).belowK g1 h2 ((KpD.set h1 2 (.string y)).belowK h1 h2 h3)⟩
  unfold DkA
  rw [f1, f2, f3, e1, e2, e3, k1, k2, emp_app, emp_app]
  exact g2
theorem E1.fro (h : E1 w0 B b W A) : W.frozen? ⟨B, 1, none⟩ = false ∧ W.frozen? ⟨B, 2, none⟩ = false ∧ ∃ x y, W.cell? ⟨B, 1, none⟩ = some x ∧ W.cell? ⟨B, 2, none⟩ = some y := by
  obtain ⟨v, h1, _⟩ := h
  exact ⟨DkB.blk h1 |>.frozen 1, DkB.blk h1 |>.frozen 2, _, _, (DkB.cells h1).2.1, (DkB.cells h1).2.2⟩
end

def encQ (s : ByteArray) (i : Nat) : List Value := [.int .i64 i, .int .i64 (wd s i : Nat), .int .i32 (rn s i : Nat), .bool (bk s i)]
theorem q_get {s : ByteArray} {W : World} {o : Option Addr} {L : List Nat} {q x : Nat} (h : RowAt W (encQ s) 4 o L) (hq : L[q]? = some x) : ∃ g off, o = some ⟨g, off, none⟩ ∧ ∀ X, Below W.heap.size W X → X.cell? ⟨g, off + q * 4, none⟩ = some (.int .i64 x) ∧ X.cell? ⟨g, off + q * 4 + 1, none⟩ = some (.int .i64 (wd s x : Nat)) := by
  obtain ⟨g, off, e, hc⟩ := h q x hq
  have h0 := hc 0 (by decide)
  have h1 := hc 1 (by decide)
  rw [Nat.add_zero] at h0
  exact ⟨g, off, e, fun X hX => ⟨at_below h0 hX, at_below h1 hX⟩⟩
theorem lk_eg {s t : ByteArray} {p n : Nat} (h : SQ.Lk s t p n) : Eg s n p := by
  obtain ⟨h1, h2, pre, h3, h4, h5, h6⟩ := h
  refine ⟨h1, by rw [h4]; simp [h3], ?_⟩
  rw [h4, ← h3, List.drop_left]
theorem lk_head {s t : ByteArray} {p n : Nat} (h : SQ.Lk s t p n) (hn : 0 < n) : ∃ x, (posns s)[n - 1]? = some x ∧ x + wd s x = p := by
  obtain ⟨m, rfl⟩ : ∃ m, n = m + 1 := ⟨n - 1, by omega⟩
  obtain ⟨x, h1, h2, h3, h4⟩ := eg_prev (lk_eg h)
  exact ⟨x, h1, h3⟩
theorem lk_zero {s t : ByteArray} {p n : Nat} (h : SQ.Lk s t p n) (hn : ¬ 0 < n) : p = 0 := by
  obtain rfl : n = 0 := by omega
  exact eg_zero (lk_eg h)

def BeD (s t : ByteArray) (w : World) (e : Ending) (w' : World) : Prop :=
  ∃ p M v, BnK s t p M ∧ e = .returned v ∧ w'.ownsRow w.heap.size 64 3 v (nfA (bnA s t p M)).length ((nfA (bnA s t p M)).flatMap encS) ∧ Below w.heap.size w w'
/-- May one go on at the head? -/
def GoH (s t : ByteArray) (p n : Nat) (b : Bool) : Prop := (b = true ∧ p < s.size ∧ p < t.size ∧ SQ.wt s p = SQ.wt t p) ∨ (b = false ∧ SQ.St s t p)
/-- May one go on at the tail? -/
def GoT (s t : ByteArray) (i j : Nat) (b : Bool) : Prop := (b = true ∧ ∃ i0 j0 p q, i = i0 + 1 ∧ j = j0 + 1 ∧ (posns s)[i0]? = some p ∧ (posns t)[j0]? = some q ∧ smeB s t p q = true) ∨ (b = false ∧ bkN s t i j = 0)
def HdR (s t : ByteArray) (W0 : World) (v : Value) (wr : World) : Prop := ∃ n p, v = .int .i64 (n : Nat) ∧ SQ.Lk s t p n ∧ Below W0.heap.size W0 wr
def TlR (s t : ByteArray) (n M : Nat) (W0 : World) (v1 v2 : Value) (wr : World) : Prop :=
  ∃ i j q r m : Nat, v1 = .int .i64 ((n + i : Nat) : Int) ∧ v2 = .int .i64 ((n + j : Nat) : Int) ∧ Eg s i q ∧ Eg t j r ∧ q + m = s.size ∧ r + m = t.size ∧ M = m + bkN s t i j ∧ Below W0.heap.size W0 wr

set_option maxHeartbeats 4000000 in
theorem betweenD_any (s t : ByteArray) (hs : s.size ≤ 65536) (ht : t.size ≤ 65536) (w : World) :
    Calls Try.prog 11 #[.string s, .string t] w (BeD s t w) := by
  have cS := SZ.piecesD_any s (by omega)
  have cT := SZ.piecesD_any t (by omega)
  have lS := posns_len s
  have lT := posns_len t
  go_enter Try.func11, Try.ntmps11
  go_wp2_with (fail)
  refine (cS _).mono ?_
  rintro e w1 ⟨v1, rfl, r1, b1⟩
  clear cS
  go_wp2_with (fail)
  refine (cT _).mono ?_
  rintro e w2 ⟨v2, rfl, r2, b2⟩
  clear cT
  have r1' := own_below r1 b2
  obtain ⟨o1, c1, rfl, _⟩ := own_slice r1'
  obtain ⟨o2, c2, rfl, _⟩ := own_slice r2
  have q1 : RowAt w2 (encQ s) 4 o1 (posns s) := RowAt.of_own (enc := encQ s) (l := posns s) (k := 4) (fun _ => rfl) r1' rfl
  have q2 : RowAt w2 (encQ t) 4 o2 (posns t) := RowAt.of_own (enc := encQ t) (l := posns t) (k := 4) (fun _ => rfl) r2 rfl
  have HQ := Lib.hid (And.intro q1 (And.intro q2 (b1.trans (b2.mono b1.size))))
  clear q1 q2 r1 r1' r2 b1 b2
  obtain ⟨L1, hL1⟩ : ∃ n, (posns s).length = n := ⟨_, rfl⟩
  obtain ⟨L2, hL2⟩ : ∃ n, (posns t).length = n := ⟨_, rfl⟩
  rw [hL1] at lS ⊢
  rw [hL2] at lT ⊢
  have HL := Lib.hid (And.intro hL1 hL2)
  clear hL1 hL2
  go_wp2_with (fail)
  go_loopw [7] (fun v wr => HdR s t w2 v wr) (fun v _ => s.size + 1 - (intOf v).toNat)
  case atStart => exact ⟨0, 0, rfl, SQ.lk_0 s t, Below.refl _ _⟩
  case round =>
    obtain ⟨n, p, rfl, hk, hB⟩ := hrel
    have kA := SQ.lk_lenA hk
    have kB := SQ.lk_lenB hk
    rw [HL.out.1] at kA
    rw [HL.out.2] at kB
    have HK := Lib.hid (And.intro hk hB)
    have hp1 := hk.1
    have hp2 := hk.2.1
    clear hk hB
    go_upto_region 3 with (fail)
    go_cut [66] from 18 to 68 (fun c wx => ∃ b : Bool, c = .bool b ∧ GoH s t p n b ∧ Below w2.heap.size w2 wx)
    case first =>
      by_cases h1 : n < L1
      · have d1 : decide ((n : Int) < (L1 : Int)) = true := decide_eq_true (by omega)
        by_cases h2 : n < L2
        · have d2 : decide ((n : Int) < (L2 : Int)) = true := decide_eq_true (by omega)
          have g1 : p < s.size := by
            rcases Nat.lt_or_ge p s.size with h | h
            · exact h
            · have := kA.2.1.2 (by omega); omega
          have g2 : p < t.size := by
            rcases Nat.lt_or_ge p t.size with h | h
            · exact h
            · have := kB.2.1.2 (by omega); omega
          obtain ⟨x1, y1, rfl, z1⟩ := q_get HQ.out.1 (kA.2.2 g1)
          obtain ⟨x2, y2, rfl, z2⟩ := q_get HQ.out.2.1 (kB.2.2 g2)
          obtain ⟨z10, z11⟩ := z1 _ HK.out.2
          obtain ⟨z20, z21⟩ := z2 _ HK.out.2
          have f1 := wd_fits s p g1
          have f2 := wd_fits t p g2
          have hsm := SQ.same_iff s t p g1 g2
          have hwy := fun h => sm_wd (s := s) (t := t) g1 g2 (smeB_yes.2 h)
          obtain ⟨a, ha⟩ : ∃ a, wd s p = a := ⟨_, rfl⟩
          obtain ⟨b, hb⟩ : ∃ b, wd t p = b := ⟨_, rfl⟩
          rw [ha] at z11 f1 hsm hwy
          rw [hb] at z21 f2 hsm hwy
          have k1 : IntKind.i64.wrap ((p : Int) + a) = (p : Int) + a := IntWalk.i64_in _ (by omega)
          have k2 : IntKind.i64.wrap ((p : Int) + b) = (p : Int) + b := IntWalk.i64_in _ (by omega)
          have k3 : (0 : Int) ≤ (p : Int) := by omega
          have k4 : (p : Int) ≤ (p : Int) + a := by omega
          have k5 : (p : Int) ≤ (p : Int) + b := by omega
          have k6 : (p : Int) + a ≤ (s.size : Int) := by omega
          have k7 : (p : Int) + b ≤ (t.size : Int) := by omega
          have k8 : ((p : Int) + a).toNat = p + a := by omega
          have k9 : ((p : Int) + b).toNat = p + b := by omega
          have k10 : (0 : Int) ≤ (n : Int) := by omega
          have k11 : (n : Int) < (L1 : Int) := by omega
          have k12 : (n : Int) < (L2 : Int) := by omega
          by_cases he : s.extract p (p + a) = t.extract p (p + b)
          · have hw := hsm.1 ⟨hwy he, by rw [he, hwy he]⟩
            have hbe : ((s.extract p (p + a)).toList == (t.extract p (p + b)).toList) = true := by rw [he]; exact beq_self_eq_true _
            have HX := Lib.hid (And.intro g1 (And.intro g2 hw))
            clear hsm hwy he ha hb z1 z2 hw g1 g2 kA kB
            go_quiet (fail)
            go_wp2_with (fail)
            go_meet
            exact ⟨true, rfl, .inl ⟨rfl, HX.out⟩, SQ.below_drewN HK.out.2 _⟩
          · have hbe : ((s.extract p (p + a)).toList == (t.extract p (p + b)).toList) = false := by
              rw [beq_eq_false_iff_ne]; exact fun h => he (by apply ByteArray.ext; apply Array.ext'; simpa [ByteArray.toList_eq] using h)
            have hst : SQ.St s t p := fun h => he (by have := hsm.2 h.2.2; rw [← this.1]; exact this.2)
            have HX := Lib.hid hst
            clear hsm hwy he ha hb z1 z2 hst g1 g2 kA kB
            go_quiet (fail)
            go_wp2_with (fail)
            go_meet
            exact ⟨false, rfl, .inr ⟨rfl, HX.out⟩, SQ.below_drewN HK.out.2 _⟩
        · have d2 : decide ((n : Int) < (L2 : Int)) = false := decide_eq_false (by omega)
          have hst : SQ.St s t p := fun h => by have := kB.2.2 h.2.1; have := (List.getElem?_eq_some_iff.1 this).1; rw [HL.out.2] at this; omega
          have HX := Lib.hid hst
          clear hst kA kB
          go_quiet (fail)
          go_wp2_with (fail)
          go_meet
          exact ⟨false, rfl, .inr ⟨rfl, HX.out⟩, SQ.below_drewN HK.out.2 _⟩
      · have d1 : decide ((n : Int) < (L1 : Int)) = false := decide_eq_false (by omega)
        have hst : SQ.St s t p := fun h => by have := kA.2.2 h.1; have := (List.getElem?_eq_some_iff.1 this).1; rw [HL.out.1] at this; omega
        have HX := Lib.hid hst
        clear hst kA kB
        go_quiet (fail)
        go_wp2_with (fail)
        go_meet
        exact ⟨false, rfl, .inr ⟨rfl, HX.out⟩, SQ.below_drewN HK.out.2 _⟩
    case rest =>
      obtain ⟨b, rfl, hb, hBc⟩ := hcut
      rcases hb with ⟨rfl, g1, g2, g3⟩ | ⟨rfl, hst⟩
      · have hn := SQ.lk_next HK.out.1 g1 g2 g3
        have HN := Lib.hid (And.intro hn hBc)
        have kc := kA.1
        have kd := (List.getElem?_eq_some_iff.1 (kA.2.2 g1)).1
        rw [HL.out.1] at kd
        clear hn hBc kA kB g1 g2 g3
        go_wp2_with (fail)
        go_roundw
        case rel =>
          exact ⟨n + 1, _, by go_num, HN.out⟩
        case measure => simp [intOf]; omega
      · obtain ⟨M, hM⟩ : ∃ M, bkN (s.extract p s.size) (t.extract p t.size) (posns (s.extract p s.size)).length (posns (t.extract p t.size)).length = M := ⟨_, rfl⟩
        have hbn : BnK s t p M := ⟨n, HK.out.1, hst, hM⟩
        have hle := bnk_le hbn
        have hlen := bnA_len hbn
        obtain ⟨l1, l2, l3, l4⟩ := lk_tail HK.out.1
        rw [HL.out.1] at l1
        rw [HL.out.2] at l2
        have hzs := tl_size s p
        have hzt := tl_size t p
        have k0 : n ≤ L1 := by omega
        have HB := Lib.hid (And.intro hbn hlen)
        have HT := Lib.hid (And.intro l1 (And.intro l2 (And.intro l3 (And.intro l4 (And.intro hzs (And.intro hzt (And.intro hM hle)))))))
        have hBd := Lib.hid hBc
        clear hM hbn hle hlen l1 l2 l3 l4 hzs hzt kA kB hst hBc
        go_upto_if 70 with (fail)
        go_cut [8] from 69 (fun c wx => c = .int .i64 (p : Nat) ∧ Below w2.heap.size w2 wx)
        case first =>
          by_cases hn : 0 < n
          · obtain ⟨x, e1, e2⟩ := lk_head HK.out.1 hn
            obtain ⟨x1, y1, rfl, z1⟩ := q_get HQ.out.1 e1
            obtain ⟨z10, z11⟩ := z1 _ hBd.out
            obtain ⟨m, hm⟩ : ∃ m, n - 1 = m := ⟨_, rfl⟩
            rw [hm] at z10 z11
            have j1 : IntKind.i64.wrap ((n : Int) - 1) = (m : Int) := by rw [IntWalk.i64_in _ (by omega)]; omega
            have d1 : decide ((0 : Int) < (n : Int)) = true := decide_eq_true (by omega)
            have k1 : (0 : Int) ≤ (m : Int) := by omega
            have k2 : (m : Int) < (L1 : Int) := by omega
            obtain ⟨a, ha⟩ : ∃ a, wd s x = a := ⟨_, rfl⟩
            rw [ha] at z11 e2
            have j2 : IntKind.i64.wrap ((x : Int) + a) = (p : Int) := by rw [IntWalk.i64_in _ (by omega)]; omega
            clear z1 e1 e2 ha hm
            go_wp2_with (fail)
            go_quiet (fail)
            go_wp2_with (fail)
            go_meet
            exact ⟨rfl, SQ.below_drewN hBd.out _⟩
          · have d1 : decide ((0 : Int) < (n : Int)) = false := decide_eq_false (by omega)
            have hp0 := lk_zero HK.out.1 hn
            have HP0 := Lib.hid hp0
            have d1n : decide (0 < n) = false := decide_eq_false hn
            clear hp0
            go_wp2_with (fail)
            go_meet
            exact ⟨by rw [HP0.out]; rfl, hBd.out⟩
        case rest =>
          obtain ⟨rfl, hBe⟩ := hcut
          have HBe := Lib.hid hBe
          clear hBe
          go_wp2_with (fail)
          go_loopw [9, 10] (fun v1 v2 wr => TlR (s.extract p s.size) (t.extract p t.size) n M w2 v1 v2 wr) (fun v1 _ _ => (intOf v1).toNat)
          case atStart =>
            obtain ⟨l1, l2, l3, l4, hzs, hzt, hM, hle⟩ := HT.out
            exact ⟨_, _, _, _, 0, by rw [l1], by rw [l2], eg_end _, eg_end _, rfl, rfl, by rw [hM, Nat.zero_add], HBe.out⟩
          case round =>
            obtain ⟨i, j, q, r, m, rfl, rfl, hE, hF, hq, hr, hm, hB⟩ := hrel
            have HE := Lib.hid (And.intro hE (And.intro hF (And.intro hm hB)))
            have l1 := HT.out.1
            have l2 := HT.out.2.1
            have i1 := hE.2.1
            have i2 := hF.2.1
            rw [HT.out.2.2.2.2.1] at hq
            rw [HT.out.2.2.2.2.2.1] at hr
            have HQR := Lib.hid (And.intro hq hr)
            obtain ⟨I, hI⟩ : ∃ I, n + i = I := ⟨_, rfl⟩
            obtain ⟨J, hJ⟩ : ∃ J, n + j = J := ⟨_, rfl⟩
            have hIL : I ≤ L1 := by omega
            have hJL : J ≤ L2 := by omega
            rw [hI, hJ]
            have HI := Lib.hid (And.intro hI hJ)
            clear hE hF hm hB hq hr l1 l2 i1 i2 hI hJ
            go_upto_region 9 with (fail)
            go_cut [140] from 88 to 144 (fun c wx => ∃ b : Bool, c = .bool b ∧ GoT (s.extract p s.size) (t.extract p t.size) i j b ∧ Below w2.heap.size w2 wx)
            case first =>
              by_cases h1 : 0 < i
              · have d1 : decide ((n : Int) < (I : Int)) = true := decide_eq_true (by have := HI.out; omega)
                have d1n : decide (n < I) = true := decide_eq_true (by have := HI.out; omega)
                have d1l : n < I := by have := HI.out; omega
                by_cases h2 : 0 < j
                · have d2 : decide ((n : Int) < (J : Int)) = true := decide_eq_true (by have := HI.out; omega)
                  have d2n : decide (n < J) = true := decide_eq_true (by have := HI.out; omega)
                  have d2l : n < J := by have := HI.out; omega
                  obtain ⟨i0, rfl⟩ : ∃ k, i = k + 1 := ⟨i - 1, by omega⟩
                  obtain ⟨j0, rfl⟩ : ∃ k, j = k + 1 := ⟨j - 1, by omega⟩
                  obtain ⟨p1, e1, e2, e3, e4⟩ := eg_prev HE.out.1
                  obtain ⟨p2, f1, f2, f3, f4⟩ := eg_prev HE.out.2.1
                  have hsm := tail_sm (s := s) (t := t) e2 f2
                  have x1 := HT.out.2.2.1 i0
                  have x2 := HT.out.2.2.2.1 j0
                  rw [e1] at x1
                  rw [f1] at x2
                  have e2' := e2
                  have f2' := f2
                  rw [tl_size] at e2' f2'
                  obtain ⟨P1, hP1⟩ : ∃ k, p + p1 = k := ⟨_, rfl⟩
                  obtain ⟨P2, hP2⟩ : ∃ k, p + p2 = k := ⟨_, rfl⟩
                  obtain ⟨I0, hI0⟩ : ∃ k, n + i0 = k := ⟨_, rfl⟩
                  obtain ⟨J0, hJ0⟩ : ∃ k, n + j0 = k := ⟨_, rfl⟩
                  rw [hI0] at x1
                  rw [hJ0] at x2
                  have x1' : (posns s)[I0]? = some P1 := by rw [x1, ← hP1]; rfl
                  have x2' : (posns t)[J0]? = some P2 := by rw [x2, ← hP2]; rfl
                  rw [hP1, hP2] at hsm
                  obtain ⟨y1, y2, rfl, z1⟩ := q_get HQ.out.1 x1'
                  obtain ⟨y3, y4, rfl, z2⟩ := q_get HQ.out.2.1 x2'
                  obtain ⟨z10, z11⟩ := z1 _ HE.out.2.2.2
                  obtain ⟨z20, z21⟩ := z2 _ HE.out.2.2.2
                  have g1 : P1 < s.size := by omega
                  have g2 : P2 < t.size := by omega
                  have w1 := wd_fits s P1 g1
                  have w2' := wd_fits t P2 g2
                  have hX : ∀ b, smeB s t P1 P2 = b → (b = true → GoT (s.extract p s.size) (t.extract p t.size) (i0 + 1) (j0 + 1) true) ∧ (b = false → GoT (s.extract p s.size) (t.extract p t.size) (i0 + 1) (j0 + 1) false) := by
                    intro b hb
                    rw [← hsm] at hb
                    exact ⟨fun e => .inl ⟨rfl, i0, j0, p1, p2, rfl, rfl, e1, f1, hb.trans e⟩, fun e => .inr ⟨rfl, bk_no e1 f1 (hb.trans e)⟩⟩
                  have HX := Lib.hid hX
                  have hsd : smeB s t P1 P2 = decide (s.extract P1 (P1 + wd s P1) = t.extract P2 (P2 + wd t P2)) := rfl
                  have hi9 := HI.out
                  obtain ⟨a, ha⟩ : ∃ a, wd s P1 = a := ⟨_, rfl⟩
                  obtain ⟨b, hb⟩ : ∃ b, wd t P2 = b := ⟨_, rfl⟩
                  rw [ha] at z11 w1 hsd
                  rw [hb] at z21 w2' hsd
                  have j1 : IntKind.i64.wrap ((I : Int) - 1) = (I0 : Int) := by rw [IntWalk.i64_in _ (by omega)]; omega
                  have j2 : IntKind.i64.wrap ((J : Int) - 1) = (J0 : Int) := by rw [IntWalk.i64_in _ (by omega)]; omega
                  have k1 : IntKind.i64.wrap ((P1 : Int) + a) = (P1 : Int) + a := IntWalk.i64_in _ (by omega)
                  have k2 : IntKind.i64.wrap ((P2 : Int) + b) = (P2 : Int) + b := IntWalk.i64_in _ (by omega)
                  have k3 : (0 : Int) ≤ (P1 : Int) := by omega
                  have k3' : (0 : Int) ≤ (P2 : Int) := by omega
                  have k4 : (P1 : Int) ≤ (P1 : Int) + a := by omega
                  have k5 : (P2 : Int) ≤ (P2 : Int) + b := by omega
                  have k6 : (P1 : Int) + a ≤ (s.size : Int) := by omega
                  have k7 : (P2 : Int) + b ≤ (t.size : Int) := by omega
                  have k8 : ((P1 : Int) + a).toNat = P1 + a := by omega
                  have k9 : ((P2 : Int) + b).toNat = P2 + b := by omega
                  have k10 : (0 : Int) ≤ (I0 : Int) := by omega
                  have k11 : (I0 : Int) < (L1 : Int) := by omega
                  have k12 : (0 : Int) ≤ (J0 : Int) := by omega
                  have k13 : (J0 : Int) < (L2 : Int) := by omega
                  by_cases he : s.extract P1 (P1 + a) = t.extract P2 (P2 + b)
                  · have hbe : ((s.extract P1 (P1 + a)).toList == (t.extract P2 (P2 + b)).toList) = true := by rw [he]; exact beq_self_eq_true _
                    have hgo := (HX.out true (by rw [hsd]; exact decide_eq_true he)).1 rfl
                    have HG := Lib.hid hgo
                    clear hsd he ha hb z1 z2 g1 g2 hgo hX hsm e1 e2 e3 e4 f1 f2 f3 f4 x1 x2 x1' x2' hP1 hP2 hI0 hJ0 hi9 e2' f2' h1 h2
                    refine wp_region_quiet_lit (by kernel_rfl) (by kernel_rfl) ?_
                    repeat (go_big_quiet_step (fail))
                    refine wpQuiet_nil ?_
                    intro _ hw'
                    obtain ⟨nq, hw''⟩ := hw'
                    subst hw''
                    go_wp2_with (fail)
                    go_meet
                    exact ⟨true, rfl, HG.out, SQ.below_drewN HE.out.2.2.2 _⟩
                  · have hbe : ((s.extract P1 (P1 + a)).toList == (t.extract P2 (P2 + b)).toList) = false := by
                      rw [beq_eq_false_iff_ne]; exact fun h => he (by apply ByteArray.ext; apply Array.ext'; simpa [ByteArray.toList_eq] using h)
                    have hgo := (HX.out false (by rw [hsd]; exact decide_eq_false he)).2 rfl
                    have HG := Lib.hid hgo
                    clear hsd he ha hb z1 z2 g1 g2 hgo hX hsm e1 e2 e3 e4 f1 f2 f3 f4 x1 x2 x1' x2' hP1 hP2 hI0 hJ0 hi9 e2' f2' h1 h2
                    refine wp_region_quiet_lit (by kernel_rfl) (by kernel_rfl) ?_
                    repeat (go_big_quiet_step (fail))
                    refine wpQuiet_nil ?_
                    intro _ hw'
                    obtain ⟨nq, hw''⟩ := hw'
                    subst hw''
                    go_wp2_with (fail)
                    go_meet
                    exact ⟨false, rfl, HG.out, SQ.below_drewN HE.out.2.2.2 _⟩
                · have d2 : decide ((n : Int) < (J : Int)) = false := decide_eq_false (by have := HI.out; omega)
                  have d2n : decide (n < J) = false := decide_eq_false (by have := HI.out; omega)
                  have d2l : ¬ n < J := by have := HI.out; omega
                  obtain rfl : j = 0 := by omega
                  clear h1 h2
                  refine wp_region_quiet_lit (by kernel_rfl) (by kernel_rfl) ?_
                  repeat (go_big_quiet_step (fail))
                  refine wpQuiet_nil ?_
                  intro _ hw'
                  obtain ⟨nq, hw''⟩ := hw'
                  subst hw''
                  go_wp2_with (fail)
                  go_meet
                  exact ⟨false, rfl, .inr ⟨rfl, bk_z _ _ _⟩, SQ.below_drewN HE.out.2.2.2 _⟩
              · have d1 : decide ((n : Int) < (I : Int)) = false := decide_eq_false (by have := HI.out; omega)
                have d1n : decide (n < I) = false := decide_eq_false (by have := HI.out; omega)
                have d1l : ¬ n < I := by have := HI.out; omega
                obtain rfl : i = 0 := by omega
                clear h1
                refine wp_region_quiet_lit (by kernel_rfl) (by kernel_rfl) ?_
                repeat (go_big_quiet_step (fail))
                refine wpQuiet_nil ?_
                intro _ hw'
                obtain ⟨nq, hw''⟩ := hw'
                subst hw''
                go_wp2_with (fail)
                go_meet
                exact ⟨false, rfl, .inr ⟨rfl, bk_0 _ _ _⟩, SQ.below_drewN HE.out.2.2.2 _⟩
            case rest =>
              obtain ⟨b, rfl, hb, hBf⟩ := hcut
              rcases hb with ⟨rfl, i0, j0, p1, p2, rfl, rfl, e1, f1, hs1⟩ | ⟨rfl, hstop⟩
              · obtain ⟨p1', e1', e2, e3, e4⟩ := eg_prev HE.out.1
                obtain ⟨p2', f1', f2, f3, f4⟩ := eg_prev HE.out.2.1
                obtain rfl := Option.some.inj (e1.symm.trans e1')
                obtain rfl := Option.some.inj (f1.symm.trans f1')
                have hw := sm_wd e2 f2 hs1
                have hN := bk_yes e1 f1 hs1
                obtain ⟨hq, hr⟩ := HQR.out
                have hi9 := HI.out
                have hrel2 : ∃ i j q r m : Nat, I - 1 = n + i ∧ J - 1 = n + j ∧ Eg (s.extract p s.size) i q ∧ Eg (t.extract p t.size) j r ∧ q + m = (s.extract p s.size).size ∧ r + m = (t.extract p t.size).size ∧ M = m + bkN (s.extract p s.size) (t.extract p t.size) i j ∧ Below w2.heap.size w2 wc := by
                  have hm := HE.out.2.2.1
                  have z5 := HT.out.2.2.2.2.1
                  have z6 := HT.out.2.2.2.2.2.1
                  exact ⟨i0, j0, p1, p2, m + wd (s.extract p s.size) p1, by omega, by omega, e4, f4, by omega, by omega, by omega, hBf⟩
                have HR := Lib.hid hrel2
                have j1 : IntKind.i64.wrap ((I : Int) - 1) = ((I - 1 : Nat) : Int) := by rw [IntWalk.i64_in _ (by omega)]; omega
                have j2 : IntKind.i64.wrap ((J : Int) - 1) = ((J - 1 : Nat) : Int) := by rw [IntWalk.i64_in _ (by omega)]; omega
                obtain ⟨I1, hI1⟩ : ∃ k, I - 1 = k := ⟨_, rfl⟩
                obtain ⟨J1, hJ1⟩ : ∃ k, J - 1 = k := ⟨_, rfl⟩
                rw [hI1] at j1
                rw [hJ1] at j2
                have hlt : I1 < I := by omega
                have HI1 := Lib.hid (And.intro hI1 hJ1)
                clear hrel2 hi9 hq hr hw hN e1 e1' e2 e3 e4 f1 f1' f2 f3 f4 hs1 hBf hI1 hJ1
                go_wp2_with (fail)
                go_roundw
                case rel =>
                  obtain ⟨i, j, q, r, m, g1, g2, g3⟩ := HR.out
                  rw [HI1.out.1] at g1
                  rw [HI1.out.2] at g2
                  exact ⟨i, j, q, r, m, by rw [g1], by rw [g2], g3⟩
                case measure => simp [intOf]; omega
              · obtain ⟨hq, hr⟩ := HQR.out
                have hm := HE.out.2.2.1
                rw [hstop, Nat.add_zero] at hm
                subst hm
                obtain ⟨l1, l2, l3, l4, hzs, hzt, hM, hle⟩ := HT.out
                obtain ⟨hI, hJ⟩ := HI.out
                obtain ⟨F1, hF1⟩ : ∃ k, s.size - M = k := ⟨_, rfl⟩
                obtain ⟨T1, hT1⟩ : ∃ k, t.size - M = k := ⟨_, rfl⟩
                have hq1 : p + q = F1 := by omega
                have hr1 : p + r = T1 := by omega
                have a1 := eg_at HE.out.1
                have a2 := eg_at HE.out.2.1
                rw [hzs] at a1
                rw [hzt] at a2
                have m1 : I < L1 → (posns s)[I]? = some F1 := fun h => by
                  have := (a1.1 (by omega)).1
                  rw [← hI, l3, this, ← hq1]; rfl
                have m2 : I < L1 → (posns t)[J]? = some T1 := fun h => by
                  have h5 := (a1.1 (by omega)).2
                  have h6 : j < (posns (t.extract p t.size)).length := by
                    rcases Nat.lt_or_ge j (posns (t.extract p t.size)).length with h7 | h7
                    · exact h7
                    · have := a2.2 (by omega); omega
                  have := (a2.1 h6).1
                  rw [← hJ, l4, this, ← hr1]; rfl
                have m3 : ¬ I < L1 → F1 = s.size ∧ T1 = t.size := fun h => by
                  have := a1.2 (by omega)
                  omega
                have HM := Lib.hid (And.intro m1 (And.intro m2 m3))
                have HF := Lib.hid (And.intro hF1 hT1)
                have HBf := Lib.hid hBf
                have hb1 : p ≤ F1 := by omega
                have hb2 : p ≤ T1 := by omega
                have hb3 : F1 ≤ s.size := by omega
                have hb4 : T1 ≤ t.size := by omega
                clear m1 m2 m3 a1 a2 hq1 hr1 hF1 hT1 hI hJ l1 l2 l3 l4 hzs hzt hM hle hq hr hstop hBf
                go_upto_if 152 with (fail)
                go_cut [11, 12] from 149 (fun a b wx => a = .int .i64 (F1 : Nat) ∧ b = .int .i64 (T1 : Nat) ∧ Below w2.heap.size w2 wx)
                case first =>
                  by_cases h1 : I < L1
                  · have x1 := HM.out.1 h1
                    have x2 := HM.out.2.1 h1
                    have h2 := (List.getElem?_eq_some_iff.1 x2).1
                    rw [HL.out.2] at h2
                    obtain ⟨y1, y2, rfl, z1⟩ := q_get HQ.out.1 x1
                    obtain ⟨y3, y4, rfl, z2⟩ := q_get HQ.out.2.1 x2
                    obtain ⟨z10, z11⟩ := z1 _ HBf.out
                    obtain ⟨z20, z21⟩ := z2 _ HBf.out
                    have d1 : decide ((I : Int) < (L1 : Int)) = true := decide_eq_true (by omega)
                    have k1 : (0 : Int) ≤ (I : Int) := by omega
                    have k2 : (I : Int) < (L1 : Int) := by omega
                    have k3 : (0 : Int) ≤ (J : Int) := by omega
                    have k4 : (J : Int) < (L2 : Int) := by omega
                    clear z1 z2 x1 x2 z11 z21
                    go_wp2_with (fail)
                    go_quiet (fail)
                    go_wp2_with (fail)
                    go_meet
                    exact ⟨rfl, rfl, SQ.below_drewN HBf.out _⟩
                  · have d1 : decide ((I : Int) < (L1 : Int)) = false := decide_eq_false (by omega)
                    have d1n : decide (I < L1) = false := decide_eq_false h1
                    have h3 := HM.out.2.2 h1
                    have H3 := Lib.hid h3
                    clear h3
                    go_wp2_with (fail)
                    go_meet
                    exact ⟨by rw [H3.out.1], by rw [H3.out.2], HBf.out⟩
                case rest =>
                  obtain ⟨rfl, rfl, hBg⟩ := hcut
                  have hN := E1.new (HQ.out.2.2.trans (hBg.mono HQ.out.2.2.size))
                  have c1 := e1_keep hN p (by omega) (by simp)
                  clear hN hBg
                  go_wp2_with (fail)
                  refine c1.mono ?_
                  rintro e W3 ⟨rfl, hE3⟩
                  rw [List.nil_append] at hE3
                  obtain ⟨B, hB⟩ : ∃ B, wc.heap.size = B := ⟨_, rfl⟩
                  rw [hB] at hE3 ⊢
                  obtain ⟨z1, z2, x, y, z3, z4⟩ := hE3.fro
                  have HE3 := Lib.hid hE3
                  have k1 : (0 : Int) ≤ (p : Int) := by omega
                  have k2 : (p : Int) ≤ (F1 : Int) := by omega
                  have k3 : (p : Int) ≤ (T1 : Int) := by omega
                  have k4 : (F1 : Int) ≤ (s.size : Int) := by omega
                  have k5 : (T1 : Int) ≤ (t.size : Int) := by omega
                  clear hE3 c1 hB
                  go_wp2_with (fail)
                  go_cut [13] from 166 (fun a wx => a = .pointer (some ⟨B, 0, none⟩) ∧ ∃ b', E1 w B b' wx (List.replicate p .K ++ (bL (t.extract p T1)).map .P ++ (bL (s.extract p F1)).map .D))
                  case first =>
                    go_region
                    all_goals (go_wp2_with (fail); go_meet; first | exact ⟨rfl, _, E1.both HE3.out _ _⟩ | exact ⟨rfl, _, E1.both2 HE3.out _ _⟩ | exact ⟨rfl, _, (E1.both HE3.out _ _).below (SQ.below_drewN (Below.refl _ _) _)⟩ | exact ⟨rfl, _, (E1.both2 HE3.out _ _).below (SQ.below_drewN (Below.refl _ _) _)⟩)
                  case rest =>
                    obtain ⟨rfl, b', hE4⟩ := hcut
                    have hF := HF.out
                    have hbl := bnk_le HB.out.1
                    have hln := HB.out.2
                    have hAe : List.replicate p Atm.K ++ (bL (t.extract p T1)).map .P ++ (bL (s.extract p F1)).map .D ++ List.replicate M .K = bnA s t p M := by
                      unfold bnA; rw [hF.1, hF.2]
                    have hA4 : (List.replicate p Atm.K ++ (bL (t.extract p T1)).map Atm.P ++ (bL (s.extract p F1)).map Atm.D).length ≤ 900000 := by
                      have := congrArg List.length hAe
                      rw [List.length_append] at this
                      omega
                    have c2 := e1_keep hE4 M (by omega) hA4
                    rw [hAe] at c2
                    have j1 : IntKind.i64.wrap ((s.size : Int) - (F1 : Int)) = (M : Int) := by rw [IntWalk.i64_in _ (by omega)]; omega
                    clear hE4 hAe hA4 hF hbl
                    go_wp2_with (fail)
                    refine c2.mono ?_
                    rintro e W5 ⟨rfl, hE5⟩
                    have c3 := e1_end hE5 (by omega)
                    clear hE5 c2
                    go_wp2_with (fail)
                    refine c3.mono ?_
                    rintro e W6 ⟨rfl, v, hv, hr6, hb6⟩
                    have H6 := Lib.hid (And.intro hr6 hb6)
                    clear hr6 hb6 c3
                    go_wp2
                    go_ret
                    exact ⟨p, M, v, HB.out.1, rfl, H6.out.1, H6.out.2⟩
end Go.Proofs.Ytepbplmggladfaa
