/- PlaceMoved: the law's call. -/
import Derived.Test.YtjlfdoonhfkabaaMv3
import Derived.Test.YtjlfdoonhfkabaaQq
namespace Go.Proofs.Ytjlfdoonhfkabaa
set_option linter.unusedVariables false
set_option linter.unusedSimpArgs false
open Go Go.RowKit Go.Shelf
set_option maxRecDepth 100000

theorem clamp_add {x M : Nat} {a b : Int} (hx : x ≤ M) (h : decide (a < 0) = decide (b < 0)) : clampI (clampI x a M) b M = clampI x (a + b) M := by
  have h' : a < 0 ↔ b < 0 := decide_eq_decide.1 h
  unfold clampI
  repeat' split
  all_goals omega
theorem clamp_zero {x M : Nat} (hx : x ≤ M) : clampI x 0 M = x := by
  unfold clampI
  rw [if_neg (by omega), if_neg (by omega)]; omega

def RelV (w2 : World) (v : Value) (wr : World) (b11 : Nat) (pv : Array Value) : Prop := ∃ k : Nat, v = .int .i64 k ∧ 1 ≤ k ∧ k ≤ 4 ∧ Below w2.heap.size w2 wr ∧ Blk wr b11 pv 28

set_option maxHeartbeats 8000000 in
theorem moved_short (s : ByteArray) (hs : s.size ≤ 65536) (at' : Nat) (hat : at' ≤ s.size) (a b : Int) (hab : decide (a < 0) = decide (b < 0)) (ha : a ≤ 1099511627776) (ha' : -1099511627776 ≤ a) (hb : b ≤ 1099511627776) (hb' : -1099511627776 ≤ b) (w : World) :
    Calls Try.prog 10 #[.string s, .int .i64 at', .int .i64 a, .int .i64 b] w fun e w' => e = .returned (.bool true) ∧ Below w.heap.size w w' := by
  have cN := fun w => callsIn_wide.1 (new_in s hs w)
  obtain ⟨x, hx, hx0, hx1, hx2⟩ := cntP_spec (s := s) (q := fun p => decide (p.b ≤ at')) (fun i j hij hj h => by rw [decide_eq_true_eq] at h ⊢; have := pK_b_le s hij; omega) (by simp [pK])
  simp only [decide_eq_true_eq, decide_eq_false_iff_not, Nat.not_le] at hx1 hx2
  clear hx0
  have cB := fun m W hM => byte_any s hs m W hM at' hat x hx hx1 hx2
  have cM := fun m W hM n => move_rune s hs m W hM at' x hat hx hx1 hx2 n
  have cU := fun m W hM => move_unit s hs m W hM at' x hat hx hx1 hx2 0 x hx (by rw [clamp_zero (pK_u_le s hx)]; exact Nat.le_refl _) (fun _ => by rw [clamp_zero (pK_u_le s hx)]; exact pK_u_succ s x)
  -- the line
  have hlin : ∃ y, y ≤ nP s ∧ (pK s y).l = (pK s x).l ∧ ∀ m W, MapAt s m W → Calls Try.prog 15 #[.pointer (some ⟨m, 0, none⟩), .int .i64 at', .int .i64 3, .int .i64 0] W fun e w' => e = .returned (.tuple #[plV (pK s y), .int .i64 0]) ∧ Below W.heap.size W w' := by
    obtain ⟨fr, tt, ee, j, hrow, hjx, hjb, hjc⟩ := place_row hx
    obtain ⟨⟨j', g, j2, hO⟩, _⟩ := rows_at hrow
    have hjj : j' = j := by
      have h1 := hO.bj
      rcases Nat.lt_trichotomy j' j with h | h | h
      · have := pK_b_lt s h; omega
      · exact h
      · have := pK_b_lt s h; omega
    subst hjj
    have hgn : g ≤ nP s := by have := hO.hg; have := hO.h2; omega
    have hjl := (hO.ln j' (Nat.le_refl _) (by have := hO.hj; have := hO.hg; omega)).1
    have hlb := pK_l_bound s x
    have hcb := pK_c_bound s x
    have hnP := nP_le s
    refine ⟨min (j' + (pK s x).c) g, by omega, ?_, fun m W hM => move_line s hs m W hM at' x hat hx hx1 hx2 0 _ (fun W hM => ?_)⟩
    · have h1 := pK_l_le s (show j' ≤ min (j' + (pK s x).c) g by have := hO.hj; omega)
      have h2 := pK_l_le s (show min (j' + (pK s x).c) g ≤ x by omega)
      omega
    · have := down_any s hs m W hM (pK s x).b (pK s x).k (pK s x).u (pK s x).l (pK s x).c (by omega) (by omega) 0 (pK s x).l fr tt ee (by omega) hrow j' g (by omega) hgn hjb hO.bg
      exact this
  obtain ⟨y, hy, hyl, cL⟩ := hlin
  have c1 := fun m W hM => cM m W hM 0
  rw [clamp_zero hx] at c1
  obtain ⟨y1, hy1⟩ : ∃ y, clampI x a (nP s) = y := ⟨_, rfl⟩
  have hy1n : y1 ≤ nP s := by rw [← hy1]; exact clampI_le
  have ca := fun m W hM => cM m W hM a
  have cab := fun m W hM => cM m W hM (a + b)
  have cb := fun m W hM => move_rune s hs m W hM (pK s y1).b y1 (pK_le s y1 hy1n) hy1n (Nat.le_refl _) (fun _ => pK_b_succ s y1) b
  have hadd := clamp_add (M := nP s) hx hab
  rw [hy1] at hadd ca
  rw [← hadd] at cab
  obtain ⟨y2, hy2⟩ : ∃ y, clampI y1 b (nP s) = y := ⟨_, rfl⟩
  rw [hy2] at cab cb
  have hwr : IntKind.i64.wrap (a + b) = a + b := IntWalk.i64_in _ (by omega)
  clear cM hx1 hx2 hx hy hy1 hy1n hadd hy2
  obtain ⟨p, hp⟩ : ∃ p, pK s x = p := ⟨_, rfl⟩
  obtain ⟨q, hq⟩ : ∃ p, pK s y = p := ⟨_, rfl⟩
  obtain ⟨o, ho⟩ : ∃ p, pK s y1 = p := ⟨_, rfl⟩
  obtain ⟨t, ht⟩ : ∃ p, pK s y2 = p := ⟨_, rfl⟩
  rw [hp] at cB cU c1 hyl
  rw [hq] at cL hyl
  rw [ho] at ca cb
  rw [ht] at cab cb
  clear hp hq ho ht
  obtain ⟨pb, pk, pu, pl, pc⟩ := p
  obtain ⟨qb, qk, qu, ql, qc⟩ := q
  obtain ⟨ob, ok', ou, ol, oc⟩ := o
  obtain ⟨tb, tk, tu, tl, tc⟩ := t
  simp only at hyl
  subst hyl
  simp only [plV] at cB cU c1 cL ca cb cab
  have C1 := Lib.hid c1
  have C2 := Lib.hid cU
  have C3 := Lib.hid cL
  have CA := Lib.hid ca
  have CB := Lib.hid cb
  have CC := Lib.hid cab
  have i1 : decide ((at' : Int) < 0) = false := decide_eq_false (by omega)
  have i2 : decide ((s.size : Int) < (at' : Int)) = false := decide_eq_false (by omega)
  have i4 : decide ((1099511627776 : Int) < a) = false := decide_eq_false (by omega)
  have i5 : decide (a < -1099511627776) = false := decide_eq_false (by omega)
  have i6 : decide ((1099511627776 : Int) < b) = false := decide_eq_false (by omega)
  have i7 : decide (b < -1099511627776) = false := decide_eq_false (by omega)
  clear c1 cU cL ca cb cab
  obtain ⟨qq, hqb⟩ : ∃ q, decide (b < 0) = q := ⟨_, rfl⟩
  have hqa : decide (a < 0) = qq := by rw [← hqb]; exact hab
  clear hab
  have cB' := cB
  clear cB
  go_enter Try.func10, Try.ntmps10
  go_wp2_with (fail)
  refine (works_any _).mono ?_
  rintro e w1 ⟨rfl, hb1⟩
  go_wp2_with (fail)
  refine (cN _).mono ?_
  rintro e w2 ⟨m, rfl, hM, hb2⟩
  have hB2 := hb1.trans (hb2.mono hb1.size)
  go_wp2_with (fail)
  refine (cB' m w2 hM).mono ?_
  rintro e w3 ⟨rfl, hb3⟩
  have hB3 := hb3.alloc hb3.size (.cells #[.int .i64 pb, .int .i64 pk, .int .i64 pu, .int .i64 ql, .int .i64 pc] 28)
  have d11 := Blk.new w3 #[.int .i64 pb, .int .i64 pk, .int .i64 pu, .int .i64 ql, .int .i64 pc] 28
  obtain ⟨b11, hb11⟩ : ∃ b, w3.heap.size = b := ⟨_, rfl⟩
  rw [hb11] at d11
  obtain ⟨X3, hX3⟩ : ∃ X, w3.alloc (.cells #[.int .i64 pb, .int .i64 pk, .int .i64 pu, .int .i64 ql, .int .i64 pc] 28) = X := ⟨_, rfl⟩
  rw [hX3] at hB3 d11
  clear i1 i2 i4 i5 i6 i7 hb3
  go_wp2_with (fail)
  try rw [hX3]
  clear hb11 hX3
  go_loopw [13] (fun v wr => RelV w2 v wr b11 #[.int .i64 pb, .int .i64 pk, .int .i64 pu, .int .i64 ql, .int .i64 pc]) (fun v _ => 5 - (intOf v).toNat)
  case atStart => exact ⟨1, rfl, by omega, by omega, hB3, d11⟩
  case round =>
    obtain ⟨k, rfl, hk1, hk4, hBr, hbl⟩ := hrel
    have hMr := mapAt_below hM hBr
    rcases (show k = 1 ∨ k = 2 ∨ k = 3 ∨ k = 4 by omega) with rfl | rfl | rfl | rfl
    · go_wp2_with (fail)
      refine (C1.out m wr hMr).mono ?_
      rintro e w4 ⟨rfl, hb4⟩
      have r1 := (hbl.below' hb4).alloc (.cells #[.int .i64 pb, .int .i64 pk, .int .i64 pu, .int .i64 ql, .int .i64 pc] 28)
      have r2 := Blk.new w4 #[.int .i64 pb, .int .i64 pk, .int .i64 pu, .int .i64 ql, .int .i64 pc] 28
      have hB4 := hBr.trans (hb4.mono hBr.size)
      have hB5 := hB4.alloc hB4.size (.cells #[.int .i64 pb, .int .i64 pk, .int .i64 pu, .int .i64 ql, .int .i64 pc] 28)
      obtain ⟨X4, hX4⟩ : ∃ X, w4.alloc (.cells #[.int .i64 pb, .int .i64 pk, .int .i64 pu, .int .i64 ql, .int .i64 pc] 28) = X := ⟨_, rfl⟩
      rw [hX4] at r1 r2 hB5
      have r1c := r1.cell
      have r2c := r2.cell
      go_wp2
      go_roundw
      case rel => exact ⟨2, by first | rfl | trivial | go_num, by omega, by omega, hB5, r1⟩
      case measure => simp [intOf]
    · go_wp2_with (fail)
      refine (C2.out m wr hMr).mono ?_
      rintro e w4 ⟨rfl, hb4⟩
      have r1 := (hbl.below' hb4).alloc (.cells #[.int .i64 pb, .int .i64 pk, .int .i64 pu, .int .i64 ql, .int .i64 pc] 28)
      have r2 := Blk.new w4 #[.int .i64 pb, .int .i64 pk, .int .i64 pu, .int .i64 ql, .int .i64 pc] 28
      have hB4 := hBr.trans (hb4.mono hBr.size)
      have hB5 := hB4.alloc hB4.size (.cells #[.int .i64 pb, .int .i64 pk, .int .i64 pu, .int .i64 ql, .int .i64 pc] 28)
      obtain ⟨X4, hX4⟩ : ∃ X, w4.alloc (.cells #[.int .i64 pb, .int .i64 pk, .int .i64 pu, .int .i64 ql, .int .i64 pc] 28) = X := ⟨_, rfl⟩
      rw [hX4] at r1 r2 hB5
      have r1c := r1.cell
      have r2c := r2.cell
      go_wp2
      go_roundw
      case rel => exact ⟨3, by first | rfl | trivial | go_num, by omega, by omega, hB5, r1⟩
      case measure => simp [intOf]
    · go_wp2_with (fail)
      refine (C3.out m wr hMr).mono ?_
      rintro e w4 ⟨rfl, hb4⟩
      have r1 := (hbl.below' hb4).alloc (.cells #[.int .i64 qb, .int .i64 qk, .int .i64 qu, .int .i64 ql, .int .i64 qc] 28)
      have r2 := Blk.new w4 #[.int .i64 qb, .int .i64 qk, .int .i64 qu, .int .i64 ql, .int .i64 qc] 28
      have hB4 := hBr.trans (hb4.mono hBr.size)
      have hB5 := hB4.alloc hB4.size (.cells #[.int .i64 qb, .int .i64 qk, .int .i64 qu, .int .i64 ql, .int .i64 qc] 28)
      obtain ⟨X4, hX4⟩ : ∃ X, w4.alloc (.cells #[.int .i64 qb, .int .i64 qk, .int .i64 qu, .int .i64 ql, .int .i64 qc] 28) = X := ⟨_, rfl⟩
      rw [hX4] at r1 r2 hB5
      have r1c := r1.cell
      have r2c := r2.cell
      go_wp2
      go_roundw
      case rel => exact ⟨4, by first | rfl | trivial | go_num, by omega, by omega, hB5, r1⟩
      case measure => simp [intOf]
    · have hBB := hBr
      go_wp2_with (fail)
      refine (CA.out m wr hMr).mono ?_
      rintro e vr ⟨rfl, hbr⟩
      have br := Blk.new vr #[.int .i64 ob, .int .i64 ok', .int .i64 ou, .int .i64 ol, .int .i64 oc] 28
      have hBr' := hBB.trans (hbr.mono hBB.size)
      replace hBB := hBr'.alloc hBr'.size (.cells #[.int .i64 ob, .int .i64 ok', .int .i64 ou, .int .i64 ol, .int .i64 oc] 28)
      obtain ⟨Xa, hXa⟩ : ∃ X, vr.alloc (.cells #[.int .i64 ob, .int .i64 ok', .int .i64 ou, .int .i64 ol, .int .i64 oc] 28) = X := ⟨_, rfl⟩
      rw [hXa] at br hBB
      have c1 := br.cell
      have hMa := mapAt_below hM hBB
      go_wp2_with (fail)
      refine (CB.out m Xa hMa).mono ?_
      rintro e vb ⟨rfl, hbb⟩
      have bb := Blk.new vb #[.int .i64 tb, .int .i64 tk, .int .i64 tu, .int .i64 tl, .int .i64 tc] 28
      have hB9 := hBB.trans (hbb.mono hBB.size)
      have hB10 := hB9.alloc hB9.size (.cells #[.int .i64 tb, .int .i64 tk, .int .i64 tu, .int .i64 tl, .int .i64 tc] 28)
      obtain ⟨Xb, hXb⟩ : ∃ X, vb.alloc (.cells #[.int .i64 tb, .int .i64 tk, .int .i64 tu, .int .i64 tl, .int .i64 tc] 28) = X := ⟨_, rfl⟩
      rw [hXb] at bb hB10
      have hMb := mapAt_below hM hB10
      go_wp2_with (fail)
      refine (CC.out m Xb hMb).mono ?_
      rintro e vc ⟨rfl, hbc⟩
      have bc := Blk.new vc #[.int .i64 tb, .int .i64 tk, .int .i64 tu, .int .i64 tl, .int .i64 tc] 28
      have bb2 := (bb.below' hbc).alloc (.cells #[.int .i64 tb, .int .i64 tk, .int .i64 tu, .int .i64 tl, .int .i64 tc] 28)
      have hB11 := hB10.trans (hbc.mono hB10.size)
      have hB12 := hB11.alloc hB11.size (.cells #[.int .i64 tb, .int .i64 tk, .int .i64 tu, .int .i64 tl, .int .i64 tc] 28)
      obtain ⟨Xc, hXc⟩ : ∃ X, vc.alloc (.cells #[.int .i64 tb, .int .i64 tk, .int .i64 tu, .int .i64 tl, .int .i64 tc] 28) = X := ⟨_, rfl⟩
      rw [hXc] at bc bb2 hB12
      have c2 := bb2.cell
      have c3 := bc.cell
      go_wp2_with (fail)
      refine (works_any _).mono ?_
      rintro e we ⟨rfl, hbe⟩
      go_wp2
      go_ret
      exact ⟨rfl, (hB2.trans (hB12.mono hB2.size)).trans (hbe.mono (hB2.trans (hB12.mono hB2.size)).size)⟩
end Go.Proofs.Ytjlfdoonhfkabaa
