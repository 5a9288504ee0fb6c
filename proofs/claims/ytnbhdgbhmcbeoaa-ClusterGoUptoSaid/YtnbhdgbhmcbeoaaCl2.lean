/- Layer 5: the cluster that begins at a place. -/
import Derived.Test.YtnbhdgbhmcbeoaaCl1
import Derived.Test.YtnbhdgbhmcbeoaaTl
import Derived.Deep.CutRange
namespace Go.Proofs.Ytnbhdgbhmcbeoaa
set_option linter.unusedVariables false
set_option linter.unusedSimpArgs false
open Go Go.RowKit Go.Shelf
set_option maxRecDepth 100000

def celV (c : Cel) : Value := .agg #[.int .i64 (c.1 : Nat), .int .i64 (c.2.1 : Nat), .int .i64 (c.2.2 : Nat)]

set_option maxHeartbeats 4000000 in
theorem first_crlf (s : ByteArray) (hs : s.size ≤ 9223372036854775807) (i : Nat) (hi : i < s.size) (hc : crlf s i = true) (w : World) :
    Calls Try.prog 43 #[.string s, .int .i64 (i : Int)] w fun e w' => e = .returned (celV (i, fstC s i)) ∧ Below w.heap.size w w' := by
  have hf : fstC s i = (i + 2, 0) := by unfold fstC; rw [if_pos hc]
  have hg := bt_get s i hi
  obtain ⟨h1, e3, h2⟩ := of_decide_eq_true hc
  have hg2 := bt_get s (i + 1) e3
  have e1 : ((bt s i : Int) == 13) = true := by rw [beq_iff_eq]; omega
  have e2 : ((bt s (i + 1) : Int) == 10) = true := by rw [beq_iff_eq]; omega
  have HF := Lib.hid hf
  clear hf h1 h2 hc
  go_enter Try.func43, Try.ntmps43
  go_wp2
  go_step3
  go_wp2
  rw [Exit.noGoto_ret]
  refine bodyPost_ret (v := celV (i, i + 2, 0)) (by simp [results, Try.f43, go_sem, celV]) rfl ⟨by rw [HF.out], ?_⟩
  exact (Below.refl _ _).alloc (Nat.le_refl _) _

/-- What a round leaves alone. -/
def CfW (i q c ps : Nat) (tx : ByteArray) (C B0 it : Nat) (w0 wx : World) : Prop := Blk wx C #[.int .i64 i, .int .i64 q, .int .i64 c] 26 ∧ Blk wx B0 #[.int .i64 0, .int .i64 0, .int .i64 0] 26 ∧ Below B0 w0 wx ∧ wx.heap[it]? = some (.stringIter tx ps)
def CfRel (s : ByteArray) (kind i c0 tt C B0 it : Nat) (w0 : World) (joined : Value) (wr : World) : Prop :=
  ∃ (pos : Nat) (j : Bool) (c : Nat), joined = .bool j ∧ tt + pos ≤ s.size ∧ c ≤ 2 ∧ rowG s kind (tt + pos) j c = rowG s kind tt false c0 ∧ CfW i (tt + pos) c pos (s.extract tt s.size) C B0 it w0 wr
/-- What the piece's block holds. -/
def PbW (pb : Nat) (rq : Nat) (bq : Bool) (wx : World) : Prop := ∃ x y : Int, Blk wx pb #[.int .i64 x, .int .i64 y, .int .i32 rq, .bool bq] 84

set_option maxHeartbeats 16000000 in
theorem first_other (s : ByteArray) (hs : s.size ≤ 9223372036854775807) (i : Nat) (hi : i < s.size) (hc : crlf s i = false) (w : World) :
    Calls Try.prog 43 #[.string s, .int .i64 (i : Int)] w fun e w' => e = .returned (celV (i, fstC s i)) ∧ Below w.heap.size w w' := by
  have hg := bt_get s i hi
  have hcc := of_decide_eq_false hc
  have hwf := wd_fits s i hi
  have hwp := wd_pos s i
  have hcl := colc_le s i
  have hf : fstC s i = if kdc s i = 11 ∨ kdc s i = 4 ∨ kdc s i = 9 then (i + wd s i, colc s i) else rowG s (kdc s i) (i + wd s i) false (colc s i) := by unfold fstC; rw [if_neg (by rw [hc]; simp)]
  have cO := fun (x y r : Int) b W => ofK x y r b W
  have cC := fun (x y r : Int) b W => columns_any x y r b W
  have hkd : kdP (bk s i) (rn s i) = kdc s i := rfl
  have hcd : colZ (kdc s i) (rn s i) = colc s i := rfl
  have hkl := kdP_le (bk s i) (rn s i)
  obtain ⟨kind, hkind⟩ : ∃ k, kdc s i = k := ⟨_, rfl⟩
  obtain ⟨c0, hc0⟩ : ∃ k, colc s i = k := ⟨_, rfl⟩
  obtain ⟨wx, hwx⟩ : ∃ k, wd s i = k := ⟨_, rfl⟩
  obtain ⟨tt, hto⟩ : ∃ k, i + wx = k := ⟨_, rfl⟩
  have hA := at_ok s i hi (by omega)
  have cH := cO i wx (rn s i : Nat) (bk s i)
  have cK := cC i wx (rn s i : Nat) (bk s i)
  rw [hkd] at cH cK hkl
  rw [hcd] at cK
  rw [hwx] at hA hwf hwp
  rw [hkind] at cH hf hkl
  rw [hc0] at cK hf hcl
  rw [hwx, hto] at hf
  obtain ⟨rx, hrx⟩ : ∃ k, rn s i = k := ⟨_, rfl⟩
  obtain ⟨bx, hbx⟩ : ∃ k, bk s i = k := ⟨_, rfl⟩
  rw [hrx, hbx] at hA cH cK
  have j1 : IntKind.i64.wrap ((i : Int) + (wx : Int)) = (tt : Int) := by rw [IntWalk.i64_in _ (by omega)]; omega
  have hto2 : i < tt ∧ tt ≤ s.size := by omega
  have HF := Lib.hid hf
  clear hf hkd hcd hkind hc0 hwx hrx hbx hto
  go_enter Try.func43, Try.ntmps43
  go_wp2_with (fail)
  go_step3
  go_upto_region 1 with (fail)
  go_cut [31] from 14 to 30 (fun c wx => c = .bool false ∧ wx = w.alloc (.cells #[.int .i64 0, .int .i64 0, .int .i64 0] 26))
  case first =>
    rcases (show bt s i ≠ 13 ∨ (bt s i = 13 ∧ ¬ i + 1 < s.size) ∨ (bt s i = 13 ∧ ∃ _ : i + 1 < s.size, bt s (i + 1) ≠ 10) from by
      by_cases h1 : bt s i = 13
      · by_cases h2 : i + 1 < s.size
        · exact .inr (.inr ⟨h1, h2, fun h3 => hcc ⟨h1, h2, h3⟩⟩)
        · exact .inr (.inl ⟨h1, h2⟩)
      · exact .inl h1) with h1 | ⟨h1, h2⟩ | ⟨h1, h2, h3⟩
    · have e1 : ((bt s i : Int) == 13) = false := by rw [beq_eq_false_iff_ne]; omega
      clear h1 hcc hc
      go_wp2_with (fail)
      go_meet
      exact ⟨rfl, rfl⟩
    · have e1 : ((bt s i : Int) == 13) = true := by rw [beq_iff_eq]; omega
      have e2 : decide (i + 1 < s.size) = false := decide_eq_false h2
      have e3 : decide ((i : Int) + 1 < (s.size : Int)) = false := decide_eq_false (by omega)
      clear h1 hcc hc
      go_wp2_with (fail)
      go_meet
      exact ⟨rfl, rfl⟩
    · have e1 : ((bt s i : Int) == 13) = true := by rw [beq_iff_eq]; omega
      have e2 : ((bt s (i + 1) : Int) == 10) = false := by rw [beq_eq_false_iff_ne]; omega
      have hg2 := bt_get s (i + 1) h2
      clear h1 h3 hcc hc
      go_wp2_with (fail)
      go_meet
      exact ⟨rfl, rfl⟩
  case rest =>
    obtain ⟨rfl, rfl⟩ := hcut
    clear hcc hc
    go_wp2_with (fail)
    refine (hA _).mono ?_
    rintro e w1 ⟨rfl, hb1⟩
    have z0 := (Blk.new w #[.int .i64 0, .int .i64 0, .int .i64 0] 26).below' hb1
    have B1 := ((Below.refl _ w).alloc (Nat.le_refl _) (.cells #[.int .i64 0, .int .i64 0, .int .i64 0] 26)).trans (hb1.mono (by simp))
    have hl1 := B1.size
    obtain ⟨H, hH⟩ : ∃ H, w1.heap.size = H := ⟨_, rfl⟩
    have p0 := Blk.new w1 #[.int .i64 i, .int .i64 wx, .int .i32 rx, .bool bx] 84
    have q0 := p0.cell 0
    have q1 := p0.cell 1
    have q2 := p0.cell 2
    have q3 := p0.cell 3
    clear hA hb1
    go_wp2_with (fail)
    refine (cK _).mono ?_
    rintro e w2 ⟨rfl, hb2⟩
    have B2 := (B1.alloc B1.size (.cells #[.int .i64 i, .int .i64 wx, .int .i32 rx, .bool bx] 84)).trans (hb2.mono (by simp; omega))
    have z1 := (z0.alloc (.cells #[.int .i64 i, .int .i64 wx, .int .i32 rx, .bool bx] 84)).below' hb2
    have p1 := p0.below' hb2
    rw [hH] at p1
    have hl2 : H < w2.heap.size := p1.lt
    have q0 := p1.cell 0
    have q1 := p1.cell 1
    have q2 := p1.cell 2
    have q3 := p1.cell 3
    clear cK hb2
    go_wp2_with (fail)
    refine (cH _).mono ?_
    rintro e w3 ⟨rfl, hb3⟩
    obtain ⟨C, hC⟩ : ∃ C, w2.heap.size = C := ⟨_, rfl⟩
    have n0 := Blk.new w2 #[.int .i64 i, .int .i64 tt, .int .i64 c0] 26
    have B3 := (B2.alloc B2.size (.cells #[.int .i64 i, .int .i64 tt, .int .i64 c0] 26)).trans (hb3.mono (by have := B2.size; simp; omega))
    have z2 := (z1.alloc (.cells #[.int .i64 i, .int .i64 tt, .int .i64 c0] 26)).below' hb3
    have n1 := n0.below' hb3
    rw [hC] at n1
    have x0 := n1.cell 0
    have x1 := n1.cell 1
    have x2 := n1.cell 2
    have zf := z2.frozen
    have y0 := z2.cell 0
    have y1 := z2.cell 1
    have y2 := z2.cell 2
    have nf := n1.frozen
    clear cH hb3 q0 q1 q2 q3
    by_cases hks : kind = 11 ∨ kind = 4 ∨ kind = 9
    · have hfin : celV (i, fstC s i) = celV (i, tt, c0) := by rw [HF.out, if_pos hks]
      have HFI := Lib.hid hfin
      have hk3 : (((kind : Int) == 11) = true) ∨ (((kind : Int) == 11) = false ∧ ((kind : Int) == 4) = true) ∨ (((kind : Int) == 11) = false ∧ ((kind : Int) == 4) = false ∧ ((kind : Int) == 9) = true) := by
        simp only [beq_iff_eq, beq_eq_false_iff_ne]; omega
      have HB := Lib.hid B3
      clear hfin hks B1 B2 B3 hl1 hl2
      rcases hk3 with g1 | ⟨g1, g2⟩ | ⟨g1, g2, g3⟩
      all_goals
        go_wp2
        rw [Exit.noGoto_ret]
        have Z3 := ((z2.set 0 (.int .i64 i)).set 1 (.int .i64 tt)).set 2 (.int .i64 c0)
        simp only [List.setIfInBounds_toArray, List.set_cons_zero, List.set_cons_succ] at Z3
        have u0 := Z3.cell 0
        have u1 := Z3.cell 1
        have u2 := Z3.cell 2
        simp only [List.getElem?_toArray, List.getElem?_cons_succ, List.getElem?_cons_zero] at u0 u1 u2
        refine bodyPost_ret (v := celV (i, tt, c0)) (by simp [results, Try.f43, go_sem, celV, u0, u1, u2]) rfl ⟨by rw [HFI.out], ?_⟩
        exact ((HB.out.setCell (p := ⟨_, 0, none⟩) (Nat.le_refl _) _).setCell (p := ⟨_, 1, none⟩) (Nat.le_refl _) _).setCell (p := ⟨_, 2, none⟩) (Nat.le_refl _) _
    · have g1 : ((kind : Int) == 11) = false := by rw [beq_eq_false_iff_ne]; omega
      have g2 : ((kind : Int) == 4) = false := by rw [beq_eq_false_iff_ne]; omega
      have g3 : ((kind : Int) == 9) = false := by rw [beq_eq_false_iff_ne]; omega
      go_wp2
      go_step3
      go_wp2
      have hRO := HF.out
      rw [if_neg hks] at hRO
      have HRO := Lib.hid hRO
      have I0 := World.iter_heap w3 (s.extract tt s.size) 0
      have N0 : Blk (w3.iter (s.extract tt s.size) 0) C #[.int .i64 i, .int .i64 (tt + 0 : Nat), .int .i64 c0] 26 := n1.alloc _
      have Z0 : Blk (w3.iter (s.extract tt s.size) 0) w.heap.size #[.int .i64 0, .int .i64 0, .int .i64 0] 26 := z2.alloc _
      have B4 : Below w.heap.size w (w3.iter (s.extract tt s.size) 0) := B3.alloc B3.size _
      have hat : CfRel s kind i c0 tt C w.heap.size w3.heap.size w (.bool false) (w3.iter (s.extract tt s.size) 0) := ⟨0, false, c0, rfl, by omega, hcl, rfl, N0, Z0, B4, I0⟩
      have hCl := n1.lt
      have hCw : w.heap.size < C := by have := B2.size; omega
      obtain ⟨it, hit⟩ : ∃ x, w3.heap.size = x := ⟨_, rfl⟩
      rw [hit] at hat hCl ⊢
      obtain ⟨W4, hW4⟩ : ∃ x, w3.iter (s.extract tt s.size) 0 = x := ⟨_, rfl⟩
      rw [hW4] at hat ⊢
      have HAT := Lib.hid hat
      clear hat hit hW4 I0 N0 Z0 B4 n0 n1 z0 z1 z2 p0 p1 B1 B2 B3 x0 x1 x2 y0 y1 y2 zf nf hH hC hRO hks g1 g2 g3
      go_loopw [10] (fun j wr => CfRel s kind i c0 tt C w.heap.size it w j wr) (fun _ wr => (s.size - tt) - wr.iterPos it)
      case atStart => exact HAT.out
      case round =>
        clear HAT
        obtain ⟨pos, jb, c, rfl, hpl, hcb, hrow, hN, hZ, hBw, hit⟩ := hrel
        by_cases hq : tt + pos < s.size
        · have hps : pos < (s.extract tt s.size).size := by rw [tl_size]; omega
          have hnx : ∀ ty, (Instr.next (.pointer (some ⟨it, 0, none⟩)) true ty).run Try.prog wr = _ := fun ty => Lib.run_next_any_at wr it (s.extract tt s.size) pos ty hit hps
          rw [dec_eq (s.extract tt s.size) pos hps, tl_rn, tl_wd] at hnx
          have hit1 := Lib.iterAt_heap wr it (s.extract tt s.size) pos (pos + wd s (tt + pos)) hit
          have hitw : w.heap.size ≤ it := by omega
          have hB1 : Below w.heap.size w (wr.iterAt it (s.extract tt s.size) (pos + wd s (tt + pos))) := Lib.below_iterAt hBw hitw _ _
          have hN1 := hN.kept (grown_iterAt wr it (s.extract tt s.size) (pos + wd s (tt + pos))) (by rintro ⟨⟩; omega)
          have hZ1 := hZ.kept (grown_iterAt wr it (s.extract tt s.size) (pos + wd s (tt + pos))) (by rintro ⟨⟩; omega)
          have hmeas : (s.size - tt) - (pos + wd s (tt + pos)) < (s.size - tt) - wr.iterPos it := by
            have := wd_pos s (tt + pos)
            simp only [World.iterPos, hit]; omega
          obtain ⟨q, hqq⟩ : ∃ q, tt + pos = q := ⟨_, rfl⟩
          rw [hqq] at hq hnx hit1 hB1 hN1 hZ1 hmeas hrow hpl
          have hkq : kdP (bk s q) (rn s q) = kdc s q := rfl
          have hcq : colZ (kdc s q) (rn s q) = colc s q := rfl
          have hstep := rowG_step s kind q jb c hq
          have hwfq := wd_fits s q hq
          have hwpq := wd_pos s q
          have hrl := rn_lt s q hq
          have hccl := colc_le s q
          have hAq := at_ok s q hq (by omega)
          have hbr : kdc s q ≠ 11 → bk s q = false := fun h => by
            cases hb : bk s q with
            | false => rfl
            | true => exact absurd (by unfold kdc; rw [hb]; rfl) h
          have hwid : bk s q = false → widZ (rn s q) = wd s q := fun h => wid_rn s q hq h
          have hnb : rn s q ≠ 65533 → bk s q = false := bk_of_rn s q
          have h82 : rn s q = 8205 → kdc s q = 9 := fun h => by
            unfold kdc; rw [bk_of_rn s q (by omega), h]; rfl
          obtain ⟨P, hP⟩ : ∃ P, wr.iterAt it (s.extract tt s.size) (pos + wd s q) = P := ⟨_, rfl⟩
          rw [hP] at hnx hit1 hB1 hN1 hZ1
          obtain ⟨dk, hdk⟩ : ∃ x, kdc s q = x := ⟨_, rfl⟩
          obtain ⟨cq, hcq2⟩ : ∃ x, colc s q = x := ⟨_, rfl⟩
          obtain ⟨wq, hwq⟩ : ∃ x, wd s q = x := ⟨_, rfl⟩
          obtain ⟨rq, hrq⟩ : ∃ x, rn s q = x := ⟨_, rfl⟩
          obtain ⟨bq, hbq⟩ : ∃ x, bk s q = x := ⟨_, rfl⟩
          have cOq : ∀ (x y : Int) (W : World), Calls Try.prog 57 #[.agg #[.int .i64 x, .int .i64 y, .int .i32 rq, .bool bq]] W fun e w' => e = .returned (.int .i64 dk) ∧ Below W.heap.size W w' := fun x y W => by
            have := cO x y (rn s q : Nat) (bk s q) W
            rw [hkq, hdk, hrq, hbq] at this; exact this
          have cCq : ∀ (x y : Int) (W : World), Calls Try.prog 56 #[.agg #[.int .i64 x, .int .i64 y, .int .i32 rq, .bool bq]] W fun e w' => e = .returned (.int .i64 cq) ∧ Below W.heap.size W w' := fun x y W => by
            have := cC x y (rn s q : Nat) (bk s q) W
            rw [hkq, hcq, hcq2, hrq, hbq] at this; exact this
          have cWq : dk ≠ 11 → ∀ W, Calls Try.prog 58 #[.int .i32 rq] W fun e w' => e = .returned (.int .i64 wq) ∧ W = w' := fun h W => by
            have := width_any (rn s q : Nat) W
            rw [hwid (hbr (by rw [hdk]; exact h)), hwq, hrq] at this; exact this
          rw [hwq, hrq, hbq] at hAq
          rw [hdk, hrq, hwq, hcq2] at hstep
          rw [hrq, hbq] at hnb
          rw [hdk, hrq] at h82
          rw [hrq] at hnx hrl
          rw [hwq] at hnx hit1 hmeas hwfq hwpq
          rw [hcq2] at hccl
          have HST := Lib.hid hstep
          have HRW := Lib.hid hrow
          have HM := Lib.hid hmeas
          have HQ := Lib.hid hqq
          have HQF := Lib.hid (And.intro h82 hnb)
          have w1 : IntKind.i64.wrap ((tt : Int) + (pos : Int)) = (q : Int) := by rw [IntWalk.i64_in _ (by omega)]; omega
          clear hstep hrow hmeas hqq hP hit hN hZ hBw hbr hwid hkq hcq hdk hcq2 hwq hrq hbq h82 hnb
          have hl3 := hZ1.lt
          have hl4 := hN1.lt
          go_upto_if 77 with (fail)
          obtain ⟨pb, hpb⟩ : ∃ x, P.heap.size = x := ⟨_, rfl⟩
          have hitl : it < pb := by rw [← hpb]; exact (Array.getElem?_eq_some_iff.1 hit1).1
          have N2 := hN1.alloc (.cells #[.int .i64 0, .int .i64 0, .int .i32 rq, .bool false] 84)
          have Z2 := hZ1.alloc (.cells #[.int .i64 0, .int .i64 0, .int .i32 rq, .bool false] 84)
          have P2 := Blk.new P #[.int .i64 0, .int .i64 0, .int .i32 rq, .bool false] 84
          have B2 := hB1.alloc hB1.size (.cells #[.int .i64 0, .int .i64 0, .int .i32 rq, .bool false] 84)
          have I2 := (Below.heap_alloc P (.cells #[.int .i64 0, .int .i64 0, .int .i32 rq, .bool false] 84) _ (Array.getElem?_eq_some_iff.1 hit1).1).trans hit1
          obtain ⟨P', hP'⟩ : ∃ x, P.alloc (.cells #[.int .i64 0, .int .i64 0, .int .i32 rq, .bool false] 84) = x := ⟨_, rfl⟩
          rw [hP'] at N2 Z2 P2 B2 I2 ⊢
          simp only [hpb] at P2 hl3 hl4 ⊢
          clear hP' hN1 hZ1 hB1 hit1 hnx hpb
          obtain ⟨fb, hfb⟩ : ∃ b, ((rq : Int) == 65533) = b := ⟨_, rfl⟩
          rw [hfb]
          have HFB := Lib.hid hfb
          clear hfb
          go_cut [13] from 70 to 118 (fun pv wx => pv = .pointer (some ⟨pb, 0, none⟩) ∧ PbW pb rq bq wx ∧ CfW i q c (pos + wq) (s.extract tt s.size) C w.heap.size it w wx)
          case first =>
            cases fb with
            | true =>
              have hri : ((rq : Nat) : Int) = 65533 := by have := HFB.out; rw [beq_iff_eq] at this; exact this
              go_wp2_with (fail)
              refine (hAq _).mono ?_
              rintro e w5 ⟨rfl, hb5⟩
              have B5 := B2.trans (hb5.mono B2.size)
              have N5 := N2.below' hb5
              have Z5 := Z2.below' hb5
              have P5 := P2.below' hb5
              have I5 := (hb5.block it (Array.getElem?_eq_some_iff.1 I2).1).trans I2
              have P6 := (((P5.set 0 (.int .i64 q)).set 1 (.int .i64 wq)).set 2 (.int .i32 rq)).set 3 (.bool bq)
              simp only [List.setIfInBounds_toArray, List.set_cons_zero, List.set_cons_succ] at P6
              have N6 := (((N5.other (B' := pb) (by omega) 0 (.int .i64 q)).other (B' := pb) (by omega) 1 (.int .i64 wq)).other (B' := pb) (by omega) 2 (.int .i32 rq)).other (B' := pb) (by omega) 3 (.bool bq)
              have Z6 := (((Z5.other (B' := pb) (by omega) 0 (.int .i64 q)).other (B' := pb) (by omega) 1 (.int .i64 wq)).other (B' := pb) (by omega) 2 (.int .i32 rq)).other (B' := pb) (by omega) 3 (.bool bq)
              have B6 := (((B5.setCell (p := ⟨pb, 0, none⟩) (by dsimp only; omega) (.int .i64 q)).setCell (p := ⟨pb, 1, none⟩) (by dsimp only; omega) (.int .i64 wq)).setCell (p := ⟨pb, 2, none⟩) (by dsimp only; omega) (.int .i32 rq)).setCell (p := ⟨pb, 3, none⟩) (by dsimp only; omega) (.bool bq)
              have I6 : ((((w5.setCell ⟨pb, 0, none⟩ (.int .i64 q)).setCell ⟨pb, 1, none⟩ (.int .i64 wq)).setCell ⟨pb, 2, none⟩ (.int .i32 rq)).setCell ⟨pb, 3, none⟩ (.bool bq)).heap[it]? = some (.stringIter (s.extract tt s.size) (pos + wq)) := by
                rw [Below.heap_setCell _ _ _ _ (by dsimp only; omega), Below.heap_setCell _ _ _ _ (by dsimp only; omega), Below.heap_setCell _ _ _ _ (by dsimp only; omega), Below.heap_setCell _ _ _ _ (by dsimp only; omega)]; exact I5
              have v0 := P5.cell 0
              have v1 := P5.cell 1
              have v2 := P5.cell 2
              have v3 := P5.cell 3
              have vf := P5.frozen
              simp only [List.getElem?_toArray, List.getElem?_cons_succ, List.getElem?_cons_zero] at v0 v1 v2 v3
              have HH := Lib.hid (And.intro P6 (And.intro N6 (And.intro Z6 (And.intro B6 I6))))
              have HRI := Lib.hid hri
              clear hb5 B5 N5 Z5 P5 I5 P6 N6 Z6 B6 I6 hri N2 Z2 P2 B2 I2
              go_wp2_with (fail)
              go_meet
              obtain ⟨P6, N6, Z6, B6, I6⟩ := HH.out
              exact ⟨rfl, ⟨q, wq, P6⟩, N6, Z6, B6, I6⟩
            | false =>
              have hbf : bq = false := HQF.out.2 (by have := HFB.out; rw [beq_eq_false_iff_ne] at this; omega)
              have HP2 := Lib.hid P2
              have HBF := Lib.hid hbf
              clear P2 hbf
              go_wp2_with (fail)
              go_meet
              exact ⟨rfl, ⟨0, 0, by rw [HBF.out]; exact HP2.out⟩, N2, Z2, B2, I2⟩
          case rest =>
            clear P2 N2 Z2 B2 I2
            obtain ⟨rfl, ⟨x, y, P6⟩, N6, Z6, B6, I6⟩ := hcut
            have pp0 := P6.cell 0
            have pp1 := P6.cell 1
            have pp2 := P6.cell 2
            have pp3 := P6.cell 3
            simp only [List.getElem?_toArray, List.getElem?_cons_succ, List.getElem?_cons_zero] at pp0 pp1 pp2 pp3
            go_wp2_with (fail)
            refine (cOq _ _ _).mono ?_
            rintro e w6 ⟨rfl, hbk⟩
            have B6 := B6.trans (hbk.mono (by have := B6.size; omega))
            have N6 := N6.below' hbk
            have Z6 := Z6.below' hbk
            have P6 := P6.below' hbk
            have I6 := (hbk.block it (Array.getElem?_eq_some_iff.1 I6).1).trans I6
            have cC0 := N6.cell 0
            have cC1 := N6.cell 1
            have cC2 := N6.cell 2
            have cCf := N6.frozen
            have pp0 := P6.cell 0
            have pp1 := P6.cell 1
            have pp2 := P6.cell 2
            have pp3 := P6.cell 3
            have zz0 := Z6.cell 0
            have zz1 := Z6.cell 1
            have zz2 := Z6.cell 2
            have zzf := Z6.frozen
            have n6l := N6.lt
            have p6l := P6.lt
            have z6l := Z6.lt
            simp only [List.getElem?_toArray, List.getElem?_cons_succ, List.getElem?_cons_zero] at cC0 cC1 cC2 pp0 pp1 pp2 pp3 zz0 zz1 zz2
            clear hbk
            obtain ⟨m2, hm2⟩ : ∃ b, ((dk : Int) == 2) = b := ⟨_, rfl⟩
            obtain ⟨r8, hr8⟩ : ∃ b, ((rq : Int) == 8205) = b := ⟨_, rfl⟩
            obtain ⟨kb, hkb⟩ : ∃ b, ((kind : Int) == 10) = b := ⟨_, rfl⟩
            obtain ⟨db, hdb⟩ : ∃ b, ((dk : Int) == 10) = b := ⟨_, rfl⟩
            have hm2' : m2 = true ↔ dk = 2 := by rw [← hm2, beq_iff_eq]; omega
            have hr8' : r8 = true ↔ rq = 8205 := by rw [← hr8, beq_iff_eq]; omega
            have hkb' : kb = true ↔ kind = 10 := by rw [← hkb, beq_iff_eq]; omega
            have hdb' : db = true ↔ dk = 10 := by rw [← hdb, beq_iff_eq]; omega
            have hrr : (rq == 8205) = r8 := by rw [Bool.eq_iff_iff, beq_iff_eq, hr8']
            have HEQ := Lib.hid (And.intro hm2' (And.intro hr8' (And.intro hkb' (And.intro hdb' hrr))))
            clear hm2' hr8' hkb' hdb' hrr
            cases hb1 : m2
            case true =>
              have hd11 : dk ≠ 11 := by have := HEQ.out.1.1 hb1; omega
              have hcs := cWq hd11
              have w2 : IntKind.i64.wrap ((q : Int) + (wq : Int)) = (q : Int) + (wq : Int) := IntWalk.i64_in _ (by omega)
              have hnew : rowG s kind (q + wq) r8 c = rowG s kind tt false c0 := by
                rw [← HRW.out, HST.out]; rw [if_pos (.inl (HEQ.out.1.1 hb1)), HEQ.out.2.2.2.2]
              have HNEW := Lib.hid hnew
              have N7 := N6.set 1 (.int .i64 ((q : Int) + (wq : Int)))
              simp only [List.setIfInBounds_toArray, List.set_cons_zero, List.set_cons_succ] at N7
              have Z7 := Z6.other (B' := C) (by omega) 1 (.int .i64 ((q : Int) + (wq : Int)))
              have B7 := B6.setCell (p := ⟨C, 1, none⟩) (by dsimp only; omega) (.int .i64 ((q : Int) + (wq : Int)))
              have HH := Lib.hid (And.intro N7 (And.intro Z7 (And.intro B7 I6)))
              clear hnew N7 Z7 B7
              go_wp2_with (fail)
              refine (hcs _).mono ?_
              rintro e wz ⟨rfl, rfl⟩
              go_wp2_with (fail)
              obtain ⟨N7, Z7, B7, I7⟩ := HH.out
              have hq2 := HQ.out
              have I8 := (Below.heap_setCell _ ⟨C, 1, none⟩ (.int .i64 ((q : Int) + (wq : Int))) it (by dsimp only; omega)).trans I7
              go_roundw
              case rel => exact ⟨pos + wq, r8, c, rfl, by omega, by omega, by rw [← Nat.add_assoc, hq2]; exact HNEW.out, by have e9 : ((tt + (pos + wq) : Nat) : Int) = (q : Int) + (wq : Int) := (by omega); rw [e9]; exact N7, Z7, B7, I8⟩
              case measure =>
                have := HM.out
                simp only [World.iterPos, I8] at this ⊢; exact this
            case false =>
              cases hb2 : r8
              case true =>
                have hd11 : dk ≠ 11 := by have := HQF.out.1 (HEQ.out.2.1.1 hb2); omega
                have hcs := cWq hd11
                have w2 : IntKind.i64.wrap ((q : Int) + (wq : Int)) = (q : Int) + (wq : Int) := IntWalk.i64_in _ (by omega)
                have hnew : rowG s kind (q + wq) true c = rowG s kind tt false c0 := by
                  rw [← HRW.out, HST.out]; rw [if_pos (.inr (HEQ.out.2.1.1 hb2)), HEQ.out.2.2.2.2, hb2]
                have HNEW := Lib.hid hnew
                have N7 := N6.set 1 (.int .i64 ((q : Int) + (wq : Int)))
                simp only [List.setIfInBounds_toArray, List.set_cons_zero, List.set_cons_succ] at N7
                have Z7 := Z6.other (B' := C) (by omega) 1 (.int .i64 ((q : Int) + (wq : Int)))
                have B7 := B6.setCell (p := ⟨C, 1, none⟩) (by dsimp only; omega) (.int .i64 ((q : Int) + (wq : Int)))
                have HH := Lib.hid (And.intro N7 (And.intro Z7 (And.intro B7 I6)))
                clear hnew N7 Z7 B7
                go_wp2_with (fail)
                refine (hcs _).mono ?_
                rintro e wz ⟨rfl, rfl⟩
                go_wp2_with (fail)
                obtain ⟨N7, Z7, B7, I7⟩ := HH.out
                have hq2 := HQ.out
                have I8 := (Below.heap_setCell _ ⟨C, 1, none⟩ (.int .i64 ((q : Int) + (wq : Int))) it (by dsimp only; omega)).trans I7
                go_roundw
                case rel => exact ⟨pos + wq, true, c, rfl, by omega, by omega, by rw [← Nat.add_assoc, hq2]; exact HNEW.out, by have e9 : ((tt + (pos + wq) : Nat) : Int) = (q : Int) + (wq : Int) := (by omega); rw [e9]; exact N7, Z7, B7, I8⟩
                case measure =>
                  have := HM.out
                  simp only [World.iterPos, I8] at this ⊢; exact this
              case false =>
                have hnj : ¬ (dk = 2 ∨ rq = 8205) := by
                  rintro (h | h)
                  · have := HEQ.out.1.2 h; rw [hb1] at this; cases this
                  · have := HEQ.out.2.1.2 h; rw [hb2] at this; cases this
                have HNJ := Lib.hid hnj
                clear hnj
                cases jb with
                | false =>
                  have hno : rowG s kind q false c = (q, c) := by rw [HST.out, if_neg HNJ.out, if_neg (by simp)]
                  have HNO := Lib.hid hno
                  clear hno
                  have Z7 := ((Z6.set 0 (.int .i64 i)).set 1 (.int .i64 q)).set 2 (.int .i64 c)
                  simp only [List.setIfInBounds_toArray, List.set_cons_zero, List.set_cons_succ] at Z7
                  have HZ := Lib.hid (And.intro Z7 B6)
                  have HFX : Hid (celV (i, fstC s i) = celV (i, q, c)) := by apply Lib.hid; rw [HRO.out, ← HRW.out, HNO.out]
                  clear Z7
                  go_wp2
                  rw [Exit.noGoto_ret]
                  obtain ⟨Z7, B7⟩ := HZ.out
                  have u0 := Z7.cell 0
                  have u1 := Z7.cell 1
                  have u2 := Z7.cell 2
                  simp only [List.getElem?_toArray, List.getElem?_cons_succ, List.getElem?_cons_zero] at u0 u1 u2
                  refine bodyPost_ret (v := celV (i, q, c)) (by simp [results, Try.f43, go_sem, celV, u0, u1, u2]) rfl ⟨by rw [HFX.out], ?_⟩
                  exact ((B7.setCell (p := ⟨_, 0, none⟩) (Nat.le_refl _) _).setCell (p := ⟨_, 1, none⟩) (Nat.le_refl _) _).setCell (p := ⟨_, 2, none⟩) (Nat.le_refl _) _
                | true =>
                  cases hb3 : kb
                  case false =>
                    have hno : rowG s kind q true c = (q, c) := by
                      rw [HST.out, if_neg HNJ.out, if_neg (fun h => by have := HEQ.out.2.2.1.2 h.2.1; rw [hb3] at this; cases this)]
                    have HNO := Lib.hid hno
                    clear hno
                    have Z7 := ((Z6.set 0 (.int .i64 i)).set 1 (.int .i64 q)).set 2 (.int .i64 c)
                    simp only [List.setIfInBounds_toArray, List.set_cons_zero, List.set_cons_succ] at Z7
                    have HZ := Lib.hid (And.intro Z7 B6)
                    have HFX : Hid (celV (i, fstC s i) = celV (i, q, c)) := by apply Lib.hid; rw [HRO.out, ← HRW.out, HNO.out]
                    clear Z7
                    go_wp2
                    rw [Exit.noGoto_ret]
                    obtain ⟨Z7, B7⟩ := HZ.out
                    have u0 := Z7.cell 0
                    have u1 := Z7.cell 1
                    have u2 := Z7.cell 2
                    simp only [List.getElem?_toArray, List.getElem?_cons_succ, List.getElem?_cons_zero] at u0 u1 u2
                    refine bodyPost_ret (v := celV (i, q, c)) (by simp [results, Try.f43, go_sem, celV, u0, u1, u2]) rfl ⟨by rw [HFX.out], ?_⟩
                    exact ((B7.setCell (p := ⟨_, 0, none⟩) (Nat.le_refl _) _).setCell (p := ⟨_, 1, none⟩) (Nat.le_refl _) _).setCell (p := ⟨_, 2, none⟩) (Nat.le_refl _) _
                  case true =>
                    cases hb4 : db
                    case false =>
                      have hno : rowG s kind q true c = (q, c) := by
                        rw [HST.out, if_neg HNJ.out, if_neg (fun h => by have := HEQ.out.2.2.2.1.2 h.2.2; rw [hb4] at this; cases this)]
                      go_wp2_with (fail)
                      refine (cOq _ _ _).mono ?_
                      rintro e w7 ⟨rfl, hbk⟩
                      have B6 := B6.trans (hbk.mono (by have := B6.size; omega))
                      have N6 := N6.below' hbk
                      have Z6 := Z6.below' hbk
                      have P6 := P6.below' hbk
                      have I6 := (hbk.block it (Array.getElem?_eq_some_iff.1 I6).1).trans I6
                      have cC0 := N6.cell 0
                      have cC1 := N6.cell 1
                      have cC2 := N6.cell 2
                      have cCf := N6.frozen
                      have pp0 := P6.cell 0
                      have pp1 := P6.cell 1
                      have pp2 := P6.cell 2
                      have pp3 := P6.cell 3
                      have zz0 := Z6.cell 0
                      have zz1 := Z6.cell 1
                      have zz2 := Z6.cell 2
                      have zzf := Z6.frozen
                      have n6l := N6.lt
                      have p6l := P6.lt
                      have z6l := Z6.lt
                      simp only [List.getElem?_toArray, List.getElem?_cons_succ, List.getElem?_cons_zero] at cC0 cC1 cC2 pp0 pp1 pp2 pp3 zz0 zz1 zz2
                      clear hbk
                      have HNO := Lib.hid hno
                      clear hno
                      have Z7 := ((Z6.set 0 (.int .i64 i)).set 1 (.int .i64 q)).set 2 (.int .i64 c)
                      simp only [List.setIfInBounds_toArray, List.set_cons_zero, List.set_cons_succ] at Z7
                      have HZ := Lib.hid (And.intro Z7 B6)
                      have HFX : Hid (celV (i, fstC s i) = celV (i, q, c)) := by apply Lib.hid; rw [HRO.out, ← HRW.out, HNO.out]
                      clear Z7
                      go_wp2
                      rw [Exit.noGoto_ret]
                      obtain ⟨Z7, B7⟩ := HZ.out
                      have u0 := Z7.cell 0
                      have u1 := Z7.cell 1
                      have u2 := Z7.cell 2
                      simp only [List.getElem?_toArray, List.getElem?_cons_succ, List.getElem?_cons_zero] at u0 u1 u2
                      refine bodyPost_ret (v := celV (i, q, c)) (by simp [results, Try.f43, go_sem, celV, u0, u1, u2]) rfl ⟨by rw [HFX.out], ?_⟩
                      exact ((B7.setCell (p := ⟨_, 0, none⟩) (Nat.le_refl _) _).setCell (p := ⟨_, 1, none⟩) (Nat.le_refl _) _).setCell (p := ⟨_, 2, none⟩) (Nat.le_refl _) _
                    case true =>
                      have hd11 : dk ≠ 11 := by have := HEQ.out.2.2.2.1.1 hb4; omega
                      go_wp2_with (fail)
                      refine (cOq _ _ _).mono ?_
                      rintro e w7 ⟨rfl, hbk⟩
                      have B6 := B6.trans (hbk.mono (by have := B6.size; omega))
                      have N6 := N6.below' hbk
                      have Z6 := Z6.below' hbk
                      have P6 := P6.below' hbk
                      have I6 := (hbk.block it (Array.getElem?_eq_some_iff.1 I6).1).trans I6
                      have cC0 := N6.cell 0
                      have cC1 := N6.cell 1
                      have cC2 := N6.cell 2
                      have cCf := N6.frozen
                      have pp0 := P6.cell 0
                      have pp1 := P6.cell 1
                      have pp2 := P6.cell 2
                      have pp3 := P6.cell 3
                      have zz0 := Z6.cell 0
                      have zz1 := Z6.cell 1
                      have zz2 := Z6.cell 2
                      have zzf := Z6.frozen
                      have n6l := N6.lt
                      have p6l := P6.lt
                      have z6l := Z6.lt
                      simp only [List.getElem?_toArray, List.getElem?_cons_succ, List.getElem?_cons_zero] at cC0 cC1 cC2 pp0 pp1 pp2 pp3 zz0 zz1 zz2
                      clear hbk
                      go_wp2_with (fail)
                      refine wp_region_noPanic ?_
                      refine wp_region_g (S := untilG [6] (fun X => Below w7.heap.size w7 X)) (by kernel_rfl) ?_
                      obtain ⟨Y0, hY0⟩ : ∃ X, w7.drew = X := ⟨_, rfl⟩
                      have T0 : Below w7.heap.size w7 Y0 := hY0 ▸ (Below.refl w7.heap.size w7).drew
                      rw [hY0]
                      clear hY0
                      refine wpAnyG_take [0, 1, 4] (i := 0) (v := (.pointer (some ⟨C, 2, none⟩))) rfl (by kernel_rfl) (by kernel_rfl) (by kernel_rfl) (by kernel_rfl) (by kernel_rfl) (by kernel_rfl) (by kernel_rfl) (by kernel_rfl) (fun _ _ _ h => h) (Or.inl ⟨by rfl, ?hy⟩) T0 ?_
                      case hy =>
                        intro X hX
                        go_simp
                      try simp only [Act.put, List.getElem_toArray, List.getElem_cons_zero, List.getElem_cons_succ, List.setIfInBounds_toArray, List.set_cons_zero, List.set_cons_succ]
                      refine wpAnyG_take [1, 4] (i := 1) (v := (.int .i64 c)) rfl (by kernel_rfl) (by kernel_rfl) (by kernel_rfl) (by kernel_rfl) (by kernel_rfl) (by kernel_rfl) (by kernel_rfl) (by kernel_rfl) (fun _ _ _ h => h) (Or.inl ⟨by rfl, ?hy⟩) T0 ?_
                      case hy =>
                        intro X hX
                        have e0 := at_below cC2 hX
                        go_simp
                      try simp only [Act.put, List.getElem_toArray, List.getElem_cons_zero, List.getElem_cons_succ, List.setIfInBounds_toArray, List.set_cons_zero, List.set_cons_succ]
                      refine wpAnyG_take [2, 3, 4] (i := 2) (v := (.agg #[.int .i64 x, .int .i64 y, .int .i32 rq, .bool bq])) rfl (by kernel_rfl) (by kernel_rfl) (by kernel_rfl) (by kernel_rfl) (by kernel_rfl) (by kernel_rfl) (by kernel_rfl) (by kernel_rfl) (fun _ _ _ h => h) (Or.inl ⟨by rfl, ?hy⟩) T0 ?_
                      case hy =>
                        intro X hX
                        have e0 := at_below pp0 hX
                        have e1 := at_below pp1 hX
                        have e2 := at_below pp2 hX
                        have e3 := at_below pp3 hX
                        go_simp
                      try simp only [Act.put, List.getElem_toArray, List.getElem_cons_zero, List.getElem_cons_succ, List.setIfInBounds_toArray, List.set_cons_zero, List.set_cons_succ]
                      refine wpAnyG_all (rs := [3]) (by kernel_rfl) (by simp) ?_
                      intro i hi
                      simp only [List.mem_cons, List.not_mem_nil, or_false] at hi
                      subst hi
                      refine wpOp_open rfl (by rfl) ?_
                      go_simp
                      refine (cCq _ _ _).mono ?_
                      rintro e Y1 ⟨rfl, hb9⟩
                      replace T0 := T0.trans (hb9.mono T0.size)
                      refine ⟨fun _ => T0, ?_⟩
                      try simp only [Act.put, List.getElem_toArray, List.getElem_cons_zero, List.getElem_cons_succ, List.setIfInBounds_toArray, List.set_cons_zero, List.set_cons_succ]
                      refine wpAnyG_all (rs := [4]) (by kernel_rfl) (by simp) ?_
                      intro i hi
                      simp only [List.mem_cons, List.not_mem_nil, or_false] at hi
                      subst hi
                      refine wpOp_now rfl rfl ?_
                      go_simp
                      refine ⟨fun _ => T0, ?_⟩
                      try simp only [Act.put, List.getElem_toArray, List.getElem_cons_zero, List.getElem_cons_succ, List.setIfInBounds_toArray, List.set_cons_zero, List.set_cons_succ]
                      refine wpAnyG_all (rs := [5]) (by kernel_rfl) (by simp) ?_
                      intro i hi
                      simp only [List.mem_cons, List.not_mem_nil, or_false] at hi
                      subst hi
                      refine wpOp_now rfl rfl ?_
                      go_simp
                      refine ⟨fun _ => T0, ?_⟩
                      try simp only [Act.put, List.getElem_toArray, List.getElem_cons_zero, List.getElem_cons_succ, List.setIfInBounds_toArray, List.set_cons_zero, List.set_cons_succ]
                      have N8 := N6.below' T0
                      have Z8 := Z6.below' T0
                      have B8 := B6.trans (T0.mono B6.size)
                      have I8 := (T0.block it (Array.getElem?_eq_some_iff.1 I6).1).trans I6
                      have d0 := N8.cell 0
                      have d1 := N8.cell 1
                      have d2 := N8.cell 2
                      have df := N8.frozen
                      simp only [List.getElem?_toArray, List.getElem?_cons_succ, List.getElem?_cons_zero] at d0 d1 d2
                      refine wpAnyG_all (rs := [6]) (by kernel_rfl) (by simp) ?_
                      intro i hi
                      simp only [List.mem_cons, List.not_mem_nil, or_false] at hi
                      subst hi
                      refine wpOp_now rfl rfl ?_
                      go_simp
                      refine ⟨fun h => (nomatch (show (false : Bool) = true from h)), ?_⟩
                      refine wpAnyG_done (by kernel_rfl) ?_ _
                      refine NoPanic.normal ?_
                      have hmx : (if c < cq then (cq : Int) else (c : Int)) = ((max c cq : Nat) : Int) := by split <;> omega
                      rw [hmx]
                      clear hmx
                      obtain ⟨cm, hcm⟩ : ∃ x, max c cq = x := ⟨_, rfl⟩
                      have hcm2 : cm ≤ 2 := by omega
                      rw [hcm]
                      have HCM := Lib.hid hcm
                      clear hcm
                      have N9 := N8.set 2 (.int .i64 cm)
                      simp only [List.setIfInBounds_toArray, List.set_cons_zero, List.set_cons_succ] at N9
                      have Z9 := Z8.other (B' := C) (by omega) 2 (.int .i64 cm)
                      have B9 := B8.setCell (p := ⟨C, 2, none⟩) (by dsimp only; omega) (.int .i64 cm)
                      have I9 := (Below.heap_setCell Y1 ⟨C, 2, none⟩ (.int .i64 cm) it (by dsimp only; omega)).trans I8
                      obtain ⟨Y2, hY2⟩ : ∃ x, Y1.setCell ⟨C, 2, none⟩ (.int .i64 cm) = x := ⟨_, rfl⟩
                      rw [hY2] at N9 Z9 B9 I9 ⊢
                      clear hY2 d0 d1 d2 df N8 Z8 B8 I8 T0 N6 Z6 B6 I6 P6 pp0 pp1 pp2 pp3
                      have N6 := N9
                      have Z6 := Z9
                      have B6 := B9
                      have I6 := I9
                      have cC0 := N6.cell 0
                      have cC1 := N6.cell 1
                      have cC2 := N6.cell 2
                      have cCf := N6.frozen
                      simp only [List.getElem?_toArray, List.getElem?_cons_succ, List.getElem?_cons_zero] at cC0 cC1 cC2
                      have hcs := cWq hd11
                      have w2 : IntKind.i64.wrap ((q : Int) + (wq : Int)) = (q : Int) + (wq : Int) := IntWalk.i64_in _ (by omega)
                      have hnew : rowG s kind (q + wq) false cm = rowG s kind tt false c0 := by
                        rw [← HRW.out, HST.out]; rw [if_neg HNJ.out, if_pos ⟨by first | trivial | rfl, HEQ.out.2.2.1.1 hb3, HEQ.out.2.2.2.1.1 hb4⟩, HCM.out]
                      have HNEW := Lib.hid hnew
                      have N7 := N6.set 1 (.int .i64 ((q : Int) + (wq : Int)))
                      simp only [List.setIfInBounds_toArray, List.set_cons_zero, List.set_cons_succ] at N7
                      have Z7 := Z6.other (B' := C) (by omega) 1 (.int .i64 ((q : Int) + (wq : Int)))
                      have B7 := B6.setCell (p := ⟨C, 1, none⟩) (by dsimp only; omega) (.int .i64 ((q : Int) + (wq : Int)))
                      have HH := Lib.hid (And.intro N7 (And.intro Z7 (And.intro B7 I6)))
                      clear hnew N7 Z7 B7
                      go_wp2_with (fail)
                      refine (hcs _).mono ?_
                      rintro e wz ⟨rfl, rfl⟩
                      go_wp2_with (fail)
                      obtain ⟨N7, Z7, B7, I7⟩ := HH.out
                      have hq2 := HQ.out
                      have I8 := (Below.heap_setCell _ ⟨C, 1, none⟩ (.int .i64 ((q : Int) + (wq : Int))) it (by dsimp only; omega)).trans I7
                      go_roundw
                      case rel => exact ⟨pos + wq, false, cm, rfl, by omega, by omega, by rw [← Nat.add_assoc, hq2]; exact HNEW.out, by have e9 : ((tt + (pos + wq) : Nat) : Int) = (q : Int) + (wq : Int) := (by omega); rw [e9]; exact N7, Z7, B7, I8⟩
                      case measure =>
                        have := HM.out
                        simp only [World.iterPos, I8] at this ⊢; exact this
        · have hps : ¬ pos < (s.extract tt s.size).size := by rw [tl_size]; omega
          have hnx : ∀ ty, (Instr.next (.pointer (some ⟨it, 0, none⟩)) true ty).run Try.prog wr = _ := fun ty => Lib.run_next_end_at wr it (s.extract tt s.size) pos ty hit hps
          have hno : rowG s kind (tt + pos) jb c = (tt + pos, c) := rowG_end s kind (tt + pos) jb c (by omega)
          have HNO := Lib.hid hno
          have HRW := Lib.hid hrow
          have N6 := hN
          have Z6 := hZ
          have B6 := hBw
          obtain ⟨q, hqq⟩ : ∃ q, tt + pos = q := ⟨_, rfl⟩
          rw [hqq] at N6 HNO HRW
          have cC0 := N6.cell 0
          have cC1 := N6.cell 1
          have cC2 := N6.cell 2
          have zz0 := Z6.cell 0
          have zz1 := Z6.cell 1
          have zz2 := Z6.cell 2
          have zzf := Z6.frozen
          simp only [List.getElem?_toArray, List.getElem?_cons_succ, List.getElem?_cons_zero] at cC0 cC1 cC2 zz0 zz1 zz2
          clear hno hrow hit hN hZ hBw hps hqq
          have Z7 := ((Z6.set 0 (.int .i64 i)).set 1 (.int .i64 q)).set 2 (.int .i64 c)
          simp only [List.setIfInBounds_toArray, List.set_cons_zero, List.set_cons_succ] at Z7
          have HZ := Lib.hid (And.intro Z7 B6)
          have HFX : Hid (celV (i, fstC s i) = celV (i, q, c)) := by apply Lib.hid; rw [HRO.out, ← HRW.out, HNO.out]
          clear Z7
          go_wp2
          rw [Exit.noGoto_ret]
          obtain ⟨Z7, B7⟩ := HZ.out
          have u0 := Z7.cell 0
          have u1 := Z7.cell 1
          have u2 := Z7.cell 2
          simp only [List.getElem?_toArray, List.getElem?_cons_succ, List.getElem?_cons_zero] at u0 u1 u2
          refine bodyPost_ret (v := celV (i, q, c)) (by simp [results, Try.f43, go_sem, celV, u0, u1, u2]) rfl ⟨by rw [HFX.out], ?_⟩
          exact ((B7.setCell (p := ⟨_, 0, none⟩) (Nat.le_refl _) _).setCell (p := ⟨_, 1, none⟩) (Nat.le_refl _) _).setCell (p := ⟨_, 2, none⟩) (Nat.le_refl _) _
theorem first_any (s : ByteArray) (hs : s.size ≤ 9223372036854775807) (i : Nat) (hi : i < s.size) (w : World) :
    Calls Try.prog 43 #[.string s, .int .i64 (i : Int)] w fun e w' => e = .returned (celV (i, fstC s i)) ∧ Below w.heap.size w w' := by
  cases hc : crlf s i with
  | true => exact first_crlf s hs i hi hc w
  | false => exact first_other s hs i hi hc w
end Go.Proofs.Ytnbhdgbhmcbeoaa
