/- Stage 27: the document's reader: digits. -/
import Derived.Test.YtjccoiephdopkaaDoorRe1
namespace Go.Proofs.YtjccoiephdopkaaDoor
set_option linter.unusedVariables false
set_option linter.unusedSimpArgs false
open Go Go.RowKit Go.Shelf
set_option maxRecDepth 100000

def DdK (W W' : World) (B : Nat) (s : ByteArray) (p : Nat) (z : Int) : Prop := RdD W' B s p z ∧ W.grownBy W' (some B)
theorem DdK.start {W : World} {B p : Nat} {z : Int} {s : ByteArray} (h : RdD W B s p z) : DdK W W B s p z := ⟨h, World.grownBy.refl _ _⟩
theorem DdK.drew {W W' : World} {B p : Nat} {z : Int} {s : ByteArray} (h : DdK W W' B s p z) (n : Nat) : DdK W (W'.drewN n) B s p z := ⟨h.1, h.2.os, h.2.tape, h.2.output, h.2.size, h.2.block⟩
theorem DdK.to {W W' : World} {B p : Nat} {z : Int} {s : ByteArray} (h : DdK W W' B s p z) (q : Nat) : DdK W (W'.setCell ⟨B, 1, none⟩ (.int .i64 q)) B s q z := ⟨Blk.set h.1 1 _, grown_set h.2 1 _⟩
theorem DdK.bad {W W' : World} {B p : Nat} {z : Int} {s : ByteArray} (h : DdK W W' B s p z) (q : Int) : DdK W (W'.setCell ⟨B, 2, none⟩ (.int .i64 q)) B s p q := ⟨Blk.set h.1 2 _, grown_set h.2 2 _⟩
theorem DdK.cells {W W' : World} {B p : Nat} {z : Int} {s : ByteArray} (h : DdK W W' B s p z) : W'.cell? ⟨B, 0, none⟩ = some (.string s) ∧ W'.cell? ⟨B, 1, none⟩ = some (.int .i64 p) ∧ W'.cell? ⟨B, 2, none⟩ = some (.int .i64 z) ∧ ∀ o, W'.frozen? ⟨B, o, none⟩ = false :=
  ⟨h.1.cell 0, h.1.cell 1, h.1.cell 2, fun o => h.1.frozen o⟩
theorem DdK.trans {W W1 W2 : World} {B p q : Nat} {z y : Int} {s : ByteArray} (h : DdK W W1 B s p z) (k : DdK W1 W2 B s q y) : DdK W W2 B s q y := ⟨k.1, World.grownBy.trans h.2 k.2⟩
theorem DdK.below {W W1 W2 : World} {B p : Nat} {z : Int} {s : ByteArray} (h : DdK W W1 B s p z) (k : Below W1.heap.size W1 W2) : DdK W W2 B s p z := ⟨Blk.below' h.1 k, h.2.trans ((grown_none k).but _)⟩
structure DigP (w : World) (B : Nat) (s : ByteArray) (p l k : Nat) (e : Ending) (w' : World) : Prop where
  h : e = .returned (.int .i64 (hxS s k p 0).1) ∧ DdK w w' B s (hxS s k p 0).2 (if (hxS s k p 0).2 - p < l then ((hxS s k p 0).2 : Int) else -1)
set_option maxHeartbeats 4000000 in
theorem digitsD_any {B p : Nat} {s : ByteArray} {w : World} (h : RdD w B s p (-1)) (hp : p ≤ s.size) (hs : s.size ≤ 1048576) (l k : Nat) (hl : l ≤ k) (hk : k ≤ 6) :
    Calls Tryd.prog 79 #[.pointer (some ⟨B, 0, none⟩), .int .i64 l, .int .i64 k] w (DigP w B s p l k) := by
  go_enter Tryd.func79, Tryd.ntmps79
  go_wp2
  go_loopw [7, 8] (fun vn vj wr => ∃ (n j : Nat), vn = .int .i64 n ∧ vj = .int .i64 j ∧ Hid (j ≤ k ∧ p + j ≤ s.size ∧ n < 16 ^ j ∧ hxS s k p 0 = hxS s (k - j) (p + j) n ∧ DdK w wr B s (p + j) (-1))) (fun _ vj _ => k - (RowKit.intOf vj).toNat)
  case atStart => exact ⟨0, 0, rfl, rfl, by omega, hp, by decide, rfl, DdK.start h⟩
  case round =>
    obtain ⟨n, j, rfl, rfl, HR⟩ := hrel
    rename World => X
    clear h
    obtain ⟨r1, r2, r3, r4, r5⟩ := HR.out
    obtain ⟨q, hq⟩ : ∃ q, p + j = q := ⟨_, rfl⟩
    rw [hq] at r2 r4 r5
    have HJ := Lib.hid hq
    have hqI : (q : Int) ≤ 1048576 := by omega
    clear hq
    have cL := fun (Y : World) (hY : RdD Y B s q (-1)) => cD_ok hY r2 hs
    by_cases hjk : j < k
    · have hjI : (j : Int) < (k : Int) := by omega
      have hj6 : j ≤ 5 := by omega
      have hn6 : n < 16777216 := Nat.lt_of_lt_of_le r3 (Nat.le_trans (Nat.pow_le_pow_right (by decide) hj6) (by decide))
      have hnI : (n : Int) < 16777216 := by omega
      obtain ⟨c, hc⟩ : ∃ c, lkN s q = c := ⟨_, rfl⟩
      rw [hc] at cL
      have cH := fun W => hexD_any c (hc ▸ lkN_256 s q) W
      have rK := fun (Y : World) m (hY : Y = X.drewN m) => (hY ▸ r5.drew m : DdK w Y B s q (-1))
      have r51 := r5.1
      have HH := Lib.hid (And.intro r1 (And.intro r2 (And.intro r3 (And.intro r4 (And.intro hc (And.intro hjk hl))))))
      clear r1 r2 r3 r4 r5 hc hjk hn6 hs hp HR hl hj6
      rcases hv : hxV c with _ | d
      · have hI : hxI c = -1 := by unfold hxI; rw [hv]
        rw [hI] at cH
        have HV := Lib.hid hv
        clear hv hI
        by_cases hlj : j < l
        · have hljI : (j : Int) < (l : Int) := by omega
          clear hlj
          go_wp2_with (first
            | (go_at_call 32; refine (cL _ r51).mono ?_; rintro e w1 ⟨rfl, y, rfl⟩; have HK := Lib.hid (rK _ y rfl); obtain ⟨c0, c1, c2, cf⟩ := HK.out.cells)
            | (go_at_call 87; refine (cH _).mono ?_; rintro e w2 ⟨rfl, rfl⟩)
            | (go_at_call 34; refine (badD_ok HK.out.1 q).mono ?_; rintro e w3 ⟨rfl, rfl⟩; have HK3 := Lib.hid (HK.out.bad q)))
          go_ret
          refine ⟨?_⟩
          obtain ⟨r1, r2, r3, r4, hc, hjk, hl⟩ := HH.out
          have e9 : hxS s k p 0 = (n, q) := by rw [r4, hxS_none (by rw [hc]; exact HV.out)]
          rw [e9]
          refine ⟨rfl, ?_⟩
          have := HJ.out
          rw [if_pos (show q - p < l by omega)]
          exact HK3.out
        · have HL := Lib.hid hlj
          have hljI : ¬ (j : Int) < (l : Int) := by omega
          clear hlj hnI
          go_wp2_with (first
            | (go_at_call 32; refine (cL _ r51).mono ?_; rintro e w1 ⟨rfl, y, rfl⟩; have HK := Lib.hid (rK _ y rfl); obtain ⟨c0, c1, c2, cf⟩ := HK.out.cells)
            | (go_at_call 87; refine (cH _).mono ?_; rintro e w2 ⟨rfl, rfl⟩))
          go_ret
          refine ⟨?_⟩
          obtain ⟨r1, r2, r3, r4, hc, hjk, hl⟩ := HH.out
          have e9 : hxS s k p 0 = (n, q) := by rw [r4, hxS_none (by rw [hc]; exact HV.out)]
          rw [e9]
          refine ⟨rfl, ?_⟩
          have := HJ.out
          have := HL.out
          rw [if_neg (show ¬ q - p < l by omega)]
          exact HK.out
      · have hI : hxI c = (d : Int) := by unfold hxI; rw [hv]
        rw [hI] at cH
        have hd := hxV_lt hv
        have hdI2 : (d : Int) < 16 := by omega
        have hdd : decide ((d : Int) < 0) = false := decide_eq_false (by omega)
        have HV := Lib.hid (And.intro hv hd)
        clear hv hI hd
        go_wp2_with (first
          | (go_at_call 32; refine (cL _ r51).mono ?_; rintro e w1 ⟨rfl, y, rfl⟩; have HK := Lib.hid (rK _ y rfl); obtain ⟨c0, c1, c2, cf⟩ := HK.out.cells)
          | (go_at_call 87; refine (cH _).mono ?_; rintro e w2 ⟨rfl, rfl⟩))
        go_roundw
        case rel =>
          obtain ⟨r1, r2, r3, r4, hc, hjk, hl⟩ := HH.out
          have hlt := lkN_lt (s := s) hc HV.out.2.2
          have e6 := Nat.pow_succ (n := 16) (m := j)
          have e7 : k - j = (k - (j + 1)) + 1 := by omega
          have hq := HJ.out
          have hd16 := HV.out.2.1
          refine ⟨16 * n + d, j + 1, by go_num, by go_num, by omega, by omega, by rw [Nat.succ_eq_add_one] at e6; omega, ?_, ?_⟩
          · rw [r4, e7, hxS_some (by rw [hc]; exact HV.out.1), show p + (j + 1) = q + 1 by omega]
          · have := HK.out.to (q + 1)
            rw [show p + (j + 1) = q + 1 by omega]
            simpa using this
        case measure => simp [intOf]; have := HH.out.2.2.2.2.2.1; omega
    · have hjI : ¬ (j : Int) < (k : Int) := by omega
      have HK := Lib.hid r5
      have e9 : hxS s k p 0 = (n, q) := by
        have e8 : k - j = 0 := by omega
        rw [r4, e8]; rfl
      have e10 : ¬ q - p < l := by have := HJ.out; omega
      have HE := Lib.hid (And.intro e9 e10)
      clear r1 r2 r3 r4 r5 hjk cL hs hp HR e9 e10 hl hk
      go_wp2
      go_ret
      refine ⟨?_⟩
      rw [HE.out.1]
      refine ⟨rfl, ?_⟩
      rw [if_neg HE.out.2]
      exact HK.out
end Go.Proofs.YtjccoiephdopkaaDoor
