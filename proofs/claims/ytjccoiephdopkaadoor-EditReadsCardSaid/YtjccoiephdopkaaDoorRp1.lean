/- Stage 27: the program's reader: hex, escape. -/
import Derived.Test.YtjccoiephdopkaaDoorRm
import Derived.Test.YtjccoiephdopkaaDoorQQEncP
import Derived.Test.YtjccoiephdopkaaDoorHs
namespace Go.Proofs.YtjccoiephdopkaaDoor
set_option linter.unusedVariables false
set_option linter.unusedSimpArgs false
open Go Go.RowKit Go.Shelf
set_option maxRecDepth 100000

theorem ofInt32r (a : Nat) (ha : a < 4294967296) : (BitVec.ofInt 32 (a : Int)).toNat = a := by
  rw [BitVec.ofInt_natCast, BitVec.toNat_ofNat]; exact Nat.mod_eq_of_lt (by omega)
theorem or_i32 (m d : Nat) (hm : m < 134217728) (hd : d < 16) : bits .or .i32 ((16 * m : Nat) : Int) (d : Int) = ((16 * m + d : Nat) : Int) := by
  have e := Nat.two_pow_add_eq_or_of_lt (i := 4) (b := d) (by omega) m
  rw [show (2 ^ 4 * m : Nat) = 16 * m from rfl] at e
  show IntKind.i32.wrap ((BitVec.ofInt 32 ((16 * m : Nat) : Int) ||| BitVec.ofInt 32 (d : Int)).toNat : Int) = _
  rw [BitVec.toNat_or, ofInt32r _ (by omega), ofInt32r _ (by omega), ← e, IntKind.wrap_i32]
  omega
/-- What the reader's block holds, and what else is as it was. -/
def RdK (W W' : World) (B : Nat) (s : ByteArray) (p f t : Nat) : Prop := RdB W' B s p f t ∧ W.grownBy W' (some B)
theorem RdK.start {W : World} {B p f t : Nat} {s : ByteArray} (h : RdB W B s p f t) : RdK W W B s p f t := ⟨h, World.grownBy.refl _ _⟩
theorem RdK.drew {W W' : World} {B p f t : Nat} {s : ByteArray} (h : RdK W W' B s p f t) (n : Nat) : RdK W (W'.drewN n) B s p f t := ⟨h.1, h.2.os, h.2.tape, h.2.output, h.2.size, h.2.block⟩
theorem grown_set {W W' : World} {B : Nat} (h : W.grownBy W' (some B)) (o : Nat) (v : Value) : W.grownBy (W'.setCell ⟨B, o, none⟩ v) (some B) := by
  refine ⟨h.os, h.tape, h.output, by simpa using h.size, fun k hk hn => ?_⟩
  exact (Below.heap_setCell _ _ _ _ (fun e => hn (by rw [e]))).trans (h.block k hk hn)
theorem RdK.to {W W' : World} {B p f t : Nat} {s : ByteArray} (h : RdK W W' B s p f t) (q : Nat) : RdK W (W'.setCell ⟨B, 1, none⟩ (.int .i64 q)) B s q f t := ⟨h.1.step q, grown_set h.2 1 _⟩
theorem RdK.cells {W W' : World} {B p f t : Nat} {s : ByteArray} (h : RdK W W' B s p f t) : W'.cell? ⟨B, 0, none⟩ = some (.string s) ∧ W'.cell? ⟨B, 1, none⟩ = some (.int .i64 p) ∧ W'.cell? ⟨B, 2, none⟩ = some (.int .i64 f) ∧ W'.cell? ⟨B, 3, none⟩ = some (.int .i64 t) ∧ ∀ o, W'.frozen? ⟨B, o, none⟩ = false :=
  ⟨h.1.cell 0, h.1.cell 1, h.1.cell 2, h.1.cell 3, fun o => h.1.frozen o⟩
set_option maxHeartbeats 4000000 in
theorem hex_any {B p f t : Nat} {s : ByteArray} {w : World} (h : RdB w B s p f t) (hp : p ≤ s.size) (hs : s.size ≤ 1048576) (k : Nat) (hk : k ≤ 6) :
    Calls Tryd.prog 88 #[.pointer (some ⟨B, 0, none⟩), .int .i64 k] w fun e w' => e = .returned (.tuple #[.int .i32 (hxS s k p 0).1, .int .i64 ((hxS s k p 0).2 - p : Nat)]) ∧ RdK w w' B s (hxS s k p 0).2 f t := by
  go_enter Tryd.func88, Tryd.ntmps88
  go_wp2
  go_loopw [4, 5] (fun vn vj wr => ∃ (n j : Nat), vn = .int .i32 n ∧ vj = .int .i64 j ∧ Hid (j ≤ k ∧ p + j ≤ s.size ∧ n < 16 ^ j ∧ hxS s k p 0 = hxS s (k - j) (p + j) n ∧ RdK w wr B s (p + j) f t)) (fun _ vj _ => k - (RowKit.intOf vj).toNat)
  case atStart => exact ⟨0, 0, rfl, rfl, by omega, hp, by decide, rfl, RdK.start h⟩
  case round =>
    obtain ⟨n, j, rfl, rfl, HR⟩ := hrel
    rename World => X
    clear h
    obtain ⟨r1, r2, r3, r4, r5⟩ := HR.out
    obtain ⟨q, hq⟩ : ∃ q, p + j = q := ⟨_, rfl⟩
    rw [hq] at r2 r4 r5
    have HJ := Lib.hid hq
    have hqI : (q : Int) ≤ 1048576 := by omega
    clear hq
    have cL := fun (Y : World) (hY : RdB Y B s q f t) => look_any hY r2 (by omega)
    by_cases hjk : j < k
    · have hjI : (j : Int) < (k : Int) := by omega
      have hj6 : j ≤ 5 := by omega
      have hn6 : n < 16777216 := Nat.lt_of_lt_of_le r3 (Nat.le_trans (Nat.pow_le_pow_right (by decide) hj6) (by decide))
      obtain ⟨c, hc⟩ : ∃ c, lkN s q = c := ⟨_, rfl⟩
      rw [hc] at cL
      have rK := fun (Y : World) m (hY : Y = X.drewN m) => (hY ▸ r5.drew m : RdK w Y B s q f t)
      have HH := Lib.hid (And.intro r1 (And.intro r2 (And.intro r3 (And.intro r4 (And.intro hc (And.intro hjk hn6))))))
      have r51 := r5.1
      clear hs r1 r2 r3 r4 r5 hc hjk hn6 hp HR
      have hcs : (48 ≤ c ∧ c ≤ 57) ∨ (97 ≤ c ∧ c ≤ 102) ∨ hxV c = none := by
        unfold hxV
        by_cases h1 : 48 ≤ c ∧ c ≤ 57
        · exact .inl h1
        · by_cases h2 : 97 ≤ c ∧ c ≤ 102
          · exact .inr (.inl h2)
          · rw [if_neg h1, if_neg h2]; exact .inr (.inr rfl)
      rcases hcs with h1 | h1 | h1
      · obtain ⟨d, hd⟩ : ∃ d, c - 48 = d := ⟨_, rfl⟩
        have hv : hxV c = some d := by unfold hxV; rw [if_pos h1, hd]
        obtain ⟨m, hm⟩ : ∃ m, 16 * n = m := ⟨_, rfl⟩
        obtain ⟨u, hu⟩ : ∃ u, m + d = u := ⟨_, rfl⟩
        have hn6 := HH.out.2.2.2.2.2.2
        have e1 : IntKind.u8.wrap ((c : Int) - 48) = (d : Int) := by rw [IntKind.wrap_u8]; omega
        have e2 : IntKind.i32.wrap (d : Int) = (d : Int) := by rw [IntKind.wrap_i32]; omega
        have e3 : IntKind.i32.wrap ((n : Int) * 16) = (m : Int) := by rw [IntKind.wrap_i32]; omega
        have e4 : bits .or .i32 (m : Int) (d : Int) = (u : Int) := by rw [← hm, ← hu, ← hm]; exact or_i32 n d (by omega) (by omega)
        have a1 : (48 : Int) ≤ (c : Int) := by omega
        have a2 : (c : Int) ≤ 57 := by omega
        have HD := Lib.hid (And.intro hv (And.intro hm (And.intro hu h1)))
        clear hv hm hu h1 hn6 hd
        go_wp2_with (go_at_call 37; refine (cL _ r51).mono ?_; rintro e w1 ⟨rfl, y, rfl⟩; have HK := Lib.hid (rK _ y rfl); obtain ⟨c0, c1, c2, c3, cf⟩ := HK.out.cells)
        go_roundw
        case rel =>
          obtain ⟨r1, r2, r3, r4, hc, hjk, hn6⟩ := HH.out
          obtain ⟨hv, hm, hu, h1⟩ := HD.out
          have hlt := lkN_lt (s := s) hc (by omega)
          have hq := HJ.out
          have e6 := Nat.pow_succ (n := 16) (m := j)
          have e7 : k - j = (k - (j + 1)) + 1 := by omega
          have hd16 := (hxV_lt hv).1
          refine ⟨u, j + 1, rfl, by go_num, by omega, by omega, by rw [Nat.succ_eq_add_one] at e6; omega, ?_, ?_⟩
          · rw [r4, e7, hxS_some (by rw [hc]; exact hv), hm, hu, show p + (j + 1) = q + 1 by omega]
          · have hq := HJ.out
            have := HK.out.to (q + 1)
            rw [show p + (j + 1) = q + 1 by omega]
            simpa using this
        case measure => simp [intOf]; have := HH.out.2.2.2.2.2.1; omega
      · obtain ⟨d, hd⟩ : ∃ d, c - 87 = d := ⟨_, rfl⟩
        have hv : hxV c = some d := by unfold hxV; rw [if_neg (by omega), if_pos h1, hd]
        obtain ⟨m, hm⟩ : ∃ m, 16 * n = m := ⟨_, rfl⟩
        obtain ⟨u, hu⟩ : ∃ u, m + d = u := ⟨_, rfl⟩
        have hn6 := HH.out.2.2.2.2.2.2
        obtain ⟨g, hg⟩ : ∃ g, c - 97 = g := ⟨_, rfl⟩
        have e0 : IntKind.u8.wrap ((c : Int) - 97) = (g : Int) := by rw [IntKind.wrap_u8]; omega
        have e1 : IntKind.u8.wrap ((g : Int) + 10) = (d : Int) := by rw [IntKind.wrap_u8]; omega
        have e2 : IntKind.i32.wrap (d : Int) = (d : Int) := by rw [IntKind.wrap_i32]; omega
        have e3 : IntKind.i32.wrap ((n : Int) * 16) = (m : Int) := by rw [IntKind.wrap_i32]; omega
        have e4 : bits .or .i32 (m : Int) (d : Int) = (u : Int) := by rw [← hm, ← hu, ← hm]; exact or_i32 n d (by omega) (by omega)
        have a1 : (48 : Int) ≤ (c : Int) := by omega
        have a2 : ¬ (c : Int) ≤ 57 := by omega
        have a3 : (97 : Int) ≤ (c : Int) := by omega
        have a4 : (c : Int) ≤ 102 := by omega
        have HD := Lib.hid (And.intro hv (And.intro hm (And.intro hu h1)))
        clear hv hm hu h1 hn6 hd hg
        go_wp2_with (go_at_call 37; refine (cL _ r51).mono ?_; rintro e w1 ⟨rfl, y, rfl⟩; have HK := Lib.hid (rK _ y rfl); obtain ⟨c0, c1, c2, c3, cf⟩ := HK.out.cells)
        go_roundw
        case rel =>
          obtain ⟨r1, r2, r3, r4, hc, hjk, hn6⟩ := HH.out
          obtain ⟨hv, hm, hu, h1⟩ := HD.out
          have hlt := lkN_lt (s := s) hc (by omega)
          have hq := HJ.out
          have e6 := Nat.pow_succ (n := 16) (m := j)
          have e7 : k - j = (k - (j + 1)) + 1 := by omega
          have hd16 := (hxV_lt hv).1
          refine ⟨u, j + 1, rfl, by go_num, by omega, by omega, by rw [Nat.succ_eq_add_one] at e6; omega, ?_, ?_⟩
          · rw [r4, e7, hxS_some (by rw [hc]; exact hv), hm, hu, show p + (j + 1) = q + 1 by omega]
          · have hq := HJ.out
            have := HK.out.to (q + 1)
            rw [show p + (j + 1) = q + 1 by omega]
            simpa using this
        case measure => simp [intOf]; have := HH.out.2.2.2.2.2.1; omega
      · have hcases : (¬ 48 ≤ c) ∨ (57 < c ∧ ¬ 97 ≤ c) ∨ (102 < c) := by
          refine Decidable.byContradiction fun hh => ?_
          unfold hxV at h1
          split at h1
          · cases h1
          · split at h1
            · cases h1
            · omega
        have HV := Lib.hid h1
        clear h1
        rcases hcases with h1 | h1 | h1
        · have a1 : ¬ (48 : Int) ≤ (c : Int) := by omega
          have a3 : ¬ (97 : Int) ≤ (c : Int) := by omega
          clear h1
          go_wp2_with (go_at_call 37; refine (cL _ r51).mono ?_; rintro e w1 ⟨rfl, y, rfl⟩; have HK := Lib.hid (rK _ y rfl))
          refine bodyPost_ret (results_tmp2 rfl _ _ _) rfl ?_
          obtain ⟨r1, r2, r3, r4, hc, hjk, hn6⟩ := HH.out
          have e9 : hxS s k p 0 = (n, q) := by rw [r4, hxS_none (by rw [hc]; exact HV.out)]
          rw [e9]
          refine ⟨?_, HK.out⟩
          have : q - p = j := by have := HJ.out; omega
          rw [this]
          rfl
        · have a1 : (48 : Int) ≤ (c : Int) := by omega
          have a2 : ¬ (c : Int) ≤ 57 := by omega
          have a3 : ¬ (97 : Int) ≤ (c : Int) := by omega
          clear h1
          go_wp2_with (go_at_call 37; refine (cL _ r51).mono ?_; rintro e w1 ⟨rfl, y, rfl⟩; have HK := Lib.hid (rK _ y rfl))
          refine bodyPost_ret (results_tmp2 rfl _ _ _) rfl ?_
          obtain ⟨r1, r2, r3, r4, hc, hjk, hn6⟩ := HH.out
          have e9 : hxS s k p 0 = (n, q) := by rw [r4, hxS_none (by rw [hc]; exact HV.out)]
          rw [e9]
          refine ⟨?_, HK.out⟩
          have : q - p = j := by have := HJ.out; omega
          rw [this]
          rfl
        · have a1 : (48 : Int) ≤ (c : Int) := by omega
          have a2 : ¬ (c : Int) ≤ 57 := by omega
          have a3 : (97 : Int) ≤ (c : Int) := by omega
          have a4 : ¬ (c : Int) ≤ 102 := by omega
          clear h1
          go_wp2_with (go_at_call 37; refine (cL _ r51).mono ?_; rintro e w1 ⟨rfl, y, rfl⟩; have HK := Lib.hid (rK _ y rfl))
          refine bodyPost_ret (results_tmp2 rfl _ _ _) rfl ?_
          obtain ⟨r1, r2, r3, r4, hc, hjk, hn6⟩ := HH.out
          have e9 : hxS s k p 0 = (n, q) := by rw [r4, hxS_none (by rw [hc]; exact HV.out)]
          rw [e9]
          refine ⟨?_, HK.out⟩
          have : q - p = j := by have := HJ.out; omega
          rw [this]
          rfl
    · have hjI : ¬ (j : Int) < (k : Int) := by omega
      have HK := Lib.hid r5
      have e9 : hxS s k p 0 = (n, q) := by
        have e8 : k - j = 0 := by omega
        rw [r4, e8]; rfl
      have HE := Lib.hid e9
      clear r1 r2 r3 r4 r5 hjk cL hs hp HR e9
      go_wp2
      refine bodyPost_ret (results_tmp2 rfl _ _ _) rfl ?_
      rw [HE.out]
      refine ⟨?_, HK.out⟩
      have : q - p = j := by have := HJ.out; omega
      rw [this]
      rfl
end Go.Proofs.YtjccoiephdopkaaDoor
