/- PlaceLines: the law's call. -/
import Derived.Test.YtjlfdoonhfkabaaQk
namespace Go.Proofs.Ytjlfdoonhfkabaa
set_option linter.unusedVariables false
set_option linter.unusedSimpArgs false
open Go Go.RowKit Go.Shelf
set_option maxRecDepth 100000

theorem u8_of {b : UInt8} {n : Nat} (h : b.toNat = n) (hn : n < 256) : b = UInt8.ofNat n := by
  apply UInt8.toNat_inj.1
  rw [h, UInt8.toNat_ofNat', Nat.mod_eq_of_lt hn]
theorem ext_one (s : ByteArray) (i n : Nat) (h : i < s.size) (hb : bt s i = n) (hn : n < 256) : s.extract i (i + 1) = ⟨#[UInt8.ofNat n]⟩ := by
  have h1 : s[i] = UInt8.ofNat n := u8_of ((bt_get s i h).trans hb) hn
  apply ByteArray.ext
  apply Array.ext'
  rw [ByteArray.data_extract, Array.toList_extract, List.extract_eq_take_drop, List.drop_eq_getElem_cons (by simpa using h), show i + 1 - i = 1 by omega, List.take_succ_cons, List.take_zero, ← h1]
  rfl
theorem ext_two (s : ByteArray) (i n k : Nat) (h : i + 1 < s.size) (hb : bt s i = n) (hn : n < 256) (hb2 : bt s (i + 1) = k) (hk : k < 256) : s.extract i (i + 2) = ⟨#[UInt8.ofNat n, UInt8.ofNat k]⟩ := by
  have h1 : s[i] = UInt8.ofNat n := u8_of ((bt_get s i (by omega)).trans hb) hn
  have h2 : s[i + 1] = UInt8.ofNat k := u8_of ((bt_get s (i + 1) h).trans hb2) hk
  apply ByteArray.ext
  apply Array.ext'
  rw [ByteArray.data_extract, Array.toList_extract, List.extract_eq_take_drop, List.drop_eq_getElem_cons (by simpa using Nat.lt_of_succ_lt h), show i + 2 - i = 2 by omega, List.take_succ_cons, List.drop_eq_getElem_cons (by simpa using h), List.take_succ_cons, List.take_zero, ← h1, ← h2]
  rfl
theorem ext_none (s : ByteArray) (i : Nat) : s.extract i i = ⟨#[]⟩ := by
  apply ByteArray.ext
  apply Array.ext'
  rw [ByteArray.data_extract, Array.toList_extract, List.extract_eq_take_drop, Nat.sub_self, List.take_zero]

def LnRel (s : ByteArray) (w1 : World) (R : Nat) (av kv : Value) (wr : World) : Prop :=
  ∃ k a : Nat, kv = .int .i64 k ∧ av = .int .i64 a ∧ k ≤ R ∧ (∀ fr tt ee, (rws s)[k]? = some (fr, tt, ee) → fr = a) ∧ (k = R → a = s.size) ∧ Below w1.heap.size w1 wr

set_option maxHeartbeats 8000000 in
theorem lines_short (s : ByteArray) (hs : s.size ≤ 65536) (w : World) : Calls Try.prog 9 #[.string s] w fun e w' => e = .returned (.bool true) ∧ Below w.heap.size w w' := by
  have cN := fun w => callsIn_wide.1 (new_in s hs w)
  obtain ⟨R, hR⟩ : ∃ R, (rws s).length = R := ⟨_, rfl⟩
  have hrl := rws_len s
  rw [hR] at hrl
  have HR := Lib.hid hR
  have cL := fun m w hM => lines_any s m w hM
  rw [hR] at cL
  have cS := fun m w hM k fr tt ee hk => span_any s hs m w hM k fr tt ee hk
  have cB := fun m w hM x hx j hj h1 h2 => byte_any s hs m w hM x hx j hj h1 h2
  have CS := Lib.hid cS
  have CB := Lib.hid cB
  have RA := Lib.hid (fun k fr tt ee (h : (rws s)[k]? = some (fr, tt, ee)) => rows_at h)
  clear hR cS cB
  go_enter Try.func9, Try.ntmps9
  go_wp2_with (first | (go_at_call 12; refine (works_any _).mono ?_; rintro e w1 ⟨rfl, hb1⟩) | (go_at_call 13; refine (cN _).mono ?_; rintro e w2 ⟨m, rfl, hM, hb2⟩) | (go_at_call 23; refine (cL m _ hM).mono ?_; rintro e w' ⟨rfl, rfl⟩))
  have hB2 := hb1.trans (hb2.mono hb1.size)
  go_loopw [5, 32] (fun av kv wr => LnRel s w2 R av kv wr) (fun _ kv _ => R - (intOf kv).toNat)
  case atStart =>
    refine ⟨0, 0, rfl, rfl, Nat.zero_le _, fun fr tt ee h => (RA.out 0 fr tt ee h).2.2.2 rfl, fun h => ?_, Below.refl _ _⟩
    have h1 := rows_count s
    rw [HR.out] at h1
    omega
  case round =>
    obtain ⟨k, a, rfl, rfl, hkR, hfr, hend, hB⟩ := hrel
    by_cases hlt : k < R
    · obtain ⟨⟨fr, tt, ee⟩, hk⟩ : ∃ r, (rws s)[k]? = some r := ⟨_, List.getElem?_eq_getElem (by rw [HR.out]; exact hlt)⟩
      obtain rfl := hfr fr tt ee hk
      obtain ⟨⟨j, g, j2, hO⟩, hnx, hlast, _⟩ := RA.out k fr tt ee hk
      rw [HR.out] at hlast
      have hjn : j ≤ nP s := by have := hO.hj; have := hO.hg; have := hO.h2; omega
      have hgn : g ≤ nP s := by have := hO.hg; have := hO.h2; omega
      have hft : fr ≤ tt := by rw [← hO.bj, ← hO.bg]; exact pK_b_le s hO.hj
      have hts : tt ≤ s.size := by rw [← hO.bg]; exact pK_le s g hgn
      have hte : tt + ee ≤ s.size := by
        by_cases h0 : ee = 0
        · omega
        · obtain ⟨h1, h2⟩ := hO.nx h0; rw [← h2]; exact pK_le s j2 h1
      have hjl := hO.ln j (Nat.le_refl _) (by have := hO.hj; have := hO.hg; omega)
      have hcb := fun W hM => CB.out m W hM fr (by omega) j hjn (by rw [hO.bj]; exact Nat.le_refl _) (fun h => by rw [← hO.bj]; exact pK_b_succ s j)
      rw [hO.bj, Nat.sub_self] at hcb
      obtain ⟨p, hp⟩ : ∃ p, pK s j = p := ⟨_, rfl⟩
      rw [hp] at hcb hjl
      clear hp
      obtain ⟨pb, pk, pu, pl, pc⟩ := p
      simp only [Nat.sub_self] at hjl
      obtain ⟨rfl, rfl⟩ := hjl
      simp only [plV] at hcb
      have cS := fun W hM => CS.out m W hM pl fr tt ee hk
      have HO := Lib.hid hO
      have HX := Lib.hid hnx
      have HL := Lib.hid hlast
      have HK := Lib.hid hk
      clear hfr hend hO hnx hlast hk cN
      have i1 : decide ((tt : Int) < (fr : Int)) = false := decide_eq_false (by omega)
      have i2 : decide ((s.size : Int) < (tt : Int) + (ee : Int)) = false := decide_eq_false (by omega)
      have i3 : IntKind.i64.wrap ((tt : Int) + (ee : Int)) = (tt : Int) + (ee : Int) := IntWalk.i64_in _ (by omega)
      have hM1 := mapAt_below hM hB
      go_wp2_with (first | (go_at_call 21; refine (cS _ hM1).mono ?_; rintro e w3 ⟨rfl, hb3⟩; have hM3 := mapAt_below (mapAt_below hM1 hb3) ((Below.refl _ w3).alloc (Nat.le_refl _) (.cells #[.int .i64 fr, .int .i64 tt] 37)); have q3 := Blk.new w3 #[.int .i64 fr, .int .i64 tt] 37) | (go_at_call 17; refine (hcb _ hM3).mono ?_; rintro e w4 ⟨rfl, hb4⟩; have q4b := (q3.below' hb4); have q4 := q4b.cell; have q5b := q4b.alloc (.cells #[.int .i64 pb, .int .i64 pk, .int .i64 pu, .int .i64 pl, .int .i64 0] 28); have q5 := q5b.cell))
      have hM5 := mapAt_below (mapAt_below hM3 hb4) ((Below.refl _ w4).alloc (Nat.le_refl _) (.cells #[.int .i64 pb, .int .i64 pk, .int .i64 pu, .int .i64 pl, .int .i64 0] 28))
      have hBs := (hB.trans (hb3.mono hB.size)).alloc (hB.trans (hb3.mono hB.size)).size (.cells #[.int .i64 fr, .int .i64 tt] 37)
      have hB5 := (hBs.trans (hb4.mono hBs.size)).alloc (hBs.trans (hb4.mono hBs.size)).size (.cells #[.int .i64 pb, .int .i64 pk, .int .i64 pu, .int .i64 pl, .int .i64 0] 28)
      obtain ⟨W5, hW5⟩ : ∃ W5, w4.alloc (.cells #[.int .i64 pb, .int .i64 pk, .int .i64 pu, .int .i64 pl, .int .i64 0] 28) = W5 := ⟨_, rfl⟩
      rw [hW5] at hM5 hB5 q5 q5b ⊢
      clear hW5 q3 q4 q4b hb4 hb3 hM3 hBs hcb cS hM1
      obtain ⟨D, hD⟩ : ∃ D, tt - fr = D := ⟨_, rfl⟩
      have hDi : (tt : Int) - (fr : Int) = (D : Int) := by omega
      have hne := HO.out.ne
      have HN := Lib.hid hne
      clear hne
      go_wp2
      go_loopw [96] (fun iv wr2 => ∃ i : Nat, iv = .int .i64 i ∧ i ≤ D ∧ wr2 = W5) (fun iv _ => D - (intOf iv).toNat)
      case atStart => exact ⟨0, rfl, Nat.zero_le _, rfl⟩
      case round =>
        obtain ⟨i, rfl, hiD, rfl⟩ := hrel
        by_cases hil : i < D
        · obtain ⟨Y, hY⟩ : ∃ Y, fr + i = Y := ⟨_, rfl⟩
          have hYi : (fr : Int) + (i : Int) = (Y : Int) := by omega
          have hYs : Y < s.size := by omega
          have hY0 : (0 : Int) ≤ (Y : Int) := by omega
          have hY1 : (Y : Int) < (s.size : Int) := by omega
          have hYw : IntKind.i64.wrap (Y : Int) = (Y : Int) := IntWalk.i64_in _ (by omega)
          have hbs := bt_get s Y hYs
          obtain ⟨n1, n2⟩ := lnE_not (HN.out Y (by omega) (by omega))
          have e1 : ((bt s Y : Int) == 10) = false := by rw [beq_eq_false_iff_ne]; omega
          have e2 : ((bt s Y : Int) == 13) = false := by rw [beq_eq_false_iff_ne]; omega
          have hbl := bt_lt s Y
          obtain ⟨bx, hbx⟩ : ∃ bx, bt s Y = bx := ⟨_, rfl⟩
          rw [hbx] at hbs e1 e2 hbl
          clear hbx n1 n2 hY
          go_wp2
          go_roundw
          case rel => exact ⟨i + 1, by go_num, by omega, by first | rfl | trivial⟩
          case measure => simp [intOf]; omega
        · obtain rfl : i = D := by omega
          obtain ⟨T, hT⟩ : ∃ T, tt + ee = T := ⟨_, rfl⟩
          have hTi : (tt : Int) + (ee : Int) = (T : Int) := by omega
          have t0 : (0 : Int) ≤ (tt : Int) := by omega
          have t1 : (tt : Int) ≤ (T : Int) := by omega
          have t2 : (T : Int) ≤ (s.size : Int) := by omega
          have t3 : IntKind.i64.wrap (T : Int) = (T : Int) := IntWalk.i64_in _ (by omega)
          have hcase : ∃ E : ByteArray, s.extract tt T = E ∧ ((pl + 1 = R ∧ (E.toList == [10]) = false ∧ (E.toList == [13]) = false ∧ (E.toList == [13, 10]) = false ∧ (E.toList == []) = true) ∨ ((E.toList == [10]) = true ∧ (E.toList == [13]) = false ∧ (E.toList == [13, 10]) = false ∧ (E.toList == []) = false) ∨
              ((E.toList == [10]) = false ∧ (E.toList == [13]) = true ∧ (E.toList == [13, 10]) = false ∧ (E.toList == []) = false ∧ lfAt s (tt + 1) = false) ∨ ((E.toList == [10]) = false ∧ (E.toList == [13]) = false ∧ (E.toList == [13, 10]) = true ∧ (E.toList == []) = false)) := by
            refine ⟨_, rfl, ?_⟩
            have hO := HO.out
            by_cases h0 : ee = 0
            · left
              refine ⟨HL.out.2 h0, ?_⟩
              rw [show T = tt by omega, ext_none]
              refine ⟨by kernel_rfl, by kernel_rfl, by kernel_rfl, by kernel_rfl⟩
            · right
              have htl : tt < s.size := by omega
              have hel := hO.el htl
              rcases lnE_ne (s := s) (i := tt) (by omega) with h1 | h1
              · left
                have : ee = 1 := by rw [hel]; unfold lnE; rw [if_pos h1]
                rw [show T = tt + 1 by omega, ext_one s tt 10 htl h1 (by decide)]
                refine ⟨by kernel_rfl, by kernel_rfl, by kernel_rfl, by kernel_rfl⟩
              · right
                cases h2 : lfAt s (tt + 1) with
                | false =>
                  left
                  have : ee = 1 := by rw [hel]; unfold lnE; rw [if_neg (by omega), if_pos h1, h2]; rfl
                  rw [show T = tt + 1 by omega, ext_one s tt 13 htl h1 (by decide)]
                  refine ⟨by kernel_rfl, by kernel_rfl, by kernel_rfl, by kernel_rfl, by first | rfl | trivial⟩
                | true =>
                  right
                  have : ee = 2 := by rw [hel]; unfold lnE; rw [if_neg (by omega), if_pos h1, h2]; rfl
                  simp only [lfAt, Bool.and_eq_true, decide_eq_true_eq, beq_iff_eq] at h2
                  rw [show T = tt + 2 by omega, ext_two s tt 13 10 h2.1 h1 (by decide) h2.2 (by decide)]
                  refine ⟨by kernel_rfl, by kernel_rfl, by kernel_rfl, by kernel_rfl⟩
          obtain ⟨E, hE, hcase⟩ := hcase
          have FIN : LnRel s w2 R (.int .i64 T) (.int .i64 ((pl : Int) + 1)) wr ∧ R - (intOf (.int .i64 ((pl : Int) + 1))).toNat < R - (intOf (.int .i64 pl)).toNat := by
            refine ⟨⟨pl + 1, T, by go_num, rfl, by omega, fun fr' tt' ee' h => (HX.out fr' tt' ee' h).trans hT, fun h => ?_, hB5⟩, by simp [intOf]; omega⟩
            have h0 := HL.out.1 h
            have h1 := (HO.out.nz h0).2
            omega
          rcases hcase with ⟨hpR, a1, a2, a3, a4⟩ | ⟨a1, a2, a3, a4⟩ | ⟨a1, a2, a3, a4, a5⟩ | ⟨a1, a2, a3, a4⟩
          · have hRi : (R : Int) - 1 = (pl : Int) := by omega
            go_wp2_with (first | (go_at_call 23; refine (cL m _ hM5).mono ?_; rintro e w' ⟨rfl, rfl⟩))
            all_goals first
              | (exfalso
                 rename_i hu _
                 cases hu
                 done)
              | (exfalso
                 rename_i hu
                 cases hu
                 done)
              | exact FIN
          · go_wp2
            all_goals first
              | (exfalso
                 rename_i hu _
                 cases hu
                 done)
              | (exfalso
                 rename_i hu
                 cases hu
                 done)
              | exact FIN
          · have hT1 : tt + 1 = T ∨ True := .inr trivial
            by_cases hl : tt + 1 < s.size
            · have hl1 : (tt : Int) + 1 < (s.size : Int) := by omega
              have hl2 : (0 : Int) ≤ (tt : Int) + 1 := by omega
              have hbs := bt_get s (tt + 1) hl
              have hbl := bt_lt s (tt + 1)
              have e1 : ((bt s (tt + 1) : Int) == 10) = false := by
                rw [beq_eq_false_iff_ne]
                intro h
                unfold lfAt at a5
                rw [decide_eq_true hl, Bool.true_and, beq_eq_false_iff_ne] at a5
                omega
              obtain ⟨bx, hbx⟩ : ∃ bx, bt s (tt + 1) = bx := ⟨_, rfl⟩
              rw [hbx] at hbs e1 hbl
              clear hbx a5
              have hl3 : ((tt : Int) + 1).toNat = tt + 1 := by omega
              go_wp2
              all_goals first
                | (exfalso
                   rename_i hu _
                   cases hu
                   done)
                | (exfalso
                   rename_i hu
                   cases hu
                   done)
                | exact FIN
            · have hl1 : ¬ (tt : Int) + 1 < (s.size : Int) := by omega
              have hl2 : decide ((tt : Int) + 1 < (s.size : Int)) = false := decide_eq_false hl1
              clear a5
              go_wp2
              all_goals first
                | (exfalso
                   rename_i hu _
                   cases hu
                   done)
                | (exfalso
                   rename_i hu
                   cases hu
                   done)
                | exact FIN
          · go_wp2
            all_goals first
              | (exfalso
                 rename_i hu _
                 cases hu
                 done)
              | (exfalso
                 rename_i hu
                 cases hu
                 done)
              | exact FIN
    · obtain rfl : k = R := by omega
      have ha := hend rfl
      subst ha
      have hw := hB2.trans (hB.mono hB2.size)
      go_wp2_with (first | (go_at_call 12; refine (works_any _).mono ?_; rintro e w5 ⟨rfl, hb5⟩))
      go_ret
      exact ⟨rfl, hw.trans (hb5.mono hw.size)⟩

set_option maxHeartbeats 1000000 in
theorem lines_long (s : ByteArray) (hs : 65536 < s.size) (w : World) : Calls Try.prog 9 #[.string s] w fun e w' => e = .returned (.bool true) ∧ Below w.heap.size w w' := by
  have hsi : (65536 : Int) < (s.size : Int) := by omega
  have hsd : decide ((65536 : Int) < (s.size : Int)) = true := decide_eq_true hsi
  go_enter Try.func9, Try.ntmps9
  go_wp2_with fail
  refine (works_any _).mono ?_
  rintro e w1 ⟨rfl, hb1⟩
  go_wp2_with fail
  refine (new_long s hs _).mono ?_
  rintro e w2 ⟨rfl, rfl⟩
  go_wp2_with fail
  refine (works_any _).mono ?_
  rintro e w3 ⟨rfl, hb3⟩
  go_wp2
  go_ret
  exact ⟨rfl, hb1.trans (hb3.mono hb1.size)⟩
theorem lines_law (s : ByteArray) (w : World) : Calls Try.prog 9 #[.string s] w fun e w' => e = .returned (.bool true) ∧ Below w.heap.size w w' := by
  rcases Nat.lt_or_ge 65536 s.size with h | h
  · exact lines_long s h w
  · exact lines_short s h w
end Go.Proofs.Ytjlfdoonhfkabaa
