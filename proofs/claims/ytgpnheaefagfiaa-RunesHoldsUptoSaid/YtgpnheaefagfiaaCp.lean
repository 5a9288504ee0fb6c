/- Compare. The document's weight of a piece; alike and Common at the place where two texts part. -/
import Derived.Test.YtgpnheaefagfiaaAl
import Derived.Deep.RegionWith
namespace Go.Proofs.Ytgpnheaefagfiaa
set_option linter.unusedVariables false
set_option linter.unusedSimpArgs false
open Go Go.RowKit
set_option maxRecDepth 100000

set_option maxHeartbeats 1000000 in
theorem weight_any (s : ByteArray) (i : Nat) (hi : i < s.size) (hs : s.size ≤ 1048576) (w : World) :
    Calls Try.prog 81 #[.string s, .agg #[.int .i64 i, .int .i64 (wd s i : Nat), .int .i32 (rn s i : Nat), .bool (bk s i)]] w fun e w' => e = .returned (.int .i64 (wt s i : Nat)) ∧ Below w.heap.size w w' := by
  have hg := bt_get s i hi
  have hb := bt_lt s i
  have hr := rn_lt s i hi
  cases hk : bk s i with
  | true =>
    have hw := wt_bk hk
    have HW := Lib.hid hw
    clear hw hk
    go_enter Try.func81, Try.ntmps81
    go_wp2
    go_ret
    exact ⟨ret_int (by rw [HW.out]; omega), by go_grown⟩
  | false =>
    have hw := wt_wh hk
    have HW := Lib.hid hw
    clear hw hk
    go_enter Try.func81, Try.ntmps81
    go_wp2
    go_ret
    exact ⟨ret_int (by rw [HW.out]), by go_grown⟩

theorem below_drewN2 {B : Nat} {a w : World} (h : Below B a w) (n : Nat) : Below B a (w.drewN n) := h.trans ⟨rfl, rfl, rfl, Nat.le_refl _, fun _ _ => rfl⟩
theorem cmpZ_lt {a b : ByteArray} {p : Nat} (h1 : p < a.size) (h2 : p < b.size) : cmpZ a b p = if wt a p < wt b p then -1 else 1 := by
  unfold cmpZ
  rw [if_neg (by omega)]
  by_cases h : wt a p < wt b p
  · rw [if_pos (by omega), if_pos h]
  · rw [if_neg (by omega), if_neg h]

theorem lk_go (a b : ByteArray) : ∀ m p n, a.size - p ≤ m → Lk a b p n → ∃ q k, Lk a b q k ∧ St a b q := by
  intro m
  induction m with
  | zero =>
    intro p n hm h
    exact ⟨p, n, h, fun h' => by omega⟩
  | succ m ih =>
    intro p n hm h
    by_cases hs : p < a.size ∧ p < b.size ∧ wt a p = wt b p
    · have := wd_pos a p
      exact ih (p + wd a p) (n + 1) (by omega) (lk_next h hs.1 hs.2.1 hs.2.2)
    · exact ⟨p, n, h, hs⟩
theorem lk_ex (a b : ByteArray) : ∃ p n, Lk a b p n ∧ St a b p := lk_go a b a.size 0 0 (by omega) (lk_0 a b)

theorem alike_at (a b : ByteArray) (ha : a.size ≤ 1048576) (hb : b.size ≤ 1048576) (p n : Nat) (h1 : Lk a b p n) (h2 : St a b p) (w : World) :
    Calls Try.prog 79 #[.string a, .string b] w fun e w' => e = .returned (.tuple #[.int .i64 p, .int .i64 n]) ∧ Below w.heap.size w w' := by
  refine (alike_any a b ha hb w).mono ?_
  rintro e w' ⟨q, m, k1, k2, rfl, hb⟩
  obtain ⟨rfl, rfl⟩ := lk_one k1 k2 h1 h2
  exact ⟨rfl, hb⟩
theorem Common_at (a b : ByteArray) (ha : a.size ≤ 1048576) (hb : b.size ≤ 1048576) (p n : Nat) (h1 : Lk a b p n) (h2 : St a b p) (w : World) :
    Calls Try.prog 49 #[.string a, .string b] w fun e w' => e = .returned (.int .i64 n) ∧ Below w.heap.size w w' := by
  refine (Common_any a b ha hb w).mono ?_
  rintro e w' ⟨q, m, k1, k2, rfl, hb⟩
  obtain ⟨rfl, rfl⟩ := lk_one k1 k2 h1 h2
  exact ⟨rfl, hb⟩

set_option maxHeartbeats 4000000 in
theorem Compare_at (a b : ByteArray) (ha : a.size ≤ 1048576) (hb : b.size ≤ 1048576) (p n : Nat) (h1 : Lk a b p n) (h2 : St a b p) (w : World) :
    Calls Try.prog 47 #[.string a, .string b] w fun e w' => e = .returned (.int .i64 (cmpZ a b p)) ∧ Below w.heap.size w w' := by
  have cA := alike_at a b ha hb p n h1 h2
  have hpa := h1.1
  have hpb := h1.2.1
  by_cases ea : p = a.size
  · have f1 : ((p : Int) == (a.size : Int)) = true := by rw [beq_iff_eq]; omega
    by_cases eb : p = b.size
    · have f2 : ((p : Int) == (b.size : Int)) = true := by rw [beq_iff_eq]; omega
      have hz : cmpZ a b p = 0 := by unfold cmpZ; rw [if_pos ⟨ea, eb⟩]
      have HZ := Lib.hid hz
      clear hz ea eb h1 h2
      go_enter Try.func47, Try.ntmps47
      go_wp2_with (go_at_call 79; refine (cA _).mono ?_; rintro e w1 ⟨rfl, hb1⟩)
      go_ret
      exact ⟨ret_int (by rw [HZ.out]), hb1⟩
    · have f2 : ((p : Int) == (b.size : Int)) = false := by rw [beq_eq_false_iff_ne]; omega
      have hz : cmpZ a b p = -1 := by unfold cmpZ; rw [if_neg (fun h => eb h.2), if_pos (.inl ea)]
      have HZ := Lib.hid hz
      clear hz ea eb h1 h2
      go_enter Try.func47, Try.ntmps47
      go_wp2_with (go_at_call 79; refine (cA _).mono ?_; rintro e w1 ⟨rfl, hb1⟩)
      go_ret
      exact ⟨ret_int (by rw [HZ.out]), hb1⟩
  · have f1 : ((p : Int) == (a.size : Int)) = false := by rw [beq_eq_false_iff_ne]; omega
    by_cases eb : p = b.size
    · have f2 : ((p : Int) == (b.size : Int)) = true := by rw [beq_iff_eq]; omega
      have hz : cmpZ a b p = 1 := by unfold cmpZ; rw [if_neg (fun h => ea h.1), if_neg (by omega)]
      have HZ := Lib.hid hz
      clear hz ea eb h1 h2
      go_enter Try.func47, Try.ntmps47
      go_wp2_with (go_at_call 79; refine (cA _).mono ?_; rintro e w1 ⟨rfl, hb1⟩)
      go_ret
      exact ⟨ret_int (by rw [HZ.out]), hb1⟩
    · have hla : p < a.size := by omega
      have hlb : p < b.size := by omega
      have f2 : ((p : Int) == (b.size : Int)) = false := by rw [beq_eq_false_iff_ne]; omega
      have hz := cmpZ_lt hla hlb
      have cR1 := read_pcL a p hla (by omega)
      have cR2 := read_pcL b p hlb (by omega)
      have gA := bt_get a p hla
      have gB := bt_get b p hlb
      have lA := bt_lt a p
      have lB := bt_lt b p
      have rA := rn_lt a p hla
      have rB := rn_lt b p hlb
      clear ea eb h1 h2
      cases ka : bk a p with
      | true =>
        rw [wt_bk ka] at hz
        rw [ka] at cR1
        cases kb : bk b p with
        | true =>
          rw [wt_bk kb] at hz
          rw [kb] at cR2
          clear ka kb
          by_cases hc : bt a p < bt b p
          · rw [if_pos (by omega)] at hz
            have HZ := Lib.hid hz
            have hci : (bt a p : Int) < (bt b p : Int) := by omega
            clear hz
            go_enter Try.func47, Try.ntmps47
            go_wp2_with (first | (go_at_call 79; refine (cA _).mono ?_; rintro e w1 ⟨rfl, hb1⟩) | (go_at_call 80; refine (sign_any _ _).mono ?_; rintro e w5 ⟨rfl, rfl⟩) | (go_at_call_of 67 (Value.string a); refine (cR1 _).mono ?_; rintro e w2 ⟨rfl, hb2⟩) | (go_at_call_of 67 (Value.string b); refine (cR2 _).mono ?_; rintro e w3 ⟨rfl, hb3⟩))
            go_quiet ((go_at_call 80; exact Calls.quiet_of_same ((sign_any _ _).mono (fun e w6 h => ⟨h.1, h.2.symm⟩))))
            go_wp2
            go_ret
            exact ⟨ret_int (by rw [HZ.out]), below_drewN2 ((((hb1.trans (hb2.mono hb1.size)).trans (hb3.mono (Nat.le_trans hb1.size hb2.size))).alloc (Nat.le_trans (Nat.le_trans hb1.size hb2.size) hb3.size) _).alloc (by have := hb1.size; have := hb2.size; have := hb3.size; simp; omega) _) _⟩
          · rw [if_neg (by omega)] at hz
            have HZ := Lib.hid hz
            have hci : ¬ (bt a p : Int) < (bt b p : Int) := by omega
            clear hz
            go_enter Try.func47, Try.ntmps47
            go_wp2_with (first | (go_at_call 79; refine (cA _).mono ?_; rintro e w1 ⟨rfl, hb1⟩) | (go_at_call 80; refine (sign_any _ _).mono ?_; rintro e w5 ⟨rfl, rfl⟩) | (go_at_call_of 67 (Value.string a); refine (cR1 _).mono ?_; rintro e w2 ⟨rfl, hb2⟩) | (go_at_call_of 67 (Value.string b); refine (cR2 _).mono ?_; rintro e w3 ⟨rfl, hb3⟩))
            go_quiet ((go_at_call 80; exact Calls.quiet_of_same ((sign_any _ _).mono (fun e w6 h => ⟨h.1, h.2.symm⟩))))
            go_wp2
            go_ret
            exact ⟨ret_int (by rw [HZ.out]), below_drewN2 ((((hb1.trans (hb2.mono hb1.size)).trans (hb3.mono (Nat.le_trans hb1.size hb2.size))).alloc (Nat.le_trans (Nat.le_trans hb1.size hb2.size) hb3.size) _).alloc (by have := hb1.size; have := hb2.size; have := hb3.size; simp; omega) _) _⟩
        | false =>
          rw [wt_wh kb, if_neg (by omega)] at hz
          rw [kb] at cR2
          have HZ := Lib.hid hz
          clear ka kb hz
          go_enter Try.func47, Try.ntmps47
          go_wp2_with (first | (go_at_call 79; refine (cA _).mono ?_; rintro e w1 ⟨rfl, hb1⟩) | (go_at_call 80; refine (sign_any _ _).mono ?_; rintro e w5 ⟨rfl, rfl⟩) | (go_at_call_of 67 (Value.string a); refine (cR1 _).mono ?_; rintro e w2 ⟨rfl, hb2⟩) | (go_at_call_of 67 (Value.string b); refine (cR2 _).mono ?_; rintro e w3 ⟨rfl, hb3⟩))
          go_ret
          exact ⟨ret_int (by rw [HZ.out]), (((hb1.trans (hb2.mono hb1.size)).trans (hb3.mono (Nat.le_trans hb1.size hb2.size))).alloc (Nat.le_trans (Nat.le_trans hb1.size hb2.size) hb3.size) _).alloc (by have := hb1.size; have := hb2.size; have := hb3.size; simp; omega) _⟩
      | false =>
        rw [wt_wh ka] at hz
        rw [ka] at cR1
        cases kb : bk b p with
        | true =>
          rw [wt_bk kb, if_pos (by omega)] at hz
          rw [kb] at cR2
          have HZ := Lib.hid hz
          clear ka kb hz
          go_enter Try.func47, Try.ntmps47
          go_wp2_with (first | (go_at_call 79; refine (cA _).mono ?_; rintro e w1 ⟨rfl, hb1⟩) | (go_at_call 80; refine (sign_any _ _).mono ?_; rintro e w5 ⟨rfl, rfl⟩) | (go_at_call_of 67 (Value.string a); refine (cR1 _).mono ?_; rintro e w2 ⟨rfl, hb2⟩) | (go_at_call_of 67 (Value.string b); refine (cR2 _).mono ?_; rintro e w3 ⟨rfl, hb3⟩))
          go_ret
          exact ⟨ret_int (by rw [HZ.out]), (((hb1.trans (hb2.mono hb1.size)).trans (hb3.mono (Nat.le_trans hb1.size hb2.size))).alloc (Nat.le_trans (Nat.le_trans hb1.size hb2.size) hb3.size) _).alloc (by have := hb1.size; have := hb2.size; have := hb3.size; simp; omega) _⟩
        | false =>
          rw [wt_wh kb] at hz
          rw [kb] at cR2
          clear ka kb
          by_cases hc : rn a p < rn b p
          · rw [if_pos hc] at hz
            have HZ := Lib.hid hz
            have hci : (rn a p : Int) < (rn b p : Int) := by omega
            clear hz
            go_enter Try.func47, Try.ntmps47
            go_wp2_with (first | (go_at_call 79; refine (cA _).mono ?_; rintro e w1 ⟨rfl, hb1⟩) | (go_at_call 80; refine (sign_any _ _).mono ?_; rintro e w5 ⟨rfl, rfl⟩) | (go_at_call_of 67 (Value.string a); refine (cR1 _).mono ?_; rintro e w2 ⟨rfl, hb2⟩) | (go_at_call_of 67 (Value.string b); refine (cR2 _).mono ?_; rintro e w3 ⟨rfl, hb3⟩))
            go_ret
            exact ⟨ret_int (by rw [HZ.out]), (((hb1.trans (hb2.mono hb1.size)).trans (hb3.mono (Nat.le_trans hb1.size hb2.size))).alloc (Nat.le_trans (Nat.le_trans hb1.size hb2.size) hb3.size) _).alloc (by have := hb1.size; have := hb2.size; have := hb3.size; simp; omega) _⟩
          · rw [if_neg hc] at hz
            have HZ := Lib.hid hz
            have hci : ¬ (rn a p : Int) < (rn b p : Int) := by omega
            clear hz
            go_enter Try.func47, Try.ntmps47
            go_wp2_with (first | (go_at_call 79; refine (cA _).mono ?_; rintro e w1 ⟨rfl, hb1⟩) | (go_at_call 80; refine (sign_any _ _).mono ?_; rintro e w5 ⟨rfl, rfl⟩) | (go_at_call_of 67 (Value.string a); refine (cR1 _).mono ?_; rintro e w2 ⟨rfl, hb2⟩) | (go_at_call_of 67 (Value.string b); refine (cR2 _).mono ?_; rintro e w3 ⟨rfl, hb3⟩))
            go_ret
            exact ⟨ret_int (by rw [HZ.out]), (((hb1.trans (hb2.mono hb1.size)).trans (hb3.mono (Nat.le_trans hb1.size hb2.size))).alloc (Nat.le_trans (Nat.le_trans hb1.size hb2.size) hb3.size) _).alloc (by have := hb1.size; have := hb2.size; have := hb3.size; simp; omega) _⟩
end Go.Proofs.Ytgpnheaefagfiaa
