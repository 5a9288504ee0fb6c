/- The program's Encode is Go's own form. -/
import Derived.Test.YtjccoiephdopkaaDoorQQEnc
namespace Go.Proofs.YtjccoiephdopkaaDoor.SQ
set_option linter.unusedVariables false
set_option linter.unusedSimpArgs false
open Go Go.RowKit
set_option maxRecDepth 100000

theorem ofInt8 (a : Nat) (ha : a < 256) : (BitVec.ofInt 8 (a : Int)).toNat = a := by
  rw [BitVec.ofInt_natCast, BitVec.toNat_ofNat]; exact Nat.mod_eq_of_lt (by omega)
theorem wrap_u8 (a : Nat) (ha : a < 256) : IntKind.u8.wrap (a : Int) = a := by
  unfold IntKind.wrap
  simp [IntKind.bits, IntKind.signed]
  omega
theorem u8_or_nat (a b : Nat) (ha : a < 256) (hb : b < 256) : bits .or .u8 (a : Int) (b : Int) = ((a ||| b : Nat) : Int) := by
  have hx : a ||| b < 2 ^ 8 := Nat.or_lt_two_pow (by omega) (by omega)
  show IntKind.u8.wrap ((BitVec.ofInt 8 (a : Int) ||| BitVec.ofInt 8 (b : Int)).toNat : Int) = _
  rw [BitVec.toNat_or, ofInt8 a ha, ofInt8 b hb, wrap_u8 _ (by omega)]

theorem lo_bits (r : Int) (h0 : 0 ≤ r) (h1 : r < 2147483648) : bits .or .u8 128 (bits .and .i32 r 63 % 256) = 128 + r % 64 := by
  obtain ⟨n, rfl⟩ := Int.eq_ofNat_of_zero_le h0
  have e1 : bits .and .i32 (n : Int) 63 = ((n % 64 : Nat) : Int) := by
    have := i32_and_nat n 63 (by omega) (by omega)
    rw [Nat.and_two_pow_sub_one_eq_mod n 6] at this
    exact this
  rw [e1, show ((n % 64 : Nat) : Int) % 256 = ((n % 64 : Nat) : Int) by omega]
  have := u8_or_nat 128 (n % 64) (by omega) (by omega)
  have h2 := Nat.two_pow_add_eq_or_of_lt (i := 7) (b := n % 64) (by omega) 1
  rw [show (2 ^ 7 * 1 : Nat) = 128 from rfl] at h2
  rw [← h2] at this
  refine Eq.trans this ?_
  omega

theorem hi_bits (k b m : Nat) (x : Int) (hk : k = 2 ^ b * m) (hx0 : 0 ≤ x) (hx : x < (2 ^ b : Nat)) (hb : k < 256) (hb2 : 2 ^ b ≤ 256) : bits .or .u8 (k : Int) (x % 256) = k + x := by
  obtain ⟨n, rfl⟩ := Int.eq_ofNat_of_zero_le hx0
  have hn : n < 2 ^ b := by omega
  rw [show (n : Int) % 256 = n by omega, u8_or_nat k n hb (by omega), hk, ← Nat.two_pow_add_eq_or_of_lt hn m]
  push_cast; rfl

theorem hi3 (x : Int) (h0 : 0 ≤ x) (h : x < 16) : bits .or .u8 224 (x % 256) = 224 + x := hi_bits 224 4 14 x rfl h0 h (by decide) (by decide)
theorem hi2 (x : Int) (h0 : 0 ≤ x) (h : x < 32) : bits .or .u8 192 (x % 256) = 192 + x := hi_bits 192 5 6 x rfl h0 h (by decide) (by decide)
theorem hi4 (x : Int) (h0 : 0 ≤ x) (h : x < 8) : bits .or .u8 240 (x % 256) = 240 + x := hi_bits 240 3 30 x rfl h0 h (by decide) (by decide)

set_option maxHeartbeats 1000000 in
theorem encP1 (r : Int) (h0 : 0 ≤ r) (h1 : r < 128) (w : World) :
    Calls Tryd.prog 89 #[.int .i32 r] w fun e w' => e = .returned (.string (strOfNums [r])) ∧ Below w.heap.size w w' := by
  have hw := width_any r
  rw [show widZ r = 1 by unfold widZ; rw [if_neg (by omega), if_pos h1]] at hw
  have hcv := conv1 w r
  go_enter Tryd.func89, Tryd.ntmps89
  go_wp2_with (go_at_call 91; refine (hw _).mono ?_; rintro e w' ⟨rfl, rfl⟩)
  go_ret
  exact ⟨rfl, by go_grown⟩

set_option maxHeartbeats 1000000 in
theorem encP2 (r : Int) (h0 : 128 ≤ r) (h1 : r < 2048) (w : World) :
    Calls Tryd.prog 89 #[.int .i32 r] w fun e w' => e = .returned (.string (strOfNums [192 + r / 64, 128 + r % 64])) ∧ Below w.heap.size w w' := by
  have hw := width_any r
  rw [show widZ r = 2 by unfold widZ; rw [if_neg (by omega), if_neg (by omega), if_pos h1]] at hw
  have hmk := make2 w
  have hcv := conv2 w
  have l0 := lo_bits (r) (by omega) (by omega)
  have l9 := hi2 (r / 64) (by omega) (by omega)
  go_enter Tryd.func89, Tryd.ntmps89
  go_wp2_with (go_at_call 91; refine (hw _).mono ?_; rintro e w' ⟨rfl, rfl⟩)
  go_rounds 2
  go_ret
  refine ⟨?_, by go_grown⟩
  first
    | rfl
    | (show Ending.returned (.string (strOfNums _)) = _; simp only [*]; rfl)

set_option maxHeartbeats 1000000 in
theorem encP3 (r : Int) (h0 : 2048 ≤ r) (h1 : r < 65536) (h2 : noR r = false) (w : World) :
    Calls Tryd.prog 89 #[.int .i32 r] w fun e w' => e = .returned (.string (strOfNums [224 + r / 64 / 64, 128 + r / 64 % 64, 128 + r % 64])) ∧ Below w.heap.size w w' := by
  have hw := width_any r
  rw [noR_not] at h2
  rw [show widZ r = 3 by unfold widZ; rw [if_neg (by omega), if_neg (by omega), if_neg (by omega), if_pos h1]] at hw
  have hmk := make3 w
  have hcv := conv3 w
  clear h2
  have l0 := lo_bits (r) (by omega) (by omega)
  have l1 := lo_bits (r / 64) (by omega) (by omega)
  have l9 := hi3 (r / 64 / 64) (by omega) (by omega)
  go_enter Tryd.func89, Tryd.ntmps89
  go_wp2_with (go_at_call 91; refine (hw _).mono ?_; rintro e w' ⟨rfl, rfl⟩)
  go_rounds 3
  go_ret
  refine ⟨?_, by go_grown⟩
  first
    | rfl
    | (show Ending.returned (.string (strOfNums _)) = _; simp only [*]; rfl)

set_option maxHeartbeats 1000000 in
theorem encP4 (r : Int) (h0 : 65536 ≤ r) (h1 : r ≤ 1114111) (w : World) :
    Calls Tryd.prog 89 #[.int .i32 r] w fun e w' => e = .returned (.string (strOfNums [240 + r / 64 / 64 / 64, 128 + r / 64 / 64 % 64, 128 + r / 64 % 64, 128 + r % 64])) ∧ Below w.heap.size w w' := by
  have hw := width_any r
  rw [show widZ r = 4 by unfold widZ; rw [if_neg (by omega), if_neg (by omega), if_neg (by omega), if_neg (by omega)]] at hw
  have hmk := make4 w
  have hcv := conv4 w
  have l0 := lo_bits (r) (by omega) (by omega)
  have l1 := lo_bits (r / 64) (by omega) (by omega)
  have l2 := lo_bits (r / 64 / 64) (by omega) (by omega)
  have l9 := hi4 (r / 64 / 64 / 64) (by omega) (by omega)
  go_enter Tryd.func89, Tryd.ntmps89
  go_wp2_with (go_at_call 91; refine (hw _).mono ?_; rintro e w' ⟨rfl, rfl⟩)
  go_rounds 4
  go_ret
  refine ⟨?_, by go_grown⟩
  first
    | rfl
    | (show Ending.returned (.string (strOfNums _)) = _; simp only [*]; rfl)

set_option maxHeartbeats 1000000 in
theorem encP0 (r : Int) (h2 : noR r = true) (w : World) :
    Calls Tryd.prog 89 #[.int .i32 r] w fun e w' => e = .returned (.string (strOfNums [239, 191, 189])) ∧ Below w.heap.size w w' := by
  have hw := width_any r
  rw [(widZ_0 r).2 ((noR_iff r).1 h2)] at hw
  have hmk := make3 w
  have hcv := conv3 w
  clear h2
  go_enter Tryd.func89, Tryd.ntmps89
  go_wp2_with (go_at_call 91; refine (hw _).mono ?_; rintro e w' ⟨rfl, rfl⟩)
  go_rounds 3
  go_ret
  refine ⟨?_, by go_grown⟩
  rfl

/-- The program's Encode is Go's own form. -/
theorem encP_any (r : Int) (w : World) :
    Calls Tryd.prog 89 #[.int .i32 r] w fun e w' => e = .returned (.string (Utf8.encode r)) ∧ Below w.heap.size w w' := by
  rw [enc_nums]
  unfold encL
  cases h : noR r with
  | true => rw [if_pos rfl]; exact encP0 r h w
  | false =>
    rw [if_neg (by simp)]
    have h' := (noR_not r).1 h
    by_cases h1 : r < 128
    · rw [if_pos h1]; exact encP1 r (by omega) h1 w
    · rw [if_neg h1]
      by_cases h2 : r < 2048
      · rw [if_pos h2]; exact encP2 r (by omega) h2 w
      · rw [if_neg h2]
        by_cases h3 : r < 65536
        · rw [if_pos h3]; exact encP3 r (by omega) h3 h w
        · rw [if_neg h3]; exact encP4 r (by omega) (by omega) w
end Go.Proofs.YtjccoiephdopkaaDoor.SQ
