/- Plain facts on the bits of a form's bytes. -/
import Derived.Test.YtjccoiephdopkaaDoorUtf
import Derived.IntWalk
namespace Go.Proofs.YtjccoiephdopkaaDoor
set_option linter.unusedVariables false
set_option linter.unusedSimpArgs false
open Go Go.RowKit

theorem ofInt32 (a : Nat) (ha : a < 2147483648) : (BitVec.ofInt 32 (a : Int)).toNat = a := by
  rw [BitVec.ofInt_natCast, BitVec.toNat_ofNat]; exact Nat.mod_eq_of_lt (by omega)
theorem wrap_i32 (a : Nat) (ha : a < 2147483648) : IntKind.i32.wrap (a : Int) = a := by
  unfold IntKind.wrap
  simp [IntKind.bits, IntKind.signed]
  omega
theorem i32_and_nat (a b : Nat) (ha : a < 2147483648) (hb : b < 2147483648) : bits .and .i32 (a : Int) (b : Int) = ((a &&& b : Nat) : Int) := by
  have hx : a &&& b < 2 ^ 31 := Nat.and_lt_two_pow _ (by omega)
  show IntKind.i32.wrap ((BitVec.ofInt 32 (a : Int) &&& BitVec.ofInt 32 (b : Int)).toNat : Int) = _
  rw [BitVec.toNat_and, ofInt32 a ha, ofInt32 b hb, wrap_i32 _ (by omega)]
theorem i32_or_nat (a b : Nat) (ha : a < 2147483648) (hb : b < 2147483648) : bits .or .i32 (a : Int) (b : Int) = ((a ||| b : Nat) : Int) := by
  have hx : a ||| b < 2 ^ 31 := Nat.or_lt_two_pow (by omega) (by omega)
  show IntKind.i32.wrap ((BitVec.ofInt 32 (a : Int) ||| BitVec.ofInt 32 (b : Int)).toNat : Int) = _
  rw [BitVec.toNat_or, ofInt32 a ha, ofInt32 b hb, wrap_i32 _ (by omega)]

theorem hd_bits (b n : Nat) (hb : b < 256) (h1 : 1 < n) (h4 : n ≤ 4) : bits .and .i32 (b : Int) (127 / 2 ^ n) = (hdN b n : Int) := by
  rcases (show n = 2 ∨ n = 3 ∨ n = 4 by omega) with rfl | rfl | rfl
  · have := i32_and_nat b 31 (by omega) (by omega)
    rw [Nat.and_two_pow_sub_one_eq_mod b 5] at this
    exact this
  · have := i32_and_nat b 15 (by omega) (by omega)
    rw [Nat.and_two_pow_sub_one_eq_mod b 4] at this
    exact this
  · have := i32_and_nat b 7 (by omega) (by omega)
    rw [Nat.and_two_pow_sub_one_eq_mod b 3] at this
    exact this

theorem or_bits (r c : Nat) (hr : r < 33554432) : bits .or .i32 (wrap32 ((r : Int) * 64)) ((c : Int) % 64) = ((r * 64 + c % 64 : Nat) : Int) := by
  have e1 : wrap32 ((r : Int) * 64) = ((r * 64 : Nat) : Int) := by
    rw [show wrap32 ((r : Int) * 64) = (r : Int) * 64 from by unfold wrap32; omega]; push_cast; rfl
  have e2 : (c : Int) % 64 = ((c % 64 : Nat) : Int) := by omega
  rw [e1, e2, i32_or_nat _ _ (by omega) (by omega)]
  congr 1
  have := Nat.two_pow_add_eq_or_of_lt (i := 6) (b := c % 64) (by omega) r
  rw [Nat.mul_comm r 64, ← this]

end Go.Proofs.YtjccoiephdopkaaDoor
