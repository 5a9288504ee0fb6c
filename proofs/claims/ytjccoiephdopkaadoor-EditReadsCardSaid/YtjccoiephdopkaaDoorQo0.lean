/- Stage 27: a digit to the base 16; a piece as Print has it. -/
import Derived.Test.YtjccoiephdopkaaDoorFg
namespace Go.Proofs.YtjccoiephdopkaaDoor
set_option linter.unusedVariables false
set_option linter.unusedSimpArgs false
open Go Go.RowKit Go.Shelf
set_option maxRecDepth 100000

def dg16 : ByteArray := ⟨#[48, 49, 50, 51, 52, 53, 54, 55, 56, 57, 97, 98, 99, 100, 101, 102]⟩
theorem dh_all : ∀ k : Fin 16, dg16[k.1]'(by have := k.2; rw [show dg16.size = 16 from rfl]; omega) = hxD k.1 := by decide +kernel
theorem dh_at (i : Nat) (h : i < dg16.size) (hi : i < 16) : dg16[i] = hxD i := dh_all ⟨i, hi⟩
theorem idx_hx (k : IntKind) (z : Int) (i : Nat) (hz : z = (i : Int)) (hi : i < 16) (w : World) :
    (Instr.index 9 (.string dg16) (.int k z)).run Tryd.prog w = .ok (.int .u8 ((hxD i).toNat : Int)) w := by
  subst hz
  have hs : dg16.size = 16 := rfl
  rw [run_index_string w 9 dg16 k _ Tryd.underlying9, dif_pos ⟨by omega, by rw [hs]; omega⟩]
  have e : ((i : Int)).toNat = i := by omega
  simp only [e]
  exact congrArg (fun b : UInt8 => Result.ok (Value.int .u8 (b.toNat : Int)) w) (dh_at i (by rw [hs]; omega) hi)
theorem dg16_lit : (⟨#[48, 49, 50, 51, 52, 53, 54, 55, 56, 57, 97, 98, 99, 100, 101, 102]⟩ : ByteArray) = dg16 := rfl
theorem digit_any (n : Nat) (hn : n < 16) (w : World) : Calls Tryd.prog 77 #[.int .u8 n] w fun e w' => e = .returned (.int .u8 ((hxD n).toNat : Int)) ∧ w' = w := by
  have hix := fun w => idx_hx .u8 (n : Int) n rfl hn w
  have ed := dg16_lit
  go_enter Tryd.func77, Tryd.ntmps77
  rw [ed]
  go_wp2
  go_ret
  exact ⟨rfl, rfl⟩

/-- A piece that is no broken byte, of the rune r, as Print has it. -/
def qR (r : Nat) : List UInt8 := if r = 34 ∨ r = 92 then [92, UInt8.ofNat r] else if 32 ≤ r ∧ r ≤ 126 then [UInt8.ofNat r] else [92, 123] ++ hexL r ++ [125]
/-- A broken byte. -/
def qB (b : Nat) : List UInt8 := [92, 120, hxD (b / 16), hxD (b % 16)]
end Go.Proofs.YtjccoiephdopkaaDoor
