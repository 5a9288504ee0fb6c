/- The document's Reverse of layer 5. -/
import Derived.Test.YtnbhdgbhmcbeoaaDr
import Derived.Test.YtnbhdgbhmcbeoaaClr
namespace Go.Proofs.Ytnbhdgbhmcbeoaa
set_option linter.unusedVariables false
set_option linter.unusedSimpArgs false
open Go Go.RowKit Go.Shelf
set_option maxRecDepth 100000

def RdRel (s : ByteArray) (n : Nat) (w1 : World) (kv ov : Value) (wr : World) : Prop := ∃ j : Nat, kv = .int .i64 ((n : Int) - 1 - (j : Int)) ∧ j ≤ n ∧ ov = .string (catR s ((revL s).take j)) ∧ Below w1.heap.size w1 wr

set_option maxHeartbeats 4000000 in
theorem revD_any (s : ByteArray) (hs : s.size ≤ 1048576) (w : World) :
    Calls Try.prog 26 #[.string s] w fun e w' => e = .returned (.string (catR s (revL s))) ∧ Below w.heap.size w w' := by
  have cC := fun W => cells5_any s (by omega) W
  go_enter Try.func26, Try.ntmps26
  go_wp2_with (fail)
  refine (cC _).mono ?_
  rintro e w1 ⟨v, rfl, hv, hb1⟩
  obtain ⟨o, cap, rfl, ho⟩ := own_slice hv
  have rL := RowC.of_own hv rfl
  obtain ⟨n, hn⟩ : ∃ n, (cellsL s).length = n := ⟨_, rfl⟩
  have H := Lib.hid (And.intro hn (And.intro rL hb1))
  have hnz : n ≤ 1048576 := by have := cellsL_len s; omega
  rw [hn]
  clear hn rL hv ho hb1
  have j0 : IntKind.i64.wrap ((n : Int) - 1) = (n : Int) - 1 := IntWalk.i64_in _ (by omega)
  go_wp2
  go_loopw [5, 4] (fun kv ov wr => RdRel s n w1 kv ov wr) (fun kv _ _ => (intOf kv + 1).toNat)
  case atStart => exact ⟨0, by simp, Nat.zero_le _, rfl, Below.refl _ _⟩
  case round =>
    obtain ⟨j, rfl, hj, rfl, hBr⟩ := hrel
    by_cases hlt : j < n
    · obtain ⟨i, hi'⟩ : ∃ i, n - 1 - j = i := ⟨_, rfl⟩
      have e : (n : Int) - 1 - (j : Int) = (i : Int) := by omega
      rw [e]
      obtain ⟨x, hx⟩ : ∃ x, (cellsL s)[i]? = some x := ⟨_, List.getElem?_eq_getElem (by rw [H.out.1]; omega)⟩
      have hrx : (revL s)[j]? = some x := by rw [revL_at s j (by rw [H.out.1]; exact hlt), H.out.1, hi']; exact hx
      obtain ⟨g, off, rfl, c0, c1, c2⟩ := (H.out.2.1.below hBr) i x hx
      obtain ⟨hroom, hx1, hx2⟩ := catR_fits (revL_due hrx)
      have hsn : catR s ((revL s).take (j + 1)) = catR s ((revL s).take j) ++ s.extract x.1 x.2.1 := by rw [revL_snoc hrx, catR_snoc]
      obtain ⟨ct, hct⟩ : ∃ c, catR s ((revL s).take j) = c := ⟨_, rfl⟩
      rw [hct] at hroom hsn
      rw [hct]
      have i1 : (0 : Int) ≤ (i : Int) := by omega
      have i2 : (i : Int) < (n : Int) := by omega
      have i3 : decide ((0 : Int) ≤ (i : Int)) = true := decide_eq_true i1
      have j1 : IntKind.i64.wrap ((i : Int) - 1) = (i : Int) - 1 := IntWalk.i64_in _ (by omega)
      have k1 : (0 : Int) ≤ (x.1 : Int) := by omega
      have k2 : (x.1 : Int) ≤ (x.2.1 : Int) := by omega
      have k3 : (x.2.1 : Int) ≤ (s.size : Int) := by omega
      have ez : (s.extract x.1 x.2.1).size = x.2.1 - x.1 := by rw [ByteArray.size_extract]; omega
      have g1 : (9223372036854775807 < ct.size + (s.extract x.1 x.2.1).size) = False := eq_false (by omega)
      have g2 : (9223372036854775807 < ct.size + (x.2.1 - x.1)) = False := eq_false (by omega)
      have HX := Lib.hid (And.intro hsn (And.intro e hBr))
      clear hsn hct hroom hrx hx e ez hBr
      go_wp2
      go_quiet ((fail))
      go_wp2
      go_roundw
      case rel => exact ⟨j + 1, by have := HX.out.2.1; push_cast; congr 1; omega, by omega, by rw [HX.out.1], ⟨HX.out.2.2.os, HX.out.2.2.tape, HX.out.2.2.output, HX.out.2.2.size, HX.out.2.2.block⟩⟩
      case measure => simp [intOf]
    · have hjn : j = n := by omega
      have i3 : decide ((0 : Int) ≤ (n : Int) - 1 - (j : Int)) = false := decide_eq_false (by omega)
      have i4 : ¬ (0 : Int) ≤ (n : Int) - 1 - (j : Int) := by omega
      have hfull : (revL s).take j = revL s := by rw [hjn, ← H.out.1, ← revL_len]; exact List.take_length ..
      rw [hfull]
      have HB := Lib.hid (H.out.2.2.trans (hBr.mono H.out.2.2.size))
      clear hfull hjn hBr
      go_wp2
      go_ret
      exact ⟨rfl, HB.out⟩
end Go.Proofs.Ytnbhdgbhmcbeoaa
