/- Stage 31: Length, the program's and the document's. -/
import Derived.Test.YtieaeicpmibjkaaChw
namespace Go.Proofs.Ytieaeicpmibjkaa
set_option linter.unusedVariables false
set_option linter.unusedSimpArgs false
open Go Go.RowKit Go.Shelf
set_option maxRecDepth 100000

def SumR : List Nt → Nat → Prop
  | [], s => s = 0
  | x :: r, t => ∃ s, SumR r s ∧ FIs .add s x.long t
/-- What the Longs of a list, added one by one, may be. -/
def SumIs (l : List Nt) (s : Nat) : Prop := SumR l.reverse s
theorem SumIs.snoc {l : List Nt} {s t : Nat} {x : Nt} (h : SumIs l s) (h' : FIs .add s x.long t) : SumIs (l ++ [x]) t := by
  unfold SumIs
  rw [List.reverse_append]
  exact ⟨s, h, h'⟩
theorem sumR_same : ∀ {r : List Nt} {s s' : Nat}, SumR r s → SumR r s' → FSame s s'
  | [], s, s', h, h' => .inl (h.trans h'.symm)
  | x :: r, t, t', ⟨s, h1, h2⟩, ⟨s', h1', h2'⟩ => h2.same (sumR_same h1 h1') (.refl _) h2'
def LenIs (l : List Nt) (r : Nat) : Prop := ∃ s, SumIs l s ∧ r = plainF s
theorem LenIs.same {l : List Nt} {r r' : Nat} (h : LenIs l r) (h' : LenIs l r') : FSame r r' := by
  obtain ⟨s, h1, rfl⟩ := h
  obtain ⟨s', h1', rfl⟩ := h'
  exact plain_same (sumR_same h1 h1')

set_option maxHeartbeats 4000000 in
theorem length_any (l : List Nt) (o : Option Addr) (c : Nat) (hn : l.length ≤ 1099511627776) (w : World) (hr : RowAt w encN 6 o l) :
    Calls Try.prog 15 #[.slice o l.length c] w fun e w' => ∃ r, e = .returned (.float .f64 r) ∧ LenIs l r ∧ Below w.heap.size w w' := by
  obtain ⟨n, hnn⟩ : ∃ n, l.length = n := ⟨_, rfl⟩
  rw [hnn] at hn ⊢
  have HN := Lib.hid hnn
  clear hnn
  go_enter Try.func15, Try.ntmps15
  go_wp2
  go_loopw [8, 3] (fun i s wr => ∃ k x : Nat, i = .int .i64 k ∧ s = .float .f64 x ∧ k ≤ n ∧ SumIs (l.take k) x ∧ Below w.heap.size w wr) (fun i _ _ => n - (intOf i).toNat)
  case atStart => exact ⟨0, 0, rfl, rfl, by omega, rfl, Below.refl _ _⟩
  case round =>
    obtain ⟨k, s, rfl, rfl, hk, hs, hB⟩ := hrel
    by_cases hlt : k < n
    · obtain ⟨x, hx⟩ : ∃ x, l[k]? = some x := ⟨_, List.getElem?_eq_getElem (by rw [HN.out]; exact hlt)⟩
      obtain ⟨g, off, rfl, hcl⟩ := (hr.below encN_len (by decide) hB) k x hx
      have hsn := fun W => SumIs.snoc hs (fres_is .add s x.long W)
      rw [← take_nextL hx] at hsn
      obtain ⟨xl, xb, xw, xs, xa, xo⟩ := x
      have x0 := hcl 0 (by decide)
      have x1 := hcl 1 (by decide)
      have x2 := hcl 2 (by decide)
      have x3 := hcl 3 (by decide)
      have x4 := hcl 4 (by decide)
      have x5 := hcl 5 (by decide)
      simp only [encN, List.getElem?_cons_succ, List.getElem?_cons_zero, Nat.add_zero] at x0 x1 x2 x3 x4 x5
      have HB := Lib.hid (And.intro hsn (hB.alloc hB.size (.cells #[.int .i64 xl, .int .i64 xb, .int .i64 xw, .bool xs, .float .f64 xa, .float .f64 xo] 48)))
      clear hcl hx hr hB hs hsn
      go_wp2
      go_roundw
      case rel => exact ⟨k + 1, _, by go_num, rfl, by omega, HB.out.1 _, ⟨HB.out.2.os, HB.out.2.tape, HB.out.2.output, HB.out.2.size, HB.out.2.block⟩⟩
      case measure => simp [intOf]; omega
    · obtain rfl : k = n := by omega
      rw [List.take_of_length_le (by rw [HN.out]; omega)] at hs
      have HS := Lib.hid (And.intro hs hB)
      clear hs hB
      go_wp2_with (fail)
      refine (plain_any _ _).mono ?_
      rintro e w' ⟨rfl, rfl⟩
      go_wp2
      go_ret
      exact ⟨_, rfl, ⟨s, HS.out.1, rfl⟩, HS.out.2⟩

set_option maxHeartbeats 4000000 in
theorem lengthD_any (l : List Nt) (o : Option Addr) (c : Nat) (hn : l.length ≤ 1099511627776) (w : World) (hr : RowAt w encN 6 o l) :
    Calls Try.prog 16 #[.slice o l.length c] w fun e w' => ∃ r, e = .returned (.float .f64 r) ∧ LenIs l r ∧ Below w.heap.size w w' := by
  obtain ⟨n, hnn⟩ : ∃ n, l.length = n := ⟨_, rfl⟩
  rw [hnn] at hn ⊢
  have HN := Lib.hid hnn
  clear hnn
  go_enter Try.func16, Try.ntmps16
  go_wp2
  go_loopw [8, 3] (fun i s wr => ∃ k x : Nat, i = .int .i64 k ∧ s = .float .f64 x ∧ k ≤ n ∧ SumIs (l.take k) x ∧ Below w.heap.size w wr) (fun i _ _ => n - (intOf i).toNat)
  case atStart => exact ⟨0, 0, rfl, rfl, by omega, rfl, Below.refl _ _⟩
  case round =>
    obtain ⟨k, s, rfl, rfl, hk, hs, hB⟩ := hrel
    by_cases hlt : k < n
    · obtain ⟨x, hx⟩ : ∃ x, l[k]? = some x := ⟨_, List.getElem?_eq_getElem (by rw [HN.out]; exact hlt)⟩
      obtain ⟨g, off, rfl, hcl⟩ := (hr.below encN_len (by decide) hB) k x hx
      have hsn := fun W => SumIs.snoc hs (fres_is .add s x.long W)
      rw [← take_nextL hx] at hsn
      obtain ⟨xl, xb, xw, xs, xa, xo⟩ := x
      have x0 := hcl 0 (by decide)
      have x1 := hcl 1 (by decide)
      have x2 := hcl 2 (by decide)
      have x3 := hcl 3 (by decide)
      have x4 := hcl 4 (by decide)
      have x5 := hcl 5 (by decide)
      simp only [encN, List.getElem?_cons_succ, List.getElem?_cons_zero, Nat.add_zero] at x0 x1 x2 x3 x4 x5
      have HB := Lib.hid (And.intro hsn (hB.alloc hB.size (.cells #[.int .i64 xl, .int .i64 xb, .int .i64 xw, .bool xs, .float .f64 xa, .float .f64 xo] 48)))
      clear hcl hx hr hB hs hsn
      go_wp2
      go_roundw
      case rel => exact ⟨k + 1, _, by go_num, rfl, by omega, HB.out.1 _, ⟨HB.out.2.os, HB.out.2.tape, HB.out.2.output, HB.out.2.size, HB.out.2.block⟩⟩
      case measure => simp [intOf]; omega
    · obtain rfl : k = n := by omega
      rw [List.take_of_length_le (by rw [HN.out]; omega)] at hs
      have HS := Lib.hid (And.intro hs hB)
      clear hs hB
      go_wp2_with (fail)
      refine (plainD_any _ _).mono ?_
      rintro e w' ⟨rfl, rfl⟩
      go_wp2
      go_ret
      exact ⟨_, rfl, ⟨s, HS.out.1, rfl⟩, HS.out.2⟩
end Go.Proofs.Ytieaeicpmibjkaa
