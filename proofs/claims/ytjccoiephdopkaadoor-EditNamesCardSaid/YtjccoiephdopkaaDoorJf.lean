/- Stage 27: may. -/
import Derived.Test.YtjccoiephdopkaaDoorHd
namespace Go.Proofs.YtjccoiephdopkaaDoor
set_option linter.unusedVariables false
set_option linter.unusedSimpArgs false
open Go Go.RowKit Go.Shelf
set_option maxRecDepth 100000

/-- A change as it came in. -/
structure Ch where
  o : Option Addr
  l : List Sp
  c : Nat
def encC (x : Ch) : List Value := [.slice x.o x.l.length x.c]
theorem encC_len (x : Ch) : (encC x).length = 1 := rfl
def mayB : List Ch → Bool
  | [] => true
  | x :: r => (sizeG x.l 0 0).isSome && mayB r
set_option maxHeartbeats 4000000 in
theorem may_any (ls : List Ch) (o : Option Addr) (c : Nat) (hn : ls.length ≤ 1000) (w : World) (hr : RowAt w encC 1 o ls) (hx : ∀ x ∈ ls, x.l.length ≤ 9223372036854775807 ∧ OkS x.l ∧ RowAt w encS 3 x.o x.l) :
    Calls Tryd.prog 40 #[.slice o ls.length c] w fun e w' => e = .returned (.bool (mayB ls)) ∧ Below w.heap.size w w' := by
  have HX := Lib.hid (And.intro hr hx)
  clear hr hx
  go_enter Tryd.func40, Tryd.ntmps40
  go_wp2
  go_loopw [10] (fun i W => ∃ (k : Nat), i = .int .i64 k ∧ k ≤ ls.length ∧ mayB (ls.drop k) = mayB ls ∧ Below w.heap.size w W) (fun i _ => ls.length - (intOf i).toNat)
  case atStart => exact ⟨0, rfl, by omega, rfl, Below.refl _ _⟩
  case round =>
    obtain ⟨k, rfl, hk, hm, hB⟩ := hrel
    by_cases hlt : k < ls.length
    · obtain ⟨x, hx⟩ : ∃ x, ls[k]? = some x := ⟨_, List.getElem?_eq_getElem hlt⟩
      obtain ⟨g, off, rfl, hc⟩ := HX.out.1.below encC_len (by decide) hB k x hx
      have q0 := hc 0 (by decide)
      simp only [Nat.mul_one, Nat.add_zero] at q0
      replace q0 : wr.cell? ⟨g, off + k, none⟩ = some (.slice x.o x.l.length x.c) := q0
      obtain ⟨h1, h2, h3⟩ := HX.out.2 x (List.mem_of_getElem? hx)
      have cS := sizes_any x.l x.o x.c h1 h2 wr (h3.below encS_len (by decide) hB)
      have hd : ls.drop k = x :: ls.drop (k + 1) := (List.drop_eq_getElem_cons hlt).trans (by rw [(List.getElem?_eq_some_iff.1 hx).2])
      rw [hd, mayB] at hm
      have hkl : (k : Int) < (ls.length : Int) := by omega
      have j5 : IntKind.i64.wrap ((k : Int) + 1) = ((k + 1 : Nat) : Int) := by rw [IntWalk.i64_in _ (by omega)]; omega
      have HM := Lib.hid (And.intro hm hB)
      clear hm hB hc hx hd h1 h2 h3
      cases hsz : sizeG x.l 0 0 with
      | none =>
        rw [hsz] at cS
        have HZ := Lib.hid hsz
        clear hsz
        go_wp2_with (fail)
        refine cS.mono ?_
        rintro e W1 ⟨rfl, hb1⟩
        simp only [szV]
        have HB := Lib.hid (HM.out.2.trans (hb1.mono HM.out.2.size))
        clear hb1
        go_wp2
        go_ret
        refine ⟨?_, HB.out⟩
        rw [← HM.out.1, HZ.out]
        rfl
      | some ft =>
        obtain ⟨f, t⟩ := ft
        rw [hsz] at cS
        have HZ := Lib.hid hsz
        clear hsz
        go_wp2_with (fail)
        refine cS.mono ?_
        rintro e W1 ⟨rfl, hb1⟩
        simp only [szV]
        have HB := Lib.hid (HM.out.2.trans (hb1.mono HM.out.2.size))
        clear hb1
        go_wp2
        go_roundw
        case rel => exact ⟨k + 1, by go_num, by omega, by rw [← HM.out.1, HZ.out]; rfl, HB.out⟩
        case measure => simp [intOf] <;> omega
    · obtain rfl : k = ls.length := by omega
      rw [List.drop_length] at hm
      have HM := Lib.hid (And.intro hm hB)
      clear hm hB
      go_wp2
      go_ret
      exact ⟨by rw [← HM.out.1]; rfl, HM.out.2⟩
end Go.Proofs.YtjccoiephdopkaaDoor
