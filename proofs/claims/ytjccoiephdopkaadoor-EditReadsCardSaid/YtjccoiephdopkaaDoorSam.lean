/- Stage 27: same (as in the text J7, alone). -/
import Derived.Test.YtjccoiephdopkaaDoorHs
namespace Go.Proofs.YtjccoiephdopkaaDoor
set_option linter.unusedVariables false
set_option linter.unusedSimpArgs false
open Go Go.RowKit Go.Shelf
set_option maxRecDepth 100000

set_option maxHeartbeats 8000000 in
theorem same_any (l : List Sp) (o1 o2 : Option Addr) (c1 c2 : Nat) (hn : l.length ≤ 9223372036854775807) (w : World) (h1 : RowAt w encS 3 o1 l) (h2 : RowAt w encS 3 o2 l) :
    Calls Tryd.prog 12 #[.slice o1 l.length c1, .slice o2 l.length c2] w fun e w' => e = .returned (.bool true) ∧ Below w.heap.size w w' := by
  have HR := Lib.hid (And.intro h1 h2)
  clear h1 h2
  have e0 : ((l.length : Int) == (l.length : Int)) = true := beq_self_eq_true _
  go_enter Tryd.func12, Tryd.ntmps12
  go_wp2
  go_loopw [5] (fun i W => ∃ (k : Nat), i = .int .i64 k ∧ k ≤ l.length ∧ Below w.heap.size w W) (fun i _ => l.length - (intOf i).toNat)
  case atStart => exact ⟨0, rfl, by omega, Below.refl _ _⟩
  case round =>
    obtain ⟨k, rfl, hk, hB⟩ := hrel
    by_cases hlt : k < l.length
    · obtain ⟨x, hx⟩ : ∃ x, l[k]? = some x := ⟨_, List.getElem?_eq_getElem hlt⟩
      obtain ⟨g, off, rfl, hc⟩ := HR.out.1.below encS_len (by decide) hB k x hx
      obtain ⟨q0, q1, q2⟩ := get3 (l := l) hc
      obtain ⟨g', off', rfl, hc'⟩ := HR.out.2.below encS_len (by decide) hB k x hx
      obtain ⟨r0, r1, r2⟩ := get3 (l := l) hc'
      obtain ⟨xk, xd, xp⟩ := x
      simp only at q0 q1 q2 r0 r1 r2
      have ek : (xk == xk) = true := beq_self_eq_true _
      have ed : (xd.toList == xd.toList) = true := beq_self_eq_true _
      have ep : (xp.toList == xp.toList) = true := beq_self_eq_true _
      have hkl : (k : Int) < (l.length : Int) := by omega
      have j5 : IntKind.i64.wrap ((k : Int) + 1) = ((k + 1 : Nat) : Int) := by rw [IntWalk.i64_in _ (by omega)]; omega
      have HB := Lib.hid hB
      clear hB hc hc' hx
      go_wp2
      go_quiet (fail)
      generalize hU : World.drewN wr _ = U
      have HU := Lib.hid (HB.out.trans ((hU ▸ below_drewN _ _ : Below wr.heap.size wr U).mono HB.out.size))
      clear hU q0 q1 q2 r0 r1 r2
      go_wp2
      go_roundw
      case rel => exact ⟨k + 1, by go_num, by omega, HU.out⟩
      case measure => simp [intOf] <;> omega
    · obtain rfl : k = l.length := by omega
      have HB := Lib.hid hB
      clear hB
      go_wp2
      go_ret
      exact ⟨rfl, HB.out⟩
end Go.Proofs.YtjccoiephdopkaaDoor
