/- RunesGo: the law's same: are two lists the same? -/
import Derived.Test.YtgpnheaefagfiaaGq
import Derived.BigQuiet
namespace Go.Proofs.Ytgpnheaefagfiaa
set_option linter.unusedVariables false
set_option linter.unusedSimpArgs false
open Go Go.RowKit
set_option maxRecDepth 100000

def SaRel (n : Nat) (w : World) (i : Value) (wr : World) : Prop := ∃ k : Nat, i = .int .i64 k ∧ k ≤ n ∧ Below w.heap.size w wr

set_option maxHeartbeats 2000000 in
theorem same_any (oa ob : Option Addr) (n ca cb : Nat) (zs : List Int) (hn : zs.length = n) (hs : n ≤ 1048576) (w : World) (ha : RowI w oa zs) (hb : RowI w ob zs) :
    Calls Try.prog 65 #[.slice oa n ca, .slice ob n cb] w fun e w' => e = .returned (.bool true) ∧ Below w.heap.size w w' := by
  go_enter Try.func65, Try.ntmps65
  go_wp2
  go_loopw [13] (fun i wr => SaRel n w i wr) (fun i _ => n - (intOf i).toNat)
  case atStart => exact ⟨0, rfl, Nat.zero_le _, Below.refl _ _⟩
  case round =>
    obtain ⟨k, rfl, hk, hW⟩ := hrel
    by_cases hlt : k < n
    · obtain ⟨ba, fa, rfl, hca⟩ := ha k (by omega)
      obtain ⟨bb, fb, rfl, hcb⟩ := hb k (by omega)
      have hca1 : wr.cell? ⟨ba, fa + k, none⟩ = some (.int .i32 (zs.getD k 0)) := (hW.cell (p := ⟨ba, fa + k, none⟩) (lt_cell hca)).trans hca
      have hcb1 : wr.cell? ⟨bb, fb + k, none⟩ = some (.int .i32 (zs.getD k 0)) := (hW.cell (p := ⟨bb, fb + k, none⟩) (lt_cell hcb)).trans hcb
      obtain ⟨z, hz⟩ : ∃ z, zs.getD k 0 = z := ⟨_, rfl⟩
      rw [hz] at hca1 hcb1
      have hlti : (k : Int) < (n : Int) := by omega
      have h0 : (0 : Int) ≤ (k : Int) := by omega
      clear ha hb hca hcb hz hn
      go_wp2
      go_quiet (fail)
      go_wp2
      go_roundw
      case rel => exact ⟨k + 1, by go_num, by omega, hW.trans ⟨rfl, rfl, rfl, Nat.le_refl _, fun _ _ => rfl⟩⟩
      case measure => simp [intOf]; omega
    · have hkn : k = n := by omega
      subst hkn
      go_wp2
      go_ret
      exact ⟨rfl, hW⟩
end Go.Proofs.Ytgpnheaefagfiaa
