/- RunesCuts: the law's call, at every text, every text for broken bytes, every number. -/
import Derived.Test.YtgpnheaefagfiaaNt
import Derived.Test.YtgpnheaefagfiaaMr
import Derived.Test.YtgpnheaefagfiaaWk
import Derived.Deep.RegionWith
import Derived.OpenShut
namespace Go.Proofs.Ytgpnheaefagfiaa
set_option linter.unusedVariables false
set_option linter.unusedSimpArgs false
open Go Go.RowKit
set_option maxRecDepth 100000

def CuRel (w : World) (v : Value) (wr : World) : Prop := ∃ k : Int, v = .int .i64 k ∧ (k = 0 ∨ k = 1 ∨ k = 2 ∨ k = 3) ∧ Below w.heap.size w wr

set_option maxHeartbeats 4000000 in
theorem cuts_any (s t : ByteArray) (n : Int) (hs : s.size ≤ 1048576) (ht : t.size ≤ 1048576) (hn1 : -9223372036854775808 ≤ n) (hn2 : n ≤ 9223372036854775807) (w : World) :
    Calls Try.prog 8 #[.string s, .string t, .int .i64 n] w fun e w' => e = .returned (.bool true) ∧ Below w.heap.size w w' := by
  go_enter Try.func8, Try.ntmps8
  go_wp2_with (first | (go_at_call 15; refine (wakes_any _).mono ?_; rintro e w1 ⟨rfl, hb1⟩))
  obtain ⟨K1, hK1⟩ : ∃ K, wrap64 ((IntKind.u64.wrap n).tmod ((s.size : Int) + 2)) = K := ⟨_, rfl⟩
  obtain ⟨K2, hK2⟩ : ∃ K, wrap64 (-n) = K := ⟨_, rfl⟩
  have hb1' : K1 ≤ 9223372036854775807 := by rw [← hK1]; exact (bounds_i64 (wrap64_wf _)).2
  have hb2' : K2 ≤ 9223372036854775807 := by rw [← hK2]; exact (bounds_i64 (wrap64_wf _)).2
  rw [hK1, hK2]
  clear hK1 hK2
  go_loopw [27] (fun v wr => CuRel w v wr) (fun v _ => 3 - (intOf v).toNat)
  case atStart => exact ⟨0, rfl, by simp, hb1⟩
  case round =>
    clear hb1
    obtain ⟨k, rfl, hk, hB⟩ := hrel
    have i0 : ∀ w, (Instr.index 60 (.agg #[.int .i64 n, .int .i64 K1, .int .i64 K2]) (.int .i64 0)).run Try.prog w = .ok (.int .i64 n) w := fun _ => by kernel_rfl
    have i1 : ∀ w, (Instr.index 60 (.agg #[.int .i64 n, .int .i64 K1, .int .i64 K2]) (.int .i64 1)).run Try.prog w = .ok (.int .i64 K1) w := fun _ => by kernel_rfl
    have i2 : ∀ w, (Instr.index 60 (.agg #[.int .i64 n, .int .i64 K1, .int .i64 K2]) (.int .i64 2)).run Try.prog w = .ok (.int .i64 K2) w := fun _ => by kernel_rfl
    rcases hk with rfl | rfl | rfl | rfl
    · go_wp2_with (first | (go_at_call 41; refine (cut_any s n (by omega) hn2 _).mono ?_; rintro e w3 ⟨rfl, hb3⟩) | (go_at_call 42; refine (cutR_any s n hs hn2 _).mono ?_; rintro e w4 ⟨rfl, hb4⟩))
      go_roundw
      case rel => exact ⟨1, by go_num, by simp, (hB.trans (hb3.mono hB.size)).trans (hb4.mono (Nat.le_trans hB.size hb3.size))⟩
      case measure => simp [intOf]
    · go_wp2_with (first | (go_at_call 41; refine (cut_any s K1 (by omega) hb1' _).mono ?_; rintro e w3 ⟨rfl, hb3⟩) | (go_at_call 42; refine (cutR_any s K1 hs hb1' _).mono ?_; rintro e w4 ⟨rfl, hb4⟩))
      go_roundw
      case rel => exact ⟨2, by go_num, by simp, (hB.trans (hb3.mono hB.size)).trans (hb4.mono (Nat.le_trans hB.size hb3.size))⟩
      case measure => simp [intOf]
    · go_wp2_with (first | (go_at_call 41; refine (cut_any s K2 (by omega) hb2' _).mono ?_; rintro e w3 ⟨rfl, hb3⟩) | (go_at_call 42; refine (cutR_any s K2 hs hb2' _).mono ?_; rintro e w4 ⟨rfl, hb4⟩))
      go_roundw
      case rel => exact ⟨3, by go_num, by simp, (hB.trans (hb3.mono hB.size)).trans (hb4.mono (Nat.le_trans hB.size hb3.size))⟩
      case measure => simp [intOf]
    · by_cases h1 : 64 < t.size
      · have g1 : (64 : Int) < (t.size : Int) := by omega
        have g1' : (64 : Int) ≤ (t.size : Int) := by omega
        by_cases h2 : 65536 < s.size
        · have g2 : (65536 : Int) < (s.size : Int) := by omega
          have g2' : (65536 : Int) ≤ (s.size : Int) := by omega
          have hS : (s.extract 0 65536).size ≤ 1048576 := by first | omega | (rw [ByteArray.size_extract]; omega)
          have hT : (t.extract 0 64).size ≤ 1048576 := by first | omega | (rw [ByteArray.size_extract]; omega)
          go_wp2_with (first | (go_at_call 43; refine (mend_any (s.extract 0 65536) (t.extract 0 64) hS hT _).mono ?_; rintro e w3 ⟨rfl, hb3⟩) | (go_at_call 44; refine (mendR_any (s.extract 0 65536) (t.extract 0 64) hS hT _).mono ?_; rintro e w4 ⟨rfl, hb4⟩) | (go_at_call 45; refine (reverse_any (s.extract 0 65536) hS _).mono ?_; rintro e w5 ⟨rfl, hb5⟩) | (go_at_call 46; refine (reverseR_any (s.extract 0 65536) hS _).mono ?_; rintro e w6 ⟨rfl, hb6⟩) | (go_at_call 15; refine (wakes_any _).mono ?_; rintro e w7 ⟨rfl, hb7⟩))
          go_ret
          have hB3 := hB.trans (hb3.mono hB.size)
          have hB4 := hB3.trans (hb4.mono hB3.size)
          have hB5 := hB4.trans (hb5.mono hB4.size)
          have hB6 := hB5.trans (hb6.mono hB5.size)
          exact ⟨rfl, hB6.trans (hb7.mono hB6.size)⟩
        · have g2 : ¬ (65536 : Int) < (s.size : Int) := by omega
          have hS : (s).size ≤ 1048576 := by first | omega | (rw [ByteArray.size_extract]; omega)
          have hT : (t.extract 0 64).size ≤ 1048576 := by first | omega | (rw [ByteArray.size_extract]; omega)
          go_wp2_with (first | (go_at_call 43; refine (mend_any (s) (t.extract 0 64) hS hT _).mono ?_; rintro e w3 ⟨rfl, hb3⟩) | (go_at_call 44; refine (mendR_any (s) (t.extract 0 64) hS hT _).mono ?_; rintro e w4 ⟨rfl, hb4⟩) | (go_at_call 45; refine (reverse_any (s) hS _).mono ?_; rintro e w5 ⟨rfl, hb5⟩) | (go_at_call 46; refine (reverseR_any (s) hS _).mono ?_; rintro e w6 ⟨rfl, hb6⟩) | (go_at_call 15; refine (wakes_any _).mono ?_; rintro e w7 ⟨rfl, hb7⟩))
          go_ret
          have hB3 := hB.trans (hb3.mono hB.size)
          have hB4 := hB3.trans (hb4.mono hB3.size)
          have hB5 := hB4.trans (hb5.mono hB4.size)
          have hB6 := hB5.trans (hb6.mono hB5.size)
          exact ⟨rfl, hB6.trans (hb7.mono hB6.size)⟩
      · have g1 : ¬ (64 : Int) < (t.size : Int) := by omega
        by_cases h2 : 65536 < s.size
        · have g2 : (65536 : Int) < (s.size : Int) := by omega
          have g2' : (65536 : Int) ≤ (s.size : Int) := by omega
          have hS : (s.extract 0 65536).size ≤ 1048576 := by first | omega | (rw [ByteArray.size_extract]; omega)
          have hT : (t).size ≤ 1048576 := by first | omega | (rw [ByteArray.size_extract]; omega)
          go_wp2_with (first | (go_at_call 43; refine (mend_any (s.extract 0 65536) (t) hS hT _).mono ?_; rintro e w3 ⟨rfl, hb3⟩) | (go_at_call 44; refine (mendR_any (s.extract 0 65536) (t) hS hT _).mono ?_; rintro e w4 ⟨rfl, hb4⟩) | (go_at_call 45; refine (reverse_any (s.extract 0 65536) hS _).mono ?_; rintro e w5 ⟨rfl, hb5⟩) | (go_at_call 46; refine (reverseR_any (s.extract 0 65536) hS _).mono ?_; rintro e w6 ⟨rfl, hb6⟩) | (go_at_call 15; refine (wakes_any _).mono ?_; rintro e w7 ⟨rfl, hb7⟩))
          go_ret
          have hB3 := hB.trans (hb3.mono hB.size)
          have hB4 := hB3.trans (hb4.mono hB3.size)
          have hB5 := hB4.trans (hb5.mono hB4.size)
          have hB6 := hB5.trans (hb6.mono hB5.size)
          exact ⟨rfl, hB6.trans (hb7.mono hB6.size)⟩
        · have g2 : ¬ (65536 : Int) < (s.size : Int) := by omega
          have hS : (s).size ≤ 1048576 := by first | omega | (rw [ByteArray.size_extract]; omega)
          have hT : (t).size ≤ 1048576 := by first | omega | (rw [ByteArray.size_extract]; omega)
          go_wp2_with (first | (go_at_call 43; refine (mend_any (s) (t) hS hT _).mono ?_; rintro e w3 ⟨rfl, hb3⟩) | (go_at_call 44; refine (mendR_any (s) (t) hS hT _).mono ?_; rintro e w4 ⟨rfl, hb4⟩) | (go_at_call 45; refine (reverse_any (s) hS _).mono ?_; rintro e w5 ⟨rfl, hb5⟩) | (go_at_call 46; refine (reverseR_any (s) hS _).mono ?_; rintro e w6 ⟨rfl, hb6⟩) | (go_at_call 15; refine (wakes_any _).mono ?_; rintro e w7 ⟨rfl, hb7⟩))
          go_ret
          have hB3 := hB.trans (hb3.mono hB.size)
          have hB4 := hB3.trans (hb4.mono hB3.size)
          have hB5 := hB4.trans (hb5.mono hB4.size)
          have hB6 := hB5.trans (hb6.mono hB5.size)
          exact ⟨rfl, hB6.trans (hb7.mono hB6.size)⟩
end Go.Proofs.Ytgpnheaefagfiaa
