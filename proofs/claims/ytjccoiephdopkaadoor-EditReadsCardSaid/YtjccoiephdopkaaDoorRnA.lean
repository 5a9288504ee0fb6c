/- What runes.whole, fitting and length answer. -/
import Derived.Test.YtjccoiephdopkaaDoorRows
import Derived.Test.YtjccoiephdopkaaDoorUtf
import Derived.WalkKit
import Derived.WalkSpells
import Derived.WalkLawsBesides
import Derived.Lib.Hide
import Derived.Deep.Light
namespace Go.Proofs.YtjccoiephdopkaaDoor
set_option linter.unusedVariables false
set_option linter.unusedSimpArgs false
open Go Go.RowKit
set_option maxRecDepth 100000

theorem ret_int {k : IntKind} {a b : Int} (h : a = b) : Ending.returned (.int k a) = .returned (.int k b) := by rw [h]

set_option maxHeartbeats 400000 in
theorem whole_any (b : Nat) (hb : b < 256) (w : World) :
    Calls Tryd.prog 98 #[.int .u8 (b : Int)] w fun e w' => e = .returned (.int .i64 (whN b : Nat)) ∧ w = w' := by
  go_enter Tryd.func98, Tryd.ntmps98
  go_wp2
  all_goals go_ret
  all_goals exact ⟨ret_int (by unfold whN; repeat (first | rw [if_pos (by omega)] | rw [if_neg (by omega)] | rfl)), rfl⟩


set_option maxHeartbeats 1000000 in
theorem fitting_any (s : ByteArray) (i : Nat) (hi : i < s.size) (hs : s.size ≤ 9223372036854775807) (w : World) :
    Calls Tryd.prog 99 #[.string s, .int .i64 (i : Int)] w fun e w' => e = .returned (.int .i64 (fitN s i : Nat)) ∧ w = w' := by
  have hb := bt_lt s i
  have hg := bt_get s i hi
  have hw4 := whN_le (bt s i)
  obtain ⟨N, hN⟩ : ∃ N, fitN s i = N := ⟨_, rfl⟩
  obtain ⟨g, hgg⟩ : ∃ g, whN (bt s i) = g := ⟨_, rfl⟩
  rw [hgg] at hw4
  obtain ⟨m, hm⟩ : ∃ m, s.size - i = m := ⟨_, rfl⟩
  have hsub : (↑s.size : Int) - ↑i = (m : Int) := by omega
  obtain ⟨n, hn, hgm⟩ : ∃ n, min g m = n ∧ ((g ≤ m ∧ n = g) ∨ (m < g ∧ n = m)) := ⟨_, rfl, by omega⟩
  have hnm : n ≤ 4 ∧ n ≤ m ∧ i + m = s.size := by omega
  have HN : Hid (fitFrom s i n 4 1 = N) := by apply Lib.hid; rw [← hN, fitN, hgg, hm, hn]
  rw [hN]
  have HG := Lib.hid hgg
  clear hN hgg hm hn
  obtain ⟨hn4, hnm, hims⟩ := hnm
  have HI := Lib.hid hims; clear hims
  rcases hgm with ⟨h1, rfl⟩ | ⟨h1, rfl⟩
  all_goals
    go_enter Tryd.func99, Tryd.ntmps99
    go_wp2
    go_step3
    go_wp2_with (go_at_call 98; refine (whole_any (bt s i) hb _).mono ?_; rintro e w' ⟨rfl, rfl⟩; rw [HG.out])
    go_step3
    go_wp2
    go_loop [6] (fun v => ∃ k f : Nat, v = .int .i64 k ∧ 1 ≤ k ∧ k + f = 5 ∧ Hid (fitFrom s i n f k = N)) (fun v => 5 - (intOf v).toNat)
    case atStart => exact ⟨1, 4, rfl, by omega, by omega, HN⟩
    case round =>
      obtain ⟨k, f, rfl, hk1, hkf, HK⟩ := hrel
      by_cases hlt : k < n
      · have hik : i + k < s.size := by have := HI.out; omega
        have hg2 := bt_get s (i + k) hik
        have hc := bt_lt s (i + k)
        go_wp2
        all_goals first
          | (refine ⟨⟨k + 1, f - 1, by go_num, by omega, by omega, ?_⟩, by simp [intOf]; omega⟩
             apply Lib.hid
             rw [← HK.out, show f = (f - 1) + 1 by omega, fitFrom_step _ _ _ _ _ hlt ((okB_iff _ _ _).2 ?_)]
             · rfl
             · go_light; (try simp only [beq_iff_eq, beq_eq_false_iff_ne, ne_eq] at *); omega)
          | ((try rw [Exit.noGoto_ret]); go_ret
             refine ⟨ret_int ?_, rfl⟩
             rw [← HK.out, show f = (f - 1) + 1 by omega, fitFrom_stop _ _ _ _ _ hlt (okB_not _ _ _ ?_)]
             go_light; (try simp only [beq_iff_eq, beq_eq_false_iff_ne, ne_eq] at *); omega)
      · go_wp2
        (try rw [Exit.noGoto_ret]); go_ret
        refine ⟨ret_int ?_, rfl⟩
        rw [← HK.out]
        cases f with
        | zero => rfl
        | succ f => rw [fitFrom_ge _ _ _ _ _ (by omega)]
end Go.Proofs.YtjccoiephdopkaaDoor
