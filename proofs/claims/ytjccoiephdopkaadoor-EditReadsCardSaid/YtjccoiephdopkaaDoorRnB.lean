/- What runes.length, broken and read answer. -/
import Derived.Test.YtjccoiephdopkaaDoorRnA
import Derived.Test.YtjccoiephdopkaaDoorBits
namespace Go.Proofs.YtjccoiephdopkaaDoor
set_option linter.unusedVariables false
set_option linter.unusedSimpArgs false
open Go Go.RowKit
set_option maxRecDepth 100000

set_option maxHeartbeats 400000 in
theorem length_any (s : ByteArray) (i : Nat) (hi : i < s.size) (hs : s.size ≤ 9223372036854775807) (w : World) :
    Calls Tryd.prog 92 #[.string s, .int .i64 (i : Int)] w fun e w' => e = .returned (.int .i64 (lenN s i : Nat)) ∧ w = w' := by
  have hb := bt_lt s i
  have hg := bt_get s i hi
  obtain ⟨N, hN⟩ : ∃ N, lenN s i = N := ⟨_, rfl⟩
  have HN := Lib.hid hN; rw [hN]; clear hN
  go_enter Tryd.func92, Tryd.ntmps92
  go_wp2_with (first | (go_at_call 98; refine (whole_any (bt s i) hb _).mono ?_; rintro e w' ⟨rfl, rfl⟩) | (go_at_call 99; refine (fitting_any s i hi hs _).mono ?_; rintro e w' ⟨rfl, rfl⟩))
  all_goals go_ret
  all_goals refine ⟨ret_int ?_, rfl⟩
  all_goals rw [← HN.out, lenN]
  · rw [if_pos (by omega)]; rfl
  · rw [if_neg (by omega)]

theorem bcell {W w1 : World} (hb : Below W.heap.size W w1) : (∀ b o, b < W.heap.size → w1.cell? ⟨b, o, none⟩ = W.cell? ⟨b, o, none⟩) ∧ (∀ b o, b < W.heap.size → w1.frozen? ⟨b, o, none⟩ = W.frozen? ⟨b, o, none⟩) :=
  ⟨fun b o h => hb.cell (p := ⟨b, o, none⟩) h, fun b o h => hb.frozen (p := ⟨b, o, none⟩) h⟩

set_option maxHeartbeats 400000 in
theorem broken_any (i : Int) (w : World) :
    Calls Tryd.prog 93 #[.int .i64 i] w fun e w' => e = .returned (.agg #[.int .i64 i, .int .i64 1, .int .i32 65533, .bool true]) ∧ Below w.heap.size w w' := by
  go_enter Tryd.func93, Tryd.ntmps93
  go_wp2
  refine bodyPost_ret (v := .agg #[.int .i64 i, .int .i64 1, .int .i32 65533, .bool true]) (by simp [results, Tryd.results93, go_sem]) rfl ⟨rfl, ?_⟩
  exact (Below.refl _ _).alloc (Nat.le_refl _) _


set_option maxHeartbeats 400000 in
theorem read_any (s : ByteArray) (i : Nat) (hi : i < s.size) (hs : s.size ≤ 9223372036854775807) (w : World) (n : Nat) (hn : lenN s i = n) (h1 : 1 ≤ n) :
    Calls Tryd.prog 83 #[.string s, .int .i64 (i : Int)] w fun e w' => e = .returned (.agg #[.int .i64 i, .int .i64 n, .int .i32 (rdN s i n n : Nat), .bool false]) ∧ Below w.heap.size w w' := by
  have hb := bt_lt s i
  have hg := bt_get s i hi
  have hf := lenN_fits s i (by omega)
  have hn4 := lenN_le s i
  rw [hn] at hf hn4
  have HN := Lib.hid hn; clear hn
  have HF := Lib.hid hf.2
  have hf1 := hf.1
  clear hf
  have h0 : ((n : Int) == 0) = false := by rw [beq_eq_false_iff_ne]; omega
  have H1 : Hid (rdN s i n 1 = hdN (bt s i) n) := Lib.hid rfl
  have hcases : (decide ((1 : Int) < (n : Int)) = true ∧ bits .and .i32 (bt s i : Int) (127 / 2 ^ n) = (rdN s i n 1 : Int)) ∨ (decide ((1 : Int) < (n : Int)) = false ∧ (bt s i : Int) = (rdN s i n 1 : Int)) := by
    by_cases h : 1 < n
    · exact .inl ⟨by simp; omega, hd_bits _ _ hb h hn4⟩
    · exact .inr ⟨by simp; omega, by rw [H1.out, hdN, if_pos (by omega)]⟩
  rcases hcases with ⟨hd, hr⟩ | ⟨hd, hr⟩
  all_goals
    go_enter Tryd.func83, Tryd.ntmps83
    go_wp2_with (go_at_call 92; refine (length_any s i hi hs _).mono ?_; rintro e w' ⟨rfl, rfl⟩; rw [HN.out])
    go_loop [6, 7] (fun r v => ∃ k : Nat, v = .int .i64 k ∧ 1 ≤ k ∧ k ≤ n ∧ r = .int .i32 (rdN s i n k : Nat)) (fun _ v => 5 - (intOf v).toNat)
    case atStart => exact ⟨1, rfl, by omega, by omega, by first | rfl | rw [hr]⟩
    case round =>
      obtain ⟨k, rfl, hk1, hkn, rfl⟩ := hrel
      by_cases hlt : k < n
      · have hik : i + k < s.size := by omega
        have hg2 := bt_get s (i + k) hik
        have hc := bt_lt s (i + k)
        have hrl := rdN_lt s i n k hk1 (by omega)
        have hrl2 : rdN s i n k < 33554432 := by
          refine Nat.lt_of_lt_of_le hrl ?_
          rcases (show k = 1 ∨ k = 2 ∨ k = 3 by omega) with rfl | rfl | rfl <;> decide
        clear hrl
        have hor : bits .or .i32 (wrap32 ((rdN s i n k : Int) * 64)) ((bt s (i + k) : Int) % 64) = (rdN s i n (k + 1) : Int) := by
          rw [or_bits _ _ hrl2, rdN_succ _ _ _ _ hk1]
        go_wp2
        go_round
        case rel => exact ⟨k + 1, by go_num, by omega, by omega, by rw [rdN_succ _ _ _ _ hk1]; go_num⟩
        case measure => simp [intOf]; omega
      · obtain rfl : k = n := by omega
        go_wp2
        refine bodyPost_ret (v := .agg #[.int .i64 i, .int .i64 k, .int .i32 (rdN s i k k : Nat), .bool false]) (by simp [results, Tryd.results83, go_sem]) rfl ⟨rfl, ?_⟩
        exact (Below.refl _ _).alloc (Nat.le_refl _) _

set_option maxHeartbeats 400000 in
theorem read_none (s : ByteArray) (i : Nat) (hi : i < s.size) (hs : s.size ≤ 9223372036854775807) (w : World) (hn : lenN s i = 0) :
    Calls Tryd.prog 83 #[.string s, .int .i64 (i : Int)] w fun e w' => e = .returned (.agg #[.int .i64 i, .int .i64 1, .int .i32 65533, .bool true]) ∧ Below w.heap.size w w' := by
  have HN := Lib.hid hn; clear hn
  go_enter Tryd.func83, Tryd.ntmps83
  go_wp2_with (first | (go_at_call 92; refine (length_any s i hi hs _).mono ?_; rintro e w' ⟨rfl, rfl⟩; rw [HN.out]) | (go_at_call 93; refine (broken_any _ _).mono ?_; rintro e w' ⟨rfl, hb⟩; obtain ⟨hc, hf⟩ := bcell hb; have hz := hb.size))
  refine bodyPost_ret (v := .agg #[.int .i64 i, .int .i64 1, .int .i32 65533, .bool true]) (by simp [results, Tryd.results83, go_sem, hc, hz]) rfl ⟨rfl, ?_⟩
  exact (((((((Below.refl _ _).alloc (Nat.le_refl _) _).trans (hb.mono (by simp))).setCell (p := ⟨_, 0, none⟩) (Nat.le_refl _) _).setCell (p := ⟨_, 1, none⟩) (Nat.le_refl _) _).setCell (p := ⟨_, 2, none⟩) (Nat.le_refl _) _).setCell (p := ⟨_, 3, none⟩) (Nat.le_refl _) _)
end Go.Proofs.YtjccoiephdopkaaDoor
