/- What the forms of runes are: runes.Encode, and the document's own. -/
import Derived.Test.YtaogmmhkpknkmaaSeqA
import Derived.Test.YtaogmmhkpknkmaaFm
import Derived.Handy
namespace Go.Proofs.Ytaogmmhkpknkmaa
set_option linter.unusedVariables false
set_option linter.unusedSimpArgs false
open Go Go.RowKit
set_option maxRecDepth 100000

set_option maxHeartbeats 400000 in
theorem none_any (r : Int) (w : World) :
    Calls Try.prog 16 #[.int .i32 r] w fun e w' => e = .returned (.bool (noR r)) ∧ w = w' := by
  cases h : noR r with
  | true =>
    rw [noR_iff] at h
    have h' := Lib.hid h
    rcases h with h | h | h
    · go_enter Try.func16, Try.ntmps16
      go_wp2
      go_ret
      exact ⟨rfl, rfl⟩
    · have h1 : ¬ r < 0 := by omega
      have h2 : ¬ 1114111 < r := by omega
      obtain ⟨h3, h4⟩ := h
      go_enter Try.func16, Try.ntmps16
      go_wp2
      go_ret
      exact ⟨rfl, rfl⟩
    · have h1 : ¬ r < 0 := by omega
      go_enter Try.func16, Try.ntmps16
      go_wp2
      go_ret
      exact ⟨rfl, rfl⟩
  | false =>
    rw [noR_not] at h
    have h1 : ¬ r < 0 := by omega
    have h2 : ¬ 1114111 < r := by omega
    by_cases h3 : 55296 ≤ r
    · have h4 : ¬ r ≤ 57343 := by omega
      clear h
      go_enter Try.func16, Try.ntmps16
      go_wp2
      go_ret
      exact ⟨rfl, rfl⟩
    · clear h
      go_enter Try.func16, Try.ntmps16
      go_wp2
      go_ret
      exact ⟨rfl, rfl⟩

set_option maxHeartbeats 400000 in
theorem widthR_any (r : Int) (w : World) :
    Calls Try.prog 9 #[.int .i32 r] w fun e w' => e = .returned (.int .i64 (widZ r : Nat)) ∧ w = w' := by
  have hn := none_any r
  cases h : noR r with
  | true =>
    rw [h] at hn
    rw [noR_iff] at h
    have h' := Lib.hid h; clear h
    go_enter Try.func9, Try.ntmps9
    go_wp2_with (go_at_call 16; refine (hn _).mono ?_; rintro e w' ⟨rfl, rfl⟩)
    go_ret
    exact ⟨ret_int (by rw [(widZ_0 r).2 h'.out]; rfl), rfl⟩
  | false =>
    rw [h] at hn
    rw [noR_not] at h
    have h' := Lib.hid h; clear h
    go_enter Try.func9, Try.ntmps9
    go_wp2_with (go_at_call 16; refine (hn _).mono ?_; rintro e w' ⟨rfl, rfl⟩)
    all_goals go_ret
    all_goals exact ⟨ret_int (by have := h'.out; unfold widZ; repeat (first | rw [if_pos (by omega)] | rw [if_neg (by omega)] | rfl)), rfl⟩

/-- string(b) of a new row of bytes. -/
theorem conv_new (w : World) (xs : List Int) (n : Nat) (hn : xs.length = n) :
    (convert 37 9 (.slice (some ⟨w.heap.size, 0, none⟩) n n)).run Try.prog (w.alloc (.cells (xs.map (Value.int .u8)).toArray 5)) = .ok (.string (strOfNums xs)) (w.alloc (.cells (xs.map (Value.int .u8)).toArray 5)) := by
  refine run_convert_bytes_arg _ 37 5 Try.underlying37 Try.underlying5 w.heap.size 0 n n xs hn (fun i hi => ?_) 9 Try.underlying9
  have := World.alloc_heap_new w (.cells (xs.map (Value.int .u8)).toArray 5)
  simp only [World.cell?, this]
  simp [List.getD, List.getElem?_eq_getElem (show i < xs.length by omega)]

theorem conv1 (w : World) (a : Int) : (convert 37 9 (.slice (some ⟨w.heap.size, 0, none⟩) 1 1)).run Try.prog (w.alloc (.cells #[.int .u8 a] 5)) = .ok (.string (strOfNums [a])) (w.alloc (.cells #[.int .u8 a] 5)) := conv_new w [a] 1 rfl
theorem conv2 (w : World) (a b : Int) : (convert 37 9 (.slice (some ⟨w.heap.size, 0, none⟩) 2 2)).run Try.prog (w.alloc (.cells #[.int .u8 a, .int .u8 b] 5)) = .ok (.string (strOfNums [a, b])) (w.alloc (.cells #[.int .u8 a, .int .u8 b] 5)) := conv_new w [a, b] 2 rfl
theorem conv3 (w : World) (a b c : Int) : (convert 37 9 (.slice (some ⟨w.heap.size, 0, none⟩) 3 3)).run Try.prog (w.alloc (.cells #[.int .u8 a, .int .u8 b, .int .u8 c] 5)) = .ok (.string (strOfNums [a, b, c])) (w.alloc (.cells #[.int .u8 a, .int .u8 b, .int .u8 c] 5)) := conv_new w [a, b, c] 3 rfl
theorem conv4 (w : World) (a b c d : Int) : (convert 37 9 (.slice (some ⟨w.heap.size, 0, none⟩) 4 4)).run Try.prog (w.alloc (.cells #[.int .u8 a, .int .u8 b, .int .u8 c, .int .u8 d] 5)) = .ok (.string (strOfNums [a, b, c, d])) (w.alloc (.cells #[.int .u8 a, .int .u8 b, .int .u8 c, .int .u8 d] 5)) := conv_new w [a, b, c, d] 4 rfl

theorem info5 : (Try.prog.info? 5).map (fun i => (i.zero, i.size, i.bytes)) = some (some (.int .u8 0), 1, 1) := by kernel_rfl

/-- make([]byte, n). -/
theorem make_new (w : World) (n : Nat) (h : n ≤ 4) (k : Int) (hk : (n : Int) = k) (C : Array Value) (hC : madeCells (Value.int .u8 0).cells n = C) :
    (Instr.makeSlice 37 (.int .i64 k) (.int .i64 k)).run Try.prog w = .ok (.slice (some ⟨w.heap.size, 0, none⟩) n n) (w.alloc (.cells C 5)) := by
  subst hk; subst hC
  obtain ⟨i0, hi, hz0, hz1, hz2⟩ := info_parts info5
  have := run_make (P := Try.prog) w 37 5 i0 (.int .u8 0) Try.underlying37 hi hz0 .i64 .i64 n n (by omega) (by omega) (by rw [hz2]; omega) (by omega)
  rw [hz1] at this
  simpa using this
theorem make2 (w : World) : (Instr.makeSlice 37 (.int .i64 2) (.int .i64 2)).run Try.prog w = .ok (.slice (some ⟨w.heap.size, 0, none⟩) 2 2) (w.alloc (.cells #[.int .u8 0, .int .u8 0] 5)) := make_new w 2 (by omega) 2 rfl _ (by kernel_rfl)
theorem make3 (w : World) : (Instr.makeSlice 37 (.int .i64 3) (.int .i64 3)).run Try.prog w = .ok (.slice (some ⟨w.heap.size, 0, none⟩) 3 3) (w.alloc (.cells #[.int .u8 0, .int .u8 0, .int .u8 0] 5)) := make_new w 3 (by omega) 3 rfl _ (by kernel_rfl)
theorem make4 (w : World) : (Instr.makeSlice 37 (.int .i64 4) (.int .i64 4)).run Try.prog w = .ok (.slice (some ⟨w.heap.size, 0, none⟩) 4 4) (w.alloc (.cells #[.int .u8 0, .int .u8 0, .int .u8 0, .int .u8 0] 5)) := make_new w 4 (by omega) 4 rfl _ (by kernel_rfl)

set_option maxHeartbeats 1000000 in
theorem encR1 (r : Int) (h0 : 0 ≤ r) (h1 : r < 128) (w : World) :
    Calls Try.prog 11 #[.int .i32 r] w fun e w' => e = .returned (.string (strOfNums [r])) ∧ Below w.heap.size w w' := by
  have hn := none_any r
  have hw := widthR_any r
  rw [show noR r = false by rw [noR_not]; omega] at hn
  rw [show widZ r = 1 by unfold widZ; rw [if_neg (by omega), if_pos h1]] at hw
  have hcv := conv1 w r
  go_enter Try.func11, Try.ntmps11
  go_wp2_with (first | (go_at_call 16; refine (hn _).mono ?_; rintro e w' ⟨rfl, rfl⟩) | (go_at_call 9; refine (hw _).mono ?_; rintro e w' ⟨rfl, rfl⟩))
  go_ret
  exact ⟨rfl, by go_grown⟩

set_option maxHeartbeats 1000000 in
theorem encR2 (r : Int) (h0 : 128 ≤ r) (h1 : r < 2048) (w : World) :
    Calls Try.prog 11 #[.int .i32 r] w fun e w' => e = .returned (.string (strOfNums [192 + r / 64, 128 + r % 64])) ∧ Below w.heap.size w w' := by
  have hn := none_any r
  have hw := widthR_any r
  rw [show noR r = false by rw [noR_not]; omega] at hn
  rw [show widZ r = 2 by unfold widZ; rw [if_neg (by omega), if_neg (by omega), if_pos h1]] at hw
  have hmk := make2 w
  have hcv := conv2 w
  go_enter Try.func11, Try.ntmps11
  go_wp2_with (first | (go_at_call 16; refine (hn _).mono ?_; rintro e w' ⟨rfl, rfl⟩) | (go_at_call 9; refine (hw _).mono ?_; rintro e w' ⟨rfl, rfl⟩))
  go_rounds 2
  go_ret
  exact ⟨rfl, by go_grown⟩

set_option maxHeartbeats 1000000 in
theorem encR3 (r : Int) (h0 : 2048 ≤ r) (h1 : r < 65536) (h2 : noR r = false) (w : World) :
    Calls Try.prog 11 #[.int .i32 r] w fun e w' => e = .returned (.string (strOfNums [224 + r / 64 / 64, 128 + r / 64 % 64, 128 + r % 64])) ∧ Below w.heap.size w w' := by
  have hn := none_any r
  have hw := widthR_any r
  rw [h2] at hn
  rw [noR_not] at h2
  rw [show widZ r = 3 by unfold widZ; rw [if_neg (by omega), if_neg (by omega), if_neg (by omega), if_pos h1]] at hw
  have hmk := make3 w
  have hcv := conv3 w
  clear h2
  go_enter Try.func11, Try.ntmps11
  go_wp2_with (first | (go_at_call 16; refine (hn _).mono ?_; rintro e w' ⟨rfl, rfl⟩) | (go_at_call 9; refine (hw _).mono ?_; rintro e w' ⟨rfl, rfl⟩))
  go_rounds 3
  go_ret
  exact ⟨rfl, by go_grown⟩

set_option maxHeartbeats 1000000 in
theorem encR4 (r : Int) (h0 : 65536 ≤ r) (h1 : r ≤ 1114111) (w : World) :
    Calls Try.prog 11 #[.int .i32 r] w fun e w' => e = .returned (.string (strOfNums [240 + r / 64 / 64 / 64, 128 + r / 64 / 64 % 64, 128 + r / 64 % 64, 128 + r % 64])) ∧ Below w.heap.size w w' := by
  have hn := none_any r
  have hw := widthR_any r
  rw [show noR r = false by rw [noR_not]; omega] at hn
  rw [show widZ r = 4 by unfold widZ; rw [if_neg (by omega), if_neg (by omega), if_neg (by omega), if_neg (by omega)]] at hw
  have hmk := make4 w
  have hcv := conv4 w
  go_enter Try.func11, Try.ntmps11
  go_wp2_with (first | (go_at_call 16; refine (hn _).mono ?_; rintro e w' ⟨rfl, rfl⟩) | (go_at_call 9; refine (hw _).mono ?_; rintro e w' ⟨rfl, rfl⟩))
  go_rounds 4
  go_ret
  exact ⟨rfl, by go_grown⟩

set_option maxHeartbeats 1000000 in
theorem encR0 (r : Int) (h2 : noR r = true) (w : World) :
    Calls Try.prog 11 #[.int .i32 r] w fun e w' => e = .returned (.string (strOfNums [239, 191, 189])) ∧ Below w.heap.size w w' := by
  have hn := none_any r
  have hw := widthR_any 65533
  rw [h2] at hn
  rw [widZ_lost] at hw
  have hmk := make3 w
  have hcv := conv3 w
  clear h2
  go_enter Try.func11, Try.ntmps11
  go_wp2_with (first | (go_at_call 16; refine (hn _).mono ?_; rintro e w' ⟨rfl, rfl⟩) | (go_at_call 9; refine (hw _).mono ?_; rintro e w' ⟨rfl, rfl⟩))
  go_rounds 3
  go_ret
  exact ⟨rfl, by go_grown⟩

/-- The document's Encode is Go's own form. -/
theorem encR_any (r : Int) (w : World) :
    Calls Try.prog 11 #[.int .i32 r] w fun e w' => e = .returned (.string (Utf8.encode r)) ∧ Below w.heap.size w w' := by
  rw [enc_nums]
  unfold encL
  cases h : noR r with
  | true => rw [if_pos rfl]; exact encR0 r h w
  | false =>
    rw [if_neg (by simp)]
    have h' := (noR_not r).1 h
    by_cases h1 : r < 128
    · rw [if_pos h1]; exact encR1 r (by omega) h1 w
    · rw [if_neg h1]
      by_cases h2 : r < 2048
      · rw [if_pos h2]; exact encR2 r (by omega) h2 w
      · rw [if_neg h2]
        by_cases h3 : r < 65536
        · rw [if_pos h3]; exact encR3 r (by omega) h3 h w
        · rw [if_neg h3]; exact encR4 r (by omega) (by omega) w
end Go.Proofs.Ytaogmmhkpknkmaa
