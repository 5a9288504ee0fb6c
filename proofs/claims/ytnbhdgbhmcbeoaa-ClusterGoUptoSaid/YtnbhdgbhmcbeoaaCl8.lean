/- Layer 5: blanks. -/
import Derived.Test.YtnbhdgbhmcbeoaaCl7
import Derived.Lib.AppendStr
import Derived.Lib.ConvBytes
import Derived.Laws.IdiomStrings
import Derived.Laws.MakeOwn
import Derived.Laws.OwnMore
namespace Go.Proofs.Ytnbhdgbhmcbeoaa
set_option linter.unusedVariables false
set_option linter.unusedSimpArgs false
open Go Go.RowKit Go.Shelf
set_option maxRecDepth 100000

theorem infoU8 : (Try.prog.info? 5).map (fun i => (i.zero, i.size, i.bytes)) = some (some (.int .u8 0), 1, 1) := by kernel_rfl
theorem conv_own {w : World} {base n : Nat} {v : Value} {s : ByteArray} (hn : s.size = n) (h : w.ownsRow base 5 1 v n (Lib.strCells s)) : (convert 57 9 v).run Try.prog w = .ok (.string s) w := by
  have hs : s = ⟨s.data.toList.toArray⟩ := by simp
  rcases h.2 with ⟨rfl, rfl⟩ | ⟨g, cap, cur, rfl, _⟩
  · have : s = ByteArray.empty := by
      have : s.data = #[] := Array.eq_empty_of_size_eq_zero hn
      rw [hs, this]; rfl
    rw [this]
    exact run_convert_bytes_nil w 57 5 Try.underlying57 Try.underlying5 0 0 9 Try.underlying9
  · have hl : s.data.toList.length = n := by rw [Array.length_toList]; exact hn
    have := run_convert_bytes_back (P := Try.prog) w 57 9 5 ⟨g, 0, none⟩ cap s.data.toList Try.underlying57 Try.underlying5 Try.underlying9
      (fun j hj => h.cells (g := g) rfl j _ (by simp only [Lib.strCells, List.getElem?_map, List.getElem?_eq_getElem hj]; rfl))
    rw [hl] at this
    rw [this]
/-- make([]byte, n): a row of zeros of one's own. -/
theorem make_bytes (w : World) (n : Nat) (h : n ≤ 140737488355328) : (Instr.makeSlice 57 (.int .i64 (n : Int)) (.int .i64 (n : Int))).run Try.prog w = .ok (.slice (some ⟨w.heap.size, 0, none⟩) n n) (w.alloc (.cells (madeCells #[.int .u8 0] n) 5)) := by
  obtain ⟨i0, hi, hz0, hz1, hz2⟩ := info_parts infoU8
  have := run_make (P := Try.prog) w 57 5 i0 (.int .u8 0) Try.underlying57 hi hz0 .i64 .i64 n n (by omega) (by omega) (by rw [hz2]; omega) (by omega)
  rw [hz1, show (Value.int .u8 0).cells = #[.int .u8 0] from rfl] at this
  simpa using this
theorem made_list (n : Nat) : (madeCells #[.int .u8 0] n).toList = List.replicate n (.int .u8 0) := by
  apply List.ext_getElem?
  intro i
  simp only [madeCells, Array.toList_map, Array.toList_range, List.getElem?_map, List.getElem?_replicate]
  by_cases h : i < n
  · rw [List.getElem?_range h, if_pos h]; simp [Nat.mod_one]
  · rw [if_neg h, List.getElem?_eq_none (by simp; omega)]; rfl
theorem made_row (w : World) (n : Nat) (h : n ≤ 140737488355328) : (w.alloc (.cells (madeCells #[.int .u8 0] n) 5)).ownsRow w.heap.size 5 1 (.slice (some ⟨w.heap.size, 0, none⟩) n n) n (List.replicate n (.int .u8 0)) := by
  refine ⟨by simp, .inr ⟨w.heap.size, n, madeCells #[.int .u8 0] n, rfl, Nat.le_refl _, World.alloc_heap_new w _, Nat.le_refl _, by unfold maxLen; omega, by rw [size_madeCells]; omega, ?_⟩⟩
  rw [made_list, Nat.mul_one, List.take_of_length_le (by simp)]

/-- n blanks. -/
def blanksB (n : Nat) : ByteArray := ⟨Array.replicate n 32⟩
theorem blanksB_size (n : Nat) : (blanksB n).size = n := by simp [blanksB, ByteArray.size]
theorem blanksB_cells (n : Nat) : Lib.strCells (blanksB n) = List.replicate n (.int .u8 32) := by
  simp [Lib.strCells, blanksB]
def mixB (n k : Nat) : List Value := List.replicate k (.int .u8 32) ++ List.replicate (n - k) (.int .u8 0)
theorem mixB_set (n k : Nat) (h : k < n) : (mixB n k).set k (.int .u8 32) = mixB n (k + 1) := by
  obtain ⟨d, hd⟩ : ∃ d, n - k = d + 1 := ⟨n - k - 1, by omega⟩
  unfold mixB
  rw [hd, show n - (k + 1) = d by omega, List.set_append_right _ _ (by simp), List.length_replicate, Nat.sub_self, List.replicate_succ, List.set_cons_zero, List.replicate_succ', List.append_assoc]
  rfl
def BlRel (n : Nat) (w : World) (b : Nat) (k : Value) (wr : World) : Prop := ∃ j : Nat, k = .int .i64 j ∧ j ≤ n ∧ wr.ownsRow b 5 1 (.slice (some ⟨b, 0, none⟩) n n) n (mixB n j) ∧ Below b w wr

set_option maxHeartbeats 4000000 in
theorem blanks_any (n : Nat) (h : n ≤ 65536) (w : World) :
    Calls Try.prog 39 #[.int .i64 (n : Int)] w fun e w' => e = .returned (.string (blanksB n)) ∧ Below w.heap.size w w' := by
  have hm := fun W => make_bytes W n (by omega)
  have hr := made_row w n (by omega)
  have hB := (Below.refl w.heap.size w).alloc (Nat.le_refl _) (.cells (madeCells #[.int .u8 0] n) 5)
  obtain ⟨C, hC⟩ : ∃ C, madeCells #[.int .u8 0] n = C := ⟨_, rfl⟩
  simp only [hC] at hm
  rw [hC] at hr hB
  clear hC
  go_enter Try.func39, Try.ntmps39
  go_wp2
  have HA := Lib.hid (And.intro hr hB)
  clear hr hB hm
  go_loopw [9] (fun k wr => BlRel n w w.heap.size k wr) (fun k _ => n - (intOf k).toNat)
  case atStart => exact ⟨0, rfl, Nat.zero_le _, by unfold mixB; simpa using HA.out.1, HA.out.2⟩
  case round =>
    clear HA
    obtain ⟨j, rfl, hj, hown, hBw⟩ := hrel
    by_cases hlt : j < n
    · have i1 : (j : Int) < (n : Int) := by omega
      have i2 : (0 : Int) ≤ (j : Int) := by omega
      obtain ⟨st, sg⟩ := hown.stored j (.int .u8 32)
      rw [mixB_set n j hlt] at st
      have hz := hown.cellAt j (by omega)
      have hzf := hown.frozenAt j
      have hz2 : (mixB n j)[j]? = some (.int .u8 0) := by
        unfold mixB
        rw [List.getElem?_append_right (by simp), List.length_replicate, Nat.sub_self, List.getElem?_replicate, if_pos (by omega)]
      rw [hz2] at hz
      have HS := Lib.hid (And.intro st (hBw.setCell (p := ⟨w.heap.size, j, none⟩) (Nat.le_refl _) (.int .u8 32)))
      clear st sg hown hBw hz2
      go_wp2
      go_roundw
      case rel => exact ⟨j + 1, by go_num, by omega, HS.out.1, HS.out.2⟩
      case measure => simp [intOf]; omega
    · have hjn : j = n := by omega
      have hfin : wr.ownsRow w.heap.size 5 1 (.slice (some ⟨w.heap.size, 0, none⟩) n n) n (Lib.strCells (blanksB n)) := by
        rw [blanksB_cells]
        have := hown
        rw [hjn] at this
        unfold mixB at this
        simpa using this
      have hcv := conv_own (blanksB_size n) hfin
      have i1 : ¬ (j : Int) < (n : Int) := by omega
      have HB := Lib.hid hBw
      clear hjn hfin hown hBw
      go_wp2
      go_ret
      exact ⟨rfl, HB.out⟩
end Go.Proofs.Ytnbhdgbhmcbeoaa
