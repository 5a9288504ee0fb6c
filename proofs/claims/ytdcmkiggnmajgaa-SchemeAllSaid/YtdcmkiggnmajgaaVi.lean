/- Stage 16: the document's ways, Count. -/
import Derived.Test.YtdcmkiggnmajgaaV6
import Derived.Laws.MakeOwn
import Derived.IntWalk
import Derived.Laws.BitsLemmas
namespace Go.Proofs.Ytdcmkiggnmajgaa
set_option linter.unusedVariables false
set_option linter.unusedSimpArgs false
open Go Go.RowKit Go.Shelf
set_option maxRecDepth 100000

theorem wrapEq64 (x : Int) : IntKind.i64.wrap x = wrap64 x := by rw [IntKind.wrap_i64]; unfold wrap64; (first | rfl | omega | (split <;> omega))
/-- make([]int, n): a row of zeros of one's own. -/
theorem make_ints (w : World) (n : Nat) (h : n ≤ 1000000) : (Instr.makeSlice 23 (.int .i64 (n : Int)) (.int .i64 (n : Int))).run Try.prog w = .ok (.slice (some ⟨w.heap.size, 0, none⟩) n n) (w.alloc (.cells (madeCells #[.int .i64 0] n) 3)) := by
  obtain ⟨i0, hi, hz0, hz1, hz2⟩ := info_parts infoInt
  have := run_make (P := Try.prog) w 23 3 i0 (.int .i64 0) Try.underlying23 hi hz0 .i64 .i64 n n (by omega) (by omega) (by rw [hz2]; omega) (by omega)
  rw [hz1, Nat.mul_one] at this
  exact this
/-- The row behind k columns' turns, j of them turned once more. -/
def RwI (w : World) (N M k j : Nat) (W : World) : Prop := ∃ cur : Array Value, Blk W w.heap.size cur 3 ∧ cur.size = N ∧ (∀ i, i < N → ∃ z : Int, cur[i]? = some (.int .i64 z)) ∧ (∀ i, i < j → k + 1 + i ≤ M → cur[i]? = some (.int .i64 (tT (k + 1) i : Nat))) ∧ (∀ i, j ≤ i → k + i ≤ M → cur[i]? = some (.int .i64 (tT k i : Nat))) ∧ Below w.heap.size w W
theorem RwI.put {w W : World} {N M k j : Nat} (h : RwI w N M k j W) (hj : j < N) (z : Int) (hz : k + 1 + j ≤ M → z = (tT (k + 1) j : Nat)) : RwI w N M k (j + 1) (W.drew.setCell ⟨w.heap.size, j, none⟩ (.int .i64 z)) := by
  obtain ⟨cur, hb, hs, hall, h1, h2, hB⟩ := h
  refine ⟨_, hb.drew.set j _, by rw [Array.size_setIfInBounds]; exact hs, fun i hi => ?_, fun i hi hM => ?_, fun i hi hM => ?_, hB.drew.setCell (p := ⟨w.heap.size, j, none⟩) (Nat.le_refl _) _⟩
  · rw [Array.getElem?_setIfInBounds]
    by_cases hij : j = i
    · subst hij; rw [if_pos rfl, if_pos (by omega)]; exact ⟨z, rfl⟩
    · rw [if_neg hij]; exact hall i hi
  · rw [Array.getElem?_setIfInBounds]
    by_cases hij : j = i
    · subst hij; rw [if_pos rfl, if_pos (by omega), hz hM]
    · rw [if_neg hij]; exact h1 i (by omega) hM
  · rw [Array.getElem?_setIfInBounds, if_neg (by omega)]
    exact h2 i (by omega) hM
theorem RwI.next {w W : World} {N M k j : Nat} (h : RwI w N M k j W) (hj : M ≤ k + j) : RwI w N M (k + 1) 0 W := by
  obtain ⟨cur, hb, hs, hall, h1, h2, hB⟩ := h
  exact ⟨cur, hb, hs, hall, by omega, fun i _ hM => h1 i (by omega) hM, hB⟩

def RwF (w : World) (N k : Nat) (W : World) : Prop := ∃ cur : Array Value, Blk W w.heap.size cur 3 ∧ cur.size = N ∧ (∀ i, i < N → ∃ z : Int, cur[i]? = some (.int .i64 z)) ∧ (∀ i, i < k → cur[i]? = some (.int .i64 1)) ∧ Below w.heap.size w W
theorem RwF.put {w W : World} {N k : Nat} (h : RwF w N k W) (hk : k < N) : RwF w N (k + 1) (W.setCell ⟨w.heap.size, k, none⟩ (.int .i64 1)) := by
  obtain ⟨cur, hb, hs, hall, h1, hB⟩ := h
  refine ⟨_, hb.set k _, by rw [Array.size_setIfInBounds]; exact hs, fun i hi => ?_, fun i hi => ?_, hB.setCell (p := ⟨w.heap.size, k, none⟩) (Nat.le_refl _) _⟩
  · rw [Array.getElem?_setIfInBounds]
    by_cases hij : k = i
    · subst hij; rw [if_pos rfl, if_pos (by omega)]; exact ⟨1, rfl⟩
    · rw [if_neg hij]; exact hall i hi
  · rw [Array.getElem?_setIfInBounds]
    by_cases hij : k = i
    · subst hij; rw [if_pos rfl, if_pos (by omega)]
    · rw [if_neg hij]; exact h1 i (by omega)
theorem RwF.rows {w W : World} {N M : Nat} (h : RwF w N N W) (hM : M ≤ 25) (hN : M < N) : RwI w N M 0 0 W := by
  obtain ⟨cur, hb, hs, hall, h1, hB⟩ := h
  exact ⟨cur, hb, hs, hall, by omega, fun i _ hi => by rw [h1 i (by omega), tT_zero (by omega)]; rfl, hB⟩
theorem RwF.start (w : World) (N : Nat) : RwF w N 0 (w.alloc (.cells (madeCells #[.int .i64 0] N) 3)) := by
  refine ⟨_, Blk.new w _ _, by simp [madeCells], fun i hi => ⟨0, ?_⟩, by omega, (Below.refl _ w).alloc (Nat.le_refl _) _⟩
  simp [madeCells, hi, Nat.mod_one]

set_option maxHeartbeats 8000000 in
theorem ways_any (n c T : Nat) (hM : n + c ≤ 25) (hT : Hid (tT n c = T)) (w : World) : Calls Try.prog 73 #[.int .i64 n, .int .i64 c] w fun e w' => e = .returned (.int .i64 (T : Nat)) ∧ Below w.heap.size w w' := by
  obtain ⟨N, hN⟩ : ∃ N, c + n + 2 = N := ⟨_, rfl⟩
  obtain ⟨M, hMM⟩ : ∃ M, n + c = M := ⟨_, rfl⟩
  have hmk := fun W => make_ints W N (by omega)
  have hNM1 : N ≤ M + 2 := by omega
  have hNM2 : M + 2 ≤ N := by omega
  have s1 : (c : Int) + (n : Int) + 2 = (N : Int) := by omega
  rw [hMM] at hM
  have HMM := Lib.hid hMM
  clear hN hMM
  go_enter Try.func73, Try.ntmps73
  go_wp2
  clear hmk s1
  go_loopw [16] (fun i W => ∃ k : Nat, i = .int .i64 k ∧ k ≤ N ∧ RwF w N k W) (fun i _ => N - (intOf i).toNat)
  case atStart => exact ⟨0, rfl, by omega, RwF.start w N⟩
  case round =>
    obtain ⟨k, rfl, hk, hR⟩ := hrel
    by_cases hlt : k < N
    · obtain ⟨cur, hb, hs, hall, _⟩ := id hR
      obtain ⟨z, hz⟩ := hall k hlt
      have c0 : wr.cell? ⟨w.heap.size, k, none⟩ = some (.int .i64 z) := (hb.cell k).trans hz
      have f0 := hb.frozen k
      have HN := Lib.hid (hR.put hlt)
      clear hR hb hs hall hz
      go_wp2
      go_roundw
      case rel => exact ⟨k + 1, by go_num, by omega, HN.out⟩
      case measure => simp [intOf]; omega
    · have hR0 : RwI w N M 0 0 wr := by
        obtain rfl : k = N := by omega
        exact hR.rows hM (by omega)
      have HR0 := Lib.hid hR0
      clear hR hR0
      go_wp2
      go_loopw [7] (fun i W => ∃ k : Nat, i = .int .i64 k ∧ k ≤ n ∧ RwI w N M k 0 W) (fun i _ => n - (intOf i).toNat)
      case atStart => exact ⟨0, rfl, by omega, HR0.out⟩
      case round =>
        obtain ⟨k, rfl, hk, hR⟩ := hrel
        by_cases hlt2 : k < n
        · have HR1 := Lib.hid hR
          have dk : decide ((k : Int) < (n : Int)) = true := decide_eq_true (by omega)
          have dk2 : decide (k < n) = true := decide_eq_true hlt2
          have hkM : k < M := by have := HMM.out; omega
          clear hR
          go_wp2
          go_loopw [8] (fun i W => ∃ j : Nat, i = .int .i64 j ∧ j + 1 + k ≤ N ∧ RwI w N M k j W) (fun i _ => N - (intOf i).toNat)
          case atStart => exact ⟨0, rfl, by omega, HR1.out⟩
          case round =>
            obtain ⟨j, rfl, hj, hR⟩ := hrel
            by_cases hlt3 : j + 1 < N - k
            · have hjN : j < N := by omega
              have hjN1 : j + 1 < N := by omega
              obtain ⟨cur, hb, hs, hall, h1, h2, hB⟩ := id hR
              obtain ⟨z1, hz1⟩ := hall (j + 1) hjN1
              have hA := h2 j (Nat.le_refl _) (by omega)
              have c0 : wr.cell? ⟨w.heap.size, j, none⟩ = some (.int .i64 (tT k j : Nat)) := (hb.cell j).trans hA
              have c1 : wr.cell? ⟨w.heap.size, j + 1, none⟩ = some (.int .i64 z1) := (hb.cell (j + 1)).trans hz1
              have f0 := hb.frozen j
              have i1 : (j : Int) + 1 < (N : Int) - (k : Int) := by omega
              have i2 : decide ((j : Int) + 1 < (N : Int) - (k : Int)) = true := decide_eq_true i1
              have p4 : IntKind.i64.wrap ((j : Int) + 1) = (j : Int) + 1 := IntWalk.i64_in _ (by omega)
              have p5 : ((j : Int) + 1).toNat = j + 1 := by omega
              have p6 : (0 : Int) ≤ (j : Int) + 1 := by omega
              have p7 : (j : Int) + 1 < (N : Int) := by omega
              have p8 : (j : Int) < (N : Int) := by omega
              have c0' : wr.drew.cell? ⟨w.heap.size, j, none⟩ = some (.int .i64 (tT k j : Nat)) := c0
              have f0' : wr.drew.frozen? ⟨w.heap.size, j, none⟩ = false := f0
              have HN := Lib.hid (fun z hz => hR.put hjN z hz)
              have hval : k + 1 + j ≤ M → IntKind.i64.wrap (IntKind.i64.wrap ((j : Int) * (tT k j : Nat)) + z1) = (tT (k + 1) j : Nat) := fun h => by
                have hz2 := h2 (j + 1) (by omega) (by omega)
                rw [hz1] at hz2
                have hz3 : z1 = (tT k (j + 1) : Nat) := by simpa using hz2
                have hb1 := tT_mul k j (by omega)
                have hb2 := tT_succ (l := k) (k := j) (by omega)
                obtain ⟨Pn, hP⟩ : ∃ P, j * tT k j = P := ⟨_, rfl⟩
                rw [hP] at hb1 hb2
                rw [hz3, hb2]
                rw [show ((j : Int) * (tT k j : Nat)) = (Pn : Int) by rw [← hP, Int.natCast_mul]]
                rw [show IntKind.i64.wrap (Pn : Int) = (Pn : Int) from IntWalk.i64_in _ (by omega), ← Int.natCast_add]
                exact IntWalk.i64_in _ (by omega)
              have HV := Lib.hid hval
              obtain ⟨A, hAA⟩ : ∃ A, tT k j = A := ⟨_, rfl⟩
              rw [hAA] at c0 c0' HV
              clear hR hb hs hall h1 h2 hB hz1 hA hval hAA
              go_wp2
              go_still_tail 15, (by kernel_rfl)
              change wpList _ _ _ _ _ wr.drew
              obtain ⟨Z, hZ⟩ : ∃ Z, wr.drew = Z := ⟨_, rfl⟩
              rw [hZ] at c0' f0' HN ⊢
              clear hZ c0 c1 f0
              go_wp2
              exact ⟨⟨j + 1, by go_num, by omega, HN.out _ (fun h => (by have h2 := HV.out h; rw [wrapEq64, wrapEq64] at h2; exact h2))⟩, by simp [intOf]; omega⟩
            · have hR2 := hR.next (by omega)
              have HR2 := Lib.hid hR2
              have i2 : decide ((j : Int) + 1 < (N : Int) - (k : Int)) = false := decide_eq_false (by omega)
              clear hR hR2
              go_wp2
              go_roundw
              case rel => exact ⟨k + 1, by go_num, by omega, HR2.out⟩
              case measure => simp [intOf]; omega
        · obtain ⟨cur, hb, hs, hall, h1, h2, hB⟩ := hR
          have hkn : k = n := by omega
          have hA := h2 c (Nat.zero_le _) (by have := HMM.out; omega)
          rw [hkn, hT.out] at hA
          have c0 : wr.cell? ⟨w.heap.size, c, none⟩ = some (.int .i64 (T : Nat)) := (hb.cell c).trans hA
          have dk : decide ((k : Int) < (n : Int)) = false := decide_eq_false (by omega)
          have dk2 : decide (k < n) = false := decide_eq_false (by omega)
          have i1 : (c : Int) < (N : Int) := by have := HMM.out; omega
          have HB := Lib.hid hB
          clear hb hs hall h1 h2 hB hkn hA
          go_wp2
          go_ret
          exact ⟨rfl, HB.out⟩
end Go.Proofs.Ytdcmkiggnmajgaa
