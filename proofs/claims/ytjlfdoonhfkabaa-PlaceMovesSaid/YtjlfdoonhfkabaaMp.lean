/- PlaceMoves: what a move tells, by the map and by the document. -/
import Derived.Test.YtjlfdoonhfkabaaRm
import Derived.Test.YtjlfdoonhfkabaaMv3
import Derived.Test.YtjlfdoonhfkabaaQq
namespace Go.Proofs.Ytjlfdoonhfkabaa
set_option linter.unusedVariables false
set_option linter.unusedSimpArgs false
open Go Go.RowKit Go.Shelf
set_option maxRecDepth 100000

theorem clamp_lo {a most : Nat} {n : Int} (h : n < -(a : Int)) : clampI a n most = 0 := by unfold clampI; rw [if_pos h]
theorem clamp_hi {a most : Nat} {n : Int} (ha : a ≤ most) (h : (most : Int) - a < n) : clampI a n most = most := by unfold clampI; rw [if_neg (by omega), if_pos h]
theorem clamp_mid {a most K : Nat} {n : Int} (h : (a : Int) + n = K) (hK : K ≤ most) : clampI a n most = K := by unfold clampI; rw [if_neg (by omega), if_neg (by omega)]; omega

theorem mv_pair (s : ByteArray) (hs : s.size ≤ 65536) (at' : Nat) (hat : at' ≤ s.size) (way n : Int) (hw : way = 1 ∨ way = 2 ∨ way = 3) : ∃ y, 
    (∀ m W, MapAt s m W → Calls Try.prog 15 #[.pointer (some ⟨m, 0, none⟩), .int .i64 at', .int .i64 way, .int .i64 n] W fun e w' => e = .returned (.tuple #[plV (pK s y), .int .i64 0]) ∧ Below W.heap.size W w') ∧
    (∀ W, Calls Try.prog 32 #[.string s, .int .i64 at', .int .i64 way, .int .i64 n] W fun e w' => e = .returned (plV (pK s y)) ∧ Below W.heap.size W w') := by
  obtain ⟨x, hx, hx0, hx1, hx2⟩ := cntP_spec (s := s) (q := fun p => decide (p.b ≤ at')) (fun i j hij hj h => by rw [decide_eq_true_eq] at h ⊢; have := pK_b_le s hij; omega) (by simp [pK])
  simp only [decide_eq_true_eq, decide_eq_false_iff_not, Nat.not_le] at hx1 hx2
  clear hx0
  have hnP := nP_le s
  have hxk := pK_k s x
  have hEk := pK_k s (nP s)
  rcases hw with rfl | rfl | rfl
  · refine ⟨clampI x n (nP s), fun m W hM => move_rune s hs m W hM at' x hat hx hx1 hx2 n, fun W => ?_⟩
    by_cases h1 : n < -(x : Int)
    · rw [clamp_lo h1]; exact rMove_1lo s hs W at' x hat hx hx1 hx2 n (by rw [hxk]; exact h1)
    · by_cases h2 : (nP s : Int) - x < n
      · rw [clamp_hi hx h2]; exact rMove_1hi s hs W at' x hat hx hx1 hx2 n (by rw [hxk, hEk]; exact h2)
      · obtain ⟨K, hK⟩ : ∃ K : Nat, (x : Int) + n = K := ⟨((x : Int) + n).toNat, by omega⟩
        rw [clamp_mid hK (by omega)]; exact rMove_1mid s hs W at' x hat hx hx1 hx2 n K (by rw [hxk]; exact hK) (by rw [hEk]; omega)
  · have hule := pK_u_le s hx
    by_cases h1 : n < -((pK s x).u : Int)
    · refine ⟨0, fun m W hM => move_unit s hs m W hM at' x hat hx hx1 hx2 n 0 (Nat.zero_le _) (by simp [pK]) (fun _ => by rw [clamp_lo h1]; have := pK_u_succ s 0; omega), fun W => rMove_2lo s hs W at' x hat hx hx1 hx2 n h1⟩
    · by_cases h2 : ((pK s (nP s)).u : Int) - (pK s x).u < n
      · refine ⟨nP s, fun m W hM => move_unit s hs m W hM at' x hat hx hx1 hx2 n (nP s) (Nat.le_refl _) (by rw [clamp_hi hule h2]; exact Nat.le_refl _) (fun h => absurd h (Nat.lt_irrefl _)), fun W => rMove_2hi s hs W at' x hat hx hx1 hx2 n h2⟩
      · obtain ⟨K, hK⟩ : ∃ K : Nat, ((pK s x).u : Int) + n = K := ⟨(((pK s x).u : Int) + n).toNat, by omega⟩
        have hKm : K ≤ (pK s (nP s)).u := by omega
        obtain ⟨y, hy, _, hy1, hy2⟩ := cntP_spec (s := s) (q := fun p => decide (p.u ≤ K)) (fun i k hik hk h => by rw [decide_eq_true_eq] at h ⊢; have := pK_u_le s hik; omega) (by simp [pK])
        simp only [decide_eq_true_eq, decide_eq_false_iff_not, Nat.not_le] at hy1 hy2
        exact ⟨y, fun m W hM => move_unit s hs m W hM at' x hat hx hx1 hx2 n y hy (by rw [clamp_mid hK hKm]; exact hy1) (by rw [clamp_mid hK hKm]; exact hy2), fun W => rMove_2mid s hs W at' x hat hx hx1 hx2 n K hK hKm y hy hy1 hy2⟩
  · have hlb := pK_l_bound s x
    have hcb := pK_c_bound s x
    have hrc := rows_count s
    have hll := pK_l_le s hx
    by_cases h1 : n < -((pK s x).l : Int)
    · exact ⟨0, fun m W hM => move_line s hs m W hM at' x hat hx hx1 hx2 n 0 (fun W hM => down_lo s hs m W hM _ _ _ _ _ (by omega) n h1), fun W => rMove_3lo s hs W at' x hat hx hx1 hx2 n h1⟩
    · by_cases h2 : ((pK s (nP s)).l : Int) - (pK s x).l < n
      · exact ⟨nP s, fun m W hM => move_line s hs m W hM at' x hat hx hx1 hx2 n (nP s) (fun W hM => down_hi s hs m W hM _ _ _ _ _ (by omega) n (by omega) (by omega)), fun W => rMove_3hi s hs W at' x hat hx hx1 hx2 n h2⟩
      · obtain ⟨K, hK⟩ : ∃ K : Nat, ((pK s x).l : Int) + n = K := ⟨(((pK s x).l : Int) + n).toNat, by omega⟩
        obtain ⟨⟨fr, tt, ee⟩, hr⟩ : ∃ r, (rws s)[K]? = some r := ⟨_, List.getElem?_eq_getElem (by omega)⟩
        obtain ⟨⟨j, g, j2, hO⟩, _⟩ := rows_at hr
        have hjn : j ≤ nP s := by have := hO.hj; have := hO.hg; have := hO.h2; omega
        have hgn : g ≤ nP s := by have := hO.hg; have := hO.h2; omega
        exact ⟨min (j + (pK s x).c) g, fun m W hM => move_line s hs m W hM at' x hat hx hx1 hx2 n _ (fun W hM => down_any s hs m W hM _ _ _ _ _ (by omega) (by omega) n K fr tt ee hK hr j g hjn hgn hO.bj hO.bg), fun W => rMove_3mid s hs W at' x hat hx hx1 hx2 n K hK (by omega) fr tt ee hr j g hjn hgn hO.bj hO.bg hO.hj⟩
end Go.Proofs.Ytjlfdoonhfkabaa
