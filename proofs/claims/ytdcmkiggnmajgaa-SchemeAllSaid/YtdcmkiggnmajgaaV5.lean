/- Stage 16: reckon, Count. -/
import Derived.Test.YtdcmkiggnmajgaaV2
import Derived.Laws.Rows
import Derived.IntWalk
import Derived.Laws.CopyOwn
namespace Go.Proofs.Ytdcmkiggnmajgaa
set_option linter.unusedVariables false
set_option linter.unusedSimpArgs false
open Go Go.RowKit Go.Shelf
set_option maxRecDepth 100000

def rowNext : List Nat → Nat → List Nat
  | a :: b :: t, k => (k * a + b) :: rowNext (b :: t) (k + 1)
  | _, _ => []
def rowT : Nat → List Nat
  | 0 => List.replicate 26 1
  | l + 1 => rowNext (rowT l) 0
def tT (l k : Nat) : Nat := (rowT l).getD k 0
theorem rowNext_get : ∀ (r : List Nat) (k i a b : Nat), r[i]? = some a → r[i + 1]? = some b → (rowNext r k)[i]? = some ((k + i) * a + b) := by
  intro r
  induction r with
  | nil => intro k i a b h; simp at h
  | cons x r ih =>
    intro k i a b h1 h2
    cases r with
    | nil => simp at h2
    | cons y r =>
      cases i with
      | zero =>
        simp at h1 h2
        subst h1 h2
        simp [rowNext]
      | succ i =>
        have h := ih (k + 1) i a b (by simpa using h1) (by simpa using h2)
        simp only [rowNext, List.getElem?_cons_succ]
        rw [h, show k + 1 + i = k + (i + 1) by omega]
theorem rowNext_len : ∀ (r : List Nat) (k : Nat), (rowNext r k).length = r.length - 1 := by
  intro r
  induction r with
  | nil => intro k; rfl
  | cons x r ih =>
    intro k
    cases r with
    | nil => rfl
    | cons y r => simp only [rowNext, List.length_cons, ih]; omega
theorem rowT_len (l : Nat) : (rowT l).length = 26 - l := by
  induction l with
  | zero => rfl
  | succ l ih => simp only [rowT, rowNext_len, ih]; omega
theorem rowT_get {l k : Nat} (h : l + k ≤ 25) : (rowT l)[k]? = some (tT l k) := by
  have hk : k < (rowT l).length := by rw [rowT_len]; omega
  unfold tT
  rw [List.getD_eq_getElem?_getD, List.getElem?_eq_getElem hk]; rfl
theorem tT_zero {k : Nat} (h : k ≤ 25) : tT 0 k = 1 := by
  have h1 := rowT_get (l := 0) (k := k) (by omega)
  simp only [rowT, List.getElem?_replicate] at h1
  rw [if_pos (by omega)] at h1
  exact (Option.some.inj h1).symm
theorem tT_succ {l k : Nat} (h : l + 1 + k ≤ 25) : tT (l + 1) k = k * tT l k + tT l (k + 1) := by
  have h1 := rowNext_get (rowT l) 0 k _ _ (rowT_get (by omega)) (rowT_get (by omega))
  have h2 := rowT_get (l := l + 1) (k := k) (by omega)
  simp only [rowT] at h2
  rw [h1, Nat.zero_add] at h2
  exact (Option.some.inj h2).symm
theorem rowT_small : ((List.range 26).all fun l => (rowT l).all fun x => decide (x ≤ 4638590332229999353)) = true := by kernel_rfl
theorem tT_le (l k : Nat) (h : l + k ≤ 25) : tT l k ≤ 4638590332229999353 := by
  have h1 := List.all_eq_true.1 rowT_small l (by rw [List.mem_range]; omega)
  have h2 := List.all_eq_true.1 h1 _ (List.mem_of_getElem? (rowT_get h))
  simpa using h2
theorem tT_mul (l k : Nat) (h : l + 1 + k ≤ 25) : k * tT l k + tT l (k + 1) ≤ 4638590332229999353 := by
  rw [← tT_succ h]; exact tT_le _ _ h

theorem all_set {cur : Array Value} {i : Nat} {v : Value} (h : cur.all (·.oneCell') = true) (hv : v.oneCell' = true) : (cur.setIfInBounds i v).all (·.oneCell') = true := by
  rw [Array.all_eq_true_iff_forall_mem] at h ⊢
  intro x hx
  rcases Array.mem_or_eq_of_mem_setIfInBounds hx with h1 | h1
  · exact h x h1
  · subst h1; exact hv
def RkI (w : World) (l k : Nat) (W : World) : Prop := ∃ cur : Array Value, Blk W (w.heap.size + 1) cur 97 ∧ cur.size = 676 ∧ cur.all (·.oneCell') = true ∧ (∀ i j, i < l → i + j ≤ 25 → cur[i * 26 + j]? = some (.int .i64 (tT i j : Nat))) ∧ (∀ j, j < k → cur[l * 26 + j]? = some (.int .i64 (tT l j : Nat))) ∧
  (∃ res : Array Value, Blk W w.heap.size res 97 ∧ res.size = 676) ∧ Below w.heap.size w W

set_option maxHeartbeats 4000000 in
theorem reckon_all (w : World) : Calls Try.prog 65 #[] w fun e w' => ∃ cur : Array Value, e = .returned (.agg cur) ∧ cur.size = 676 ∧ (∀ l k, l + k ≤ 25 → cur[l * 26 + k]? = some (.int .i64 (tT l k : Nat))) ∧ Below w.heap.size w w' ∧ cur.all (·.oneCell') = true := by
  go_enter Try.func65, Try.ntmps65
  go_upto_region 2 with (fail)
  have z0 : (Try.zeroCells97).size = 676 := by kernel_rfl
  have hS : RkI w 0 0 ((w.alloc (.cells Try.zeroCells97 97)).alloc (.cells Try.zeroCells97 97)) := by
    have a0 := Blk.new w Try.zeroCells97 97
    have a1 := Blk.new (w.alloc (.cells Try.zeroCells97 97)) Try.zeroCells97 97
    simp only [World.size_alloc] at a1
    exact ⟨_, a1, z0, by kernel_rfl, by omega, by omega, ⟨_, a0.alloc _, z0⟩, ((Below.refl _ w).alloc (Nat.le_refl _) _).alloc (by simp) _⟩
  obtain ⟨X, hX⟩ : ∃ X, (w.alloc (.cells Try.zeroCells97 97)).alloc (.cells Try.zeroCells97 97) = X := ⟨_, rfl⟩
  rw [hX] at hS ⊢
  clear hX z0
  have HS := Lib.hid hS
  clear hS
  go_wp2
  go_loopw [5] (fun i W => ∃ k : Nat, i = .int .i64 k ∧ k ≤ 26 ∧ RkI w 0 k W) (fun i _ => 26 - (intOf i).toNat)
  case atStart => exact ⟨0, rfl, by omega, HS.out⟩
  case round =>
    obtain ⟨k, rfl, hk, hR⟩ := hrel
    by_cases hlt : k < 26
    · obtain ⟨cur, hb, hz, hcl, h1, h2, hres, hB⟩ := hR
      obtain ⟨u, hu⟩ : ∃ u, wr.cell? ⟨w.heap.size + 1, k, none⟩ = some u := ⟨_, (hb.cell k).trans (Array.getElem?_eq_getElem (by omega))⟩
      have hf := hb.frozen k
      have hN : RkI w 0 (k + 1) (wr.setCell ⟨w.heap.size + 1, k, none⟩ (.int .i64 1)) := by
        obtain ⟨res, hr1, hr2⟩ := hres
        refine ⟨_, hb.set k _, by rw [Array.size_setIfInBounds]; exact hz, all_set hcl rfl, by omega, fun j hj => ?_, ⟨res, hr1.other (by omega) k _, hr2⟩, hB.setCell (p := ⟨w.heap.size + 1, k, none⟩) (Nat.le_succ _) _⟩
        rw [Nat.zero_mul, Nat.zero_add, Array.getElem?_setIfInBounds]
        by_cases hjk : k = j
        · subst hjk
          rw [if_pos rfl, if_pos (by omega), tT_zero (by omega)]; rfl
        · rw [if_neg hjk]
          have := h2 j (by omega)
          rwa [Nat.zero_mul, Nat.zero_add] at this
      have HN := Lib.hid hN
      clear hb hz h1 h2 hres hB hN
      go_wp2
      go_roundw
      case rel => exact ⟨k + 1, by go_num, by omega, HN.out⟩
      case measure => simp [intOf]; omega
    · have hR1 : RkI w 1 0 wr := by
        obtain rfl : k = 26 := by omega
        obtain ⟨cur, hb, hz, hcl, h1, h2, hres, hB⟩ := hR
        refine ⟨cur, hb, hz, hcl, fun i j hi hij => ?_, by omega, hres, hB⟩
        obtain rfl : i = 0 := by omega
        exact h2 j (by omega)
      have HR1 := Lib.hid hR1
      clear hR hR1
      go_wp2
      go_loopw [3] (fun i W => ∃ m : Nat, i = .int .i64 ((m : Int) + 1) ∧ m ≤ 25 ∧ RkI w (m + 1) 0 W) (fun i _ => 26 - (intOf i).toNat)
      case atStart => exact ⟨0, rfl, by omega, HR1.out⟩
      case round =>
        obtain ⟨m, rfl, hl, hR⟩ := hrel
        by_cases hlt2 : m ≤ 24
        · have HR2 := Lib.hid hR
          have dm : decide ((m : Int) + 1 ≤ 25) = true := decide_eq_true (by omega)
          clear hR
          go_wp2
          go_loopw [19] (fun i W => ∃ k : Nat, i = .int .i64 k ∧ k ≤ 25 - m ∧ RkI w (m + 1) k W) (fun i _ => 25 - m - (intOf i).toNat)
          case atStart => exact ⟨0, rfl, by omega, HR2.out⟩
          case round =>
            obtain ⟨k, rfl, hk, hR⟩ := hrel
            by_cases hlk : k < 25 - m
            · obtain ⟨cur, hb, hz, hcl, h1, h2, hres, hB⟩ := hR
              have hA := h1 m k (by omega) (by omega)
              have hC := h1 m (k + 1) (by omega) (by omega)
              have hm1 := tT_mul m k (by omega)
              have hm2 := tT_succ (l := m) (k := k) (by omega)
              have hm3 := tT_le m k (by omega)
              have hm4 := tT_le m (k + 1) (by omega)
              obtain ⟨A, hAA⟩ : ∃ A, tT m k = A := ⟨_, rfl⟩
              obtain ⟨C, hCC⟩ : ∃ C, tT m (k + 1) = C := ⟨_, rfl⟩
              obtain ⟨D, hDD⟩ : ∃ D, k * A = D := ⟨_, rfl⟩
              rw [hAA] at hA hm1 hm2 hm3
              rw [hCC] at hC hm1 hm2 hm4
              rw [hDD] at hm1 hm2
              have c0 : wr.cell? ⟨w.heap.size + 1, m * 26 + k, none⟩ = some (.int .i64 A) := (hb.cell _).trans hA
              have c1 : wr.cell? ⟨w.heap.size + 1, m * 26 + (k + 1), none⟩ = some (.int .i64 C) := (hb.cell _).trans hC
              obtain ⟨u, hu⟩ : ∃ u, wr.cell? ⟨w.heap.size + 1, (m + 1) * 26 + k, none⟩ = some u := ⟨_, (hb.cell _).trans (Array.getElem?_eq_getElem (by omega))⟩
              have hf := hb.frozen ((m + 1) * 26 + k)
              have hN : RkI w (m + 1) (k + 1) (wr.drew.setCell ⟨w.heap.size + 1, (m + 1) * 26 + k, none⟩ (.int .i64 ((D : Int) + C))) := by
                obtain ⟨res, hr1, hr2⟩ := hres
                refine ⟨_, hb.drew.set ((m + 1) * 26 + k) _, by rw [Array.size_setIfInBounds]; exact hz, all_set hcl rfl, fun i j hi hij => ?_, fun j hj => ?_, ⟨res, hr1.drew.other (by omega) _ _, hr2⟩, hB.drew.setCell (p := ⟨w.heap.size + 1, (m + 1) * 26 + k, none⟩) (Nat.le_succ _) _⟩
                · rw [Array.getElem?_setIfInBounds, if_neg (by omega)]
                  exact h1 i j hi hij
                · rw [Array.getElem?_setIfInBounds]
                  by_cases hjk : k = j
                  · subst hjk
                    rw [if_pos rfl, if_pos (by omega), hm2]; simp
                  · rw [if_neg (by omega)]
                    exact h2 j (by omega)
              have HN := Lib.hid hN
              have p1 : IntKind.i64.wrap ((k : Int) * (A : Int)) = (D : Int) := by rw [← hDD, Int.natCast_mul]; exact IntWalk.i64_in _ (by rw [← Int.natCast_mul, hDD]; omega)
              have p2 : IntKind.i64.wrap ((D : Int) + (C : Int)) = (D : Int) + (C : Int) := IntWalk.i64_in _ (by omega)
              have p3 : IntKind.i64.wrap (m : Int) = (m : Int) := IntWalk.i64_in _ (by omega)
              have p4 : IntKind.i64.wrap ((k : Int) + 1) = (k : Int) + 1 := IntWalk.i64_in _ (by omega)
              have p5 : ((k : Int) + 1).toNat = k + 1 := by omega
              have p6 : (0 : Int) ≤ (k : Int) + 1 := by omega
              have p7 : (k : Int) + 1 < 26 := by omega
              have p8 : (m : Int) < 26 := by omega
              have p9 : (k : Int) < 26 := by omega
              have p10 : (m : Int) + 1 < 26 := by omega
              have p11 : (0 : Int) ≤ (m : Int) + 1 := by omega
              have p12 : ((m : Int) + 1).toNat = m + 1 := by omega
              clear hb hz h1 h2 hres hB hN hA hC hm2 hAA hCC hDD
              go_wp2
              go_still_tail 20, (by kernel_rfl)
              change wpList _ _ _ _ _ wr.drew
              have hu2 : wr.drew.cell? ⟨w.heap.size + 1, (m + 1) * 26 + k, none⟩ = some u := hu
              have hf2 : wr.drew.frozen? ⟨w.heap.size + 1, (m + 1) * 26 + k, none⟩ = false := hf
              obtain ⟨Z, hZ⟩ : ∃ Z, wr.drew = Z := ⟨_, rfl⟩
              rw [hZ] at hu2 hf2 HN ⊢
              clear hZ hu hf c0 c1
              go_wp2
              go_roundw
              case rel => exact ⟨k + 1, by go_num, by omega, HN.out⟩
              case measure => simp [intOf]; omega
            · obtain rfl : k = 25 - m := by omega
              have hR3 : RkI w (m + 1 + 1) 0 wr := by
                obtain ⟨cur, hb, hz, hcl, h1, h2, hres, hB⟩ := hR
                refine ⟨cur, hb, hz, hcl, fun i j hi hij => ?_, by omega, hres, hB⟩
                by_cases hil : i < m + 1
                · exact h1 i j hil hij
                · obtain rfl : i = m + 1 := by omega
                  exact h2 j (by omega)
              have HR3 := Lib.hid hR3
              clear hR hR3
              go_wp2
              go_roundw
              case rel => exact ⟨m + 1, by go_num, by omega, HR3.out⟩
              case measure => simp [intOf]; omega
        · obtain rfl : m = 25 := by omega
          obtain ⟨cur, hb, hz, hcl, h1, h2, ⟨res, hr1, hr2⟩, hB⟩ := hR
          have hF := setRow_heap wr w.heap.size res cur 97 (0, 0) hr1
          have hi : (Try.prog.info? 97).map (·.size) = some cur.size := by rw [hz]; kernel_rfl
          have HF := Lib.hid (And.intro hF (And.intro hi (And.intro hz (And.intro h1 (below_setRow hB (Nat.le_refl _) cur)))))
          have HH := Lib.hid (And.intro hb (And.intro hr1 (And.intro hr2 hcl)))
          clear hb hz hcl h1 h2 hr1 hr2 hB hF hi
          go_wp2_with (first | (refine wpList_load_row rfl 97 _ rfl (w.heap.size + 1) rfl 97 cur (0, 0) _ HH.out.1 Try.underlying97 rfl HF.out.2.1 ?_) | (refine wpList_store_row rfl 97 _ _ rfl w.heap.size cur rfl rfl 97 res HH.out.2.1 HF.out.2.1 (HH.out.2.2.1.trans HF.out.2.2.1.symm) HH.out.2.2.2 ?_))
          exact bodyPost_ret (v := .agg cur) (results_cell_row rfl _ _ w.heap.size 97 cur (0, 0) _ rfl HF.out.1 Try.underlying97 rfl HF.out.2.1) rfl ⟨cur, rfl, HF.out.2.2.1, fun l k h => HF.out.2.2.2.1 l k (by omega) h, HF.out.2.2.2.2, HH.out.2.2.2⟩
theorem reckon_any (w : World) : Calls Try.prog 65 #[] w fun e w' => ∃ cur : Array Value, e = .returned (.agg cur) ∧ cur.size = 676 ∧ (∀ l k, l + k ≤ 25 → cur[l * 26 + k]? = some (.int .i64 (tT l k : Nat))) ∧ Below w.heap.size w w' :=
  (reckon_all w).mono fun _ _ ⟨cur, h1, h2, h3, h4, _⟩ => ⟨cur, h1, h2, h3, h4⟩
end Go.Proofs.Ytdcmkiggnmajgaa
