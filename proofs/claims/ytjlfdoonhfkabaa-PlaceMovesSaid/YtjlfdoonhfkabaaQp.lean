/- Places: Each. -/
import Derived.Test.YtjlfdoonhfkabaaQo
namespace Go.Proofs.Ytjlfdoonhfkabaa
set_option linter.unusedVariables false
set_option linter.unusedSimpArgs false
open Go Go.RowKit Go.Shelf
set_option maxRecDepth 100000
attribute [local go_sem] Oper.semAt_some

/-- What lay below n₀ lies as it lay. -/
def Same (n0 : Nat) (X Y : World) : Prop := ∀ k, k < n0 → Y.heap[k]? = X.heap[k]?
theorem Same.trans {n0 : Nat} {X Y Z : World} (h : Same n0 X Y) (g : Same n0 Y Z) : Same n0 X Z := fun k hk => (g k hk).trans (h k hk)
theorem cell_same {X Y : World} {b i : Nat} {v : Value} (h : X.cell? ⟨b, i, none⟩ = some v) (hs : Same X.heap.size X Y) : Y.cell? ⟨b, i, none⟩ = some v := by
  rw [World.cell?_of_block (w := X) (hs b (lt_cell h))]; exact h
theorem mapAt_same {s : ByteArray} {m : Nat} {W W' : World} (h : MapAt s m W) (hs : Same W.heap.size W W') : MapAt s m W' := by
  obtain ⟨ga, ca, gb, cb, h1, h2, h3⟩ := h
  have key : ∀ {b n : Nat} {l : List Value}, l.length = n → (∀ j, j < n → W.cell? ⟨b, j, none⟩ = l[j]?) → ∀ j, j < n → W'.cell? ⟨b, j, none⟩ = l[j]? := fun hl h j hj => by
    have h4 := h j hj
    rw [List.getElem?_eq_getElem (by omega)] at h4
    rw [cell_same h4 hs, List.getElem?_eq_getElem (by omega)]
  exact ⟨ga, ca, gb, cb, (hs m h1.lt).trans h1, key (plS_len s _) h2, key (rwC_len _) h3⟩

/-- What the body of a round keeps for Each. -/
def KpE (B n0 : Nat) (X Y : World) : Prop := KpB B X Y ∧ Same n0 X Y
theorem kpE_t {B n0 : Nat} {X Y Z : World} (h : KpE B n0 X Y) (g : KpE B n0 Y Z) : KpE B n0 X Z := ⟨kpB_t h.1 g.1, h.2.trans g.2⟩
theorem kpE_b {B n0 : Nat} {w : World} (hB : B < w.heap.size) (hn : n0 ≤ w.heap.size) (W : World) (l : Nat) (o o' : Obj) (hl : w.heap.size ≤ l) (h : W.heap[l]? = some o) (ho : o.isCells = false) (hw : o.isWalk = false) : KpE B n0 W (W.putObj l o') :=
  ⟨kpB_b hB W l o o' hl h ho hw, fun k hk => World.putObj_heap_other (by omega)⟩
/-- What Each itself turns: nothing but new blocks. -/
def FrE (W : World) (r : Nat) : Prop := ∃ o : Obj, W.heap[r]? = some o ∧ o.isCells = false

def RelE (s : ByteArray) (B m n0 : Nat) (W0 : World) (J : List Nat → World → Prop) (iv : Value) (wr : World) : Prop :=
  ∃ k : Nat, iv = .int .i64 k ∧ k ≤ nP s + 1 ∧ Same n0 W0 wr ∧ Boxed wr B 23 (.pointer (some ⟨m, 0, none⟩)) ∧ J (List.range k) wr

set_option maxHeartbeats 2000000 in
theorem each1 (l B m n0 : Nat) (s : ByteArray) (hs : s.size ≤ 65536) (W0 : World) (hM : MapAt s m W0) (hn0 : W0.heap.size = n0) (J Jx : List Nat → World → Prop) (W : World) (hS : Same n0 W0 W) (hn : n0 ≤ W.heap.size)
    (hJ : AbX W.heap.size FrE J) (hJx : AbX W.heap.size FrE Jx) (hBx : Boxed W B 23 (.pointer (some ⟨m, 0, none⟩)))
    (hY : ∀ pre x X, J pre X → pre.length < nP s + 1 → pre = List.range x → YieldAt Fence.wide 9 Try.prog l #[plV (pK s x)] X fun e Y =>
      (e = .returned (.bool true) ∧ J (pre ++ [x]) Y ∧ KpE B n0 X Y) ∨ (e = .returned (.bool false) ∧ Jx (pre ++ [x]) Y))
    (h0 : J [] W) :
    CallsIn Fence.wide 10 Try.prog 43 #[.func (.yield l) #[] #[], .pointer (some ⟨B, 0, none⟩)] W fun e Y => (∃ v, e = .returned v) ∧
      ((∃ xs, xs = List.range (nP s + 1) ∧ J xs Y) ∨ (∃ pre, pre <+: List.range (nP s + 1) ∧ Jx pre Y)) := by
  have hnP := nP_le s
  have hc := hBx.cell
  have hM' := mapAt_same hM (hn0 ▸ hS)
  obtain ⟨ga, ca, gb, cb, k1, k2, k3⟩ := hM
  obtain ⟨n, hnn⟩ : ∃ n, nP s = n := ⟨_, rfl⟩
  have hmc : ∀ X, Same n0 W0 X → X.cell? ⟨m, 1, none⟩ = some (.slice (some ⟨ga, 0, none⟩) (n + 1) ca) := fun X hX => by
    have h1 := k1.cell 1
    simp only [List.getElem?_toArray, List.getElem?_cons_succ, List.getElem?_cons_zero, hnn] at h1
    exact cell_same h1 (hn0 ▸ hX)
  have hcs := fun X (hX : Same n0 W0 X) k (hk : k ≤ nP s) => map_cells (W := X) (s := s) (ga := ga) (k := k) (fun j hj => by
    have h4 := k2 j hj
    rw [List.getElem?_eq_getElem (by rw [plS_len]; omega)] at h4
    rw [cell_same h4 (hn0 ▸ hX), List.getElem?_eq_getElem (by rw [plS_len]; omega)]) hk
  have HC := Lib.hid hcs
  have HM := Lib.hid hmc
  have e1 := hmc W hS
  clear k1 k2 k3 hcs hmc hM'
  refine callsIn_of_wp Try.func43 rfl trivial ?_ rfl
  simp only [Try.ntmps43, List.size_toArray, List.length_cons, List.length_nil, Nat.reduceAdd, Nat.reduceSub, Array.replicate_succ, Array.replicate_zero, List.push_toArray, List.append_toArray, List.nil_append, List.cons_append]
  gi_wp2
  gi_loopw [12] (fun iv wr => RelE s B m n0 W0 J iv wr) (fun iv _ => n + 1 - (intOf iv).toNat)
  case atStart => exact ⟨0, rfl, Nat.zero_le _, hS, hBx, h0⟩
  case round =>
    clear e1 hc
    obtain ⟨k, rfl, hk, hSr, hbx, hj⟩ := hrel
    rw [hnn] at hk
    have hF : ∀ f, Fence.wide.fn f := fun _ => trivial
    by_cases hlt : k < n + 1
    · obtain ⟨d0, d1, d2, d3, d4⟩ := HC.out wr hSr k (by omega)
      have i0 : (0 : Int) ≤ (k : Int) := by omega
      have i1 : (k : Int) < (n : Int) + 1 := by omega
      have hpre : List.range k ++ [k] <+: List.range (n + 1) := by
        rw [← List.range_succ, List.range_eq_range', List.range_eq_range']
        exact ⟨List.range' (k + 1) (n - k), by rw [show n + 1 = (k + 1) + (n - k) by omega, ← List.range'_append_1]; simp⟩
      have HP := Lib.hid hpre
      have hsz : n0 ≤ W.heap.size ∨ True := .inr trivial
      obtain ⟨fn, tmps, assign, body, hy, hR⟩ := hY (List.range k) k (wr.alloc (.cells #[.int .i64 (pK s k).b, .int .i64 (pK s k).k, .int .i64 (pK s k).u, .int .i64 (pK s k).l, .int .i64 (pK s k).c] 28)) (hJ.alloc _ hj) (by rw [List.length_range, hnn]; omega) rfl
      have hwn : n0 ≤ wr.heap.size := by
        rcases Nat.lt_or_ge 0 n0 with h | h
        · have h1 := hSr (n0 - 1) (by omega)
          have h2 : n0 - 1 < W0.heap.size := by omega
          rw [Array.getElem?_eq_getElem h2] at h1
          have := (Array.getElem?_eq_some_iff.1 h1).1
          omega
        · omega
      have hS2 : Same n0 W0 (wr.alloc (.cells #[.int .i64 (pK s k).b, .int .i64 (pK s k).k, .int .i64 (pK s k).u, .int .i64 (pK s k).l, .int .i64 (pK s k).c] 28)) := hSr.trans (fun i hi => Below.heap_alloc wr _ i (by omega))
      have hbx2 := (show Blk _ _ _ _ from hbx).alloc (.cells #[.int .i64 (pK s k).b, .int .i64 (pK s k).k, .int .i64 (pK s k).u, .int .i64 (pK s k).l, .int .i64 (pK s k).c] 28)
      clear hpre hj hY hJ hJx
      obtain ⟨p, hp⟩ : ∃ p, pK s k = p := ⟨_, rfl⟩
      rw [hp] at d0 d1 d2 d3 d4 hy hR hS2 hbx2
      clear hp
      obtain ⟨pb, pk, pu, pl, pc⟩ := p
      simp only [plV] at hy
      simp only at hR hS2 hbx2 d0 d1 d2 d3 d4
      gi_wp2
      refine hR.mono ?_
      rintro e Y (⟨rfl, hJ', hk'⟩ | ⟨rfl, hJx'⟩)
      · gi_wp2
        refine ⟨⟨k + 1, by go_num, by rw [hnn]; omega, hS2.trans hk'.2, hk'.1.2.trans hbx2, by rw [List.range_succ]; exact hJ'⟩, by simp [intOf]; omega⟩
      · gi_wp2
        refine bodyPost_ret (results_none rfl _ _ _) rfl ?_
        exact ⟨⟨_, rfl⟩, .inr ⟨_, by rw [hnn]; exact HP.out, hJx'⟩⟩
    · obtain rfl : k = n + 1 := by omega
      gi_wp2
      go_end0
      exact ⟨⟨_, rfl⟩, .inl ⟨_, by rw [hnn], hj⟩⟩

set_option maxHeartbeats 400000 in
theorem each_any (m : Nat) (w : World) :
    Calls Try.prog 22 #[.pointer (some ⟨m, 0, none⟩)] w fun e w' => e = .returned (.func (.func 43) #[] #[.pointer (some ⟨w.heap.size, 0, none⟩)]) ∧ w' = w.alloc (.cells #[.pointer (some ⟨m, 0, none⟩)] 23) := by
  go_enter Try.func22, Try.ntmps22
  go_wp2
  go_ret
  exact ⟨rfl, rfl⟩
end Go.Proofs.Ytjlfdoonhfkabaa
