/- Places: what is out of range; a map that is nil. -/
import Derived.Test.YtjlfdoonhfkabaaQk
namespace Go.Proofs.Ytjlfdoonhfkabaa
set_option linter.unusedVariables false
set_option linter.unusedSimpArgs false
open Go Go.RowKit Go.Shelf
set_option maxRecDepth 100000

theorem below_drewN {b : Nat} {w W : World} (h : Below b w W) (n : Nat) : Below b w (W.drewN n) := ⟨h.os, h.tape, h.output, h.size, h.block⟩

set_option maxHeartbeats 2000000 in
theorem rune_err (s : ByteArray) (hs : s.size ≤ 65536) (m : Nat) (w : World) (hM : MapAt s m w) (x : Int) (hx : x < 0 ∨ (nP s : Int) < x) :
    Calls Try.prog 18 #[.pointer (some ⟨m, 0, none⟩), .int .i64 x] w fun e w' => e = .returned (.tuple #[.agg #[.int .i64 0, .int .i64 0, .int .i64 0, .int .i64 0, .int .i64 0], .int .i64 5]) ∧ Below w.heap.size w w' := by
  have hnP := nP_le s
  have hrl := rws_len s
  have hM0 := hM
  obtain ⟨ga, ca, gb, cb', h1, h2, h3⟩ := hM
  have hm0 := h1.cell 0
  have hmc := h1.cell 1
  have hmr := h1.cell 2
  simp only [List.getElem?_toArray, List.getElem?_cons_succ, List.getElem?_cons_zero] at hm0 hmc hmr
  have hmA : ∀ o, (w.alloc o).cell? ⟨m, 1, none⟩ = some (.slice (some ⟨ga, 0, none⟩) (nP s + 1) ca) := fun o => at_below hmc ((Below.refl _ w).alloc (Nat.le_refl _) o)
  have hmR : ∀ o, (w.alloc o).cell? ⟨m, 2, none⟩ = some (.slice (some ⟨gb, 0, none⟩) (rws s).length cb') := fun o => at_below hmr ((Below.refl _ w).alloc (Nat.le_refl _) o)
  have hmT : ∀ o, (w.alloc o).cell? ⟨m, 0, none⟩ = some (.string s) := fun o => at_below hm0 ((Below.refl _ w).alloc (Nat.le_refl _) o)
  have hmT2 : ∀ o1 o2, ((w.alloc o1).alloc o2).cell? ⟨m, 0, none⟩ = some (.string s) := fun o1 o2 => at_below hm0 (((Below.refl _ w).alloc (Nat.le_refl _) o1).alloc (by simp) o2)
  have bB : Below w.heap.size w (w.alloc (.cells #[.int .i64 0, .int .i64 0, .int .i64 0, .int .i64 0, .int .i64 0] 28)) := (Below.refl _ w).alloc (Nat.le_refl _) _
  clear h1 h2 h3
  rcases hx with h | h
  · have k1 : decide (x < 0) = true := decide_eq_true h
    go_enter Try.func18, Try.ntmps18
    go_wp2
    exact bodyPost_ret (v := .tuple #[.agg #[.int .i64 0, .int .i64 0, .int .i64 0, .int .i64 0, .int .i64 0], .int .i64 5]) (by simp [results, Try.f18, go_sem]) rfl ⟨rfl, bB⟩
  · have k1 : decide (x < 0) = false := decide_eq_false (by omega)
    have k2 : decide ((nP s : Int) + 1 ≤ x) = true := decide_eq_true (by omega)
    go_enter Try.func18, Try.ntmps18
    go_wp2
    exact bodyPost_ret (v := .tuple #[.agg #[.int .i64 0, .int .i64 0, .int .i64 0, .int .i64 0, .int .i64 0], .int .i64 5]) (by simp [results, Try.f18, go_sem]) rfl ⟨rfl, bB⟩

set_option maxHeartbeats 2000000 in
theorem byte_err (s : ByteArray) (hs : s.size ≤ 65536) (m : Nat) (w : World) (hM : MapAt s m w) (x : Int) (hx : x < 0 ∨ (s.size : Int) < x) :
    Calls Try.prog 17 #[.pointer (some ⟨m, 0, none⟩), .int .i64 x] w fun e w' => e = .returned (.tuple #[.agg #[.int .i64 0, .int .i64 0, .int .i64 0, .int .i64 0, .int .i64 0], .int .i64 0, .int .i64 5]) ∧ Below w.heap.size w w' := by
  have ht : ∀ o1 o2, ((w.alloc o1).alloc o2).cell? ⟨m, 0, none⟩ = some (.string s) := fun o1 o2 => at_below (mapAt_text hM) (((Below.refl _ w).alloc (Nat.le_refl _) _).alloc (by simp) _)
  have b1 := Blk.new (w.alloc (.cells #[.int .i64 x] 3)) #[.int .i64 0, .int .i64 0, .int .i64 0, .int .i64 0, .int .i64 0] 28
  have b2 : Below w.heap.size w ((w.alloc (.cells #[.int .i64 x] 3)).alloc (.cells #[.int .i64 0, .int .i64 0, .int .i64 0, .int .i64 0, .int .i64 0] 28)) := (((Below.refl _ w).alloc (Nat.le_refl _) _).alloc (by simp) _)
  rcases hx with h | h
  · have k1 : decide (x < 0) = true := decide_eq_true h
    go_enter Try.func17, Try.ntmps17
    go_wp2
    go_quiet (fail)
    go_wp2_with fail
    have c1 : Blk (((w.alloc (.cells #[.int .i64 x] 3)).alloc (.cells #[.int .i64 0, .int .i64 0, .int .i64 0, .int .i64 0, .int .i64 0] 28)).drewN nq) (w.heap.size + 1) #[.int .i64 0, .int .i64 0, .int .i64 0, .int .i64 0, .int .i64 0] 28 := by
      have := b1; simp only [World.size_alloc] at this; exact this
    have cB : Below w.heap.size w (((w.alloc (.cells #[.int .i64 x] 3)).alloc (.cells #[.int .i64 0, .int .i64 0, .int .i64 0, .int .i64 0, .int .i64 0] 28)).drewN nq) := ⟨b2.os, b2.tape, b2.output, b2.size, b2.block⟩
    obtain ⟨W0, hW0⟩ : ∃ W0, (((w.alloc (.cells #[.int .i64 x] 3)).alloc (.cells #[.int .i64 0, .int .i64 0, .int .i64 0, .int .i64 0, .int .i64 0] 28)).drewN nq) = W0 := ⟨_, rfl⟩
    rw [hW0] at c1 cB ⊢
    clear hW0
    have d1 := c1.cell
    have d2 := c1.lt
    exact bodyPost_ret (v := .tuple #[.agg #[.int .i64 0, .int .i64 0, .int .i64 0, .int .i64 0, .int .i64 0], .int .i64 0, .int .i64 5]) (by simp [results, Try.f17, go_sem, d1, d2]) rfl ⟨rfl, ((((cB.setCell (p := ⟨w.heap.size + 1, 0, none⟩) (by dsimp only; omega) _).setCell (p := ⟨w.heap.size + 1, 1, none⟩) (by dsimp only; omega) _).setCell (p := ⟨w.heap.size + 1, 2, none⟩) (by dsimp only; omega) _).setCell (p := ⟨w.heap.size + 1, 3, none⟩) (by dsimp only; omega) _).setCell (p := ⟨w.heap.size + 1, 4, none⟩) (by dsimp only; omega) _⟩
  · have k1 : decide (x < 0) = false := decide_eq_false (by omega)
    have k2 : decide ((s.size : Int) < x) = true := decide_eq_true h
    go_enter Try.func17, Try.ntmps17
    go_wp2
    go_quiet (fail)
    go_wp2_with fail
    have c1 : Blk (((w.alloc (.cells #[.int .i64 x] 3)).alloc (.cells #[.int .i64 0, .int .i64 0, .int .i64 0, .int .i64 0, .int .i64 0] 28)).drewN nq) (w.heap.size + 1) #[.int .i64 0, .int .i64 0, .int .i64 0, .int .i64 0, .int .i64 0] 28 := by
      have := b1; simp only [World.size_alloc] at this; exact this
    have cB : Below w.heap.size w (((w.alloc (.cells #[.int .i64 x] 3)).alloc (.cells #[.int .i64 0, .int .i64 0, .int .i64 0, .int .i64 0, .int .i64 0] 28)).drewN nq) := ⟨b2.os, b2.tape, b2.output, b2.size, b2.block⟩
    obtain ⟨W0, hW0⟩ : ∃ W0, (((w.alloc (.cells #[.int .i64 x] 3)).alloc (.cells #[.int .i64 0, .int .i64 0, .int .i64 0, .int .i64 0, .int .i64 0] 28)).drewN nq) = W0 := ⟨_, rfl⟩
    rw [hW0] at c1 cB ⊢
    clear hW0
    have d1 := c1.cell
    have d2 := c1.lt
    exact bodyPost_ret (v := .tuple #[.agg #[.int .i64 0, .int .i64 0, .int .i64 0, .int .i64 0, .int .i64 0], .int .i64 0, .int .i64 5]) (by simp [results, Try.f17, go_sem, d1, d2]) rfl ⟨rfl, ((((cB.setCell (p := ⟨w.heap.size + 1, 0, none⟩) (by dsimp only; omega) _).setCell (p := ⟨w.heap.size + 1, 1, none⟩) (by dsimp only; omega) _).setCell (p := ⟨w.heap.size + 1, 2, none⟩) (by dsimp only; omega) _).setCell (p := ⟨w.heap.size + 1, 3, none⟩) (by dsimp only; omega) _).setCell (p := ⟨w.heap.size + 1, 4, none⟩) (by dsimp only; omega) _⟩

set_option maxHeartbeats 2000000 in
theorem span_err (s : ByteArray) (hs : s.size ≤ 65536) (m : Nat) (w : World) (hM : MapAt s m w) (x : Int) (hx : x < 0 ∨ ((rws s).length : Int) ≤ x) :
    Calls Try.prog 21 #[.pointer (some ⟨m, 0, none⟩), .int .i64 x] w fun e w' => e = .returned (.tuple #[.agg #[.int .i64 0, .int .i64 0], .int .i64 0, .int .i64 5]) ∧ Below w.heap.size w w' := by
  have hnP := nP_le s
  have hrl := rws_len s
  have hM0 := hM
  obtain ⟨ga, ca, gb, cb', h1, h2, h3⟩ := hM
  have hm0 := h1.cell 0
  have hmc := h1.cell 1
  have hmr := h1.cell 2
  simp only [List.getElem?_toArray, List.getElem?_cons_succ, List.getElem?_cons_zero] at hm0 hmc hmr
  have hmA : ∀ o, (w.alloc o).cell? ⟨m, 1, none⟩ = some (.slice (some ⟨ga, 0, none⟩) (nP s + 1) ca) := fun o => at_below hmc ((Below.refl _ w).alloc (Nat.le_refl _) o)
  have hmR : ∀ o, (w.alloc o).cell? ⟨m, 2, none⟩ = some (.slice (some ⟨gb, 0, none⟩) (rws s).length cb') := fun o => at_below hmr ((Below.refl _ w).alloc (Nat.le_refl _) o)
  have hmT : ∀ o, (w.alloc o).cell? ⟨m, 0, none⟩ = some (.string s) := fun o => at_below hm0 ((Below.refl _ w).alloc (Nat.le_refl _) o)
  have hmT2 : ∀ o1 o2, ((w.alloc o1).alloc o2).cell? ⟨m, 0, none⟩ = some (.string s) := fun o1 o2 => at_below hm0 (((Below.refl _ w).alloc (Nat.le_refl _) o1).alloc (by simp) o2)
  have bB : Below w.heap.size w (w.alloc (.cells #[.int .i64 0, .int .i64 0] 37)) := (Below.refl _ w).alloc (Nat.le_refl _) _
  clear h1 h2 h3
  rcases hx with h | h
  · have k1 : decide (x < 0) = true := decide_eq_true h
    go_enter Try.func21, Try.ntmps21
    go_wp2
    exact bodyPost_ret (v := .tuple #[.agg #[.int .i64 0, .int .i64 0], .int .i64 0, .int .i64 5]) (by simp [results, Try.f21, go_sem]) rfl ⟨rfl, bB⟩
  · have k1 : decide (x < 0) = false := decide_eq_false (by omega)
    have k2 : decide (((rws s).length : Int) ≤ x) = true := decide_eq_true h
    go_enter Try.func21, Try.ntmps21
    go_wp2
    exact bodyPost_ret (v := .tuple #[.agg #[.int .i64 0, .int .i64 0], .int .i64 0, .int .i64 5]) (by simp [results, Try.f21, go_sem]) rfl ⟨rfl, bB⟩

set_option maxHeartbeats 2000000 in
theorem line_err (s : ByteArray) (hs : s.size ≤ 65536) (m : Nat) (w : World) (hM : MapAt s m w) (k c : Int) (hx : k < 0 ∨ ((rws s).length : Int) ≤ k ∨ c < 0) :
    Calls Try.prog 20 #[.pointer (some ⟨m, 0, none⟩), .int .i64 k, .int .i64 c] w fun e w' => e = .returned (.tuple #[.agg #[.int .i64 0, .int .i64 0, .int .i64 0, .int .i64 0, .int .i64 0], .int .i64 5]) ∧ Below w.heap.size w w' := by
  have hnP := nP_le s
  have hrl := rws_len s
  have hM0 := hM
  obtain ⟨ga, ca, gb, cb', h1, h2, h3⟩ := hM
  have hm0 := h1.cell 0
  have hmc := h1.cell 1
  have hmr := h1.cell 2
  simp only [List.getElem?_toArray, List.getElem?_cons_succ, List.getElem?_cons_zero] at hm0 hmc hmr
  have hmA : ∀ o, (w.alloc o).cell? ⟨m, 1, none⟩ = some (.slice (some ⟨ga, 0, none⟩) (nP s + 1) ca) := fun o => at_below hmc ((Below.refl _ w).alloc (Nat.le_refl _) o)
  have hmR : ∀ o, (w.alloc o).cell? ⟨m, 2, none⟩ = some (.slice (some ⟨gb, 0, none⟩) (rws s).length cb') := fun o => at_below hmr ((Below.refl _ w).alloc (Nat.le_refl _) o)
  have hmT : ∀ o, (w.alloc o).cell? ⟨m, 0, none⟩ = some (.string s) := fun o => at_below hm0 ((Below.refl _ w).alloc (Nat.le_refl _) o)
  have hmT2 : ∀ o1 o2, ((w.alloc o1).alloc o2).cell? ⟨m, 0, none⟩ = some (.string s) := fun o1 o2 => at_below hm0 (((Below.refl _ w).alloc (Nat.le_refl _) o1).alloc (by simp) o2)
  have bB : Below w.heap.size w (w.alloc (.cells #[.int .i64 0, .int .i64 0, .int .i64 0, .int .i64 0, .int .i64 0] 28)) := (Below.refl _ w).alloc (Nat.le_refl _) _
  clear h1 h2 h3
  rcases hx with h | h | h
  · have k1 : decide (k < 0) = true := decide_eq_true h
    go_enter Try.func20, Try.ntmps20
    go_wp2
    exact bodyPost_ret (v := .tuple #[.agg #[.int .i64 0, .int .i64 0, .int .i64 0, .int .i64 0, .int .i64 0], .int .i64 5]) (by simp [results, Try.f20, go_sem]) rfl ⟨rfl, bB⟩
  · have k1 : decide (k < 0) = false := decide_eq_false (by omega)
    have k2 : decide (((rws s).length : Int) ≤ k) = true := decide_eq_true h
    go_enter Try.func20, Try.ntmps20
    go_wp2
    exact bodyPost_ret (v := .tuple #[.agg #[.int .i64 0, .int .i64 0, .int .i64 0, .int .i64 0, .int .i64 0], .int .i64 5]) (by simp [results, Try.f20, go_sem]) rfl ⟨rfl, bB⟩
  · by_cases g1 : k < 0
    · have k1 : decide (k < 0) = true := decide_eq_true g1
      go_enter Try.func20, Try.ntmps20
      go_wp2
      exact bodyPost_ret (v := .tuple #[.agg #[.int .i64 0, .int .i64 0, .int .i64 0, .int .i64 0, .int .i64 0], .int .i64 5]) (by simp [results, Try.f20, go_sem]) rfl ⟨rfl, bB⟩
    · have k1 : decide (k < 0) = false := decide_eq_false g1
      by_cases g2 : ((rws s).length : Int) ≤ k
      · have k2 : decide (((rws s).length : Int) ≤ k) = true := decide_eq_true g2
        go_enter Try.func20, Try.ntmps20
        go_wp2
        exact bodyPost_ret (v := .tuple #[.agg #[.int .i64 0, .int .i64 0, .int .i64 0, .int .i64 0, .int .i64 0], .int .i64 5]) (by simp [results, Try.f20, go_sem]) rfl ⟨rfl, bB⟩
      · have k2 : decide (((rws s).length : Int) ≤ k) = false := decide_eq_false g2
        have k3 : decide (c < 0) = true := decide_eq_true h
        go_enter Try.func20, Try.ntmps20
        go_wp2
        exact bodyPost_ret (v := .tuple #[.agg #[.int .i64 0, .int .i64 0, .int .i64 0, .int .i64 0, .int .i64 0], .int .i64 5]) (by simp [results, Try.f20, go_sem]) rfl ⟨rfl, bB⟩

set_option maxHeartbeats 2000000 in
theorem line_far (s : ByteArray) (hs : s.size ≤ 65536) (m : Nat) (w : World) (hM : MapAt s m w) (k fr tt ee : Nat) (hk : (rws s)[k]? = some (fr, tt, ee)) (j : Nat) (hj : j ≤ nP s) (h1 : (pK s j).b ≤ fr) (h2 : j < nP s → fr < (pK s (j + 1)).b)
    (c : Int) (hc0 : 0 ≤ c) (hcI : c < 9223372036854775808) (hx : (nP s : Int) - j < c ∨ ∃ J : Nat, J ≤ nP s ∧ (j : Int) + c = J ∧ (pK s J).l ≠ k) :
    Calls Try.prog 20 #[.pointer (some ⟨m, 0, none⟩), .int .i64 k, .int .i64 c] w fun e w' => e = .returned (.tuple #[.agg #[.int .i64 0, .int .i64 0, .int .i64 0, .int .i64 0, .int .i64 0], .int .i64 5]) ∧ Below w.heap.size w w' := by
  have hnP := nP_le s
  have hrl := rws_len s
  have hkl : k < (rws s).length := (List.getElem?_eq_some_iff.1 hk).1
  have hF := fun (W0 : World) (hM0 : MapAt s m W0) => first_any s hs m W0 hM0 k fr tt ee hk j hj h1 h2
  have hkj := pK_k s j
  have hM0 := hM
  obtain ⟨ga, ca, gb, cb', k1, k2, k3⟩ := hM
  have hmc := k1.cell 1
  have hmr := k1.cell 2
  simp only [List.getElem?_toArray, List.getElem?_cons_succ, List.getElem?_cons_zero] at hmc hmr
  have hrA : ∀ o, (w.alloc o).cell? ⟨m, 2, none⟩ = some (.slice (some ⟨gb, 0, none⟩) (rws s).length cb') := fun o => at_below hmr ((Below.refl _ w).alloc (Nat.le_refl _) o)
  have hcx := fun J (hJ : J ≤ nP s) X (hX : Below w.heap.size w X) => map_cells (s := s) (ga := ga) (k := J) (W := X) (fun i hi => cell_le (plS_len s _) k2 hX i hi) hJ
  have hmX := fun X (hX : Below w.heap.size w X) => at_below hmc hX
  obtain ⟨q, hq⟩ : ∃ q, pK s j = q := ⟨_, rfl⟩
  rw [hq] at hF hkj
  clear hq h1 h2 k2 k3 hk k1
  obtain ⟨qb, qk, qu, ql, qc⟩ := q
  simp only at hkj
  subst hkj
  simp only [plV] at hF ⊢
  obtain ⟨R, hR⟩ : ∃ R, (rws s).length = R := ⟨_, rfl⟩
  rw [hR] at hrl hkl hrA
  clear hR hmr hmc
  have i0 : decide ((k : Int) < 0) = false := decide_eq_false (by omega)
  have i1 : decide ((R : Int) ≤ (k : Int)) = false := decide_eq_false (by omega)
  have i2 : decide (c < 0) = false := decide_eq_false (by omega)
  have i7 : IntKind.i64.wrap ((nP s : Int) + 1 - (qk : Int)) = (nP s : Int) + 1 - (qk : Int) := IntWalk.i64_in _ (by omega)
  have e9 := fun (X : World) => field_k (.int .i64 qb) (.int .i64 qk) (.int .i64 qu) (.int .i64 ql) (.int .i64 qc) X
  have b0 := Blk.new w #[.int .i64 0, .int .i64 0, .int .i64 0, .int .i64 0, .int .i64 0] 28
  have bB : Below w.heap.size w (w.alloc (.cells #[.int .i64 0, .int .i64 0, .int .i64 0, .int .i64 0, .int .i64 0] 28)) := (Below.refl _ w).alloc (Nat.le_refl _) _
  by_cases hfar : (nP s : Int) - qk < c
  · have i3 : decide ((nP s : Int) + 1 - (qk : Int) ≤ c) = true := decide_eq_true (by omega)
    clear hcx hx
    go_enter Try.func20, Try.ntmps20
    go_wp2_with (first | (go_at_call 42; refine (hF _ (mapAt_below hM0 bB)).mono ?_; rintro e w2 ⟨rfl, hb2⟩; have hB2 := bB.trans (hb2.mono bB.size); have d0 := b0.below' hb2; have e1 := d0.cell; have e2 := d0.frozen; have e3 := d0.lt; have y5 := hmX w2 hB2))
    exact bodyPost_ret (v := .tuple #[.agg #[.int .i64 0, .int .i64 0, .int .i64 0, .int .i64 0, .int .i64 0], .int .i64 5]) (by simp [results, Try.f20, go_sem, e1, e3]) rfl ⟨rfl, ((((hB2.setCell (p := ⟨w.heap.size, 0, none⟩) (by dsimp only; omega) _).setCell (p := ⟨w.heap.size, 1, none⟩) (by dsimp only; omega) _).setCell (p := ⟨w.heap.size, 2, none⟩) (by dsimp only; omega) _).setCell (p := ⟨w.heap.size, 3, none⟩) (by dsimp only; omega) _).setCell (p := ⟨w.heap.size, 4, none⟩) (by dsimp only; omega) _⟩
  · obtain ⟨J, hJ, hJi, hl⟩ := hx.resolve_left hfar
    have i3 : decide ((nP s : Int) + 1 - (qk : Int) ≤ c) = false := decide_eq_false (by omega)
    have hcy := hcx J hJ
    obtain ⟨p, hp⟩ : ∃ p, pK s J = p := ⟨_, rfl⟩
    rw [hp] at hcy hl
    clear hp hcx hfar
    obtain ⟨pb, pk, pu, pl, pc⟩ := p
    simp only at hl hcy
    have i4 : (J : Int) < (nP s : Int) + 1 := by omega
    have i5 : (0 : Int) ≤ (J : Int) := by omega
    have i6 : IntKind.i64.wrap (J : Int) = (J : Int) := IntWalk.i64_in _ (by omega)
    have i8 : ((pl : Int) != (k : Int)) = true := by rw [bne_iff_ne]; omega
    have HJ := Lib.hid hJi
    obtain rfl : c = (J : Int) - (qk : Int) := by omega
    have i9 : (qk : Int) + ((J : Int) - (qk : Int)) = (J : Int) := by omega
    clear hJi
    go_enter Try.func20, Try.ntmps20
    go_wp2_with (first | (go_at_call 42; refine (hF _ (mapAt_below hM0 bB)).mono ?_; rintro e w2 ⟨rfl, hb2⟩; have hB2 := bB.trans (hb2.mono bB.size); have d0 := b0.below' hb2; have e1 := d0.cell; have e2 := d0.frozen; have e3 := d0.lt; obtain ⟨y0, y1, y2, y3, y4⟩ := hcy w2 hB2; have y5 := hmX w2 hB2))
    exact bodyPost_ret (v := .tuple #[.agg #[.int .i64 0, .int .i64 0, .int .i64 0, .int .i64 0, .int .i64 0], .int .i64 5]) (by simp [results, Try.f20, go_sem, e1, e3]) rfl ⟨rfl, ((((hB2.setCell (p := ⟨w.heap.size, 0, none⟩) (by dsimp only; omega) _).setCell (p := ⟨w.heap.size, 1, none⟩) (by dsimp only; omega) _).setCell (p := ⟨w.heap.size, 2, none⟩) (by dsimp only; omega) _).setCell (p := ⟨w.heap.size, 3, none⟩) (by dsimp only; omega) _).setCell (p := ⟨w.heap.size, 4, none⟩) (by dsimp only; omega) _⟩

set_option maxHeartbeats 2000000 in
theorem unit_err (s : ByteArray) (hs : s.size ≤ 65536) (m : Nat) (w : World) (hM : MapAt s m w) (x : Int) (hx : x < 0 ∨ ((pK s (nP s)).u : Int) < x) :
    Calls Try.prog 19 #[.pointer (some ⟨m, 0, none⟩), .int .i64 x] w fun e w' => e = .returned (.tuple #[.agg #[.int .i64 0, .int .i64 0, .int .i64 0, .int .i64 0, .int .i64 0], .int .i64 0, .int .i64 5]) ∧ Below w.heap.size w w' := by
  have hE := fun W hM => end_any s hs m W hM
  have hub := pK_u_bound s (nP s)
  have hnP := nP_le s
  have bB := (((Below.refl _ w).alloc (Nat.le_refl _) (.cells #[.int .i64 x] 3)).alloc (by simp) (.cells #[.int .i64 0, .int .i64 0, .int .i64 0, .int .i64 0, .int .i64 0] 28)).drew
  have c0 := (show Blk _ _ _ _ from (Boxed.new w 3 (.int .i64 x)).alloc (.cells #[.int .i64 0, .int .i64 0, .int .i64 0, .int .i64 0, .int .i64 0] 28)).drew
  have c1 := (Blk.new (w.alloc (.cells #[.int .i64 x] 3)) #[.int .i64 0, .int .i64 0, .int .i64 0, .int .i64 0, .int .i64 0] 28).drew
  simp only [World.size_alloc] at c1
  obtain ⟨p, hp⟩ : ∃ p, pK s (nP s) = p := ⟨_, rfl⟩
  rw [hp] at hE hx hub
  clear hp
  obtain ⟨pb, pk, pu, pl, pc⟩ := p
  simp only [plV] at hE hx hub
  rcases hx with h | h
  · have k1 : decide (x < 0) = true := decide_eq_true h
    clear hE
    go_enter Try.func19, Try.ntmps19
    go_wp2
    obtain ⟨X0, hX0⟩ : ∃ X, ((w.alloc (.cells #[.int .i64 x] 3)).alloc (.cells #[.int .i64 0, .int .i64 0, .int .i64 0, .int .i64 0, .int .i64 0] 28)).drew = X := ⟨_, rfl⟩
    refine wp_region_noPanic ?_
    refine wp_region_g (S := untilG [] (fun X => Below X0.heap.size X0 X)) (by kernel_rfl) ?_
    rw [hX0] at c0 c1 bB ⊢
    have hM0 := mapAt_below hM bB
    have T0 : Below X0.heap.size X0 X0 := Below.refl _ _
    have ct := c0.cell 0
    simp only [List.getElem?_toArray, List.getElem?_cons_zero] at ct
    clear hX0
    refine wpAnyG_take [0, 1, 2, 3, 4, 5, 6, 7, 8] (i := 0) (v := (.int .i64 x)) rfl (by kernel_rfl) (by kernel_rfl) (by kernel_rfl) (by kernel_rfl) (by kernel_rfl) (by kernel_rfl) (by kernel_rfl) (by kernel_rfl) (fun _ _ _ h => h) (Or.inl ⟨by rfl, ?hy⟩) T0 ?_
    case hy =>
      intro X hX
      have e0 := at_below ct hX
      go_simp
    try simp only [Act.put, List.getElem_toArray, List.getElem_cons_zero, List.getElem_cons_succ, List.setIfInBounds_toArray, List.set_cons_zero, List.set_cons_succ]
    refine wpAnyG_take [1, 2, 3, 4, 5, 6, 7, 8] (i := 1) (v := (.bool true)) rfl (by kernel_rfl) (by kernel_rfl) (by kernel_rfl) (by kernel_rfl) (by kernel_rfl) (by kernel_rfl) (by kernel_rfl) (by kernel_rfl) (fun _ _ _ h => h) (Or.inl ⟨by rfl, ?hy⟩) T0 ?_
    case hy =>
      intro X hX
      go_simp
    try simp only [Act.put, List.getElem_toArray, List.getElem_cons_zero, List.getElem_cons_succ, List.setIfInBounds_toArray, List.set_cons_zero, List.set_cons_succ]
    refine wpAnyG_take [2, 3, 4, 5, 6, 7, 8] (i := 2) (v := (.bool true)) rfl (by kernel_rfl) (by kernel_rfl) (by kernel_rfl) (by kernel_rfl) (by kernel_rfl) (by kernel_rfl) (by kernel_rfl) (by kernel_rfl) (fun _ _ _ h => h) (Or.inl ⟨by rfl, ?hy⟩) T0 ?_
    case hy =>
      intro X hX
      go_simp
    try simp only [Act.put, List.getElem_toArray, List.getElem_cons_zero, List.getElem_cons_succ, List.setIfInBounds_toArray, List.set_cons_zero, List.set_cons_succ]
    refine wpAnyG_take [3, 7, 8] (i := 3) (v := undef) rfl (by kernel_rfl) (by kernel_rfl) (by kernel_rfl) (by kernel_rfl) (by kernel_rfl) (by kernel_rfl) (by kernel_rfl) (by kernel_rfl) (fun _ _ _ h => h) (Or.inr ⟨by rfl, rfl⟩) T0 ?_
    try simp only [Act.put, List.getElem_toArray, List.getElem_cons_zero, List.getElem_cons_succ, List.setIfInBounds_toArray, List.set_cons_zero, List.set_cons_succ]
    refine wpAnyG_take [4, 5, 6, 7, 8] (i := 4) (v := undef) rfl (by kernel_rfl) (by kernel_rfl) (by kernel_rfl) (by kernel_rfl) (by kernel_rfl) (by kernel_rfl) (by kernel_rfl) (by kernel_rfl) (fun _ _ _ h => h) (Or.inr ⟨by rfl, rfl⟩) T0 ?_
    try simp only [Act.put, List.getElem_toArray, List.getElem_cons_zero, List.getElem_cons_succ, List.setIfInBounds_toArray, List.set_cons_zero, List.set_cons_succ]
    refine wpAnyG_all (rs := [5]) (by kernel_rfl) (by simp) ?_
    intro i hi
    simp only [List.mem_cons, List.not_mem_nil, or_false] at hi
    subst hi
    refine wpOp_shut rfl (by rfl) ?_
    refine ⟨fun _ => T0, ?_⟩
    try simp only [Act.put, List.getElem_toArray, List.getElem_cons_zero, List.getElem_cons_succ, List.setIfInBounds_toArray, List.set_cons_zero, List.set_cons_succ]
    refine wpAnyG_take [6, 7, 8] (i := 6) (v := undef) rfl (by kernel_rfl) (by kernel_rfl) (by kernel_rfl) (by kernel_rfl) (by kernel_rfl) (by kernel_rfl) (by kernel_rfl) (by kernel_rfl) (fun _ _ _ h => h) (Or.inr ⟨by rfl, rfl⟩) T0 ?_
    try simp only [Act.put, List.getElem_toArray, List.getElem_cons_zero, List.getElem_cons_succ, List.setIfInBounds_toArray, List.set_cons_zero, List.set_cons_succ]
    refine wpAnyG_take [7, 8] (i := 7) (v := undef) rfl (by kernel_rfl) (by kernel_rfl) (by kernel_rfl) (by kernel_rfl) (by kernel_rfl) (by kernel_rfl) (by kernel_rfl) (by kernel_rfl) (fun _ _ _ h => h) (Or.inr ⟨by rfl, rfl⟩) T0 ?_
    try simp only [Act.put, List.getElem_toArray, List.getElem_cons_zero, List.getElem_cons_succ, List.setIfInBounds_toArray, List.set_cons_zero, List.set_cons_succ]
    refine wpAnyG_take [8] (i := 8) (v := (.bool true)) rfl (by kernel_rfl) (by kernel_rfl) (by kernel_rfl) (by kernel_rfl) (by kernel_rfl) (by kernel_rfl) (by kernel_rfl) (by kernel_rfl) (fun _ _ _ h => h) (Or.inl ⟨by rfl, ?hy⟩) T0 ?_
    case hy =>
      intro X hX
      go_simp
    try simp only [Act.put, List.getElem_toArray, List.getElem_cons_zero, List.getElem_cons_succ, List.setIfInBounds_toArray, List.set_cons_zero, List.set_cons_succ]
    refine wpAnyG_done (by kernel_rfl) ?_ _
    refine NoPanic.normal ?_
    have d1 := c1.cell
    have d2 := c1.frozen
    have d3 := c1.lt
    go_wp2
    exact bodyPost_ret (v := .tuple #[.agg #[.int .i64 0, .int .i64 0, .int .i64 0, .int .i64 0, .int .i64 0], .int .i64 0, .int .i64 5]) (by simp [results, Try.f19, go_sem, d1, d3]) rfl ⟨rfl, (((((bB).setCell (p := ⟨w.heap.size + 1, 0, none⟩) (by dsimp only; omega) _).setCell (p := ⟨w.heap.size + 1, 1, none⟩) (by dsimp only; omega) _).setCell (p := ⟨w.heap.size + 1, 2, none⟩) (by dsimp only; omega) _).setCell (p := ⟨w.heap.size + 1, 3, none⟩) (by dsimp only; omega) _).setCell (p := ⟨w.heap.size + 1, 4, none⟩) (by dsimp only; omega) _⟩
  · have k1 : decide (x < 0) = false := decide_eq_false (by omega)
    have k2 : decide ((pu : Int) < x) = true := decide_eq_true h
    go_enter Try.func19, Try.ntmps19
    go_wp2
    obtain ⟨X0, hX0⟩ : ∃ X, ((w.alloc (.cells #[.int .i64 x] 3)).alloc (.cells #[.int .i64 0, .int .i64 0, .int .i64 0, .int .i64 0, .int .i64 0] 28)).drew = X := ⟨_, rfl⟩
    refine wp_region_noPanic ?_
    refine wp_region_g (S := untilG [] (fun X => Below X0.heap.size X0 X)) (by kernel_rfl) ?_
    rw [hX0] at c0 c1 bB ⊢
    have hM0 := mapAt_below hM bB
    have T0 : Below X0.heap.size X0 X0 := Below.refl _ _
    have ct := c0.cell 0
    simp only [List.getElem?_toArray, List.getElem?_cons_zero] at ct
    clear hX0
    refine wpAnyG_take [0, 1, 2, 3, 4, 5, 6, 7, 8] (i := 0) (v := (.int .i64 x)) rfl (by kernel_rfl) (by kernel_rfl) (by kernel_rfl) (by kernel_rfl) (by kernel_rfl) (by kernel_rfl) (by kernel_rfl) (by kernel_rfl) (fun _ _ _ h => h) (Or.inl ⟨by rfl, ?hy⟩) T0 ?_
    case hy =>
      intro X hX
      have e0 := at_below ct hX
      go_simp
    try simp only [Act.put, List.getElem_toArray, List.getElem_cons_zero, List.getElem_cons_succ, List.setIfInBounds_toArray, List.set_cons_zero, List.set_cons_succ]
    refine wpAnyG_take [1, 2, 3, 4, 5, 6, 7, 8] (i := 1) (v := (.bool false)) rfl (by kernel_rfl) (by kernel_rfl) (by kernel_rfl) (by kernel_rfl) (by kernel_rfl) (by kernel_rfl) (by kernel_rfl) (by kernel_rfl) (fun _ _ _ h => h) (Or.inl ⟨by rfl, ?hy⟩) T0 ?_
    case hy =>
      intro X hX
      go_simp
    try simp only [Act.put, List.getElem_toArray, List.getElem_cons_zero, List.getElem_cons_succ, List.setIfInBounds_toArray, List.set_cons_zero, List.set_cons_succ]
    refine wpAnyG_take [2, 3, 4, 5, 6, 7, 8] (i := 2) (v := (.bool false)) rfl (by kernel_rfl) (by kernel_rfl) (by kernel_rfl) (by kernel_rfl) (by kernel_rfl) (by kernel_rfl) (by kernel_rfl) (by kernel_rfl) (fun _ _ _ h => h) (Or.inl ⟨by rfl, ?hy⟩) T0 ?_
    case hy =>
      intro X hX
      go_simp
    try simp only [Act.put, List.getElem_toArray, List.getElem_cons_zero, List.getElem_cons_succ, List.setIfInBounds_toArray, List.set_cons_zero, List.set_cons_succ]
    refine wpAnyG_take [3, 7, 8] (i := 3) (v := (.int .i64 x)) rfl (by kernel_rfl) (by kernel_rfl) (by kernel_rfl) (by kernel_rfl) (by kernel_rfl) (by kernel_rfl) (by kernel_rfl) (by kernel_rfl) (fun _ _ _ h => h) (Or.inl ⟨by rfl, ?hy⟩) T0 ?_
    case hy =>
      intro X hX
      have e0 := at_below ct hX
      go_simp
    try simp only [Act.put, List.getElem_toArray, List.getElem_cons_zero, List.getElem_cons_succ, List.setIfInBounds_toArray, List.set_cons_zero, List.set_cons_succ]
    refine wpAnyG_take [4, 5, 6, 7, 8] (i := 4) (v := (.pointer (some ⟨m, 0, none⟩))) rfl (by kernel_rfl) (by kernel_rfl) (by kernel_rfl) (by kernel_rfl) (by kernel_rfl) (by kernel_rfl) (by kernel_rfl) (by kernel_rfl) (fun _ _ _ h => h) (Or.inl ⟨by rfl, ?hy⟩) T0 ?_
    case hy =>
      intro X hX
      go_simp
    try simp only [Act.put, List.getElem_toArray, List.getElem_cons_zero, List.getElem_cons_succ, List.setIfInBounds_toArray, List.set_cons_zero, List.set_cons_succ]
    refine wpAnyG_all (rs := [5]) (by kernel_rfl) (by simp) ?_
    intro i hi
    simp only [List.mem_cons, List.not_mem_nil, or_false] at hi
    subst hi
    refine wpOp_open rfl (by rfl) ?_
    go_simp
    refine (hE X0 hM0).mono ?_
    rintro e W0 ⟨rfl, hbe⟩
    replace T0 := hbe
    refine ⟨fun _ => T0, ?_⟩
    try simp only [Act.put, List.getElem_toArray, List.getElem_cons_zero, List.getElem_cons_succ, List.setIfInBounds_toArray, List.set_cons_zero, List.set_cons_succ]
    refine wpAnyG_take [6, 7, 8] (i := 6) (v := (.int .i64 pu)) rfl (by kernel_rfl) (by kernel_rfl) (by kernel_rfl) (by kernel_rfl) (by kernel_rfl) (by kernel_rfl) (by kernel_rfl) (by kernel_rfl) (fun _ _ _ h => h) (Or.inl ⟨by rfl, ?hy⟩) T0 ?_
    case hy =>
      intro X hX
      have e9 := fun (X : World) => field_u (.int .i64 pb) (.int .i64 pk) (.int .i64 pu) (.int .i64 pl) (.int .i64 pc) X rfl
      go_simp
    try simp only [Act.put, List.getElem_toArray, List.getElem_cons_zero, List.getElem_cons_succ, List.setIfInBounds_toArray, List.set_cons_zero, List.set_cons_succ]
    refine wpAnyG_take [7, 8] (i := 7) (v := (.bool true)) rfl (by kernel_rfl) (by kernel_rfl) (by kernel_rfl) (by kernel_rfl) (by kernel_rfl) (by kernel_rfl) (by kernel_rfl) (by kernel_rfl) (fun _ _ _ h => h) (Or.inl ⟨by rfl, ?hy⟩) T0 ?_
    case hy =>
      intro X hX
      go_simp
    try simp only [Act.put, List.getElem_toArray, List.getElem_cons_zero, List.getElem_cons_succ, List.setIfInBounds_toArray, List.set_cons_zero, List.set_cons_succ]
    refine wpAnyG_take [8] (i := 8) (v := (.bool true)) rfl (by kernel_rfl) (by kernel_rfl) (by kernel_rfl) (by kernel_rfl) (by kernel_rfl) (by kernel_rfl) (by kernel_rfl) (by kernel_rfl) (fun _ _ _ h => h) (Or.inl ⟨by rfl, ?hy⟩) T0 ?_
    case hy =>
      intro X hX
      go_simp
    try simp only [Act.put, List.getElem_toArray, List.getElem_cons_zero, List.getElem_cons_succ, List.setIfInBounds_toArray, List.set_cons_zero, List.set_cons_succ]
    refine wpAnyG_done (by kernel_rfl) ?_ _
    refine NoPanic.normal ?_
    have d0 := c1.below' hbe
    have d1 := d0.cell
    have d2 := d0.frozen
    have d3 := d0.lt
    have hB9 := bB.trans (hbe.mono bB.size)
    go_wp2
    exact bodyPost_ret (v := .tuple #[.agg #[.int .i64 0, .int .i64 0, .int .i64 0, .int .i64 0, .int .i64 0], .int .i64 0, .int .i64 5]) (by simp [results, Try.f19, go_sem, d1, d3]) rfl ⟨rfl, (((((hB9).setCell (p := ⟨w.heap.size + 1, 0, none⟩) (by dsimp only; omega) _).setCell (p := ⟨w.heap.size + 1, 1, none⟩) (by dsimp only; omega) _).setCell (p := ⟨w.heap.size + 1, 2, none⟩) (by dsimp only; omega) _).setCell (p := ⟨w.heap.size + 1, 3, none⟩) (by dsimp only; omega) _).setCell (p := ⟨w.heap.size + 1, 4, none⟩) (by dsimp only; omega) _⟩
end Go.Proofs.Ytjlfdoonhfkabaa
