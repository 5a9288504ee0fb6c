/- The document's Rune and Line of layer 2; what is none. -/
import Derived.Test.YtjlfdoonhfkabaaRb
namespace Go.Proofs.Ytjlfdoonhfkabaa
set_option linter.unusedVariables false
set_option linter.unusedSimpArgs false
open Go Go.RowKit Go.Shelf
set_option maxRecDepth 100000

set_option maxHeartbeats 2000000 in
theorem rByte_err (s : ByteArray) (w : World) (x : Int) (hx : x < 0 ∨ (s.size : Int) < x) :
    Calls Try.prog 27 #[.string s, .int .i64 x] w fun e w' => e = .returned (.tuple #[.agg #[.int .i64 0, .int .i64 0, .int .i64 0, .int .i64 0, .int .i64 0], .int .i64 0, .bool false]) ∧ Below w.heap.size w w' := by
  have b4 := Blk.new w #[.int .i64 0, .int .i64 0, .int .i64 0, .int .i64 0, .int .i64 0] 28
  have bB : Below w.heap.size w (w.alloc (.cells #[.int .i64 0, .int .i64 0, .int .i64 0, .int .i64 0, .int .i64 0] 28)) := (Below.refl _ w).alloc (Nat.le_refl _) _
  rcases hx with h | h
  · have k1 : decide (x < 0) = true := decide_eq_true h
    go_enter Try.func27, Try.ntmps27
    go_wp2
    exact bodyPost_ret (v := .tuple #[.agg #[.int .i64 0, .int .i64 0, .int .i64 0, .int .i64 0, .int .i64 0], .int .i64 0, .bool false]) (by simp [results, Try.f27, go_sem]) rfl ⟨rfl, bB⟩
  · have k1 : decide (x < 0) = false := decide_eq_false (by omega)
    have k2 : decide ((s.size : Int) < x) = true := decide_eq_true h
    go_enter Try.func27, Try.ntmps27
    go_wp2
    exact bodyPost_ret (v := .tuple #[.agg #[.int .i64 0, .int .i64 0, .int .i64 0, .int .i64 0, .int .i64 0], .int .i64 0, .bool false]) (by simp [results, Try.f27, go_sem]) rfl ⟨rfl, bB⟩

set_option maxHeartbeats 4000000 in
theorem rUnit_err (s : ByteArray) (hs : s.size ≤ 65536) (w : World) (x : Int) (hx : x < 0 ∨ ((pK s (nP s)).u : Int) < x) :
    Calls Try.prog 29 #[.string s, .int .i64 x] w fun e w' => e = .returned (.tuple #[.agg #[.int .i64 0, .int .i64 0, .int .i64 0, .int .i64 0, .int .i64 0], .int .i64 0, .bool false]) ∧ Below w.heap.size w w' := by
  have hnP := nP_le s
  have b4 := Blk.new w #[.int .i64 0, .int .i64 0, .int .i64 0, .int .i64 0, .int .i64 0] 28
  have bB : Below w.heap.size w (w.alloc (.cells #[.int .i64 0, .int .i64 0, .int .i64 0, .int .i64 0, .int .i64 0] 28)) := (Below.refl _ w).alloc (Nat.le_refl _) _
  go_enter Try.func29, Try.ntmps29
  go_wp2_with (fail)
  refine (placesD_any s hs _).mono ?_
  rintro e w1 ⟨v, base, rfl, hbase, hv, hB1⟩
  have c4 := b4.below' hB1
  have cB := bB.trans (hB1.mono bB.size)
  obtain ⟨g, cap, rfl⟩ := ownsRow_succ hv
  have hgb := (hv.lt g rfl).1
  have hgn : g ≠ w.heap.size := by simp at hbase; omega
  have hrow := fun k (hk : k ≤ nP s) => row_pl hv (Below.refl w1.heap.size w1) hk
  clear hB1 b4 bB hv
  obtain ⟨y0, y1, y2, y3, y4⟩ := hrow (nP s) (Nat.le_refl _)
  clear hrow
  obtain ⟨n, hn⟩ : ∃ n, nP s = n := ⟨_, rfl⟩
  rw [hn] at hnP hx y2 ⊢
  clear y0 y1 y3 y4 hn
  obtain ⟨eu, heu⟩ : ∃ u, (pK s n).u = u := ⟨_, rfl⟩
  rw [heu] at y2 hx
  clear heu
  have n0 : IntKind.i64.wrap (n : Int) = (n : Int) := IntWalk.i64_in _ (by omega)
  have n1 : (0 : Int) ≤ (n : Int) := by omega
  have n2 : (n : Int) < (n : Int) + 1 := by omega
  have n3 : (n : Int) + 1 - 1 = (n : Int) := by omega
  by_cases h : x < 0
  · have k1 : decide (x < 0) = true := decide_eq_true h
    have k0 := c4.cell
    have k2' := c4.frozen
    have k3 := c4.lt
    go_wp2
    exact bodyPost_ret (v := .tuple #[.agg #[.int .i64 0, .int .i64 0, .int .i64 0, .int .i64 0, .int .i64 0], .int .i64 0, .bool false]) (by simp [results, Try.f29, go_sem, k0, k3]) rfl ⟨rfl, ((((cB.setCell (p := ⟨w.heap.size, 0, none⟩) (by dsimp only; omega) _).setCell (p := ⟨w.heap.size, 1, none⟩) (by dsimp only; omega) _).setCell (p := ⟨w.heap.size, 2, none⟩) (by dsimp only; omega) _).setCell (p := ⟨w.heap.size, 3, none⟩) (by dsimp only; omega) _).setCell (p := ⟨w.heap.size, 4, none⟩) (by dsimp only; omega) _⟩
  · have k1 : decide (x < 0) = false := decide_eq_false h
    have k2 : decide ((eu : Int) < x) = true := decide_eq_true (hx.resolve_left h)
    have k0 := c4.cell
    have k2' := c4.frozen
    have k3 := c4.lt
    go_wp2
    exact bodyPost_ret (v := .tuple #[.agg #[.int .i64 0, .int .i64 0, .int .i64 0, .int .i64 0, .int .i64 0], .int .i64 0, .bool false]) (by simp [results, Try.f29, go_sem, k0, k3]) rfl ⟨rfl, ((((cB.setCell (p := ⟨w.heap.size, 0, none⟩) (by dsimp only; omega) _).setCell (p := ⟨w.heap.size, 1, none⟩) (by dsimp only; omega) _).setCell (p := ⟨w.heap.size, 2, none⟩) (by dsimp only; omega) _).setCell (p := ⟨w.heap.size, 3, none⟩) (by dsimp only; omega) _).setCell (p := ⟨w.heap.size, 4, none⟩) (by dsimp only; omega) _⟩

set_option maxHeartbeats 4000000 in
theorem rRune_err (s : ByteArray) (hs : s.size ≤ 65536) (w : World) (x : Int) (hx : x < 0 ∨ (nP s : Int) < x) :
    Calls Try.prog 28 #[.string s, .int .i64 x] w fun e w' => e = .returned (.tuple #[.agg #[.int .i64 0, .int .i64 0, .int .i64 0, .int .i64 0, .int .i64 0], .bool false]) ∧ Below w.heap.size w w' := by
  have hnP := nP_le s
  have b4 := Blk.new w #[.int .i64 0, .int .i64 0, .int .i64 0, .int .i64 0, .int .i64 0] 28
  have bB : Below w.heap.size w (w.alloc (.cells #[.int .i64 0, .int .i64 0, .int .i64 0, .int .i64 0, .int .i64 0] 28)) := (Below.refl _ w).alloc (Nat.le_refl _) _
  go_enter Try.func28, Try.ntmps28
  go_wp2_with (fail)
  refine (placesD_any s hs _).mono ?_
  rintro e w1 ⟨v, base, rfl, hbase, hv, hB1⟩
  have c4 := b4.below' hB1
  have cB := bB.trans (hB1.mono bB.size)
  obtain ⟨g, cap, rfl⟩ := ownsRow_succ hv
  have hgb := (hv.lt g rfl).1
  have hgn : g ≠ w.heap.size := by simp at hbase; omega
  have hrow := fun k (hk : k ≤ nP s) => row_pl hv (Below.refl w1.heap.size w1) hk
  clear hB1 b4 bB hv
  obtain ⟨y0, y1, y2, y3, y4⟩ := hrow (nP s) (Nat.le_refl _)
  clear hrow
  obtain ⟨n, hn⟩ : ∃ n, nP s = n := ⟨_, rfl⟩
  rw [hn] at hnP hx y2 ⊢
  clear y0 y1 y3 y4 hn
  obtain ⟨eu, heu⟩ : ∃ u, (pK s n).u = u := ⟨_, rfl⟩
  rw [heu] at y2
  clear heu
  have n0 : IntKind.i64.wrap (n : Int) = (n : Int) := IntWalk.i64_in _ (by omega)
  have n1 : (0 : Int) ≤ (n : Int) := by omega
  have n2 : (n : Int) < (n : Int) + 1 := by omega
  have n3 : (n : Int) + 1 - 1 = (n : Int) := by omega
  by_cases h : x < 0
  · have k1 : decide (x < 0) = true := decide_eq_true h
    have k0 := c4.cell
    have k2' := c4.frozen
    have k3 := c4.lt
    go_wp2
    exact bodyPost_ret (v := .tuple #[.agg #[.int .i64 0, .int .i64 0, .int .i64 0, .int .i64 0, .int .i64 0], .bool false]) (by simp [results, Try.f28, go_sem, k0, k3]) rfl ⟨rfl, ((((cB.setCell (p := ⟨w.heap.size, 0, none⟩) (by dsimp only; omega) _).setCell (p := ⟨w.heap.size, 1, none⟩) (by dsimp only; omega) _).setCell (p := ⟨w.heap.size, 2, none⟩) (by dsimp only; omega) _).setCell (p := ⟨w.heap.size, 3, none⟩) (by dsimp only; omega) _).setCell (p := ⟨w.heap.size, 4, none⟩) (by dsimp only; omega) _⟩
  · have k1 : decide (x < 0) = false := decide_eq_false h
    have k2 : decide ((n : Int) + 1 ≤ x) = true := decide_eq_true (by have := hx.resolve_left h; omega)
    have k0 := c4.cell
    have k2' := c4.frozen
    have k3 := c4.lt
    go_wp2
    exact bodyPost_ret (v := .tuple #[.agg #[.int .i64 0, .int .i64 0, .int .i64 0, .int .i64 0, .int .i64 0], .bool false]) (by simp [results, Try.f28, go_sem, k0, k3]) rfl ⟨rfl, ((((cB.setCell (p := ⟨w.heap.size, 0, none⟩) (by dsimp only; omega) _).setCell (p := ⟨w.heap.size, 1, none⟩) (by dsimp only; omega) _).setCell (p := ⟨w.heap.size, 2, none⟩) (by dsimp only; omega) _).setCell (p := ⟨w.heap.size, 3, none⟩) (by dsimp only; omega) _).setCell (p := ⟨w.heap.size, 4, none⟩) (by dsimp only; omega) _⟩

set_option maxHeartbeats 4000000 in
theorem rRune_ok (s : ByteArray) (hs : s.size ≤ 65536) (w : World) (x : Nat) (hx : x ≤ nP s) :
    Calls Try.prog 28 #[.string s, .int .i64 x] w fun e w' => e = .returned (.tuple #[plV (pK s x), .bool true]) ∧ Below w.heap.size w w' := by
  have hnP := nP_le s
  have b4 := Blk.new w #[.int .i64 0, .int .i64 0, .int .i64 0, .int .i64 0, .int .i64 0] 28
  have bB : Below w.heap.size w (w.alloc (.cells #[.int .i64 0, .int .i64 0, .int .i64 0, .int .i64 0, .int .i64 0] 28)) := (Below.refl _ w).alloc (Nat.le_refl _) _
  have k1 : decide ((x : Int) < 0) = false := decide_eq_false (by omega)
  have k2 : decide ((nP s : Int) + 1 ≤ (x : Int)) = false := decide_eq_false (by omega)
  have k4 : (0 : Int) ≤ (x : Int) := by omega
  have k5 : (x : Int) < (nP s : Int) + 1 := by omega
  obtain ⟨p, hp⟩ : ∃ p, pK s x = p := ⟨_, rfl⟩
  rw [hp]
  have HP := Lib.hid hp
  clear hp
  obtain ⟨pb, pk, pu, pl, pc⟩ := p
  simp only [plV]
  go_enter Try.func28, Try.ntmps28
  go_wp2_with (fail)
  refine (placesD_any s hs _).mono ?_
  rintro e w1 ⟨v, base, rfl, hbase, hv, hB1⟩
  have c4 := b4.below' hB1
  have cB := bB.trans (hB1.mono bB.size)
  obtain ⟨g, cap, rfl⟩ := ownsRow_succ hv
  have hgb := (hv.lt g rfl).1
  have hgn : g ≠ w.heap.size := by simp at hbase; omega
  have hrow := fun k (hk : k ≤ nP s) => row_pl hv (Below.refl w1.heap.size w1) hk
  clear hB1 b4 bB hv
  obtain ⟨y0, y1, y2, y3, y4⟩ := hrow x hx
  rw [HP.out] at y0 y1 y2 y3 y4
  simp only at y0 y1 y2 y3 y4
  clear hrow
  have k0 := c4.cell
  have k2' := c4.frozen
  have k3 := c4.lt
  go_wp2
  refine bodyPost_ret (v := .tuple #[.agg #[.int .i64 pb, .int .i64 pk, .int .i64 pu, .int .i64 pl, .int .i64 pc], .bool true]) (by simp [results, Try.f28, go_sem, k0, k3]) rfl ⟨rfl, ((((cB.setCell (p := ⟨w.heap.size, 0, none⟩) (by dsimp only; omega) _).setCell (p := ⟨w.heap.size, 1, none⟩) (by dsimp only; omega) _).setCell (p := ⟨w.heap.size, 2, none⟩) (by dsimp only; omega) _).setCell (p := ⟨w.heap.size, 3, none⟩) (by dsimp only; omega) _).setCell (p := ⟨w.heap.size, 4, none⟩) (by dsimp only; omega) _⟩

set_option maxHeartbeats 8000000 in
theorem rLine_ok (s : ByteArray) (hs : s.size ≤ 65536) (w : World) (line col : Int) (J : Nat) (hJ : J ≤ nP s) (hl : ((pK s J).l : Int) = line) (hc : ((pK s J).c : Int) = col) (hno : ∀ i, i < J → ¬ (((pK s i).l : Int) = line ∧ ((pK s i).c : Int) = col)) :
    Calls Try.prog 30 #[.string s, .int .i64 line, .int .i64 col] w fun e w' => e = .returned (.tuple #[plV (pK s J), .bool true]) ∧ Below w.heap.size w w' := by
  have hnP := nP_le s
  obtain ⟨p, hp⟩ : ∃ p, pK s J = p := ⟨_, rfl⟩
  rw [hp]
  have HP := Lib.hid hp
  have HLC := Lib.hid (And.intro hl hc)
  clear hp hl hc
  obtain ⟨pb, pk, pu, pl, pc⟩ := p
  simp only [plV]
  have b4 := Blk.new w #[.int .i64 0, .int .i64 0, .int .i64 0, .int .i64 0, .int .i64 0] 28
  have bB : Below w.heap.size w (w.alloc (.cells #[.int .i64 0, .int .i64 0, .int .i64 0, .int .i64 0, .int .i64 0] 28)) := (Below.refl _ w).alloc (Nat.le_refl _) _
  go_enter Try.func30, Try.ntmps30
  go_wp2_with (fail)
  refine (placesD_any s hs _).mono ?_
  rintro e w1 ⟨v, base, rfl, hbase, hv, hB1⟩
  have c4 := b4.below' hB1
  have cB := bB.trans (hB1.mono bB.size)
  obtain ⟨g, cap, rfl⟩ := ownsRow_succ hv
  have hgb := (hv.lt g rfl).1
  have hgn : g ≠ w.heap.size := by simp at hbase; omega
  have hrow := fun k (hk : k ≤ nP s) => row_pl hv (Below.refl w1.heap.size w1) hk
  clear hB1 b4 bB hv
  obtain ⟨n, hn⟩ : ∃ n, nP s = n := ⟨_, rfl⟩
  rw [hn] at hnP hrow hJ ⊢
  have HROW := Lib.hid hrow
  have HNO := Lib.hid hno
  clear hn hrow hno
  go_wp2
  go_loopw [9] (fun iv wr => ∃ i : Nat, iv = .int .i64 i ∧ i ≤ J ∧ wr = w1) (fun iv _ => n + 2 - (intOf iv).toNat)
  case atStart => exact ⟨0, by first | rfl | go_num, Nat.zero_le _, by first | rfl | trivial⟩
  case round =>
    obtain ⟨i, rfl, hin, rfl⟩ := hrel
    have i0 : (0 : Int) ≤ (i : Int) := by omega
    by_cases hij : i < J
    · have i1 : (i : Int) < (n : Int) + 1 := by omega
      obtain ⟨z0, z1, z2, z3, z4⟩ := HROW.out i (by omega)
      have hni := HNO.out i (by omega)
      by_cases hl : ((pK s i).l : Int) = line
      · have hc : ¬ ((pK s i).c : Int) = col := fun h => hni ⟨hl, h⟩
        have d1 : (((pK s i).l : Int) == line) = true := by rw [beq_iff_eq]; exact hl
        have d2 : (((pK s i).c : Int) == col) = false := by rw [beq_eq_false_iff_ne]; exact hc
        obtain ⟨zl, hzl⟩ : ∃ z : Int, ((pK s i).l : Int) = z := ⟨_, rfl⟩
        obtain ⟨zc, hzc⟩ : ∃ z : Int, ((pK s i).c : Int) = z := ⟨_, rfl⟩
        rw [hzl] at d1 z3
        rw [hzc] at d2 z4
        clear hl hc hni z0 z1 z2 hzl hzc
        go_wp2
        go_roundw
        case rel => exact ⟨i + 1, by first | rfl | go_num, by omega, by first | rfl | trivial⟩
        case measure => simp [intOf]; omega
      · have d1 : (((pK s i).l : Int) == line) = false := by rw [beq_eq_false_iff_ne]; exact hl
        obtain ⟨zl, hzl⟩ : ∃ z : Int, ((pK s i).l : Int) = z := ⟨_, rfl⟩
        rw [hzl] at d1 z3
        clear hl hni z0 z1 z2 z4 hzl
        go_wp2
        go_roundw
        case rel => exact ⟨i + 1, by first | rfl | go_num, by omega, by first | rfl | trivial⟩
        case measure => simp [intOf]; omega
    · have hie : i = J := by omega
      subst hie
      have i1 : (i : Int) < (n : Int) + 1 := by omega
      obtain ⟨z0, z1, z2, z3, z4⟩ := HROW.out i (by omega)
      have hl := HLC.out.1
      have hc := HLC.out.2
      rw [HP.out] at z0 z1 z2 z3 z4 hl hc
      simp only at z0 z1 z2 z3 z4 hl hc
      subst hl hc
      have k0 := c4.cell
      have k2' := c4.frozen
      have k3 := c4.lt
      go_wp2
      refine bodyPost_ret (v := .tuple #[.agg #[.int .i64 pb, .int .i64 pk, .int .i64 pu, .int .i64 pl, .int .i64 pc], .bool true]) (by simp [results, Try.f30, go_sem, k0, k3]) rfl ⟨rfl, ((((cB.setCell (p := ⟨w.heap.size, 0, none⟩) (by dsimp only; omega) _).setCell (p := ⟨w.heap.size, 1, none⟩) (by dsimp only; omega) _).setCell (p := ⟨w.heap.size, 2, none⟩) (by dsimp only; omega) _).setCell (p := ⟨w.heap.size, 3, none⟩) (by dsimp only; omega) _).setCell (p := ⟨w.heap.size, 4, none⟩) (by dsimp only; omega) _⟩

set_option maxHeartbeats 8000000 in
theorem rLine_no (s : ByteArray) (hs : s.size ≤ 65536) (w : World) (line col : Int) (hno : ∀ i, i ≤ nP s → ¬ (((pK s i).l : Int) = line ∧ ((pK s i).c : Int) = col)) :
    Calls Try.prog 30 #[.string s, .int .i64 line, .int .i64 col] w fun e w' => e = .returned (.tuple #[.agg #[.int .i64 0, .int .i64 0, .int .i64 0, .int .i64 0, .int .i64 0], .bool false]) ∧ Below w.heap.size w w' := by
  have hnP := nP_le s
  have b4 := Blk.new w #[.int .i64 0, .int .i64 0, .int .i64 0, .int .i64 0, .int .i64 0] 28
  have bB : Below w.heap.size w (w.alloc (.cells #[.int .i64 0, .int .i64 0, .int .i64 0, .int .i64 0, .int .i64 0] 28)) := (Below.refl _ w).alloc (Nat.le_refl _) _
  go_enter Try.func30, Try.ntmps30
  go_wp2_with (fail)
  refine (placesD_any s hs _).mono ?_
  rintro e w1 ⟨v, base, rfl, hbase, hv, hB1⟩
  have c4 := b4.below' hB1
  have cB := bB.trans (hB1.mono bB.size)
  obtain ⟨g, cap, rfl⟩ := ownsRow_succ hv
  have hgb := (hv.lt g rfl).1
  have hgn : g ≠ w.heap.size := by simp at hbase; omega
  have hrow := fun k (hk : k ≤ nP s) => row_pl hv (Below.refl w1.heap.size w1) hk
  clear hB1 b4 bB hv
  obtain ⟨n, hn⟩ : ∃ n, nP s = n := ⟨_, rfl⟩
  rw [hn] at hnP hrow hno ⊢
  have HROW := Lib.hid hrow
  have HNO := Lib.hid hno
  clear hn hrow hno
  go_wp2
  go_loopw [9] (fun iv wr => ∃ i : Nat, iv = .int .i64 i ∧ i ≤ n + 1 ∧ wr = w1) (fun iv _ => n + 2 - (intOf iv).toNat)
  case atStart => exact ⟨0, by first | rfl | go_num, Nat.zero_le _, by first | rfl | trivial⟩
  case round =>
    obtain ⟨i, rfl, hin, rfl⟩ := hrel
    have i0 : (0 : Int) ≤ (i : Int) := by omega
    by_cases hij : i < n + 1
    · have i1 : (i : Int) < (n : Int) + 1 := by omega
      obtain ⟨z0, z1, z2, z3, z4⟩ := HROW.out i (by omega)
      have hni := HNO.out i (by omega)
      by_cases hl : ((pK s i).l : Int) = line
      · have hc : ¬ ((pK s i).c : Int) = col := fun h => hni ⟨hl, h⟩
        have d1 : (((pK s i).l : Int) == line) = true := by rw [beq_iff_eq]; exact hl
        have d2 : (((pK s i).c : Int) == col) = false := by rw [beq_eq_false_iff_ne]; exact hc
        obtain ⟨zl, hzl⟩ : ∃ z : Int, ((pK s i).l : Int) = z := ⟨_, rfl⟩
        obtain ⟨zc, hzc⟩ : ∃ z : Int, ((pK s i).c : Int) = z := ⟨_, rfl⟩
        rw [hzl] at d1 z3
        rw [hzc] at d2 z4
        clear hl hc hni z0 z1 z2 hzl hzc
        go_wp2
        go_roundw
        case rel => exact ⟨i + 1, by first | rfl | go_num, by omega, by first | rfl | trivial⟩
        case measure => simp [intOf]; omega
      · have d1 : (((pK s i).l : Int) == line) = false := by rw [beq_eq_false_iff_ne]; exact hl
        obtain ⟨zl, hzl⟩ : ∃ z : Int, ((pK s i).l : Int) = z := ⟨_, rfl⟩
        rw [hzl] at d1 z3
        clear hl hni z0 z1 z2 z4 hzl
        go_wp2
        go_roundw
        case rel => exact ⟨i + 1, by first | rfl | go_num, by omega, by first | rfl | trivial⟩
        case measure => simp [intOf]; omega
    · have hie : i = n + 1 := by omega
      have hlt : ¬ (i : Int) < (n : Int) + 1 := by omega
      have hlt2 : decide ((i : Int) < (n : Int) + 1) = false := decide_eq_false hlt
      clear hie
      have k0 := c4.cell
      have k2' := c4.frozen
      have k3 := c4.lt
      go_wp2
      refine bodyPost_ret (v := .tuple #[.agg #[.int .i64 0, .int .i64 0, .int .i64 0, .int .i64 0, .int .i64 0], .bool false]) (by simp [results, Try.f30, go_sem, k0, k3]) rfl ⟨rfl, ((((cB.setCell (p := ⟨w.heap.size, 0, none⟩) (by dsimp only; omega) _).setCell (p := ⟨w.heap.size, 1, none⟩) (by dsimp only; omega) _).setCell (p := ⟨w.heap.size, 2, none⟩) (by dsimp only; omega) _).setCell (p := ⟨w.heap.size, 3, none⟩) (by dsimp only; omega) _).setCell (p := ⟨w.heap.size, 4, none⟩) (by dsimp only; omega) _⟩

end Go.Proofs.Ytjlfdoonhfkabaa
