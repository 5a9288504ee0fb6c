/- The document's Byte, Rune, Unit and Line of layer 2. -/
import Derived.Test.YtjlfdoonhfkabaaRq
namespace Go.Proofs.Ytjlfdoonhfkabaa
set_option linter.unusedVariables false
set_option linter.unusedSimpArgs false
open Go Go.RowKit Go.Shelf
set_option maxRecDepth 100000

/-- The places, where they lie in a later world. -/
theorem row_pl {s : ByteArray} {W X : World} {base g cap : Nat} (h : W.ownsRow base 28 5 (.slice (some ⟨g, 0, none⟩) (nP s + 1) cap) (nP s + 1) (plS s (nP s + 1))) (hX : Below W.heap.size W X) {k : Nat} (hk : k ≤ nP s) :
    X.cell? ⟨g, k * 5, none⟩ = some (.int .i64 (pK s k).b) ∧ X.cell? ⟨g, k * 5 + 1, none⟩ = some (.int .i64 (pK s k).k) ∧ X.cell? ⟨g, k * 5 + 2, none⟩ = some (.int .i64 (pK s k).u) ∧ X.cell? ⟨g, k * 5 + 3, none⟩ = some (.int .i64 (pK s k).l) ∧ X.cell? ⟨g, k * 5 + 4, none⟩ = some (.int .i64 (pK s k).c) :=
  map_cells (fun j hj => (own_below h hX).cellAt j hj) hk

set_option maxHeartbeats 8000000 in
theorem rByte_ok (s : ByteArray) (hs : s.size ≤ 65536) (w : World) (x : Nat) (hx : x ≤ s.size) (j : Nat) (hj : j ≤ nP s) (h1 : (pK s j).b ≤ x) (h2 : j < nP s → x < (pK s (j + 1)).b) :
    Calls Try.prog 27 #[.string s, .int .i64 x] w fun e w' => e = .returned (.tuple #[plV (pK s j), .int .i64 (x - (pK s j).b : Nat), .bool true]) ∧ Below w.heap.size w w' := by
  have hnP := nP_le s
  have hub := pK_u_bound s (nP s)
  have hx0 : decide ((x : Int) < 0) = false := decide_eq_false (by omega)
  have hx1 : decide ((s.size : Int) < (x : Int)) = false := decide_eq_false (by omega)
  have b4 := Blk.new w #[.int .i64 0, .int .i64 0, .int .i64 0, .int .i64 0, .int .i64 0] 28
  have bB : Below w.heap.size w (w.alloc (.cells #[.int .i64 0, .int .i64 0, .int .i64 0, .int .i64 0, .int .i64 0] 28)) := (Below.refl _ w).alloc (Nat.le_refl _) _
  have hjb := h1
  have hgt : ∀ i, j < i → i ≤ nP s → x < (pK s i).b := fun i h3 h4 => by
    have h5 := h2 (by omega)
    have h6 := pK_b_le s (show j + 1 ≤ i by omega)
    omega
  obtain ⟨p, hp⟩ : ∃ p, pK s j = p := ⟨_, rfl⟩
  rw [hp] at h1 ⊢
  have HP := Lib.hid hp
  clear hp h2 hjb
  obtain ⟨pb, pk, pu, pl, pc⟩ := p
  simp only at h1
  have hsub : (x : Int) - (pb : Int) = ((x - pb : Nat) : Int) := by omega
  obtain ⟨q, hq⟩ : ∃ q, x - pb = q := ⟨_, rfl⟩
  simp only [hq, plV] at hsub ⊢
  have hql : q ≤ x := by omega
  have hwr : IntKind.i64.wrap (q : Int) = (q : Int) := IntWalk.i64_in _ (by omega)
  clear hq
  go_enter Try.func27, Try.ntmps27
  go_wp2_with (fail)
  refine (placesD_any s hs _).mono ?_
  rintro e w1 ⟨v, base, rfl, hbase, hv, hB1⟩
  have c4 := b4.below' hB1
  have cB := bB.trans (hB1.mono bB.size)
  obtain ⟨g, cap, rfl⟩ := ownsRow_succ hv
  have hgb := (hv.lt g rfl).1
  have hgn : g ≠ w.heap.size := by simp at hbase; omega
  have hrow := fun k (hk : k ≤ nP s) => row_pl hv (Below.refl w1.heap.size w1) hk
  clear hB1 b4 bB hv

  obtain ⟨n, hn⟩ : ∃ n, nP s = n := ⟨_, rfl⟩
  have hpe := pK s n
  rw [hn] at hnP hub hj hrow hgt ⊢
  have HROW := Lib.hid hrow
  have HGT := Lib.hid hgt
  clear hn hgt
  have n0 : IntKind.i64.wrap (n : Int) = (n : Int) := IntWalk.i64_in _ (by omega)
  have n1 : (0 : Int) ≤ (n : Int) := by omega
  have n2 : (n : Int) < (n : Int) + 1 := by omega
  have n3 : (n : Int) + 1 - 1 = (n : Int) := by omega
  clear hrow hpe
  go_wp2
  go_loopw [8] (fun iv wr => ∃ i : Nat, iv = .int .i64 i ∧ j ≤ i ∧ i ≤ n ∧ wr = w1) (fun iv _ => (intOf iv).toNat)
  case atStart => exact ⟨n, by first | rfl | go_num, hj, Nat.le_refl _, by first | rfl | trivial⟩
  case round =>
    obtain ⟨i, rfl, hji, hin, rfl⟩ := hrel
    have i0 : (0 : Int) ≤ (i : Int) := by omega
    have i1 : (i : Int) < (n : Int) + 1 := by omega
    obtain ⟨z0, z1, z2, z3, z4⟩ := HROW.out i hin
    by_cases hij : j < i
    · have hgi := HGT.out i hij hin
      have d1 : decide ((x : Int) < ((pK s i).b : Int)) = true := decide_eq_true (by omega)
      have w1' : IntKind.i64.wrap ((i : Int) - 1) = (i : Int) - 1 := IntWalk.i64_in _ (by omega)
      obtain ⟨iu, hiu⟩ : ∃ u, (pK s i).b = u := ⟨_, rfl⟩
      rw [hiu] at z0 d1 hgi
      clear hiu z1 z2 z3 z4
      have hj1 : (i : Int) - 1 = ((i - 1 : Nat) : Int) := by omega
      have HJ := Lib.hid hj1
      clear hj1
      go_wp2
      go_roundw
      case rel => exact ⟨i - 1, by first | rfl | rw [← HJ.out], by omega, by omega, by first | rfl | trivial⟩
      case measure => simp [intOf]; omega
    · have hije : i = j := by omega
      subst hije
      have d1 : decide ((x : Int) < ((pK s i).b : Int)) = false := decide_eq_false (by rw [HP.out]; simp only; omega)
      rw [HP.out] at z0 z1 z2 z3 z4 d1
      simp only at z0 z1 z2 z3 z4 d1
      go_wp2
      refine wp_region_noPanic ?_
      refine wp_region_g (S := untilG [] (fun X => ∀ o, o < 5 → X.cell? ⟨g, i * 5 + o, none⟩ = ([.int .i64 pb, .int .i64 pk, .int .i64 pu, .int .i64 pl, .int .i64 pc] : List Value)[o]?)) (by kernel_rfl) ?_
      obtain ⟨W0, hW0⟩ : ∃ X, wr.drew = X := ⟨_, rfl⟩
      have T0 : ∀ o, o < 5 → W0.cell? ⟨g, i * 5 + o, none⟩ = ([.int .i64 pb, .int .i64 pk, .int .i64 pu, .int .i64 pl, .int .i64 pc] : List Value)[o]? := fun o ho => by
        rw [← hW0]
        match o, ho with
        | 0, _ => exact z0
        | 1, _ => exact z1
        | 2, _ => exact z2
        | 3, _ => exact z3
        | 4, _ => exact z4
      have c4' : Blk W0 w.heap.size _ _ := hW0 ▸ c4.drew
      have cB' : Below w.heap.size w W0 := hW0 ▸ cB.drew
      rw [hW0]
      clear hW0 z0 z1 z2 z3 z4 c4 cB
      refine wpAnyG_take [0, 2, 3, 11] (i := 0) (v := (.slice (some ⟨g, 0, none⟩) (n + 1) cap)) rfl (by kernel_rfl) (by kernel_rfl) (by kernel_rfl) (by kernel_rfl) (by kernel_rfl) (by kernel_rfl) (by kernel_rfl) (by kernel_rfl) (fun _ _ _ h => h) (Or.inl ⟨by rfl, ?hy⟩) T0 ?_
      case hy =>
        intro X hX
        go_simp
      try simp only [Act.put, List.getElem_toArray, List.getElem_cons_zero, List.getElem_cons_succ, List.setIfInBounds_toArray, List.set_cons_zero, List.set_cons_succ]
      refine wpAnyG_take [1, 2, 3, 11] (i := 1) (v := (.int .i64 i)) rfl (by kernel_rfl) (by kernel_rfl) (by kernel_rfl) (by kernel_rfl) (by kernel_rfl) (by kernel_rfl) (by kernel_rfl) (by kernel_rfl) (fun _ _ _ h => h) (Or.inl ⟨by rfl, ?hy⟩) T0 ?_
      case hy =>
        intro X hX
        go_simp
      try simp only [Act.put, List.getElem_toArray, List.getElem_cons_zero, List.getElem_cons_succ, List.setIfInBounds_toArray, List.set_cons_zero, List.set_cons_succ]
      refine wpAnyG_take [2, 3, 11] (i := 2) (v := (.pointer (some ⟨g, i * 5, none⟩))) rfl (by kernel_rfl) (by kernel_rfl) (by kernel_rfl) (by kernel_rfl) (by kernel_rfl) (by kernel_rfl) (by kernel_rfl) (by kernel_rfl) (fun _ _ _ h => h) (Or.inl ⟨by rfl, ?hy⟩) T0 ?_
      case hy =>
        intro X hX
        go_simp
      try simp only [Act.put, List.getElem_toArray, List.getElem_cons_zero, List.getElem_cons_succ, List.setIfInBounds_toArray, List.set_cons_zero, List.set_cons_succ]
      refine wpAnyG_take [3, 11] (i := 3) (v := (.agg #[.int .i64 pb, .int .i64 pk, .int .i64 pu, .int .i64 pl, .int .i64 pc])) rfl (by kernel_rfl) (by kernel_rfl) (by kernel_rfl) (by kernel_rfl) (by kernel_rfl) (by kernel_rfl) (by kernel_rfl) (by kernel_rfl) (fun _ _ _ h => h) (Or.inl ⟨by rfl, ?hy⟩) T0 ?_
      case hy =>
        intro X hX
        have x0 := hX 0 (by omega)
        have x1 := hX 1 (by omega)
        have x2 := hX 2 (by omega)
        have x3 := hX 3 (by omega)
        have x4 := hX 4 (by omega)
        simp only [List.getElem?_cons_succ, List.getElem?_cons_zero, Nat.add_zero] at x0 x1 x2 x3 x4
        go_simp
      try simp only [Act.put, List.getElem_toArray, List.getElem_cons_zero, List.getElem_cons_succ, List.setIfInBounds_toArray, List.set_cons_zero, List.set_cons_succ]
      refine wpAnyG_take [4, 10, 12] (i := 4) (v := (.int .i64 x)) rfl (by kernel_rfl) (by kernel_rfl) (by kernel_rfl) (by kernel_rfl) (by kernel_rfl) (by kernel_rfl) (by kernel_rfl) (by kernel_rfl) (fun _ _ _ h => h) (Or.inl ⟨by rfl, ?hy⟩) T0 ?_
      case hy =>
        intro X hX
        go_simp
      try simp only [Act.put, List.getElem_toArray, List.getElem_cons_zero, List.getElem_cons_succ, List.setIfInBounds_toArray, List.set_cons_zero, List.set_cons_succ]
      refine wpAnyG_take [5, 7, 8, 9, 10, 12] (i := 5) (v := (.slice (some ⟨g, 0, none⟩) (n + 1) cap)) rfl (by kernel_rfl) (by kernel_rfl) (by kernel_rfl) (by kernel_rfl) (by kernel_rfl) (by kernel_rfl) (by kernel_rfl) (by kernel_rfl) (fun _ _ _ h => h) (Or.inl ⟨by rfl, ?hy⟩) T0 ?_
      case hy =>
        intro X hX
        go_simp
      try simp only [Act.put, List.getElem_toArray, List.getElem_cons_zero, List.getElem_cons_succ, List.setIfInBounds_toArray, List.set_cons_zero, List.set_cons_succ]
      refine wpAnyG_take [6, 7, 8, 9, 10, 12] (i := 6) (v := (.int .i64 i)) rfl (by kernel_rfl) (by kernel_rfl) (by kernel_rfl) (by kernel_rfl) (by kernel_rfl) (by kernel_rfl) (by kernel_rfl) (by kernel_rfl) (fun _ _ _ h => h) (Or.inl ⟨by rfl, ?hy⟩) T0 ?_
      case hy =>
        intro X hX
        go_simp
      try simp only [Act.put, List.getElem_toArray, List.getElem_cons_zero, List.getElem_cons_succ, List.setIfInBounds_toArray, List.set_cons_zero, List.set_cons_succ]
      refine wpAnyG_take [7, 8, 9, 10, 12] (i := 7) (v := (.pointer (some ⟨g, i * 5, none⟩))) rfl (by kernel_rfl) (by kernel_rfl) (by kernel_rfl) (by kernel_rfl) (by kernel_rfl) (by kernel_rfl) (by kernel_rfl) (by kernel_rfl) (fun _ _ _ h => h) (Or.inl ⟨by rfl, ?hy⟩) T0 ?_
      case hy =>
        intro X hX
        go_simp
      try simp only [Act.put, List.getElem_toArray, List.getElem_cons_zero, List.getElem_cons_succ, List.setIfInBounds_toArray, List.set_cons_zero, List.set_cons_succ]
      refine wpAnyG_take [8, 9, 10, 12] (i := 8) (v := (.pointer (some ⟨g, i * 5, none⟩))) rfl (by kernel_rfl) (by kernel_rfl) (by kernel_rfl) (by kernel_rfl) (by kernel_rfl) (by kernel_rfl) (by kernel_rfl) (by kernel_rfl) (fun _ _ _ h => h) (Or.inl ⟨by rfl, ?hy⟩) T0 ?_
      case hy =>
        intro X hX
        go_simp
      try simp only [Act.put, List.getElem_toArray, List.getElem_cons_zero, List.getElem_cons_succ, List.setIfInBounds_toArray, List.set_cons_zero, List.set_cons_succ]
      refine wpAnyG_take [9, 10, 12] (i := 9) (v := (.int .i64 pb)) rfl (by kernel_rfl) (by kernel_rfl) (by kernel_rfl) (by kernel_rfl) (by kernel_rfl) (by kernel_rfl) (by kernel_rfl) (by kernel_rfl) (fun _ _ _ h => h) (Or.inl ⟨by rfl, ?hy⟩) T0 ?_
      case hy =>
        intro X hX
        have x0 := hX 0 (by omega)
        simp only [List.getElem?_cons_succ, List.getElem?_cons_zero, Nat.add_zero] at x0
        go_simp
      try simp only [Act.put, List.getElem_toArray, List.getElem_cons_zero, List.getElem_cons_succ, List.setIfInBounds_toArray, List.set_cons_zero, List.set_cons_succ]
      refine wpAnyG_take [10, 12] (i := 10) (v := (.int .i64 q)) rfl (by kernel_rfl) (by kernel_rfl) (by kernel_rfl) (by kernel_rfl) (by kernel_rfl) (by kernel_rfl) (by kernel_rfl) (by kernel_rfl) (fun _ _ _ h => h) (Or.inl ⟨by rfl, ?hy⟩) T0 ?_
      case hy =>
        intro X hX
        go_simp
      try simp only [Act.put, List.getElem_toArray, List.getElem_cons_zero, List.getElem_cons_succ, List.setIfInBounds_toArray, List.set_cons_zero, List.set_cons_succ]
      have f1 := c4'.cell
      have f2 := c4'.frozen
      have f3 := c4'.lt
      refine wpAnyG_all (rs := [11]) (by kernel_rfl) (by simp) ?_
      intro i hi
      simp only [List.mem_cons, List.not_mem_nil, or_false] at hi
      subst hi
      refine wpOp_now rfl rfl ?_
      go_simp
      have g1 := ((((c4'.set 0 (.int .i64 pb)).set 1 (.int .i64 pk)).set 2 (.int .i64 pu)).set 3 (.int .i64 pl)).set 4 (.int .i64 pc)
      have gB := ((((cB'.setCell (p := ⟨w.heap.size, 0, none⟩) (by dsimp only; omega) (.int .i64 pb)).setCell (p := ⟨w.heap.size, 1, none⟩) (by dsimp only; omega) (.int .i64 pk)).setCell (p := ⟨w.heap.size, 2, none⟩) (by dsimp only; omega) (.int .i64 pu)).setCell (p := ⟨w.heap.size, 3, none⟩) (by dsimp only; omega) (.int .i64 pl)).setCell (p := ⟨w.heap.size, 4, none⟩) (by dsimp only; omega) (.int .i64 pc)
      have gT : ∀ o, o < 5 → (((((W0.setCell ⟨w.heap.size, 0, none⟩ (.int .i64 pb)).setCell ⟨w.heap.size, 1, none⟩ (.int .i64 pk)).setCell ⟨w.heap.size, 2, none⟩ (.int .i64 pu)).setCell ⟨w.heap.size, 3, none⟩ (.int .i64 pl)).setCell ⟨w.heap.size, 4, none⟩ (.int .i64 pc)).cell? ⟨g, i * 5 + o, none⟩ = ([.int .i64 pb, .int .i64 pk, .int .i64 pu, .int .i64 pl, .int .i64 pc] : List Value)[o]? := fun o ho => (World.cell?_of_block (w := W0) (((((Below.heap_setCell _ _ _ _ (by dsimp only; omega)).trans (Below.heap_setCell _ _ _ _ (by dsimp only; omega))).trans (Below.heap_setCell _ _ _ _ (by dsimp only; omega))).trans (Below.heap_setCell _ _ _ _ (by dsimp only; omega))).trans (Below.heap_setCell _ _ _ _ (by dsimp only; omega)))).trans (T0 o ho)
      obtain ⟨G, hG⟩ : ∃ G, ((((W0.setCell ⟨w.heap.size, 0, none⟩ (.int .i64 pb)).setCell ⟨w.heap.size, 1, none⟩ (.int .i64 pk)).setCell ⟨w.heap.size, 2, none⟩ (.int .i64 pu)).setCell ⟨w.heap.size, 3, none⟩ (.int .i64 pl)).setCell ⟨w.heap.size, 4, none⟩ (.int .i64 pc) = G := ⟨_, rfl⟩
      rw [hG] at g1 gB gT ⊢
      clear hG
      replace T0 := gT
      refine ⟨fun _ => T0, ?_⟩
      try simp only [Act.put, List.getElem_toArray, List.getElem_cons_zero, List.getElem_cons_succ, List.setIfInBounds_toArray, List.set_cons_zero, List.set_cons_succ]
      refine wpAnyG_take [12] (i := 12) (v := (.int .i64 q)) rfl (by kernel_rfl) (by kernel_rfl) (by kernel_rfl) (by kernel_rfl) (by kernel_rfl) (by kernel_rfl) (by kernel_rfl) (by kernel_rfl) (fun _ _ _ h => h) (Or.inl ⟨by rfl, ?hy⟩) T0 ?_
      case hy =>
        intro X hX
        go_simp
      try simp only [Act.put, List.getElem_toArray, List.getElem_cons_zero, List.getElem_cons_succ, List.setIfInBounds_toArray, List.set_cons_zero, List.set_cons_succ]
      refine wpAnyG_take [13] (i := 13) (v := (.bool true)) rfl (by kernel_rfl) (by kernel_rfl) (by kernel_rfl) (by kernel_rfl) (by kernel_rfl) (by kernel_rfl) (by kernel_rfl) (by kernel_rfl) (fun _ _ _ h => h) (Or.inl ⟨by rfl, ?hy⟩) T0 ?_
      case hy =>
        intro X hX
        go_simp
      try simp only [Act.put, List.getElem_toArray, List.getElem_cons_zero, List.getElem_cons_succ, List.setIfInBounds_toArray, List.set_cons_zero, List.set_cons_succ]
      refine wpAnyG_done (by kernel_rfl) ?_ _
      refine NoPanic.normal ?_
      have k1 := g1.cell
      have k2 := g1.lt
      simp at k1
      go_wp2
      refine bodyPost_ret (v := .tuple #[.agg #[.int .i64 pb, .int .i64 pk, .int .i64 pu, .int .i64 pl, .int .i64 pc], .int .i64 q, .bool true]) (by simp [results, Try.f27, go_sem, k1, k2]) rfl ⟨rfl, gB⟩

set_option maxHeartbeats 8000000 in
theorem rUnit_ok (s : ByteArray) (hs : s.size ≤ 65536) (w : World) (x : Nat) (hx : x ≤ (pK s (nP s)).u) (j : Nat) (hj : j ≤ nP s) (h1 : (pK s j).u ≤ x) (h2 : j < nP s → x < (pK s (j + 1)).u) :
    Calls Try.prog 29 #[.string s, .int .i64 x] w fun e w' => e = .returned (.tuple #[plV (pK s j), .int .i64 (x - (pK s j).u : Nat), .bool true]) ∧ Below w.heap.size w w' := by
  have hnP := nP_le s
  have hub := pK_u_bound s (nP s)
  have hx0 : decide ((x : Int) < 0) = false := decide_eq_false (by omega)
  have b4 := Blk.new w #[.int .i64 0, .int .i64 0, .int .i64 0, .int .i64 0, .int .i64 0] 28
  have bB : Below w.heap.size w (w.alloc (.cells #[.int .i64 0, .int .i64 0, .int .i64 0, .int .i64 0, .int .i64 0] 28)) := (Below.refl _ w).alloc (Nat.le_refl _) _
  have hjb := h1
  have hgt : ∀ i, j < i → i ≤ nP s → x < (pK s i).u := fun i h3 h4 => by
    have h5 := h2 (by omega)
    have h6 := pK_u_le s (show j + 1 ≤ i by omega)
    omega
  obtain ⟨p, hp⟩ : ∃ p, pK s j = p := ⟨_, rfl⟩
  rw [hp] at h1 ⊢
  have HP := Lib.hid hp
  clear hp h2 hjb
  obtain ⟨pb, pk, pu, pl, pc⟩ := p
  simp only at h1
  have hsub : (x : Int) - (pu : Int) = ((x - pu : Nat) : Int) := by omega
  obtain ⟨q, hq⟩ : ∃ q, x - pu = q := ⟨_, rfl⟩
  simp only [hq, plV] at hsub ⊢
  have hql : q ≤ x := by omega
  have hwr : IntKind.i64.wrap (q : Int) = (q : Int) := IntWalk.i64_in _ (by omega)
  clear hq
  go_enter Try.func29, Try.ntmps29
  go_wp2_with (fail)
  refine (placesD_any s hs _).mono ?_
  rintro e w1 ⟨v, base, rfl, hbase, hv, hB1⟩
  have c4 := b4.below' hB1
  have cB := bB.trans (hB1.mono bB.size)
  obtain ⟨g, cap, rfl⟩ := ownsRow_succ hv
  have hgb := (hv.lt g rfl).1
  have hgn : g ≠ w.heap.size := by simp at hbase; omega
  have hrow := fun k (hk : k ≤ nP s) => row_pl hv (Below.refl w1.heap.size w1) hk
  clear hB1 b4 bB hv
  have hend := hx
  obtain ⟨n, hn⟩ : ∃ n, nP s = n := ⟨_, rfl⟩
  have hpe := pK s n
  rw [hn] at hnP hub hj hrow hgt hx ⊢
  have HROW := Lib.hid hrow
  have HGT := Lib.hid hgt
  clear hn hgt
  obtain ⟨y0, y1, y2, y3, y4⟩ := hrow n (Nat.le_refl _)
  have hx1 : decide (((pK s n).u : Int) < (x : Int)) = false := decide_eq_false (by omega)
  obtain ⟨eu, heu⟩ : ∃ u, (pK s n).u = u := ⟨_, rfl⟩
  rw [heu] at y2 hx1 hx
  clear y0 y1 y3 y4 heu
  have n0 : IntKind.i64.wrap (n : Int) = (n : Int) := IntWalk.i64_in _ (by omega)
  have n1 : (0 : Int) ≤ (n : Int) := by omega
  have n2 : (n : Int) < (n : Int) + 1 := by omega
  have n3 : (n : Int) + 1 - 1 = (n : Int) := by omega
  clear hrow hpe
  go_wp2
  go_loopw [8] (fun iv wr => ∃ i : Nat, iv = .int .i64 i ∧ j ≤ i ∧ i ≤ n ∧ wr = w1) (fun iv _ => (intOf iv).toNat)
  case atStart => exact ⟨n, by first | rfl | go_num, hj, Nat.le_refl _, by first | rfl | trivial⟩
  case round =>
    obtain ⟨i, rfl, hji, hin, rfl⟩ := hrel
    have i0 : (0 : Int) ≤ (i : Int) := by omega
    have i1 : (i : Int) < (n : Int) + 1 := by omega
    obtain ⟨z0, z1, z2, z3, z4⟩ := HROW.out i hin
    by_cases hij : j < i
    · have hgi := HGT.out i hij hin
      have d1 : decide ((x : Int) < ((pK s i).u : Int)) = true := decide_eq_true (by omega)
      have w1' : IntKind.i64.wrap ((i : Int) - 1) = (i : Int) - 1 := IntWalk.i64_in _ (by omega)
      obtain ⟨iu, hiu⟩ : ∃ u, (pK s i).u = u := ⟨_, rfl⟩
      rw [hiu] at z2 d1 hgi
      clear hiu z0 z1 z3 z4
      have hj1 : (i : Int) - 1 = ((i - 1 : Nat) : Int) := by omega
      have HJ := Lib.hid hj1
      clear hj1
      go_wp2
      go_roundw
      case rel => exact ⟨i - 1, by first | rfl | rw [← HJ.out], by omega, by omega, by first | rfl | trivial⟩
      case measure => simp [intOf]; omega
    · have hije : i = j := by omega
      subst hije
      have d1 : decide ((x : Int) < ((pK s i).u : Int)) = false := decide_eq_false (by rw [HP.out]; simp only; omega)
      rw [HP.out] at z0 z1 z2 z3 z4 d1
      simp only at z0 z1 z2 z3 z4 d1
      go_wp2
      refine wp_region_noPanic ?_
      refine wp_region_g (S := untilG [] (fun X => ∀ o, o < 5 → X.cell? ⟨g, i * 5 + o, none⟩ = ([.int .i64 pb, .int .i64 pk, .int .i64 pu, .int .i64 pl, .int .i64 pc] : List Value)[o]?)) (by kernel_rfl) ?_
      obtain ⟨W0, hW0⟩ : ∃ X, wr.drew = X := ⟨_, rfl⟩
      have T0 : ∀ o, o < 5 → W0.cell? ⟨g, i * 5 + o, none⟩ = ([.int .i64 pb, .int .i64 pk, .int .i64 pu, .int .i64 pl, .int .i64 pc] : List Value)[o]? := fun o ho => by
        rw [← hW0]
        match o, ho with
        | 0, _ => exact z0
        | 1, _ => exact z1
        | 2, _ => exact z2
        | 3, _ => exact z3
        | 4, _ => exact z4
      have c4' : Blk W0 w.heap.size _ _ := hW0 ▸ c4.drew
      have cB' : Below w.heap.size w W0 := hW0 ▸ cB.drew
      rw [hW0]
      clear hW0 z0 z1 z2 z3 z4 c4 cB
      refine wpAnyG_take [0, 2, 3, 11] (i := 0) (v := (.slice (some ⟨g, 0, none⟩) (n + 1) cap)) rfl (by kernel_rfl) (by kernel_rfl) (by kernel_rfl) (by kernel_rfl) (by kernel_rfl) (by kernel_rfl) (by kernel_rfl) (by kernel_rfl) (fun _ _ _ h => h) (Or.inl ⟨by rfl, ?hy⟩) T0 ?_
      case hy =>
        intro X hX
        go_simp
      try simp only [Act.put, List.getElem_toArray, List.getElem_cons_zero, List.getElem_cons_succ, List.setIfInBounds_toArray, List.set_cons_zero, List.set_cons_succ]
      refine wpAnyG_take [1, 2, 3, 11] (i := 1) (v := (.int .i64 i)) rfl (by kernel_rfl) (by kernel_rfl) (by kernel_rfl) (by kernel_rfl) (by kernel_rfl) (by kernel_rfl) (by kernel_rfl) (by kernel_rfl) (fun _ _ _ h => h) (Or.inl ⟨by rfl, ?hy⟩) T0 ?_
      case hy =>
        intro X hX
        go_simp
      try simp only [Act.put, List.getElem_toArray, List.getElem_cons_zero, List.getElem_cons_succ, List.setIfInBounds_toArray, List.set_cons_zero, List.set_cons_succ]
      refine wpAnyG_take [2, 3, 11] (i := 2) (v := (.pointer (some ⟨g, i * 5, none⟩))) rfl (by kernel_rfl) (by kernel_rfl) (by kernel_rfl) (by kernel_rfl) (by kernel_rfl) (by kernel_rfl) (by kernel_rfl) (by kernel_rfl) (fun _ _ _ h => h) (Or.inl ⟨by rfl, ?hy⟩) T0 ?_
      case hy =>
        intro X hX
        go_simp
      try simp only [Act.put, List.getElem_toArray, List.getElem_cons_zero, List.getElem_cons_succ, List.setIfInBounds_toArray, List.set_cons_zero, List.set_cons_succ]
      refine wpAnyG_take [3, 11] (i := 3) (v := (.agg #[.int .i64 pb, .int .i64 pk, .int .i64 pu, .int .i64 pl, .int .i64 pc])) rfl (by kernel_rfl) (by kernel_rfl) (by kernel_rfl) (by kernel_rfl) (by kernel_rfl) (by kernel_rfl) (by kernel_rfl) (by kernel_rfl) (fun _ _ _ h => h) (Or.inl ⟨by rfl, ?hy⟩) T0 ?_
      case hy =>
        intro X hX
        have x0 := hX 0 (by omega)
        have x1 := hX 1 (by omega)
        have x2 := hX 2 (by omega)
        have x3 := hX 3 (by omega)
        have x4 := hX 4 (by omega)
        simp only [List.getElem?_cons_succ, List.getElem?_cons_zero, Nat.add_zero] at x0 x1 x2 x3 x4
        go_simp
      try simp only [Act.put, List.getElem_toArray, List.getElem_cons_zero, List.getElem_cons_succ, List.setIfInBounds_toArray, List.set_cons_zero, List.set_cons_succ]
      refine wpAnyG_take [4, 10, 12] (i := 4) (v := (.int .i64 x)) rfl (by kernel_rfl) (by kernel_rfl) (by kernel_rfl) (by kernel_rfl) (by kernel_rfl) (by kernel_rfl) (by kernel_rfl) (by kernel_rfl) (fun _ _ _ h => h) (Or.inl ⟨by rfl, ?hy⟩) T0 ?_
      case hy =>
        intro X hX
        go_simp
      try simp only [Act.put, List.getElem_toArray, List.getElem_cons_zero, List.getElem_cons_succ, List.setIfInBounds_toArray, List.set_cons_zero, List.set_cons_succ]
      refine wpAnyG_take [5, 7, 8, 9, 10, 12] (i := 5) (v := (.slice (some ⟨g, 0, none⟩) (n + 1) cap)) rfl (by kernel_rfl) (by kernel_rfl) (by kernel_rfl) (by kernel_rfl) (by kernel_rfl) (by kernel_rfl) (by kernel_rfl) (by kernel_rfl) (fun _ _ _ h => h) (Or.inl ⟨by rfl, ?hy⟩) T0 ?_
      case hy =>
        intro X hX
        go_simp
      try simp only [Act.put, List.getElem_toArray, List.getElem_cons_zero, List.getElem_cons_succ, List.setIfInBounds_toArray, List.set_cons_zero, List.set_cons_succ]
      refine wpAnyG_take [6, 7, 8, 9, 10, 12] (i := 6) (v := (.int .i64 i)) rfl (by kernel_rfl) (by kernel_rfl) (by kernel_rfl) (by kernel_rfl) (by kernel_rfl) (by kernel_rfl) (by kernel_rfl) (by kernel_rfl) (fun _ _ _ h => h) (Or.inl ⟨by rfl, ?hy⟩) T0 ?_
      case hy =>
        intro X hX
        go_simp
      try simp only [Act.put, List.getElem_toArray, List.getElem_cons_zero, List.getElem_cons_succ, List.setIfInBounds_toArray, List.set_cons_zero, List.set_cons_succ]
      refine wpAnyG_take [7, 8, 9, 10, 12] (i := 7) (v := (.pointer (some ⟨g, i * 5, none⟩))) rfl (by kernel_rfl) (by kernel_rfl) (by kernel_rfl) (by kernel_rfl) (by kernel_rfl) (by kernel_rfl) (by kernel_rfl) (by kernel_rfl) (fun _ _ _ h => h) (Or.inl ⟨by rfl, ?hy⟩) T0 ?_
      case hy =>
        intro X hX
        go_simp
      try simp only [Act.put, List.getElem_toArray, List.getElem_cons_zero, List.getElem_cons_succ, List.setIfInBounds_toArray, List.set_cons_zero, List.set_cons_succ]
      refine wpAnyG_take [8, 9, 10, 12] (i := 8) (v := (.pointer (some ⟨g, i * 5 + 2, none⟩))) rfl (by kernel_rfl) (by kernel_rfl) (by kernel_rfl) (by kernel_rfl) (by kernel_rfl) (by kernel_rfl) (by kernel_rfl) (by kernel_rfl) (fun _ _ _ h => h) (Or.inl ⟨by rfl, ?hy⟩) T0 ?_
      case hy =>
        intro X hX
        go_simp
      try simp only [Act.put, List.getElem_toArray, List.getElem_cons_zero, List.getElem_cons_succ, List.setIfInBounds_toArray, List.set_cons_zero, List.set_cons_succ]
      refine wpAnyG_take [9, 10, 12] (i := 9) (v := (.int .i64 pu)) rfl (by kernel_rfl) (by kernel_rfl) (by kernel_rfl) (by kernel_rfl) (by kernel_rfl) (by kernel_rfl) (by kernel_rfl) (by kernel_rfl) (fun _ _ _ h => h) (Or.inl ⟨by rfl, ?hy⟩) T0 ?_
      case hy =>
        intro X hX
        have x0 := hX 2 (by omega)
        simp only [List.getElem?_cons_succ, List.getElem?_cons_zero, Nat.add_zero] at x0
        go_simp
      try simp only [Act.put, List.getElem_toArray, List.getElem_cons_zero, List.getElem_cons_succ, List.setIfInBounds_toArray, List.set_cons_zero, List.set_cons_succ]
      refine wpAnyG_take [10, 12] (i := 10) (v := (.int .i64 q)) rfl (by kernel_rfl) (by kernel_rfl) (by kernel_rfl) (by kernel_rfl) (by kernel_rfl) (by kernel_rfl) (by kernel_rfl) (by kernel_rfl) (fun _ _ _ h => h) (Or.inl ⟨by rfl, ?hy⟩) T0 ?_
      case hy =>
        intro X hX
        go_simp
      try simp only [Act.put, List.getElem_toArray, List.getElem_cons_zero, List.getElem_cons_succ, List.setIfInBounds_toArray, List.set_cons_zero, List.set_cons_succ]
      have f1 := c4'.cell
      have f2 := c4'.frozen
      have f3 := c4'.lt
      refine wpAnyG_all (rs := [11]) (by kernel_rfl) (by simp) ?_
      intro i hi
      simp only [List.mem_cons, List.not_mem_nil, or_false] at hi
      subst hi
      refine wpOp_now rfl rfl ?_
      go_simp
      have g1 := ((((c4'.set 0 (.int .i64 pb)).set 1 (.int .i64 pk)).set 2 (.int .i64 pu)).set 3 (.int .i64 pl)).set 4 (.int .i64 pc)
      have gB := ((((cB'.setCell (p := ⟨w.heap.size, 0, none⟩) (by dsimp only; omega) (.int .i64 pb)).setCell (p := ⟨w.heap.size, 1, none⟩) (by dsimp only; omega) (.int .i64 pk)).setCell (p := ⟨w.heap.size, 2, none⟩) (by dsimp only; omega) (.int .i64 pu)).setCell (p := ⟨w.heap.size, 3, none⟩) (by dsimp only; omega) (.int .i64 pl)).setCell (p := ⟨w.heap.size, 4, none⟩) (by dsimp only; omega) (.int .i64 pc)
      have gT : ∀ o, o < 5 → (((((W0.setCell ⟨w.heap.size, 0, none⟩ (.int .i64 pb)).setCell ⟨w.heap.size, 1, none⟩ (.int .i64 pk)).setCell ⟨w.heap.size, 2, none⟩ (.int .i64 pu)).setCell ⟨w.heap.size, 3, none⟩ (.int .i64 pl)).setCell ⟨w.heap.size, 4, none⟩ (.int .i64 pc)).cell? ⟨g, i * 5 + o, none⟩ = ([.int .i64 pb, .int .i64 pk, .int .i64 pu, .int .i64 pl, .int .i64 pc] : List Value)[o]? := fun o ho => (World.cell?_of_block (w := W0) (((((Below.heap_setCell _ _ _ _ (by dsimp only; omega)).trans (Below.heap_setCell _ _ _ _ (by dsimp only; omega))).trans (Below.heap_setCell _ _ _ _ (by dsimp only; omega))).trans (Below.heap_setCell _ _ _ _ (by dsimp only; omega))).trans (Below.heap_setCell _ _ _ _ (by dsimp only; omega)))).trans (T0 o ho)
      obtain ⟨G, hG⟩ : ∃ G, ((((W0.setCell ⟨w.heap.size, 0, none⟩ (.int .i64 pb)).setCell ⟨w.heap.size, 1, none⟩ (.int .i64 pk)).setCell ⟨w.heap.size, 2, none⟩ (.int .i64 pu)).setCell ⟨w.heap.size, 3, none⟩ (.int .i64 pl)).setCell ⟨w.heap.size, 4, none⟩ (.int .i64 pc) = G := ⟨_, rfl⟩
      rw [hG] at g1 gB gT ⊢
      clear hG
      replace T0 := gT
      refine ⟨fun _ => T0, ?_⟩
      try simp only [Act.put, List.getElem_toArray, List.getElem_cons_zero, List.getElem_cons_succ, List.setIfInBounds_toArray, List.set_cons_zero, List.set_cons_succ]
      refine wpAnyG_take [12] (i := 12) (v := (.int .i64 q)) rfl (by kernel_rfl) (by kernel_rfl) (by kernel_rfl) (by kernel_rfl) (by kernel_rfl) (by kernel_rfl) (by kernel_rfl) (by kernel_rfl) (fun _ _ _ h => h) (Or.inl ⟨by rfl, ?hy⟩) T0 ?_
      case hy =>
        intro X hX
        go_simp
      try simp only [Act.put, List.getElem_toArray, List.getElem_cons_zero, List.getElem_cons_succ, List.setIfInBounds_toArray, List.set_cons_zero, List.set_cons_succ]
      refine wpAnyG_take [13] (i := 13) (v := (.bool true)) rfl (by kernel_rfl) (by kernel_rfl) (by kernel_rfl) (by kernel_rfl) (by kernel_rfl) (by kernel_rfl) (by kernel_rfl) (by kernel_rfl) (fun _ _ _ h => h) (Or.inl ⟨by rfl, ?hy⟩) T0 ?_
      case hy =>
        intro X hX
        go_simp
      try simp only [Act.put, List.getElem_toArray, List.getElem_cons_zero, List.getElem_cons_succ, List.setIfInBounds_toArray, List.set_cons_zero, List.set_cons_succ]
      refine wpAnyG_done (by kernel_rfl) ?_ _
      refine NoPanic.normal ?_
      have k1 := g1.cell
      have k2 := g1.lt
      simp at k1
      go_wp2
      refine bodyPost_ret (v := .tuple #[.agg #[.int .i64 pb, .int .i64 pk, .int .i64 pu, .int .i64 pl, .int .i64 pc], .int .i64 q, .bool true]) (by simp [results, Try.f29, go_sem, k1, k2]) rfl ⟨rfl, gB⟩

end Go.Proofs.Ytjlfdoonhfkabaa
