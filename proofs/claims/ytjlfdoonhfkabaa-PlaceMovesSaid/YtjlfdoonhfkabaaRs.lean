/- The document's Span of layer 2; sum. -/
import Derived.Test.YtjlfdoonhfkabaaRq
import Derived.Test.YtjlfdoonhfkabaaMv0
namespace Go.Proofs.Ytjlfdoonhfkabaa
set_option linter.unusedVariables false
set_option linter.unusedSimpArgs false
open Go Go.RowKit Go.Shelf
set_option maxRecDepth 100000

theorem ens_row {s : ByteArray} {k fr tt ee : Nat} (h : (rws s)[k]? = some (fr, tt, ee)) : (k = 0 → fr = 0) ∧ (∀ j, k = j + 1 → ∃ f, (ens s)[j]? = some (f, fr)) ∧ (k < (ens s).length → (ens s)[k]? = some (tt, tt + ee)) ∧ (k = (ens s).length → tt = s.size ∧ ee = 0) := by
  have hc := rows_count s
  have hl := ens_len s
  have hk := (List.getElem?_eq_some_iff.1 h).1
  obtain ⟨⟨j, g, j2, hO⟩, hnx, hlast, hz⟩ := rows_at h
  refine ⟨hz, fun j hj => ?_, fun hlt => ?_, fun he => ?_⟩
  · subst hj
    obtain ⟨⟨fr', tt', ee'⟩, hr⟩ : ∃ r, (rws s)[j]? = some r := ⟨_, List.getElem?_eq_getElem (by omega)⟩
    have h1 := (rows_at hr).2.1 _ _ _ h
    refine ⟨tt', ?_⟩
    show (((rws s).dropLast.map fun r => (r.2.1, r.2.1 + r.2.2)) : List (Nat × Nat))[j]? = _
    rw [List.getElem?_map, List.getElem?_dropLast, if_pos (by omega), hr]
    simp only [Option.map_some, h1]
  · show (((rws s).dropLast.map fun r => (r.2.1, r.2.1 + r.2.2)) : List (Nat × Nat))[k]? = _
    rw [List.getElem?_map, List.getElem?_dropLast, if_pos (by omega), h]
    rfl
  · have he0 := hlast.1 (by omega)
    exact ⟨(hO.nz he0).2, he0⟩

set_option maxHeartbeats 1000000 in
/-- From a, by n, to at most most: below 0, above most, or there. -/
theorem sum_any (a most : Nat) (n : Int) (h : a ≤ most) (hm : most ≤ 262144) (w : World) :
    Calls Try.prog 46 #[.int .i64 a, .int .i64 n, .int .i64 most] w fun e w' => e = .returned (.int .i64 (if (most : Int) - a < n then (most : Int) + 1 else if n < -(a : Int) then -1 else (a : Int) + n)) ∧ w = w' := by
  have i0 : IntKind.i64.wrap (-(a : Int)) = -(a : Int) := IntWalk.i64_in _ (by omega)
  have i1 : IntKind.i64.wrap ((most : Int) - (a : Int)) = (most : Int) - (a : Int) := IntWalk.i64_in _ (by omega)
  have i3 : IntKind.i64.wrap ((most : Int) + 1) = (most : Int) + 1 := IntWalk.i64_in _ (by omega)
  by_cases h2 : (most : Int) - a < n
  · rw [if_pos h2]
    have d2 : decide ((most : Int) - a < n) = true := decide_eq_true h2
    go_enter Try.func46, Try.ntmps46
    go_wp2
    go_ret
    exact ⟨rfl, rfl⟩
  · rw [if_neg h2]
    have d2 : decide ((most : Int) - a < n) = false := decide_eq_false h2
    by_cases h1 : n < -(a : Int)
    · rw [if_pos h1]
      have d1 : decide (n < -(a : Int)) = true := decide_eq_true h1
      go_enter Try.func46, Try.ntmps46
      go_wp2
      go_ret
      exact ⟨rfl, rfl⟩
    · rw [if_neg h1]
      have d1 : decide (n < -(a : Int)) = false := decide_eq_false h1
      have i2 : IntKind.i64.wrap ((a : Int) + n) = (a : Int) + n := IntWalk.i64_in _ (by omega)
      go_enter Try.func46, Try.ntmps46
      go_wp2
      go_ret
      exact ⟨rfl, rfl⟩

set_option maxHeartbeats 4000000 in
theorem rSpan_err (s : ByteArray) (hs : s.size ≤ 65536) (w : World) (x : Int) (hx : x < 0 ∨ ((rws s).length : Int) ≤ x) :
    Calls Try.prog 31 #[.string s, .int .i64 x] w fun e w' => e = .returned (.tuple #[.agg #[.int .i64 0, .int .i64 0], .int .i64 0, .bool false]) ∧ Below w.heap.size w w' := by
  have hc := rows_count s
  have hl := ens_len s
  have b4 := Blk.new w #[.int .i64 0, .int .i64 0] 37
  have bB : Below w.heap.size w (w.alloc (.cells #[.int .i64 0, .int .i64 0] 37)) := (Below.refl _ w).alloc (Nat.le_refl _) _
  go_enter Try.func31, Try.ntmps31
  go_wp2_with (fail)
  refine (ends_any s hs _).mono ?_
  rintro e w1 ⟨v, rfl, hv, hB1⟩
  have c4 := b4.below' hB1
  have cB := bB.trans (hB1.mono bB.size)
  obtain ⟨oe, ce, rfl, hoe⟩ := own_slice hv
  have hec : ∀ X, Below w1.heap.size w1 X → ∀ (k f t : Nat), (ens s)[k]? = some (f, t) → ∃ g, oe = some ⟨g, 0, none⟩ ∧ g < w1.heap.size ∧ w.heap.size < g ∧ X.cell? ⟨g, k * 2, none⟩ = some (.int .i64 (f : Nat)) ∧ X.cell? ⟨g, k * 2 + 1, none⟩ = some (.int .i64 (t : Nat)) := fun X hX k f t hk => by
    have hkl := (List.getElem?_eq_some_iff.1 hk).1
    obtain ⟨g, rfl⟩ := hoe (by omega)
    have h9 := hv.lt g rfl
    exact ⟨g, rfl, h9.2, by simp at h9; omega, ((own_below hv hX).cellAt (k * 2) (by omega)).trans (enC_get _ _ _ hk).1, ((own_below hv hX).cellAt (k * 2 + 1) (by omega)).trans (enC_get _ _ _ hk).2⟩
  have HEC := Lib.hid hec
  obtain ⟨E, hE⟩ : ∃ E, (ens s).length = E := ⟨_, rfl⟩
  clear hec hoe hv hB1 b4 bB
  rw [hE] at hl ⊢
  have hE1 : x < 0 ∨ (E : Int) < x := by omega
  clear hl hc hx hE
  have k0 := c4.cell
  have k2' := c4.frozen
  have k3 := c4.lt
  by_cases h : x < 0
  · have k1 : decide (x < 0) = true := decide_eq_true h
    go_wp2
    exact bodyPost_ret (v := .tuple #[.agg #[.int .i64 0, .int .i64 0], .int .i64 0, .bool false]) (by simp [results, Try.f31, go_sem, k0, k3]) rfl ⟨rfl, (cB.setCell (p := ⟨w.heap.size, 0, none⟩) (by dsimp only; omega) _).setCell (p := ⟨w.heap.size, 1, none⟩) (by dsimp only; omega) _⟩
  · have k1 : decide (x < 0) = false := decide_eq_false h
    have k2 : decide ((E : Int) < x) = true := decide_eq_true (hE1.resolve_left h)
    go_wp2
    exact bodyPost_ret (v := .tuple #[.agg #[.int .i64 0, .int .i64 0], .int .i64 0, .bool false]) (by simp [results, Try.f31, go_sem, k0, k3]) rfl ⟨rfl, (cB.setCell (p := ⟨w.heap.size, 0, none⟩) (by dsimp only; omega) _).setCell (p := ⟨w.heap.size, 1, none⟩) (by dsimp only; omega) _⟩

set_option maxHeartbeats 8000000 in
theorem rSpan_ok (s : ByteArray) (hs : s.size ≤ 65536) (w : World) (k fr tt ee : Nat) (hk : (rws s)[k]? = some (fr, tt, ee)) :
    Calls Try.prog 31 #[.string s, .int .i64 k] w fun e w' => e = .returned (.tuple #[.agg #[.int .i64 fr, .int .i64 tt], .int .i64 ee, .bool true]) ∧ Below w.heap.size w w' := by
  have hc := rows_count s
  have hl := ens_len s
  have hrl := rws_len s
  have hkl := (List.getElem?_eq_some_iff.1 hk).1
  obtain ⟨q0, q1, q2, q3⟩ := ens_row hk
  have hte : ee ≤ 2 ∧ tt ≤ 65536 := by
    obtain ⟨⟨j, g, j2, hO⟩, _⟩ := rows_at hk
    have h1 := pK_le s g (by have := hO.hg; have := hO.h2; omega)
    rw [hO.bg] at h1
    refine ⟨?_, by omega⟩
    by_cases h2 : tt < s.size
    · rw [hO.el h2]; exact lnE_le s tt
    · by_cases h3 : ee = 0
      · omega
      · obtain ⟨h4, h5⟩ := hO.nx h3
        have := pK_le s j2 h4
        omega
  have b4 := Blk.new w #[.int .i64 0, .int .i64 0] 37
  have bB : Below w.heap.size w (w.alloc (.cells #[.int .i64 0, .int .i64 0] 37)) := (Below.refl _ w).alloc (Nat.le_refl _) _
  go_enter Try.func31, Try.ntmps31
  go_wp2_with (fail)
  refine (ends_any s hs _).mono ?_
  rintro e w1 ⟨v, rfl, hv, hB1⟩
  have c4 := b4.below' hB1
  have cB := bB.trans (hB1.mono bB.size)
  obtain ⟨oe, ce, rfl, hoe⟩ := own_slice hv
  have hec : ∀ X, Below w1.heap.size w1 X → ∀ (k f t : Nat), (ens s)[k]? = some (f, t) → ∃ g, oe = some ⟨g, 0, none⟩ ∧ g < w1.heap.size ∧ w.heap.size < g ∧ X.cell? ⟨g, k * 2, none⟩ = some (.int .i64 (f : Nat)) ∧ X.cell? ⟨g, k * 2 + 1, none⟩ = some (.int .i64 (t : Nat)) := fun X hX k f t hk => by
    have hkl := (List.getElem?_eq_some_iff.1 hk).1
    obtain ⟨g, rfl⟩ := hoe (by omega)
    have h9 := hv.lt g rfl
    exact ⟨g, rfl, h9.2, by simp at h9; omega, ((own_below hv hX).cellAt (k * 2) (by omega)).trans (enC_get _ _ _ hk).1, ((own_below hv hX).cellAt (k * 2 + 1) (by omega)).trans (enC_get _ _ _ hk).2⟩
  have HEC := Lib.hid hec
  obtain ⟨E, hE⟩ : ∃ E, (ens s).length = E := ⟨_, rfl⟩
  clear hec hoe hv hB1 b4 bB
  have hkE : k ≤ E := by omega
  have hEb : E ≤ 65536 := by omega
  rw [hE] at q2 q3 ⊢
  clear hl hc hrl hkl hk hE
  have e1 : decide ((k : Int) < 0) = false := decide_eq_false (by omega)
  have e2 : decide ((E : Int) < (k : Int)) = false := decide_eq_false (by omega)
  have e2n : ¬ E < k := by omega
  by_cases hkz : k = 0
  · by_cases hkE2 : k = E
    · obtain ⟨htt, hee⟩ := q3 hkE2
      subst htt hee
      have hfz := q0 hkz
      subst hkz hfz
      subst hkE2
      try simp only [Int.natCast_add, Int.cast_ofNat_Int] at e1 e2
      have d8 := (Blk.new w1 #[.int .i64 0, .int .i64 s.size] 37).cell
      have k0c := c4.cell
      have k2' := c4.frozen
      have k3 := c4.lt
      go_wp2
      refine bodyPost_ret (v := .tuple #[.agg #[.int .i64 0, .int .i64 s.size], .int .i64 0, .bool true]) (by simp [results, Try.f31, go_sem, k0c, k3]) rfl ⟨rfl, ?_⟩
      first | exact ((cB.setCell (p := ⟨w.heap.size, 0, none⟩) (by dsimp only; omega) _).setCell (p := ⟨w.heap.size, 1, none⟩) (by dsimp only; omega) _).alloc ((cB.setCell (p := ⟨w.heap.size, 0, none⟩) (by dsimp only; omega) _).setCell (p := ⟨w.heap.size, 1, none⟩) (by dsimp only; omega) _).size _ | exact ((cB.alloc cB.size _).setCell (p := ⟨w.heap.size, 0, none⟩) (by dsimp only; omega) _).setCell (p := ⟨w.heap.size, 1, none⟩) (by dsimp only; omega) _
    · replace hkE2 : k < E := by omega
      have hq2 := q2 hkE2
      obtain ⟨g, rfl, gl, gw, _, _⟩ := HEC.out w1 (Below.refl _ _) _ _ _ hq2
      have hfz := q0 hkz
      subst hkz hfz
      have j1 : (0 == (E : Int)) = false := by rw [beq_eq_false_iff_ne]; omega
      have j2 : ¬ (0 : Int) = (E : Int) := by omega
      have j3 : (0 : Int) ≤ 0 := by omega
      have j4 : 0 < (E : Int) := by omega
      have hz := fun o => (HEC.out (w1.alloc o) ((Below.refl _ w1).alloc (Nat.le_refl _) o) _ _ _ hq2)
      have z0 : ∀ o, (w1.alloc o).cell? ⟨g, 0 * 2, none⟩ = some (.int .i64 (tt : Nat)) := fun o => by
        obtain ⟨g', e9, _, _, h9, _⟩ := hz o
        obtain rfl : g = g' := by simpa using e9
        exact h9
      have z1 : ∀ o, (w1.alloc o).cell? ⟨g, 0 * 2 + 1, none⟩ = some (.int .i64 (tt + ee : Nat)) := fun o => by
        obtain ⟨g', e9, _, _, _, h9⟩ := hz o
        obtain rfl : g = g' := by simpa using e9
        exact h9
      clear hz hq2
      simp only [Nat.zero_mul, Nat.zero_add] at z0 z1
      have d8 := fun z => (Blk.new w1 #[.int .i64 0, .int .i64 z] 37).cell
      have HZ := Lib.hid (And.intro z0 z1)
      go_wp2
      have m8 := Blk.new w1 #[.int .i64 0, .int .i64 tt] 37
      have c4Y := c4.alloc (.cells #[.int .i64 0, .int .i64 tt] 37)
      have cBY := cB.alloc cB.size (.cells #[.int .i64 0, .int .i64 tt] 37)
      have y0 := HZ.out.1 (.cells #[.int .i64 0, .int .i64 tt] 37)
      have y1 := HZ.out.2 (.cells #[.int .i64 0, .int .i64 tt] 37)
      have b8n : w1.heap.size ≠ w.heap.size := by have := c4.lt; omega
      obtain ⟨b8, hb8⟩ : ∃ b, w1.heap.size = b := ⟨_, rfl⟩
      obtain ⟨Y, hY⟩ : ∃ Y, w1.alloc (.cells #[.int .i64 0, .int .i64 tt] 37) = Y := ⟨_, rfl⟩
      rw [hb8] at m8 b8n
      rw [hY] at m8 c4Y cBY y0 y1
      try rw [hY]
      try simp only [hb8]
      clear hY hb8 d8 z0 z1 c4 cB
      refine wp_region_noPanic ?_
      refine wp_region_g (S := untilG [] (fun X => (X.cell? ⟨b8, 0, none⟩ = some (.int .i64 0) ∧ X.cell? ⟨b8, 1, none⟩ = some (.int .i64 tt)) ∧ X.cell? ⟨g, 0, none⟩ = some (.int .i64 (tt : Nat)) ∧ X.cell? ⟨g, 0 + 1, none⟩ = some (.int .i64 (tt + ee : Nat)))) (by kernel_rfl) ?_
      have T0 : (Y.drew.cell? ⟨b8, 0, none⟩ = some (.int .i64 0) ∧ Y.drew.cell? ⟨b8, 1, none⟩ = some (.int .i64 tt)) ∧ Y.drew.cell? ⟨g, 0, none⟩ = some (.int .i64 (tt : Nat)) ∧ Y.drew.cell? ⟨g, 0 + 1, none⟩ = some (.int .i64 (tt + ee : Nat)) := ⟨⟨m8.cell 0, m8.cell 1⟩, y0, y1⟩
      have c5 := c4Y.drew
      have cB5 := cBY.drew
      obtain ⟨Y0, hY0⟩ : ∃ X, Y.drew = X := ⟨_, rfl⟩
      rw [hY0] at T0 c5 cB5 ⊢
      clear hY0 m8 c4Y cBY y0 y1
      have w8 : IntKind.i64.wrap (ee : Int) = (ee : Int) := IntWalk.i64_in _ (by omega)
      have w9 : ((tt + ee : Nat) : Int) - (tt : Int) = (ee : Int) := by omega
      have w10 : (tt : Int) + (ee : Int) - (tt : Int) = (ee : Int) := by omega
      refine wpAnyG_take [0, 12] (i := 0) (v := (.agg #[.int .i64 0, .int .i64 tt])) rfl (by kernel_rfl) (by kernel_rfl) (by kernel_rfl) (by kernel_rfl) (by kernel_rfl) (by kernel_rfl) (by kernel_rfl) (by kernel_rfl) (fun _ _ _ h => h) (Or.inl ⟨by rfl, ?hy⟩) T0 ?_
      case hy =>
        intro X hX
        have x0 := hX.1.1
        have x1 := hX.1.2
        go_simp
      try simp only [Act.put, List.getElem_toArray, List.getElem_cons_zero, List.getElem_cons_succ, List.setIfInBounds_toArray, List.set_cons_zero, List.set_cons_succ]
      refine wpAnyG_take [1, 3, 4, 5, 11, 13] (i := 1) (v := (.slice (some ⟨g, 0, none⟩) E ce)) rfl (by kernel_rfl) (by kernel_rfl) (by kernel_rfl) (by kernel_rfl) (by kernel_rfl) (by kernel_rfl) (by kernel_rfl) (by kernel_rfl) (fun _ _ _ h => h) (Or.inl ⟨by rfl, ?hy⟩) T0 ?_
      case hy =>
        intro X hX
        go_simp
      try simp only [Act.put, List.getElem_toArray, List.getElem_cons_zero, List.getElem_cons_succ, List.setIfInBounds_toArray, List.set_cons_zero, List.set_cons_succ]
      refine wpAnyG_take [2, 3, 4, 5, 11, 13] (i := 2) (v := (.int .i64 0)) rfl (by kernel_rfl) (by kernel_rfl) (by kernel_rfl) (by kernel_rfl) (by kernel_rfl) (by kernel_rfl) (by kernel_rfl) (by kernel_rfl) (fun _ _ _ h => h) (Or.inl ⟨by rfl, ?hy⟩) T0 ?_
      case hy =>
        intro X hX
        go_simp
      try simp only [Act.put, List.getElem_toArray, List.getElem_cons_zero, List.getElem_cons_succ, List.setIfInBounds_toArray, List.set_cons_zero, List.set_cons_succ]
      refine wpAnyG_take [3, 4, 5, 11, 13] (i := 3) (v := (.pointer (some ⟨g, 0, none⟩))) rfl (by kernel_rfl) (by kernel_rfl) (by kernel_rfl) (by kernel_rfl) (by kernel_rfl) (by kernel_rfl) (by kernel_rfl) (by kernel_rfl) (fun _ _ _ h => h) (Or.inl ⟨by rfl, ?hy⟩) T0 ?_
      case hy =>
        intro X hX
        go_simp
      try simp only [Act.put, List.getElem_toArray, List.getElem_cons_zero, List.getElem_cons_succ, List.setIfInBounds_toArray, List.set_cons_zero, List.set_cons_succ]
      refine wpAnyG_take [4, 5, 11, 13] (i := 4) (v := (.pointer (some ⟨g, 0 + 1, none⟩))) rfl (by kernel_rfl) (by kernel_rfl) (by kernel_rfl) (by kernel_rfl) (by kernel_rfl) (by kernel_rfl) (by kernel_rfl) (by kernel_rfl) (fun _ _ _ h => h) (Or.inl ⟨by rfl, ?hy⟩) T0 ?_
      case hy =>
        intro X hX
        go_simp
      try simp only [Act.put, List.getElem_toArray, List.getElem_cons_zero, List.getElem_cons_succ, List.setIfInBounds_toArray, List.set_cons_zero, List.set_cons_succ]
      refine wpAnyG_take [5, 11, 13] (i := 5) (v := (.int .i64 ((tt : Int) + (ee : Int)))) rfl (by kernel_rfl) (by kernel_rfl) (by kernel_rfl) (by kernel_rfl) (by kernel_rfl) (by kernel_rfl) (by kernel_rfl) (by kernel_rfl) (fun _ _ _ h => h) (Or.inl ⟨by rfl, ?hy⟩) T0 ?_
      case hy =>
        intro X hX
        have x0 := hX.2.2
        go_simp
      try simp only [Act.put, List.getElem_toArray, List.getElem_cons_zero, List.getElem_cons_succ, List.setIfInBounds_toArray, List.set_cons_zero, List.set_cons_succ]
      refine wpAnyG_take [6, 8, 9, 10, 11, 13] (i := 6) (v := (.slice (some ⟨g, 0, none⟩) E ce)) rfl (by kernel_rfl) (by kernel_rfl) (by kernel_rfl) (by kernel_rfl) (by kernel_rfl) (by kernel_rfl) (by kernel_rfl) (by kernel_rfl) (fun _ _ _ h => h) (Or.inl ⟨by rfl, ?hy⟩) T0 ?_
      case hy =>
        intro X hX
        go_simp
      try simp only [Act.put, List.getElem_toArray, List.getElem_cons_zero, List.getElem_cons_succ, List.setIfInBounds_toArray, List.set_cons_zero, List.set_cons_succ]
      refine wpAnyG_take [7, 8, 9, 10, 11, 13] (i := 7) (v := (.int .i64 0)) rfl (by kernel_rfl) (by kernel_rfl) (by kernel_rfl) (by kernel_rfl) (by kernel_rfl) (by kernel_rfl) (by kernel_rfl) (by kernel_rfl) (fun _ _ _ h => h) (Or.inl ⟨by rfl, ?hy⟩) T0 ?_
      case hy =>
        intro X hX
        go_simp
      try simp only [Act.put, List.getElem_toArray, List.getElem_cons_zero, List.getElem_cons_succ, List.setIfInBounds_toArray, List.set_cons_zero, List.set_cons_succ]
      refine wpAnyG_take [8, 9, 10, 11, 13] (i := 8) (v := (.pointer (some ⟨g, 0, none⟩))) rfl (by kernel_rfl) (by kernel_rfl) (by kernel_rfl) (by kernel_rfl) (by kernel_rfl) (by kernel_rfl) (by kernel_rfl) (by kernel_rfl) (fun _ _ _ h => h) (Or.inl ⟨by rfl, ?hy⟩) T0 ?_
      case hy =>
        intro X hX
        go_simp
      try simp only [Act.put, List.getElem_toArray, List.getElem_cons_zero, List.getElem_cons_succ, List.setIfInBounds_toArray, List.set_cons_zero, List.set_cons_succ]
      refine wpAnyG_take [9, 10, 11, 13] (i := 9) (v := (.pointer (some ⟨g, 0, none⟩))) rfl (by kernel_rfl) (by kernel_rfl) (by kernel_rfl) (by kernel_rfl) (by kernel_rfl) (by kernel_rfl) (by kernel_rfl) (by kernel_rfl) (fun _ _ _ h => h) (Or.inl ⟨by rfl, ?hy⟩) T0 ?_
      case hy =>
        intro X hX
        go_simp
      try simp only [Act.put, List.getElem_toArray, List.getElem_cons_zero, List.getElem_cons_succ, List.setIfInBounds_toArray, List.set_cons_zero, List.set_cons_succ]
      refine wpAnyG_take [10, 11, 13] (i := 10) (v := (.int .i64 tt)) rfl (by kernel_rfl) (by kernel_rfl) (by kernel_rfl) (by kernel_rfl) (by kernel_rfl) (by kernel_rfl) (by kernel_rfl) (by kernel_rfl) (fun _ _ _ h => h) (Or.inl ⟨by rfl, ?hy⟩) T0 ?_
      case hy =>
        intro X hX
        have x0 := hX.2.1
        go_simp
      try simp only [Act.put, List.getElem_toArray, List.getElem_cons_zero, List.getElem_cons_succ, List.setIfInBounds_toArray, List.set_cons_zero, List.set_cons_succ]
      refine wpAnyG_take [11, 13] (i := 11) (v := (.int .i64 ee)) rfl (by kernel_rfl) (by kernel_rfl) (by kernel_rfl) (by kernel_rfl) (by kernel_rfl) (by kernel_rfl) (by kernel_rfl) (by kernel_rfl) (fun _ _ _ h => h) (Or.inl ⟨by rfl, ?hy⟩) T0 ?_
      case hy =>
        intro X hX
        go_simp
      try simp only [Act.put, List.getElem_toArray, List.getElem_cons_zero, List.getElem_cons_succ, List.setIfInBounds_toArray, List.set_cons_zero, List.set_cons_succ]
      have f1 := c5.cell
      have f2 := c5.frozen
      have f3 := c5.lt
      refine wpAnyG_all (rs := [12]) (by kernel_rfl) (by simp) ?_
      intro i hi
      simp only [List.mem_cons, List.not_mem_nil, or_false] at hi
      subst hi
      refine wpOp_now rfl rfl ?_
      go_simp
      have g1 := (c5.set 0 (.int .i64 0)).set 1 (.int .i64 tt)
      have gB := (cB5.setCell (p := ⟨w.heap.size, 0, none⟩) (by dsimp only; omega) (.int .i64 0)).setCell (p := ⟨w.heap.size, 1, none⟩) (by dsimp only; omega) (.int .i64 tt)
      replace T0 : (((Y0.setCell ⟨w.heap.size, 0, none⟩ (.int .i64 0)).setCell ⟨w.heap.size, 1, none⟩ (.int .i64 tt)).cell? ⟨b8, 0, none⟩ = some (.int .i64 0) ∧ ((Y0.setCell ⟨w.heap.size, 0, none⟩ (.int .i64 0)).setCell ⟨w.heap.size, 1, none⟩ (.int .i64 tt)).cell? ⟨b8, 1, none⟩ = some (.int .i64 tt)) ∧ ((Y0.setCell ⟨w.heap.size, 0, none⟩ (.int .i64 0)).setCell ⟨w.heap.size, 1, none⟩ (.int .i64 tt)).cell? ⟨g, 0, none⟩ = some (.int .i64 (tt : Nat)) ∧ ((Y0.setCell ⟨w.heap.size, 0, none⟩ (.int .i64 0)).setCell ⟨w.heap.size, 1, none⟩ (.int .i64 tt)).cell? ⟨g, 0 + 1, none⟩ = some (.int .i64 (tt + ee : Nat)) := ⟨⟨(World.cell?_of_block (w := Y0) ((Below.heap_setCell _ _ _ _ (by dsimp only; omega)).trans (Below.heap_setCell _ _ _ _ (by dsimp only; omega)))).trans T0.1.1, (World.cell?_of_block (w := Y0) ((Below.heap_setCell _ _ _ _ (by dsimp only; omega)).trans (Below.heap_setCell _ _ _ _ (by dsimp only; omega)))).trans T0.1.2⟩, (World.cell?_of_block (w := Y0) ((Below.heap_setCell _ _ _ _ (by dsimp only; omega)).trans (Below.heap_setCell _ _ _ _ (by dsimp only; omega)))).trans T0.2.1, (World.cell?_of_block (w := Y0) ((Below.heap_setCell _ _ _ _ (by dsimp only; omega)).trans (Below.heap_setCell _ _ _ _ (by dsimp only; omega)))).trans T0.2.2⟩
      obtain ⟨G, hG⟩ : ∃ G, (Y0.setCell ⟨w.heap.size, 0, none⟩ (.int .i64 0)).setCell ⟨w.heap.size, 1, none⟩ (.int .i64 tt) = G := ⟨_, rfl⟩
      rw [hG] at g1 gB T0 ⊢
      clear hG
      refine ⟨fun _ => T0, ?_⟩
      try simp only [Act.put, List.getElem_toArray, List.getElem_cons_zero, List.getElem_cons_succ, List.setIfInBounds_toArray, List.set_cons_zero, List.set_cons_succ]
      refine wpAnyG_take [13] (i := 13) (v := (.int .i64 ee)) rfl (by kernel_rfl) (by kernel_rfl) (by kernel_rfl) (by kernel_rfl) (by kernel_rfl) (by kernel_rfl) (by kernel_rfl) (by kernel_rfl) (fun _ _ _ h => h) (Or.inl ⟨by rfl, ?hy⟩) T0 ?_
      case hy =>
        intro X hX
        go_simp
      try simp only [Act.put, List.getElem_toArray, List.getElem_cons_zero, List.getElem_cons_succ, List.setIfInBounds_toArray, List.set_cons_zero, List.set_cons_succ]
      refine wpAnyG_take [14] (i := 14) (v := (.bool true)) rfl (by kernel_rfl) (by kernel_rfl) (by kernel_rfl) (by kernel_rfl) (by kernel_rfl) (by kernel_rfl) (by kernel_rfl) (by kernel_rfl) (fun _ _ _ h => h) (Or.inl ⟨by rfl, ?hy⟩) T0 ?_
      case hy =>
        intro X hX
        go_simp
      try simp only [Act.put, List.getElem_toArray, List.getElem_cons_zero, List.getElem_cons_succ, List.setIfInBounds_toArray, List.set_cons_zero, List.set_cons_succ]
      refine wpAnyG_done (by kernel_rfl) ?_ _
      refine NoPanic.normal ?_
      have k1 := g1.cell
      have k2 := g1.lt
      simp at k1
      go_wp2
      refine bodyPost_ret (v := .tuple #[.agg #[.int .i64 0, .int .i64 tt], .int .i64 ee, .bool true]) (by simp [results, Try.f31, go_sem, k1, k2]) rfl ⟨rfl, gB⟩
  · by_cases hkE2 : k = E
    · obtain ⟨htt, hee⟩ := q3 hkE2
      subst htt hee
      obtain ⟨k', hk'⟩ : ∃ k', k = k' + 1 := ⟨k - 1, by omega⟩
      obtain ⟨f0, hf0⟩ := q1 k' hk'
      obtain ⟨g, rfl, gl, gw, _, _⟩ := HEC.out w1 (Below.refl _ _) _ _ _ hf0
      have hy := fun o => (HEC.out (w1.alloc o) ((Below.refl _ w1).alloc (Nat.le_refl _) o) _ _ _ hf0)
      have y1 : ∀ o, (w1.alloc o).cell? ⟨g, k' * 2 + 1, none⟩ = some (.int .i64 (fr : Nat)) := fun o => by
        obtain ⟨g', e9, _, _, _, h9⟩ := hy o
        obtain rfl : g = g' := by simpa using e9
        exact h9
      subst hk'
      have d0 : decide ((0 : Int) < (k' : Int) + 1) = true := decide_eq_true (by omega)
      have d2 : (0 : Int) ≤ (k' : Int) := by omega
      have d3 : (k' : Int) < (E : Int) := by omega
      have d4 : IntKind.i64.wrap (k' : Int) = (k' : Int) := IntWalk.i64_in _ (by omega)
      have d5 : (k' : Int) + 1 - 1 = (k' : Int) := by omega
      simp only [Int.natCast_add, Int.cast_ofNat_Int] at e1 e2
      clear hf0 hy
      subst hkE2
      try simp only [Int.natCast_add, Int.cast_ofNat_Int] at e1 e2
      have d8 := (Blk.new w1 #[.int .i64 fr, .int .i64 s.size] 37).cell
      have k0c := c4.cell
      have k2' := c4.frozen
      have k3 := c4.lt
      go_wp2
      refine bodyPost_ret (v := .tuple #[.agg #[.int .i64 fr, .int .i64 s.size], .int .i64 0, .bool true]) (by simp [results, Try.f31, go_sem, k0c, k3]) rfl ⟨rfl, ?_⟩
      first | exact ((cB.setCell (p := ⟨w.heap.size, 0, none⟩) (by dsimp only; omega) _).setCell (p := ⟨w.heap.size, 1, none⟩) (by dsimp only; omega) _).alloc ((cB.setCell (p := ⟨w.heap.size, 0, none⟩) (by dsimp only; omega) _).setCell (p := ⟨w.heap.size, 1, none⟩) (by dsimp only; omega) _).size _ | exact ((cB.alloc cB.size _).setCell (p := ⟨w.heap.size, 0, none⟩) (by dsimp only; omega) _).setCell (p := ⟨w.heap.size, 1, none⟩) (by dsimp only; omega) _
    · replace hkE2 : k < E := by omega
      have hq2 := q2 hkE2
      obtain ⟨g, rfl, gl, gw, _, _⟩ := HEC.out w1 (Below.refl _ _) _ _ _ hq2
      obtain ⟨k', hk'⟩ : ∃ k', k = k' + 1 := ⟨k - 1, by omega⟩
      obtain ⟨f0, hf0⟩ := q1 k' hk'
      have hy := fun o => (HEC.out (w1.alloc o) ((Below.refl _ w1).alloc (Nat.le_refl _) o) _ _ _ hf0)
      have y1 : ∀ o, (w1.alloc o).cell? ⟨g, k' * 2 + 1, none⟩ = some (.int .i64 (fr : Nat)) := fun o => by
        obtain ⟨g', e9, _, _, _, h9⟩ := hy o
        obtain rfl : g = g' := by simpa using e9
        exact h9
      subst hk'
      have d0 : decide ((0 : Int) < (k' : Int) + 1) = true := decide_eq_true (by omega)
      have d2 : (0 : Int) ≤ (k' : Int) := by omega
      have d3 : (k' : Int) < (E : Int) := by omega
      have d4 : IntKind.i64.wrap (k' : Int) = (k' : Int) := IntWalk.i64_in _ (by omega)
      have d5 : (k' : Int) + 1 - 1 = (k' : Int) := by omega
      simp only [Int.natCast_add, Int.cast_ofNat_Int] at e1 e2
      clear hf0 hy
      have j1 : (((k' : Int) + 1) == (E : Int)) = false := by rw [beq_eq_false_iff_ne]; omega
      have j2 : ¬ (((k' : Int) + 1) : Int) = (E : Int) := by omega
      have j3 : (0 : Int) ≤ ((k' : Int) + 1) := by omega
      have j4 : ((k' : Int) + 1) < (E : Int) := by omega
      have hz := fun o => (HEC.out (w1.alloc o) ((Below.refl _ w1).alloc (Nat.le_refl _) o) _ _ _ hq2)
      have z0 : ∀ o, (w1.alloc o).cell? ⟨g, (k' + 1) * 2, none⟩ = some (.int .i64 (tt : Nat)) := fun o => by
        obtain ⟨g', e9, _, _, h9, _⟩ := hz o
        obtain rfl : g = g' := by simpa using e9
        exact h9
      have z1 : ∀ o, (w1.alloc o).cell? ⟨g, (k' + 1) * 2 + 1, none⟩ = some (.int .i64 (tt + ee : Nat)) := fun o => by
        obtain ⟨g', e9, _, _, _, h9⟩ := hz o
        obtain rfl : g = g' := by simpa using e9
        exact h9
      clear hz hq2
      have d8 := fun z => (Blk.new w1 #[.int .i64 fr, .int .i64 z] 37).cell
      have HZ := Lib.hid (And.intro z0 z1)
      go_wp2
      have m8 := Blk.new w1 #[.int .i64 fr, .int .i64 tt] 37
      have c4Y := c4.alloc (.cells #[.int .i64 fr, .int .i64 tt] 37)
      have cBY := cB.alloc cB.size (.cells #[.int .i64 fr, .int .i64 tt] 37)
      have y0 := HZ.out.1 (.cells #[.int .i64 fr, .int .i64 tt] 37)
      have y1 := HZ.out.2 (.cells #[.int .i64 fr, .int .i64 tt] 37)
      have b8n : w1.heap.size ≠ w.heap.size := by have := c4.lt; omega
      obtain ⟨b8, hb8⟩ : ∃ b, w1.heap.size = b := ⟨_, rfl⟩
      obtain ⟨Y, hY⟩ : ∃ Y, w1.alloc (.cells #[.int .i64 fr, .int .i64 tt] 37) = Y := ⟨_, rfl⟩
      rw [hb8] at m8 b8n
      rw [hY] at m8 c4Y cBY y0 y1
      try rw [hY]
      try simp only [hb8]
      clear hY hb8 d8 z0 z1 c4 cB
      refine wp_region_noPanic ?_
      refine wp_region_g (S := untilG [] (fun X => (X.cell? ⟨b8, 0, none⟩ = some (.int .i64 fr) ∧ X.cell? ⟨b8, 1, none⟩ = some (.int .i64 tt)) ∧ X.cell? ⟨g, (k' + 1) * 2, none⟩ = some (.int .i64 (tt : Nat)) ∧ X.cell? ⟨g, (k' + 1) * 2 + 1, none⟩ = some (.int .i64 (tt + ee : Nat)))) (by kernel_rfl) ?_
      have T0 : (Y.drew.cell? ⟨b8, 0, none⟩ = some (.int .i64 fr) ∧ Y.drew.cell? ⟨b8, 1, none⟩ = some (.int .i64 tt)) ∧ Y.drew.cell? ⟨g, (k' + 1) * 2, none⟩ = some (.int .i64 (tt : Nat)) ∧ Y.drew.cell? ⟨g, (k' + 1) * 2 + 1, none⟩ = some (.int .i64 (tt + ee : Nat)) := ⟨⟨m8.cell 0, m8.cell 1⟩, y0, y1⟩
      have c5 := c4Y.drew
      have cB5 := cBY.drew
      obtain ⟨Y0, hY0⟩ : ∃ X, Y.drew = X := ⟨_, rfl⟩
      rw [hY0] at T0 c5 cB5 ⊢
      clear hY0 m8 c4Y cBY y0 y1
      have w8 : IntKind.i64.wrap (ee : Int) = (ee : Int) := IntWalk.i64_in _ (by omega)
      have w9 : ((tt + ee : Nat) : Int) - (tt : Int) = (ee : Int) := by omega
      have w10 : (tt : Int) + (ee : Int) - (tt : Int) = (ee : Int) := by omega
      refine wpAnyG_take [0, 12] (i := 0) (v := (.agg #[.int .i64 fr, .int .i64 tt])) rfl (by kernel_rfl) (by kernel_rfl) (by kernel_rfl) (by kernel_rfl) (by kernel_rfl) (by kernel_rfl) (by kernel_rfl) (by kernel_rfl) (fun _ _ _ h => h) (Or.inl ⟨by rfl, ?hy⟩) T0 ?_
      case hy =>
        intro X hX
        have x0 := hX.1.1
        have x1 := hX.1.2
        go_simp
      try simp only [Act.put, List.getElem_toArray, List.getElem_cons_zero, List.getElem_cons_succ, List.setIfInBounds_toArray, List.set_cons_zero, List.set_cons_succ]
      refine wpAnyG_take [1, 3, 4, 5, 11, 13] (i := 1) (v := (.slice (some ⟨g, 0, none⟩) E ce)) rfl (by kernel_rfl) (by kernel_rfl) (by kernel_rfl) (by kernel_rfl) (by kernel_rfl) (by kernel_rfl) (by kernel_rfl) (by kernel_rfl) (fun _ _ _ h => h) (Or.inl ⟨by rfl, ?hy⟩) T0 ?_
      case hy =>
        intro X hX
        go_simp
      try simp only [Act.put, List.getElem_toArray, List.getElem_cons_zero, List.getElem_cons_succ, List.setIfInBounds_toArray, List.set_cons_zero, List.set_cons_succ]
      refine wpAnyG_take [2, 3, 4, 5, 11, 13] (i := 2) (v := (.int .i64 ((k' : Int) + 1))) rfl (by kernel_rfl) (by kernel_rfl) (by kernel_rfl) (by kernel_rfl) (by kernel_rfl) (by kernel_rfl) (by kernel_rfl) (by kernel_rfl) (fun _ _ _ h => h) (Or.inl ⟨by rfl, ?hy⟩) T0 ?_
      case hy =>
        intro X hX
        go_simp
      try simp only [Act.put, List.getElem_toArray, List.getElem_cons_zero, List.getElem_cons_succ, List.setIfInBounds_toArray, List.set_cons_zero, List.set_cons_succ]
      refine wpAnyG_take [3, 4, 5, 11, 13] (i := 3) (v := (.pointer (some ⟨g, (k' + 1) * 2, none⟩))) rfl (by kernel_rfl) (by kernel_rfl) (by kernel_rfl) (by kernel_rfl) (by kernel_rfl) (by kernel_rfl) (by kernel_rfl) (by kernel_rfl) (fun _ _ _ h => h) (Or.inl ⟨by rfl, ?hy⟩) T0 ?_
      case hy =>
        intro X hX
        go_simp
      try simp only [Act.put, List.getElem_toArray, List.getElem_cons_zero, List.getElem_cons_succ, List.setIfInBounds_toArray, List.set_cons_zero, List.set_cons_succ]
      refine wpAnyG_take [4, 5, 11, 13] (i := 4) (v := (.pointer (some ⟨g, (k' + 1) * 2 + 1, none⟩))) rfl (by kernel_rfl) (by kernel_rfl) (by kernel_rfl) (by kernel_rfl) (by kernel_rfl) (by kernel_rfl) (by kernel_rfl) (by kernel_rfl) (fun _ _ _ h => h) (Or.inl ⟨by rfl, ?hy⟩) T0 ?_
      case hy =>
        intro X hX
        go_simp
      try simp only [Act.put, List.getElem_toArray, List.getElem_cons_zero, List.getElem_cons_succ, List.setIfInBounds_toArray, List.set_cons_zero, List.set_cons_succ]
      refine wpAnyG_take [5, 11, 13] (i := 5) (v := (.int .i64 ((tt : Int) + (ee : Int)))) rfl (by kernel_rfl) (by kernel_rfl) (by kernel_rfl) (by kernel_rfl) (by kernel_rfl) (by kernel_rfl) (by kernel_rfl) (by kernel_rfl) (fun _ _ _ h => h) (Or.inl ⟨by rfl, ?hy⟩) T0 ?_
      case hy =>
        intro X hX
        have x0 := hX.2.2
        go_simp
      try simp only [Act.put, List.getElem_toArray, List.getElem_cons_zero, List.getElem_cons_succ, List.setIfInBounds_toArray, List.set_cons_zero, List.set_cons_succ]
      refine wpAnyG_take [6, 8, 9, 10, 11, 13] (i := 6) (v := (.slice (some ⟨g, 0, none⟩) E ce)) rfl (by kernel_rfl) (by kernel_rfl) (by kernel_rfl) (by kernel_rfl) (by kernel_rfl) (by kernel_rfl) (by kernel_rfl) (by kernel_rfl) (fun _ _ _ h => h) (Or.inl ⟨by rfl, ?hy⟩) T0 ?_
      case hy =>
        intro X hX
        go_simp
      try simp only [Act.put, List.getElem_toArray, List.getElem_cons_zero, List.getElem_cons_succ, List.setIfInBounds_toArray, List.set_cons_zero, List.set_cons_succ]
      refine wpAnyG_take [7, 8, 9, 10, 11, 13] (i := 7) (v := (.int .i64 ((k' : Int) + 1))) rfl (by kernel_rfl) (by kernel_rfl) (by kernel_rfl) (by kernel_rfl) (by kernel_rfl) (by kernel_rfl) (by kernel_rfl) (by kernel_rfl) (fun _ _ _ h => h) (Or.inl ⟨by rfl, ?hy⟩) T0 ?_
      case hy =>
        intro X hX
        go_simp
      try simp only [Act.put, List.getElem_toArray, List.getElem_cons_zero, List.getElem_cons_succ, List.setIfInBounds_toArray, List.set_cons_zero, List.set_cons_succ]
      refine wpAnyG_take [8, 9, 10, 11, 13] (i := 8) (v := (.pointer (some ⟨g, (k' + 1) * 2, none⟩))) rfl (by kernel_rfl) (by kernel_rfl) (by kernel_rfl) (by kernel_rfl) (by kernel_rfl) (by kernel_rfl) (by kernel_rfl) (by kernel_rfl) (fun _ _ _ h => h) (Or.inl ⟨by rfl, ?hy⟩) T0 ?_
      case hy =>
        intro X hX
        go_simp
      try simp only [Act.put, List.getElem_toArray, List.getElem_cons_zero, List.getElem_cons_succ, List.setIfInBounds_toArray, List.set_cons_zero, List.set_cons_succ]
      refine wpAnyG_take [9, 10, 11, 13] (i := 9) (v := (.pointer (some ⟨g, (k' + 1) * 2, none⟩))) rfl (by kernel_rfl) (by kernel_rfl) (by kernel_rfl) (by kernel_rfl) (by kernel_rfl) (by kernel_rfl) (by kernel_rfl) (by kernel_rfl) (fun _ _ _ h => h) (Or.inl ⟨by rfl, ?hy⟩) T0 ?_
      case hy =>
        intro X hX
        go_simp
      try simp only [Act.put, List.getElem_toArray, List.getElem_cons_zero, List.getElem_cons_succ, List.setIfInBounds_toArray, List.set_cons_zero, List.set_cons_succ]
      refine wpAnyG_take [10, 11, 13] (i := 10) (v := (.int .i64 tt)) rfl (by kernel_rfl) (by kernel_rfl) (by kernel_rfl) (by kernel_rfl) (by kernel_rfl) (by kernel_rfl) (by kernel_rfl) (by kernel_rfl) (fun _ _ _ h => h) (Or.inl ⟨by rfl, ?hy⟩) T0 ?_
      case hy =>
        intro X hX
        have x0 := hX.2.1
        go_simp
      try simp only [Act.put, List.getElem_toArray, List.getElem_cons_zero, List.getElem_cons_succ, List.setIfInBounds_toArray, List.set_cons_zero, List.set_cons_succ]
      refine wpAnyG_take [11, 13] (i := 11) (v := (.int .i64 ee)) rfl (by kernel_rfl) (by kernel_rfl) (by kernel_rfl) (by kernel_rfl) (by kernel_rfl) (by kernel_rfl) (by kernel_rfl) (by kernel_rfl) (fun _ _ _ h => h) (Or.inl ⟨by rfl, ?hy⟩) T0 ?_
      case hy =>
        intro X hX
        go_simp
      try simp only [Act.put, List.getElem_toArray, List.getElem_cons_zero, List.getElem_cons_succ, List.setIfInBounds_toArray, List.set_cons_zero, List.set_cons_succ]
      have f1 := c5.cell
      have f2 := c5.frozen
      have f3 := c5.lt
      refine wpAnyG_all (rs := [12]) (by kernel_rfl) (by simp) ?_
      intro i hi
      simp only [List.mem_cons, List.not_mem_nil, or_false] at hi
      subst hi
      refine wpOp_now rfl rfl ?_
      go_simp
      have g1 := (c5.set 0 (.int .i64 fr)).set 1 (.int .i64 tt)
      have gB := (cB5.setCell (p := ⟨w.heap.size, 0, none⟩) (by dsimp only; omega) (.int .i64 fr)).setCell (p := ⟨w.heap.size, 1, none⟩) (by dsimp only; omega) (.int .i64 tt)
      replace T0 : (((Y0.setCell ⟨w.heap.size, 0, none⟩ (.int .i64 fr)).setCell ⟨w.heap.size, 1, none⟩ (.int .i64 tt)).cell? ⟨b8, 0, none⟩ = some (.int .i64 fr) ∧ ((Y0.setCell ⟨w.heap.size, 0, none⟩ (.int .i64 fr)).setCell ⟨w.heap.size, 1, none⟩ (.int .i64 tt)).cell? ⟨b8, 1, none⟩ = some (.int .i64 tt)) ∧ ((Y0.setCell ⟨w.heap.size, 0, none⟩ (.int .i64 fr)).setCell ⟨w.heap.size, 1, none⟩ (.int .i64 tt)).cell? ⟨g, (k' + 1) * 2, none⟩ = some (.int .i64 (tt : Nat)) ∧ ((Y0.setCell ⟨w.heap.size, 0, none⟩ (.int .i64 fr)).setCell ⟨w.heap.size, 1, none⟩ (.int .i64 tt)).cell? ⟨g, (k' + 1) * 2 + 1, none⟩ = some (.int .i64 (tt + ee : Nat)) := ⟨⟨(World.cell?_of_block (w := Y0) ((Below.heap_setCell _ _ _ _ (by dsimp only; omega)).trans (Below.heap_setCell _ _ _ _ (by dsimp only; omega)))).trans T0.1.1, (World.cell?_of_block (w := Y0) ((Below.heap_setCell _ _ _ _ (by dsimp only; omega)).trans (Below.heap_setCell _ _ _ _ (by dsimp only; omega)))).trans T0.1.2⟩, (World.cell?_of_block (w := Y0) ((Below.heap_setCell _ _ _ _ (by dsimp only; omega)).trans (Below.heap_setCell _ _ _ _ (by dsimp only; omega)))).trans T0.2.1, (World.cell?_of_block (w := Y0) ((Below.heap_setCell _ _ _ _ (by dsimp only; omega)).trans (Below.heap_setCell _ _ _ _ (by dsimp only; omega)))).trans T0.2.2⟩
      obtain ⟨G, hG⟩ : ∃ G, (Y0.setCell ⟨w.heap.size, 0, none⟩ (.int .i64 fr)).setCell ⟨w.heap.size, 1, none⟩ (.int .i64 tt) = G := ⟨_, rfl⟩
      rw [hG] at g1 gB T0 ⊢
      clear hG
      refine ⟨fun _ => T0, ?_⟩
      try simp only [Act.put, List.getElem_toArray, List.getElem_cons_zero, List.getElem_cons_succ, List.setIfInBounds_toArray, List.set_cons_zero, List.set_cons_succ]
      refine wpAnyG_take [13] (i := 13) (v := (.int .i64 ee)) rfl (by kernel_rfl) (by kernel_rfl) (by kernel_rfl) (by kernel_rfl) (by kernel_rfl) (by kernel_rfl) (by kernel_rfl) (by kernel_rfl) (fun _ _ _ h => h) (Or.inl ⟨by rfl, ?hy⟩) T0 ?_
      case hy =>
        intro X hX
        go_simp
      try simp only [Act.put, List.getElem_toArray, List.getElem_cons_zero, List.getElem_cons_succ, List.setIfInBounds_toArray, List.set_cons_zero, List.set_cons_succ]
      refine wpAnyG_take [14] (i := 14) (v := (.bool true)) rfl (by kernel_rfl) (by kernel_rfl) (by kernel_rfl) (by kernel_rfl) (by kernel_rfl) (by kernel_rfl) (by kernel_rfl) (by kernel_rfl) (fun _ _ _ h => h) (Or.inl ⟨by rfl, ?hy⟩) T0 ?_
      case hy =>
        intro X hX
        go_simp
      try simp only [Act.put, List.getElem_toArray, List.getElem_cons_zero, List.getElem_cons_succ, List.setIfInBounds_toArray, List.set_cons_zero, List.set_cons_succ]
      refine wpAnyG_done (by kernel_rfl) ?_ _
      refine NoPanic.normal ?_
      have k1 := g1.cell
      have k2 := g1.lt
      simp at k1
      go_wp2
      refine bodyPost_ret (v := .tuple #[.agg #[.int .i64 fr, .int .i64 tt], .int .i64 ee, .bool true]) (by simp [results, Try.f31, go_sem, k1, k2]) rfl ⟨rfl, gB⟩
end Go.Proofs.Ytjlfdoonhfkabaa
