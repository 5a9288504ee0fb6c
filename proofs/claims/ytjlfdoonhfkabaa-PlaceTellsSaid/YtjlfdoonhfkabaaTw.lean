/- PlaceTells: the law's call. -/
import Derived.Test.YtjlfdoonhfkabaaTq
import Derived.Test.YtjlfdoonhfkabaaPg0
namespace Go.Proofs.Ytjlfdoonhfkabaa
set_option linter.unusedVariables false
set_option linter.unusedSimpArgs false
open Go Go.RowKit Go.Shelf
set_option maxRecDepth 100000
attribute [local go_sem] Oper.semAt_some undef

set_option maxHeartbeats 40000000 in
theorem tells_short (s : ByteArray) (hs : s.size ≤ 65536) (x0 x1 x2 x3 x4 : Int) (hx4 : x4 < 9223372036854775808) (w : World) : CallsIn Fence.wide 11 Try.prog 4 #[.string s, .agg #[.int .i64 x0, .int .i64 x1, .int .i64 x2, .int .i64 x3, .int .i64 x4]] w fun e w' => e = .returned (.bool true) ∧ Below w.heap.size w w' := by
  have hnP := nP_le s
  have hrc := rows_count s
  have hel := ens_len s
  have hlb := pK_l_bound s (nP s)
  have cE := fun m W hM => end_any s hs m W hM
  have cL := fun m W hM => lines_any s m W hM
  obtain ⟨a0, a1, a2, a3, a4, ai, ae, ao, cM1, cD1, ho1⟩ := q_byte s hs x0
  obtain ⟨b0, b1, b2, b3, b4, be, bo, cM2, cD2, ho2⟩ := q_rune s hs x1
  obtain ⟨c0, c1, c2, c3, c4, ci, ce, co, cM3, cD3, ho3⟩ := q_unit s hs x2
  obtain ⟨d0, d1, d2, d3, d4, de, do', cM4, cD4, ho4⟩ := q_line s hs x3 x4 hx4
  obtain ⟨e0, e1, ei, ee, eo, cM5, cD5, ho5⟩ := q_span s hs x3
  have CM1 := Lib.hid cM1
  have CM2 := Lib.hid cM2
  have CM3 := Lib.hid cM3
  have CM4 := Lib.hid cM4
  have CM5 := Lib.hid cM5
  have CD1 := Lib.hid cD1
  have CD2 := Lib.hid cD2
  have CD3 := Lib.hid cD3
  have CD4 := Lib.hid cD4
  have CD5 := Lib.hid cD5
  have HO1 := Lib.hid ho1
  have HO2 := Lib.hid ho2
  have HO3 := Lib.hid ho3
  have HO4 := Lib.hid ho4
  have HO5 := Lib.hid ho5
  clear cM1 cM2 cM3 cM4 cM5 cD1 cD2 cD3 cD4 cD5 ho1 ho2 ho3 ho4 ho5
  obtain ⟨q, hq⟩ : ∃ p, pK s (nP s) = p := ⟨_, rfl⟩
  have HQ := Lib.hid hq
  rw [hq] at cE hrc hel hlb
  clear hq
  obtain ⟨eb, ek, eu, el, ec⟩ := q
  simp only [plV] at cE hrc hel hlb
  rw [hrc] at cL
  obtain ⟨E, hE⟩ : ∃ E, el = E := ⟨_, rfl⟩
  rw [hE] at hel cL hlb
  simp only [Int.natCast_add, Int.cast_ofNat_Int] at cL
  refine callsIn_of_wp_marks Try.func4 rfl trivial ?_ rfl
  simp only [Try.ntmps4, List.size_toArray, List.length_cons, List.length_nil, Nat.reduceAdd, Nat.reduceSub, Array.replicate_succ, Array.replicate_zero, List.push_toArray, List.append_toArray, List.nil_append, List.cons_append]
  have hF : ∀ f, Fence.wide.fn f := fun _ => trivial
  have B0 := (Blk.new w #[.int .i64 x0, .int .i64 x1, .int .i64 x2, .int .i64 x3, .int .i64 x4] 50).alloc (.cells #[.bool false] 4)
  have B1 := Blk.new (w.alloc (.cells #[.int .i64 x0, .int .i64 x1, .int .i64 x2, .int .i64 x3, .int .i64 x4] 50)) #[.bool false] 4
  have bB : Below w.heap.size w ((w.alloc (.cells #[.int .i64 x0, .int .i64 x1, .int .i64 x2, .int .i64 x3, .int .i64 x4] 50)).alloc (.cells #[.bool false] 4)) := ((Below.refl _ w).alloc (Nat.le_refl _) _).alloc (by simp) _
  simp only [World.size_alloc] at B1
  gi_wp2_with fail
  refine (callsIn_wide.2 (works_any _)).mono ?_
  rintro e w1 ⟨rfl, hb1⟩
  have C0 := B0.below' hb1
  have C1 := B1.below' hb1
  have hB1 := bB.trans (hb1.mono bB.size)
  gi_wp2_with fail
  refine (callsIn_wide.2 (callsIn_wide.1 (new_in s hs _))).mono ?_
  rintro e w2 ⟨m, rfl, hM, hb2⟩
  have D0 := C0.below' hb2
  have D1 := C1.below' hb2
  have hB2 := hB1.trans (hb2.mono hB1.size)
  gi_wp2_with fail
  refine (callsIn_wide.2 (placesD_any s hs _)).mono ?_
  rintro e w3 ⟨v, base, rfl, hbase, hv, hb3⟩
  obtain ⟨g, cap, rfl⟩ := ownsRow_succ hv
  have E0 := (D0.below' hb3).alloc (.cells #[.slice (some ⟨g, 0, none⟩) (nP s + 1) cap] 51)
  have E1 := (D1.below' hb3).alloc (.cells #[.slice (some ⟨g, 0, none⟩) (nP s + 1) cap] 51)
  have E7 := Blk.new w3 #[.slice (some ⟨g, 0, none⟩) (nP s + 1) cap] 51
  have hM3 := mapAt_below hM hb3
  have hM5 := mapAt_below hM3 ((Below.refl _ w3).alloc (Nat.le_refl _) (.cells #[.slice (some ⟨g, 0, none⟩) (nP s + 1) cap] 51))
  have hB3 := hB2.trans (hb3.mono hB2.size)
  have hB5 := hB3.alloc hB3.size (.cells #[.slice (some ⟨g, 0, none⟩) (nP s + 1) cap] 51)
  have hrow := fun k (hk : k ≤ nP s) => row_pl hv ((Below.refl w3.heap.size w3).alloc (Nat.le_refl _) (.cells #[.slice (some ⟨g, 0, none⟩) (nP s + 1) cap] 51)) hk
  obtain ⟨b7, hb7⟩ : ∃ b, w3.heap.size = b := ⟨_, rfl⟩
  rw [hb7] at E7
  obtain ⟨W5, hW5⟩ : ∃ W, w3.alloc (.cells #[.slice (some ⟨g, 0, none⟩) (nP s + 1) cap] 51) = W := ⟨_, rfl⟩
  rw [hW5] at E0 E1 E7 hM5 hB5 hrow
  clear B0 B1 bB hb1 C0 C1 hB1 hb2 D0 D1 hB2 hb3 hM hM3 hB3 hv
  gi_wp2_with fail
  clear hW5 hb7
  obtain ⟨n, hn⟩ : ∃ n, nP s = n := ⟨_, rfl⟩
  have HN := Lib.hid hn
  rw [hn] at E7 hrow hnP hlb
  simp only [hn]
  obtain ⟨y0, y1, y2, y3, y4⟩ := hrow n (Nat.le_refl _)
  have HQ2 := HQ.out
  rw [hn] at HQ2
  rw [HQ2] at y0 y1 y2 y3 y4
  simp only at y0 y1 y2 y3 y4
  have HROW := Lib.hid hrow
  have HEL := Lib.hid hE
  subst hE
  clear HQ2 hrow hn
  have v7 := E7.cell 0
  simp only [List.getElem?_toArray, List.getElem?_cons_zero] at v7
  have n0 : IntKind.i64.wrap (n : Int) = (n : Int) := IntWalk.i64_in _ (by omega)
  have n1 : (0 : Int) ≤ (n : Int) := by omega
  have n2 : (n : Int) < (n : Int) + 1 := by omega
  have n3 : (n : Int) + 1 - 1 = (n : Int) := by omega
  have n4 : IntKind.i64.wrap ((el : Int) + 1) = (el : Int) + 1 := IntWalk.i64_in _ (by omega)
  refine wpIn_wide.2 ?_
  refine wp_region_noPanic ?_
  refine wp_region_g (S := untilG [] (fun X => Below W5.heap.size W5 X)) (by kernel_rfl) ?_
  obtain ⟨U0, hU0⟩ : ∃ X, W5.drew = X := ⟨_, rfl⟩
  have T0 : Below W5.heap.size W5 U0 := hU0 ▸ (Below.refl W5.heap.size W5).drew
  rw [hU0]
  clear hU0
  refine wpAnyG_take [0, 1, 2, 3, 4, 5, 6, 7, 8, 9, 10, 11, 12, 13, 14, 15, 16, 17, 18, 19, 20, 21, 22, 23, 24, 25, 26, 27, 28, 29, 30, 31] (i := 0) (v := (.int .i64 0)) rfl (by kernel_rfl) (by kernel_rfl) (by kernel_rfl) (by kernel_rfl) (by kernel_rfl) (by kernel_rfl) (by kernel_rfl) (by kernel_rfl) (fun _ _ _ h => h) (Or.inl ⟨by rfl, ?hy⟩) T0 ?_
  case hy =>
    intro X hX
    go_simp
  try simp only [Act.put, List.getElem_toArray, List.getElem_cons_zero, List.getElem_cons_succ, List.setIfInBounds_toArray, List.set_cons_zero, List.set_cons_succ]
  refine wpAnyG_take [1, 2, 3, 4, 5, 6, 7, 8, 9, 10, 11, 12, 13, 14, 15, 16, 17, 18, 19, 20, 21, 22, 23, 24, 25, 26, 27, 28, 29, 30, 31] (i := 1) (v := (.bool false)) rfl (by kernel_rfl) (by kernel_rfl) (by kernel_rfl) (by kernel_rfl) (by kernel_rfl) (by kernel_rfl) (by kernel_rfl) (by kernel_rfl) (fun _ _ _ h => h) (Or.inl ⟨by rfl, ?hy⟩) T0 ?_
  case hy =>
    intro X hX
    go_simp
  try simp only [Act.put, List.getElem_toArray, List.getElem_cons_zero, List.getElem_cons_succ, List.setIfInBounds_toArray, List.set_cons_zero, List.set_cons_succ]
  refine wpAnyG_take [2, 3, 4, 5, 6, 7, 8, 9, 10, 11, 12, 13, 14, 15, 16, 17, 18, 19, 20, 21, 22, 23, 24, 25, 26, 27, 28, 29, 30, 31] (i := 2) (v := (.bool false)) rfl (by kernel_rfl) (by kernel_rfl) (by kernel_rfl) (by kernel_rfl) (by kernel_rfl) (by kernel_rfl) (by kernel_rfl) (by kernel_rfl) (fun _ _ _ h => h) (Or.inl ⟨by rfl, ?hy⟩) T0 ?_
  case hy =>
    intro X hX
    go_simp
  try simp only [Act.put, List.getElem_toArray, List.getElem_cons_zero, List.getElem_cons_succ, List.setIfInBounds_toArray, List.set_cons_zero, List.set_cons_succ]
  refine wpAnyG_take [3, 4, 5, 6, 7, 8, 9, 10, 11, 12, 13, 14, 15, 16, 17, 18, 19, 20, 21, 22, 23, 24, 25, 26, 27, 28, 29, 30, 31] (i := 3) (v := (.pointer (some ⟨m, 0, none⟩))) rfl (by kernel_rfl) (by kernel_rfl) (by kernel_rfl) (by kernel_rfl) (by kernel_rfl) (by kernel_rfl) (by kernel_rfl) (by kernel_rfl) (fun _ _ _ h => h) (Or.inl ⟨by rfl, ?hy⟩) T0 ?_
  case hy =>
    intro X hX
    go_simp
  try simp only [Act.put, List.getElem_toArray, List.getElem_cons_zero, List.getElem_cons_succ, List.setIfInBounds_toArray, List.set_cons_zero, List.set_cons_succ]
  refine wpAnyG_take [4, 5, 6, 7, 8, 9, 10, 11, 12, 13, 14, 15, 16, 17, 18, 19, 20, 21, 22, 23, 24, 25, 26, 27, 28, 29, 30, 31] (i := 4) (v := (.bool false)) rfl (by kernel_rfl) (by kernel_rfl) (by kernel_rfl) (by kernel_rfl) (by kernel_rfl) (by kernel_rfl) (by kernel_rfl) (by kernel_rfl) (fun _ _ _ h => h) (Or.inl ⟨by rfl, ?hy⟩) T0 ?_
  case hy =>
    intro X hX
    go_simp
  try simp only [Act.put, List.getElem_toArray, List.getElem_cons_zero, List.getElem_cons_succ, List.setIfInBounds_toArray, List.set_cons_zero, List.set_cons_succ]
  refine wpAnyG_take [5, 6, 7, 8, 9, 10, 11, 12, 13, 14, 15, 16, 17, 18, 19, 20, 21, 22, 23, 24, 25, 26, 27, 28, 29, 30, 31] (i := 5) (v := (.bool false)) rfl (by kernel_rfl) (by kernel_rfl) (by kernel_rfl) (by kernel_rfl) (by kernel_rfl) (by kernel_rfl) (by kernel_rfl) (by kernel_rfl) (fun _ _ _ h => h) (Or.inl ⟨by rfl, ?hy⟩) T0 ?_
  case hy =>
    intro X hX
    go_simp
  try simp only [Act.put, List.getElem_toArray, List.getElem_cons_zero, List.getElem_cons_succ, List.setIfInBounds_toArray, List.set_cons_zero, List.set_cons_succ]
  refine wpAnyG_take [6, 7, 8, 9, 10, 11, 12, 13, 14, 15, 16, 17, 18, 19, 20, 21, 22, 23, 24, 25, 26, 27, 28, 29, 30, 31] (i := 6) (v := (.bool false)) rfl (by kernel_rfl) (by kernel_rfl) (by kernel_rfl) (by kernel_rfl) (by kernel_rfl) (by kernel_rfl) (by kernel_rfl) (by kernel_rfl) (fun _ _ _ h => h) (Or.inl ⟨by rfl, ?hy⟩) T0 ?_
  case hy =>
    intro X hX
    go_simp
  try simp only [Act.put, List.getElem_toArray, List.getElem_cons_zero, List.getElem_cons_succ, List.setIfInBounds_toArray, List.set_cons_zero, List.set_cons_succ]
  refine wpAnyG_take [7, 8, 10, 11, 12, 13, 14, 15, 16, 17, 18, 19, 20, 21, 22, 23, 24, 25, 26, 27, 28, 29, 30, 31] (i := 7) (v := (.pointer (some ⟨m, 0, none⟩))) rfl (by kernel_rfl) (by kernel_rfl) (by kernel_rfl) (by kernel_rfl) (by kernel_rfl) (by kernel_rfl) (by kernel_rfl) (by kernel_rfl) (fun _ _ _ h => h) (Or.inl ⟨by rfl, ?hy⟩) T0 ?_
  case hy =>
    intro X hX
    go_simp
  try simp only [Act.put, List.getElem_toArray, List.getElem_cons_zero, List.getElem_cons_succ, List.setIfInBounds_toArray, List.set_cons_zero, List.set_cons_succ]
  refine wpAnyG_take [9, 10, 11, 12, 13, 14, 15, 16, 17, 18, 19, 20, 21, 22, 23, 24, 25, 26, 27, 28, 29, 30, 31] (i := 9) (v := (.string s)) rfl (by kernel_rfl) (by kernel_rfl) (by kernel_rfl) (by kernel_rfl) (by kernel_rfl) (by kernel_rfl) (by kernel_rfl) (by kernel_rfl) (fun _ _ _ h => h) (Or.inl ⟨by rfl, ?hy⟩) T0 ?_
  case hy =>
    intro X hX
    go_simp
  try simp only [Act.put, List.getElem_toArray, List.getElem_cons_zero, List.getElem_cons_succ, List.setIfInBounds_toArray, List.set_cons_zero, List.set_cons_succ]
  refine wpAnyG_all (rs := [8]) (by kernel_rfl) (by simp) ?_
  intro i hi
  simp only [List.mem_cons, List.not_mem_nil, or_false] at hi
  subst hi
  refine wpOp_open rfl (by rfl) ?_
  go_simp
  refine (text_any s m U0 (mapAt_below hM5 T0)).mono ?_
  rintro e U1 ⟨rfl, rfl⟩
  refine ⟨fun _ => T0, ?_⟩
  try simp only [Act.put, List.getElem_toArray, List.getElem_cons_zero, List.getElem_cons_succ, List.setIfInBounds_toArray, List.set_cons_zero, List.set_cons_succ]
  refine wpAnyG_take [10, 11, 12, 13, 14, 15, 16, 17, 18, 19, 20, 21, 22, 23, 24, 25, 26, 27, 28, 29, 30, 31] (i := 10) (v := (.bool false)) rfl (by kernel_rfl) (by kernel_rfl) (by kernel_rfl) (by kernel_rfl) (by kernel_rfl) (by kernel_rfl) (by kernel_rfl) (by kernel_rfl) (fun _ _ _ h => h) (Or.inl ⟨by rfl, ?hy⟩) T0 ?_
  case hy =>
    intro X hX
    go_simp
  try simp only [Act.put, List.getElem_toArray, List.getElem_cons_zero, List.getElem_cons_succ, List.setIfInBounds_toArray, List.set_cons_zero, List.set_cons_succ]
  refine wpAnyG_take [11, 12, 13, 14, 15, 16, 17, 18, 19, 20, 21, 22, 23, 24, 25, 26, 27, 28, 29, 30, 31] (i := 11) (v := (.bool false)) rfl (by kernel_rfl) (by kernel_rfl) (by kernel_rfl) (by kernel_rfl) (by kernel_rfl) (by kernel_rfl) (by kernel_rfl) (by kernel_rfl) (fun _ _ _ h => h) (Or.inl ⟨by rfl, ?hy⟩) T0 ?_
  case hy =>
    intro X hX
    go_simp
  try simp only [Act.put, List.getElem_toArray, List.getElem_cons_zero, List.getElem_cons_succ, List.setIfInBounds_toArray, List.set_cons_zero, List.set_cons_succ]
  refine wpAnyG_take [12, 13, 14, 15, 16, 17, 18, 19, 20, 21, 22, 23, 24, 25, 26, 27, 28, 29, 30, 31] (i := 12) (v := (.bool false)) rfl (by kernel_rfl) (by kernel_rfl) (by kernel_rfl) (by kernel_rfl) (by kernel_rfl) (by kernel_rfl) (by kernel_rfl) (by kernel_rfl) (fun _ _ _ h => h) (Or.inl ⟨by rfl, ?hy⟩) T0 ?_
  case hy =>
    intro X hX
    go_simp
  try simp only [Act.put, List.getElem_toArray, List.getElem_cons_zero, List.getElem_cons_succ, List.setIfInBounds_toArray, List.set_cons_zero, List.set_cons_succ]
  refine wpAnyG_take [13, 14, 21, 22, 23, 24, 25, 26, 27, 28, 29, 30, 31] (i := 13) (v := (.pointer (some ⟨m, 0, none⟩))) rfl (by kernel_rfl) (by kernel_rfl) (by kernel_rfl) (by kernel_rfl) (by kernel_rfl) (by kernel_rfl) (by kernel_rfl) (by kernel_rfl) (fun _ _ _ h => h) (Or.inl ⟨by rfl, ?hy⟩) T0 ?_
  case hy =>
    intro X hX
    go_simp
  try simp only [Act.put, List.getElem_toArray, List.getElem_cons_zero, List.getElem_cons_succ, List.setIfInBounds_toArray, List.set_cons_zero, List.set_cons_succ]
  refine wpAnyG_take [15, 19, 20, 21, 22, 23, 24, 25, 26, 27, 28, 29, 30, 31] (i := 15) (v := (.slice (some ⟨g, 0, none⟩) (n + 1) cap)) rfl (by kernel_rfl) (by kernel_rfl) (by kernel_rfl) (by kernel_rfl) (by kernel_rfl) (by kernel_rfl) (by kernel_rfl) (by kernel_rfl) (fun _ _ _ h => h) (Or.inl ⟨by rfl, ?hy⟩) T0 ?_
  case hy =>
    intro X hX
    have e0 := at_below v7 hX
    go_simp
  try simp only [Act.put, List.getElem_toArray, List.getElem_cons_zero, List.getElem_cons_succ, List.setIfInBounds_toArray, List.set_cons_zero, List.set_cons_succ]
  refine wpAnyG_take [16, 17, 18, 19, 20, 21, 22, 23, 24, 25, 26, 27, 28, 29, 30, 31] (i := 16) (v := (.slice (some ⟨g, 0, none⟩) (n + 1) cap)) rfl (by kernel_rfl) (by kernel_rfl) (by kernel_rfl) (by kernel_rfl) (by kernel_rfl) (by kernel_rfl) (by kernel_rfl) (by kernel_rfl) (fun _ _ _ h => h) (Or.inl ⟨by rfl, ?hy⟩) T0 ?_
  case hy =>
    intro X hX
    have e0 := at_below v7 hX
    go_simp
  try simp only [Act.put, List.getElem_toArray, List.getElem_cons_zero, List.getElem_cons_succ, List.setIfInBounds_toArray, List.set_cons_zero, List.set_cons_succ]
  refine wpAnyG_take [17, 18, 19, 20, 21, 22, 23, 24, 25, 26, 27, 28, 29, 30, 31] (i := 17) (v := (.int .i64 ((n : Int) + 1))) rfl (by kernel_rfl) (by kernel_rfl) (by kernel_rfl) (by kernel_rfl) (by kernel_rfl) (by kernel_rfl) (by kernel_rfl) (by kernel_rfl) (fun _ _ _ h => h) (Or.inl ⟨by rfl, ?hy⟩) T0 ?_
  case hy =>
    intro X hX
    go_simp
  try simp only [Act.put, List.getElem_toArray, List.getElem_cons_zero, List.getElem_cons_succ, List.setIfInBounds_toArray, List.set_cons_zero, List.set_cons_succ]
  refine wpAnyG_take [18, 19, 20, 21, 22, 23, 24, 25, 26, 27, 28, 29, 30, 31] (i := 18) (v := (.int .i64 n)) rfl (by kernel_rfl) (by kernel_rfl) (by kernel_rfl) (by kernel_rfl) (by kernel_rfl) (by kernel_rfl) (by kernel_rfl) (by kernel_rfl) (fun _ _ _ h => h) (Or.inl ⟨by rfl, ?hy⟩) T0 ?_
  case hy =>
    intro X hX
    go_simp
  try simp only [Act.put, List.getElem_toArray, List.getElem_cons_zero, List.getElem_cons_succ, List.setIfInBounds_toArray, List.set_cons_zero, List.set_cons_succ]
  refine wpAnyG_take [19, 20, 21, 22, 23, 24, 25, 26, 27, 28, 29, 30, 31] (i := 19) (v := (.pointer (some ⟨g, n * 5, none⟩))) rfl (by kernel_rfl) (by kernel_rfl) (by kernel_rfl) (by kernel_rfl) (by kernel_rfl) (by kernel_rfl) (by kernel_rfl) (by kernel_rfl) (fun _ _ _ h => h) (Or.inl ⟨by rfl, ?hy⟩) T0 ?_
  case hy =>
    intro X hX
    go_simp
  try simp only [Act.put, List.getElem_toArray, List.getElem_cons_zero, List.getElem_cons_succ, List.setIfInBounds_toArray, List.set_cons_zero, List.set_cons_succ]
  refine wpAnyG_take [20, 21, 22, 23, 24, 25, 26, 27, 28, 29, 30, 31] (i := 20) (v := (.agg #[.int .i64 eb, .int .i64 ek, .int .i64 eu, .int .i64 el, .int .i64 ec])) rfl (by kernel_rfl) (by kernel_rfl) (by kernel_rfl) (by kernel_rfl) (by kernel_rfl) (by kernel_rfl) (by kernel_rfl) (by kernel_rfl) (fun _ _ _ h => h) (Or.inl ⟨by rfl, ?hy⟩) T0 ?_
  case hy =>
    intro X hX
    have e0 := at_below y0 hX
    have e1 := at_below y1 hX
    have e2 := at_below y2 hX
    have e3 := at_below y3 hX
    have e4 := at_below y4 hX
    go_simp
  try simp only [Act.put, List.getElem_toArray, List.getElem_cons_zero, List.getElem_cons_succ, List.setIfInBounds_toArray, List.set_cons_zero, List.set_cons_succ]
  refine wpAnyG_all (rs := [14]) (by kernel_rfl) (by simp) ?_
  intro i hi
  simp only [List.mem_cons, List.not_mem_nil, or_false] at hi
  subst hi
  refine wpOp_open rfl (by rfl) ?_
  go_simp
  refine (cE m _ (mapAt_below hM5 T0)).mono ?_
  rintro e U2 ⟨rfl, hbu⟩
  replace T0 := T0.trans (hbu.mono T0.size)
  refine ⟨fun _ => T0, ?_⟩
  try simp only [Act.put, List.getElem_toArray, List.getElem_cons_zero, List.getElem_cons_succ, List.setIfInBounds_toArray, List.set_cons_zero, List.set_cons_succ]
  refine wpAnyG_take [21, 22, 23, 24, 25, 26, 27, 28, 29, 30, 31] (i := 21) (v := (.bool false)) rfl (by kernel_rfl) (by kernel_rfl) (by kernel_rfl) (by kernel_rfl) (by kernel_rfl) (by kernel_rfl) (by kernel_rfl) (by kernel_rfl) (fun _ _ _ h => h) (Or.inl ⟨by rfl, ?hy⟩) T0 ?_
  case hy =>
    intro X hX
    go_simp
  try simp only [Act.put, List.getElem_toArray, List.getElem_cons_zero, List.getElem_cons_succ, List.setIfInBounds_toArray, List.set_cons_zero, List.set_cons_succ]
  refine wpAnyG_take [22, 23, 24, 25, 26, 27, 28, 29, 30, 31] (i := 22) (v := (.bool false)) rfl (by kernel_rfl) (by kernel_rfl) (by kernel_rfl) (by kernel_rfl) (by kernel_rfl) (by kernel_rfl) (by kernel_rfl) (by kernel_rfl) (fun _ _ _ h => h) (Or.inl ⟨by rfl, ?hy⟩) T0 ?_
  case hy =>
    intro X hX
    go_simp
  try simp only [Act.put, List.getElem_toArray, List.getElem_cons_zero, List.getElem_cons_succ, List.setIfInBounds_toArray, List.set_cons_zero, List.set_cons_succ]
  refine wpAnyG_take [23, 24, 25, 26, 27, 28, 29, 30, 31] (i := 23) (v := (.bool false)) rfl (by kernel_rfl) (by kernel_rfl) (by kernel_rfl) (by kernel_rfl) (by kernel_rfl) (by kernel_rfl) (by kernel_rfl) (by kernel_rfl) (fun _ _ _ h => h) (Or.inl ⟨by rfl, ?hy⟩) T0 ?_
  case hy =>
    intro X hX
    go_simp
  try simp only [Act.put, List.getElem_toArray, List.getElem_cons_zero, List.getElem_cons_succ, List.setIfInBounds_toArray, List.set_cons_zero, List.set_cons_succ]
  refine wpAnyG_take [24, 25, 30, 31] (i := 24) (v := (.pointer (some ⟨m, 0, none⟩))) rfl (by kernel_rfl) (by kernel_rfl) (by kernel_rfl) (by kernel_rfl) (by kernel_rfl) (by kernel_rfl) (by kernel_rfl) (by kernel_rfl) (fun _ _ _ h => h) (Or.inl ⟨by rfl, ?hy⟩) T0 ?_
  case hy =>
    intro X hX
    go_simp
  try simp only [Act.put, List.getElem_toArray, List.getElem_cons_zero, List.getElem_cons_succ, List.setIfInBounds_toArray, List.set_cons_zero, List.set_cons_succ]
  refine wpAnyG_take [26, 27, 28, 29, 30, 31] (i := 26) (v := (.string s)) rfl (by kernel_rfl) (by kernel_rfl) (by kernel_rfl) (by kernel_rfl) (by kernel_rfl) (by kernel_rfl) (by kernel_rfl) (by kernel_rfl) (fun _ _ _ h => h) (Or.inl ⟨by rfl, ?hy⟩) T0 ?_
  case hy =>
    intro X hX
    go_simp
  try simp only [Act.put, List.getElem_toArray, List.getElem_cons_zero, List.getElem_cons_succ, List.setIfInBounds_toArray, List.set_cons_zero, List.set_cons_succ]
  refine wpAnyG_all (rs := [25]) (by kernel_rfl) (by simp) ?_
  intro i hi
  simp only [List.mem_cons, List.not_mem_nil, or_false] at hi
  subst hi
  refine wpOp_open rfl (by rfl) ?_
  go_simp
  refine (cL m _ (mapAt_below hM5 T0)).mono ?_
  rintro e U3 ⟨rfl, rfl⟩
  refine ⟨fun _ => T0, ?_⟩
  try simp only [Act.put, List.getElem_toArray, List.getElem_cons_zero, List.getElem_cons_succ, List.setIfInBounds_toArray, List.set_cons_zero, List.set_cons_succ]
  refine wpAnyG_all (rs := [27]) (by kernel_rfl) (by simp) ?_
  intro i hi
  simp only [List.mem_cons, List.not_mem_nil, or_false] at hi
  subst hi
  refine wpOp_open rfl (by rfl) ?_
  go_simp
  refine (ends_any s hs _).mono ?_
  rintro e U4 ⟨ve, rfl, hve, hbu4⟩
  replace T0 := T0.trans (hbu4.mono T0.size)
  obtain ⟨oe, ce, rfl, _⟩ := own_slice hve
  rw [hel]
  refine ⟨fun _ => T0, ?_⟩
  try simp only [Act.put, List.getElem_toArray, List.getElem_cons_zero, List.getElem_cons_succ, List.setIfInBounds_toArray, List.set_cons_zero, List.set_cons_succ]
  refine wpAnyG_take [28, 29, 30, 31] (i := 28) (v := (.int .i64 el)) rfl (by kernel_rfl) (by kernel_rfl) (by kernel_rfl) (by kernel_rfl) (by kernel_rfl) (by kernel_rfl) (by kernel_rfl) (by kernel_rfl) (fun _ _ _ h => h) (Or.inl ⟨by rfl, ?hy⟩) T0 ?_
  case hy =>
    intro X hX
    go_simp
  try simp only [Act.put, List.getElem_toArray, List.getElem_cons_zero, List.getElem_cons_succ, List.setIfInBounds_toArray, List.set_cons_zero, List.set_cons_succ]
  refine wpAnyG_take [29, 30, 31] (i := 29) (v := (.int .i64 ((el : Int) + 1))) rfl (by kernel_rfl) (by kernel_rfl) (by kernel_rfl) (by kernel_rfl) (by kernel_rfl) (by kernel_rfl) (by kernel_rfl) (by kernel_rfl) (fun _ _ _ h => h) (Or.inl ⟨by rfl, ?hy⟩) T0 ?_
  case hy =>
    intro X hX
    go_simp
  try simp only [Act.put, List.getElem_toArray, List.getElem_cons_zero, List.getElem_cons_succ, List.setIfInBounds_toArray, List.set_cons_zero, List.set_cons_succ]
  refine wpAnyG_take [30, 31] (i := 30) (v := (.bool false)) rfl (by kernel_rfl) (by kernel_rfl) (by kernel_rfl) (by kernel_rfl) (by kernel_rfl) (by kernel_rfl) (by kernel_rfl) (by kernel_rfl) (fun _ _ _ h => h) (Or.inl ⟨by rfl, ?hy⟩) T0 ?_
  case hy =>
    intro X hX
    go_simp
  try simp only [Act.put, List.getElem_toArray, List.getElem_cons_zero, List.getElem_cons_succ, List.setIfInBounds_toArray, List.set_cons_zero, List.set_cons_succ]
  refine wpAnyG_take [31] (i := 31) (v := (.bool false)) rfl (by kernel_rfl) (by kernel_rfl) (by kernel_rfl) (by kernel_rfl) (by kernel_rfl) (by kernel_rfl) (by kernel_rfl) (by kernel_rfl) (fun _ _ _ h => h) (Or.inl ⟨by rfl, ?hy⟩) T0 ?_
  case hy =>
    intro X hX
    go_simp
  try simp only [Act.put, List.getElem_toArray, List.getElem_cons_zero, List.getElem_cons_succ, List.setIfInBounds_toArray, List.set_cons_zero, List.set_cons_succ]
  refine wpAnyG_done (by kernel_rfl) ?_ _
  refine NoPanic.normal ?_
  have HB := T0
  clear T0 y0 y1 y2 y3 y4 hve hbu4 hbu
  have hwb : w.heap.size + 1 < W5.heap.size := E1.lt
  have A0 := (E0.below' HB).cell
  have A8 := True.intro
  gi_wp2_with fail
  refine (callsIn_wide.2 (CM1.out m _ (mapAt_below hM5 HB))).mono ?_
  rintro e X1 ⟨rfl, hb⟩
  have HBx := HB.trans (hb.mono HB.size)
  have Pb8 := Blk.new X1 #[.int .i64 a0, .int .i64 a1, .int .i64 a2, .int .i64 a3, .int .i64 a4] 28
  have lb8 : W5.heap.size ≤ X1.heap.size := HBx.size
  replace HB := HBx.alloc HBx.size (.cells #[.int .i64 a0, .int .i64 a1, .int .i64 a2, .int .i64 a3, .int .i64 a4] 28)
  obtain ⟨b8, hb8⟩ : ∃ b, X1.heap.size = b := ⟨_, rfl⟩
  rw [hb8] at Pb8 lb8
  obtain ⟨Y1, hY1⟩ : ∃ X, X1.alloc (.cells #[.int .i64 a0, .int .i64 a1, .int .i64 a2, .int .i64 a3, .int .i64 a4] 28) = X := ⟨_, rfl⟩
  rw [hY1] at HB Pb8
  clear hb HBx 
  have A0 := (E0.below' HB).cell
  have A8 := True.intro
  gi_wp2_with fail
  refine (callsIn_wide.2 (CD1.out _)).mono ?_
  rintro e X2 ⟨rfl, hb⟩
  have HBx := HB.trans (hb.mono HB.size)
  have Pb8x := Pb8.below' hb
  replace Pb8 := Pb8x.alloc (.cells #[.int .i64 a0, .int .i64 a1, .int .i64 a2, .int .i64 a3, .int .i64 a4] 28)
  have Pb10 := Blk.new X2 #[.int .i64 a0, .int .i64 a1, .int .i64 a2, .int .i64 a3, .int .i64 a4] 28
  have lb10 : W5.heap.size ≤ X2.heap.size := HBx.size
  replace HB := HBx.alloc HBx.size (.cells #[.int .i64 a0, .int .i64 a1, .int .i64 a2, .int .i64 a3, .int .i64 a4] 28)
  obtain ⟨b10, hb10⟩ : ∃ b, X2.heap.size = b := ⟨_, rfl⟩
  rw [hb10] at Pb10 lb10
  have nb8b10 : b8 ≠ b10 := by have := Pb8x.lt; omega
  obtain ⟨Y2, hY2⟩ : ∃ X, X2.alloc (.cells #[.int .i64 a0, .int .i64 a1, .int .i64 a2, .int .i64 a3, .int .i64 a4] 28) = X := ⟨_, rfl⟩
  rw [hY2] at HB Pb8 Pb10
  clear hb HBx Pb8x
  have A0 := (E0.below' HB).cell
  have p1 := Pb8.cell
  have p2 := Pb10.cell
  try simp only []
  iterate 70 (first | (show Code.wpIn _ _ _ (Code.region 11 _ _) _ _ _) | gi_guarded | gi_step | gi_upon)
  refine wpIn_cutR 11 (α := Nat → Value) (fun _ X => X = Y2) (fun v => [(88, v 88), (89, v 89), (90, v 90), (91, v 91), (92, v 92), (93, v 93), (94, v 94), (95, v 95), (96, v 96), (97, v 97), (98, v 98), (99, v 99), (100, v 100), (101, v 101), (102, v 102), (103, v 103), (104, v 104), (105, v 105), (106, v 106), (107, v 107), (108, v 108), (109, .bool false)]) ?_ ?_
  · unfold Cuts
    rcases HO1.out with ⟨h1, h2⟩ | ⟨h1, h2⟩
    · subst h1 h2
      gi_wp2
      exact cutV_mk (by kernel_rfl) rfl
    · subst h1 h2
      gi_wp2
      exact cutV_mk (by kernel_rfl) rfl
  intro v1 X hX
  obtain rfl := hX.symm
  simp only [putsG, List.foldl_cons, List.foldl_nil, List.setIfInBounds_toArray, List.set_cons_zero, List.set_cons_succ]
  clear A0 p1 p2
  have A0 := (E0.below' HB).cell
  have A8 := True.intro
  gi_wp2_with fail
  refine (callsIn_wide.2 (CM2.out m _ (mapAt_below hM5 HB))).mono ?_
  rintro e X3 ⟨rfl, hb⟩
  have HBx := HB.trans (hb.mono HB.size)
  have Pb8x := Pb8.below' hb
  have Pb10x := Pb10.below' hb
  have cb81 := Pb8x.cell
  have cb82 := Pb8x.frozen
  have cb83 := Pb8x.lt
  replace Pb8 := (((((Pb8x.set 0 (.int .i64 b0)).set 1 (.int .i64 b1)).set 2 (.int .i64 b2)).set 3 (.int .i64 b3)).set 4 (.int .i64 b4))
  simp only [List.setIfInBounds_toArray, List.set_cons_zero, List.set_cons_succ] at Pb8
  replace Pb10 := (((((Pb10x.other (B' := b8) (by omega) 0 (.int .i64 b0)).other (B' := b8) (by omega) 1 (.int .i64 b1)).other (B' := b8) (by omega) 2 (.int .i64 b2)).other (B' := b8) (by omega) 3 (.int .i64 b3)).other (B' := b8) (by omega) 4 (.int .i64 b4))
  replace HB := (((((HBx.setCell (p := ⟨b8, 0, none⟩) (by dsimp only; omega) (.int .i64 b0)).setCell (p := ⟨b8, 1, none⟩) (by dsimp only; omega) (.int .i64 b1)).setCell (p := ⟨b8, 2, none⟩) (by dsimp only; omega) (.int .i64 b2)).setCell (p := ⟨b8, 3, none⟩) (by dsimp only; omega) (.int .i64 b3)).setCell (p := ⟨b8, 4, none⟩) (by dsimp only; omega) (.int .i64 b4))
  obtain ⟨Y3, hY3⟩ : ∃ X, (((((X3.setCell ⟨b8, 0, none⟩ (.int .i64 b0)).setCell ⟨b8, 1, none⟩ (.int .i64 b1)).setCell ⟨b8, 2, none⟩ (.int .i64 b2)).setCell ⟨b8, 3, none⟩ (.int .i64 b3)).setCell ⟨b8, 4, none⟩ (.int .i64 b4)) = X := ⟨_, rfl⟩
  rw [hY3] at HB Pb8 Pb10
  clear hb HBx Pb8x Pb10x
  have A0 := (E0.below' HB).cell
  have A8 := True.intro
  gi_wp2_with fail
  refine (callsIn_wide.2 (CD2.out _)).mono ?_
  rintro e X4 ⟨rfl, hb⟩
  have HBx := HB.trans (hb.mono HB.size)
  have Pb8x := Pb8.below' hb
  have Pb10x := Pb10.below' hb
  have cb101 := Pb10x.cell
  have cb102 := Pb10x.frozen
  have cb103 := Pb10x.lt
  replace Pb10 := (((((Pb10x.set 0 (.int .i64 b0)).set 1 (.int .i64 b1)).set 2 (.int .i64 b2)).set 3 (.int .i64 b3)).set 4 (.int .i64 b4))
  simp only [List.setIfInBounds_toArray, List.set_cons_zero, List.set_cons_succ] at Pb10
  replace Pb8 := (((((Pb8x.other (B' := b10) (by omega) 0 (.int .i64 b0)).other (B' := b10) (by omega) 1 (.int .i64 b1)).other (B' := b10) (by omega) 2 (.int .i64 b2)).other (B' := b10) (by omega) 3 (.int .i64 b3)).other (B' := b10) (by omega) 4 (.int .i64 b4))
  replace HB := (((((HBx.setCell (p := ⟨b10, 0, none⟩) (by dsimp only; omega) (.int .i64 b0)).setCell (p := ⟨b10, 1, none⟩) (by dsimp only; omega) (.int .i64 b1)).setCell (p := ⟨b10, 2, none⟩) (by dsimp only; omega) (.int .i64 b2)).setCell (p := ⟨b10, 3, none⟩) (by dsimp only; omega) (.int .i64 b3)).setCell (p := ⟨b10, 4, none⟩) (by dsimp only; omega) (.int .i64 b4))
  obtain ⟨Y4, hY4⟩ : ∃ X, (((((X4.setCell ⟨b10, 0, none⟩ (.int .i64 b0)).setCell ⟨b10, 1, none⟩ (.int .i64 b1)).setCell ⟨b10, 2, none⟩ (.int .i64 b2)).setCell ⟨b10, 3, none⟩ (.int .i64 b3)).setCell ⟨b10, 4, none⟩ (.int .i64 b4)) = X := ⟨_, rfl⟩
  rw [hY4] at HB Pb8 Pb10
  clear hb HBx Pb8x Pb10x
  have A0 := (E0.below' HB).cell
  have p1 := Pb8.cell
  have p2 := Pb10.cell
  try simp only []
  iterate 70 (first | (show Code.wpIn _ _ _ (Code.region 15 _ _) _ _ _) | gi_guarded | gi_step | gi_upon)
  refine wpIn_cutR 15 (α := Nat → Value) (fun _ X => X = Y4) (fun v => [(124, v 124), (125, v 125), (126, v 126), (127, v 127), (128, v 128), (129, v 129), (130, v 130), (131, v 131), (132, v 132), (133, v 133), (134, v 134), (135, v 135), (136, v 136), (137, v 137), (138, v 138), (139, v 139), (140, .bool false)]) ?_ ?_
  · unfold Cuts
    rcases HO2.out with ⟨h1, h2⟩ | ⟨h1, h2⟩
    · subst h1 h2
      gi_wp2
      exact cutV_mk (by kernel_rfl) rfl
    · subst h1 h2
      gi_wp2
      exact cutV_mk (by kernel_rfl) rfl
  intro v2 X hX
  obtain rfl := hX.symm
  simp only [putsG, List.foldl_cons, List.foldl_nil, List.setIfInBounds_toArray, List.set_cons_zero, List.set_cons_succ]
  clear A0 p1 p2
  have A0 := (E0.below' HB).cell
  have A8 := True.intro
  gi_wp2_with fail
  refine (callsIn_wide.2 (CM3.out m _ (mapAt_below hM5 HB))).mono ?_
  rintro e X5 ⟨rfl, hb⟩
  have HBx := HB.trans (hb.mono HB.size)
  have Pb8x := Pb8.below' hb
  have Pb10x := Pb10.below' hb
  have cb81 := Pb8x.cell
  have cb82 := Pb8x.frozen
  have cb83 := Pb8x.lt
  replace Pb8 := (((((Pb8x.set 0 (.int .i64 c0)).set 1 (.int .i64 c1)).set 2 (.int .i64 c2)).set 3 (.int .i64 c3)).set 4 (.int .i64 c4))
  simp only [List.setIfInBounds_toArray, List.set_cons_zero, List.set_cons_succ] at Pb8
  replace Pb10 := (((((Pb10x.other (B' := b8) (by omega) 0 (.int .i64 c0)).other (B' := b8) (by omega) 1 (.int .i64 c1)).other (B' := b8) (by omega) 2 (.int .i64 c2)).other (B' := b8) (by omega) 3 (.int .i64 c3)).other (B' := b8) (by omega) 4 (.int .i64 c4))
  replace HB := (((((HBx.setCell (p := ⟨b8, 0, none⟩) (by dsimp only; omega) (.int .i64 c0)).setCell (p := ⟨b8, 1, none⟩) (by dsimp only; omega) (.int .i64 c1)).setCell (p := ⟨b8, 2, none⟩) (by dsimp only; omega) (.int .i64 c2)).setCell (p := ⟨b8, 3, none⟩) (by dsimp only; omega) (.int .i64 c3)).setCell (p := ⟨b8, 4, none⟩) (by dsimp only; omega) (.int .i64 c4))
  obtain ⟨Y5, hY5⟩ : ∃ X, (((((X5.setCell ⟨b8, 0, none⟩ (.int .i64 c0)).setCell ⟨b8, 1, none⟩ (.int .i64 c1)).setCell ⟨b8, 2, none⟩ (.int .i64 c2)).setCell ⟨b8, 3, none⟩ (.int .i64 c3)).setCell ⟨b8, 4, none⟩ (.int .i64 c4)) = X := ⟨_, rfl⟩
  rw [hY5] at HB Pb8 Pb10
  clear hb HBx Pb8x Pb10x
  have A0 := (E0.below' HB).cell
  have A8 := True.intro
  gi_wp2_with fail
  refine (callsIn_wide.2 (CD3.out _)).mono ?_
  rintro e X6 ⟨rfl, hb⟩
  have HBx := HB.trans (hb.mono HB.size)
  have Pb8x := Pb8.below' hb
  have Pb10x := Pb10.below' hb
  have cb101 := Pb10x.cell
  have cb102 := Pb10x.frozen
  have cb103 := Pb10x.lt
  replace Pb10 := (((((Pb10x.set 0 (.int .i64 c0)).set 1 (.int .i64 c1)).set 2 (.int .i64 c2)).set 3 (.int .i64 c3)).set 4 (.int .i64 c4))
  simp only [List.setIfInBounds_toArray, List.set_cons_zero, List.set_cons_succ] at Pb10
  replace Pb8 := (((((Pb8x.other (B' := b10) (by omega) 0 (.int .i64 c0)).other (B' := b10) (by omega) 1 (.int .i64 c1)).other (B' := b10) (by omega) 2 (.int .i64 c2)).other (B' := b10) (by omega) 3 (.int .i64 c3)).other (B' := b10) (by omega) 4 (.int .i64 c4))
  replace HB := (((((HBx.setCell (p := ⟨b10, 0, none⟩) (by dsimp only; omega) (.int .i64 c0)).setCell (p := ⟨b10, 1, none⟩) (by dsimp only; omega) (.int .i64 c1)).setCell (p := ⟨b10, 2, none⟩) (by dsimp only; omega) (.int .i64 c2)).setCell (p := ⟨b10, 3, none⟩) (by dsimp only; omega) (.int .i64 c3)).setCell (p := ⟨b10, 4, none⟩) (by dsimp only; omega) (.int .i64 c4))
  obtain ⟨Y6, hY6⟩ : ∃ X, (((((X6.setCell ⟨b10, 0, none⟩ (.int .i64 c0)).setCell ⟨b10, 1, none⟩ (.int .i64 c1)).setCell ⟨b10, 2, none⟩ (.int .i64 c2)).setCell ⟨b10, 3, none⟩ (.int .i64 c3)).setCell ⟨b10, 4, none⟩ (.int .i64 c4)) = X := ⟨_, rfl⟩
  rw [hY6] at HB Pb8 Pb10
  clear hb HBx Pb8x Pb10x
  have A0 := (E0.below' HB).cell
  have p1 := Pb8.cell
  have p2 := Pb10.cell
  try simp only []
  iterate 70 (first | (show Code.wpIn _ _ _ (Code.region 19 _ _) _ _ _) | gi_guarded | gi_step | gi_upon)
  refine wpIn_cutR 19 (α := Nat → Value) (fun _ X => X = Y6) (fun v => [(157, v 157), (158, v 158), (159, v 159), (160, v 160), (161, v 161), (162, v 162), (163, v 163), (164, v 164), (165, v 165), (166, v 166), (167, v 167), (168, v 168), (169, v 169), (170, v 170), (171, v 171), (172, v 172), (173, v 173), (174, v 174), (175, v 175), (176, v 176), (177, v 177), (178, .bool false)]) ?_ ?_
  · unfold Cuts
    rcases HO3.out with ⟨h1, h2⟩ | ⟨h1, h2⟩
    · subst h1 h2
      gi_wp2
      exact cutV_mk (by kernel_rfl) rfl
    · subst h1 h2
      gi_wp2
      exact cutV_mk (by kernel_rfl) rfl
  intro v3 X hX
  obtain rfl := hX.symm
  simp only [putsG, List.foldl_cons, List.foldl_nil, List.setIfInBounds_toArray, List.set_cons_zero, List.set_cons_succ]
  clear A0 p1 p2
  have A0 := (E0.below' HB).cell
  have A8 := True.intro
  gi_wp2_with fail
  refine (callsIn_wide.2 (CM4.out m _ (mapAt_below hM5 HB))).mono ?_
  rintro e X7 ⟨rfl, hb⟩
  have HBx := HB.trans (hb.mono HB.size)
  have Pb8x := Pb8.below' hb
  have Pb10x := Pb10.below' hb
  have cb81 := Pb8x.cell
  have cb82 := Pb8x.frozen
  have cb83 := Pb8x.lt
  replace Pb8 := (((((Pb8x.set 0 (.int .i64 d0)).set 1 (.int .i64 d1)).set 2 (.int .i64 d2)).set 3 (.int .i64 d3)).set 4 (.int .i64 d4))
  simp only [List.setIfInBounds_toArray, List.set_cons_zero, List.set_cons_succ] at Pb8
  replace Pb10 := (((((Pb10x.other (B' := b8) (by omega) 0 (.int .i64 d0)).other (B' := b8) (by omega) 1 (.int .i64 d1)).other (B' := b8) (by omega) 2 (.int .i64 d2)).other (B' := b8) (by omega) 3 (.int .i64 d3)).other (B' := b8) (by omega) 4 (.int .i64 d4))
  replace HB := (((((HBx.setCell (p := ⟨b8, 0, none⟩) (by dsimp only; omega) (.int .i64 d0)).setCell (p := ⟨b8, 1, none⟩) (by dsimp only; omega) (.int .i64 d1)).setCell (p := ⟨b8, 2, none⟩) (by dsimp only; omega) (.int .i64 d2)).setCell (p := ⟨b8, 3, none⟩) (by dsimp only; omega) (.int .i64 d3)).setCell (p := ⟨b8, 4, none⟩) (by dsimp only; omega) (.int .i64 d4))
  obtain ⟨Y7, hY7⟩ : ∃ X, (((((X7.setCell ⟨b8, 0, none⟩ (.int .i64 d0)).setCell ⟨b8, 1, none⟩ (.int .i64 d1)).setCell ⟨b8, 2, none⟩ (.int .i64 d2)).setCell ⟨b8, 3, none⟩ (.int .i64 d3)).setCell ⟨b8, 4, none⟩ (.int .i64 d4)) = X := ⟨_, rfl⟩
  rw [hY7] at HB Pb8 Pb10
  clear hb HBx Pb8x Pb10x
  have A0 := (E0.below' HB).cell
  have A8 := True.intro
  gi_wp2_with fail
  refine (callsIn_wide.2 (CD4.out _)).mono ?_
  rintro e X8 ⟨rfl, hb⟩
  have HBx := HB.trans (hb.mono HB.size)
  have Pb8x := Pb8.below' hb
  have Pb10x := Pb10.below' hb
  have cb101 := Pb10x.cell
  have cb102 := Pb10x.frozen
  have cb103 := Pb10x.lt
  replace Pb10 := (((((Pb10x.set 0 (.int .i64 d0)).set 1 (.int .i64 d1)).set 2 (.int .i64 d2)).set 3 (.int .i64 d3)).set 4 (.int .i64 d4))
  simp only [List.setIfInBounds_toArray, List.set_cons_zero, List.set_cons_succ] at Pb10
  replace Pb8 := (((((Pb8x.other (B' := b10) (by omega) 0 (.int .i64 d0)).other (B' := b10) (by omega) 1 (.int .i64 d1)).other (B' := b10) (by omega) 2 (.int .i64 d2)).other (B' := b10) (by omega) 3 (.int .i64 d3)).other (B' := b10) (by omega) 4 (.int .i64 d4))
  replace HB := (((((HBx.setCell (p := ⟨b10, 0, none⟩) (by dsimp only; omega) (.int .i64 d0)).setCell (p := ⟨b10, 1, none⟩) (by dsimp only; omega) (.int .i64 d1)).setCell (p := ⟨b10, 2, none⟩) (by dsimp only; omega) (.int .i64 d2)).setCell (p := ⟨b10, 3, none⟩) (by dsimp only; omega) (.int .i64 d3)).setCell (p := ⟨b10, 4, none⟩) (by dsimp only; omega) (.int .i64 d4))
  obtain ⟨Y8, hY8⟩ : ∃ X, (((((X8.setCell ⟨b10, 0, none⟩ (.int .i64 d0)).setCell ⟨b10, 1, none⟩ (.int .i64 d1)).setCell ⟨b10, 2, none⟩ (.int .i64 d2)).setCell ⟨b10, 3, none⟩ (.int .i64 d3)).setCell ⟨b10, 4, none⟩ (.int .i64 d4)) = X := ⟨_, rfl⟩
  rw [hY8] at HB Pb8 Pb10
  clear hb HBx Pb8x Pb10x
  have A0 := (E0.below' HB).cell
  have p1 := Pb8.cell
  have p2 := Pb10.cell
  try simp only []
  iterate 70 (first | (show Code.wpIn _ _ _ (Code.region 23 _ _) _ _ _) | gi_guarded | gi_step | gi_upon)
  refine wpIn_cutR 23 (α := Nat → Value) (fun _ X => X = Y8) (fun v => [(197, v 197), (198, v 198), (199, v 199), (200, v 200), (201, v 201), (202, v 202), (203, v 203), (204, v 204), (205, v 205), (206, v 206), (207, v 207), (208, v 208), (209, v 209), (210, v 210), (211, v 211), (212, v 212), (213, .bool false)]) ?_ ?_
  · unfold Cuts
    rcases HO4.out with ⟨h1, h2⟩ | ⟨h1, h2⟩
    · subst h1 h2
      gi_wp2
      exact cutV_mk (by kernel_rfl) rfl
    · subst h1 h2
      gi_wp2
      exact cutV_mk (by kernel_rfl) rfl
  intro v4 X hX
  obtain rfl := hX.symm
  simp only [putsG, List.foldl_cons, List.foldl_nil, List.setIfInBounds_toArray, List.set_cons_zero, List.set_cons_succ]
  clear A0 p1 p2
  have A0 := (E0.below' HB).cell
  have A8 := True.intro
  gi_wp2_with fail
  refine (callsIn_wide.2 (CM5.out m _ (mapAt_below hM5 HB))).mono ?_
  rintro e X9 ⟨rfl, hb⟩
  have HBx := HB.trans (hb.mono HB.size)
  have Pb8x := Pb8.below' hb
  have Pb10x := Pb10.below' hb
  replace Pb8 := Pb8x.alloc (.cells #[.int .i64 e0, .int .i64 e1] 37)
  replace Pb10 := Pb10x.alloc (.cells #[.int .i64 e0, .int .i64 e1] 37)
  have Pb13 := Blk.new X9 #[.int .i64 e0, .int .i64 e1] 37
  have lb13 : W5.heap.size ≤ X9.heap.size := HBx.size
  replace HB := HBx.alloc HBx.size (.cells #[.int .i64 e0, .int .i64 e1] 37)
  obtain ⟨b13, hb13⟩ : ∃ b, X9.heap.size = b := ⟨_, rfl⟩
  rw [hb13] at Pb13 lb13
  have nb8b13 : b8 ≠ b13 := by have := Pb8x.lt; omega
  have nb10b13 : b10 ≠ b13 := by have := Pb10x.lt; omega
  obtain ⟨Y9, hY9⟩ : ∃ X, X9.alloc (.cells #[.int .i64 e0, .int .i64 e1] 37) = X := ⟨_, rfl⟩
  rw [hY9] at HB Pb8 Pb10 Pb13
  clear hb HBx Pb8x Pb10x
  have A0 := (E0.below' HB).cell
  have A8 := True.intro
  gi_wp2_with fail
  refine (callsIn_wide.2 (CD5.out _)).mono ?_
  rintro e X10 ⟨rfl, hb⟩
  have HBx := HB.trans (hb.mono HB.size)
  have Pb8x := Pb8.below' hb
  have Pb10x := Pb10.below' hb
  have Pb13x := Pb13.below' hb
  replace Pb8 := Pb8x.alloc (.cells #[.int .i64 e0, .int .i64 e1] 37)
  replace Pb10 := Pb10x.alloc (.cells #[.int .i64 e0, .int .i64 e1] 37)
  replace Pb13 := Pb13x.alloc (.cells #[.int .i64 e0, .int .i64 e1] 37)
  have Pb15 := Blk.new X10 #[.int .i64 e0, .int .i64 e1] 37
  have lb15 : W5.heap.size ≤ X10.heap.size := HBx.size
  replace HB := HBx.alloc HBx.size (.cells #[.int .i64 e0, .int .i64 e1] 37)
  obtain ⟨b15, hb15⟩ : ∃ b, X10.heap.size = b := ⟨_, rfl⟩
  rw [hb15] at Pb15 lb15
  have nb8b15 : b8 ≠ b15 := by have := Pb8x.lt; omega
  have nb10b15 : b10 ≠ b15 := by have := Pb10x.lt; omega
  have nb13b15 : b13 ≠ b15 := by have := Pb13x.lt; omega
  obtain ⟨Y10, hY10⟩ : ∃ X, X10.alloc (.cells #[.int .i64 e0, .int .i64 e1] 37) = X := ⟨_, rfl⟩
  rw [hY10] at HB Pb8 Pb10 Pb13 Pb15
  clear hb HBx Pb8x Pb10x Pb13x
  have A0 := (E0.below' HB).cell
  have p1 := Pb13.cell
  have p2 := Pb15.cell
  try simp only []
  iterate 70 (first | (show Code.wpIn _ _ _ (Code.region 27 _ _) _ _ _) | gi_guarded | gi_step | gi_upon)
  refine wpIn_cutR 27 (α := Nat → Value) (fun _ X => X = Y10) (fun v => [(230, v 230), (231, v 231), (232, v 232), (233, v 233), (234, v 234), (235, v 235), (236, v 236), (237, v 237), (238, v 238), (239, v 239), (240, v 240), (241, v 241), (242, v 242), (243, v 243), (244, v 244), (245, v 245), (246, v 246), (247, v 247), (248, v 248), (249, v 249), (250, v 250), (251, .bool false)]) ?_ ?_
  · unfold Cuts
    rcases HO5.out with ⟨h1, h2⟩ | ⟨h1, h2⟩
    · subst h1 h2
      gi_wp2
      exact cutV_mk (by kernel_rfl) rfl
    · subst h1 h2
      gi_wp2
      exact cutV_mk (by kernel_rfl) rfl
  intro v5 X hX
  obtain rfl := hX.symm
  simp only [putsG, List.foldl_cons, List.foldl_nil, List.setIfInBounds_toArray, List.set_cons_zero, List.set_cons_succ]
  clear A0 p1 p2
  have A7 := (E7.below' HB).cell
  have R1 := E1.below' HB
  have hMX := mapAt_below hM5 HB
  have hBX := hB5.trans (HB.mono hB5.size)
  gi_wp2_with (first | (gi_at_call 22; refine (callsIn_wide.2 (each_any _ _)).mono ?_; rintro e w' ⟨rfl, rfl⟩))
  obtain ⟨Z, hZ⟩ : ∃ Z, Y10 = Z := ⟨_, rfl⟩
  rw [hZ] at A7 R1 hMX hBX HB
  try rw [hZ]
  have f9 := (Blk.new Z #[.int .i64 0] 3).alloc (.cells #[.pointer (some ⟨m, 0, none⟩)] 23)
  have f10 := Boxed.new (Z.alloc (.cells #[.int .i64 0] 3)) 23 (.pointer (some ⟨m, 0, none⟩))
  have aS : Same Z.heap.size Z ((Z.alloc (.cells #[.int .i64 0] 3)).alloc (.cells #[.pointer (some ⟨m, 0, none⟩)] 23)) := fun k hk => (((Below.refl _ Z).alloc (Nat.le_refl _) _).alloc (by simp) _).block k hk
  have aB := (hBX.alloc hBX.size (.cells #[.int .i64 0] 3)).alloc (by have := hBX.size; simp; omega) (.cells #[.pointer (some ⟨m, 0, none⟩)] 23)
  obtain ⟨L, hL⟩ : ∃ L, Z.heap.size = L := ⟨_, rfl⟩
  have hsz : ((Z.alloc (.cells #[.int .i64 0] 3)).alloc (.cells #[.pointer (some ⟨m, 0, none⟩)] 23)).heap.size = L + 2 := by simp [hL]
  have hwL : w.heap.size ≤ L := by rw [← hL]; exact hBX.size
  have l2 : w.heap.size + 1 < L := by rw [← hL]; exact R1.lt
  have l7 : b7 < L := by rw [← hL]; exact (E7.below' HB).lt
  have hWL : W5.heap.size ≤ L := by rw [← hL]; exact HB.size
  simp only [World.size_alloc, hL] at f9 f10 aS
  obtain ⟨W2, hW2⟩ : ∃ W2, ((Z.alloc (.cells #[.int .i64 0] 3)).alloc (.cells #[.pointer (some ⟨m, 0, none⟩)] 23)) = W2 := ⟨_, rfl⟩
  rw [hW2] at f9 f10 aS aB hsz ⊢
  simp only [hL]
  have vl7 : ∀ W, Same L Z W → W.cell? ⟨b7, 0, none⟩ = some (.slice (some ⟨g, 0, none⟩) (n + 1) cap) := fun W hS => by
    refine (World.cell?_of_block (w := Z) (hS b7 l7)).trans ?_
    have := A7 0
    simpa using this
  have vrow : ∀ W, Same L Z W → ∀ x, x ≤ n → W.cell? ⟨g, x * 5, none⟩ = some (.int .i64 (pK s x).b) ∧ W.cell? ⟨g, x * 5 + 1, none⟩ = some (.int .i64 (pK s x).k) ∧ W.cell? ⟨g, x * 5 + 2, none⟩ = some (.int .i64 (pK s x).u) ∧ W.cell? ⟨g, x * 5 + 3, none⟩ = some (.int .i64 (pK s x).l) ∧ W.cell? ⟨g, x * 5 + 4, none⟩ = some (.int .i64 (pK s x).c) := fun W hS x hx => by
    obtain ⟨r0, r1, r2, r3, r4⟩ := HROW.out x hx
    have k : ∀ {j : Nat} {v : Value}, W5.cell? ⟨g, j, none⟩ = some v → W.cell? ⟨g, j, none⟩ = some v := fun h => cell_same (X := Z) (at_below h HB) (by rw [hL]; exact hS)
    exact ⟨k r0, k r1, k r2, k r3, k r4⟩
  have VL := Lib.hid vl7
  have VR := Lib.hid vrow
  clear vl7 vrow A7 hW2 hZ
  refine range_each 18 s hs (L + 1) m L Z hMX hL aS (by omega) f10 rfl (PgI w Z L) (fun _ _ _ => False) (pg_x hL (by omega) hwL) (fun _ _ _ _ _ hs _ _ => hs) ⟨⟨f9, aS⟩, aB⟩ ?assign ?body ?done ?stop
  case assign =>
    intro l x W K hK
    simp only [plA, List.setIfInBounds_toArray, List.set_cons_zero, List.set_cons_succ] at hK ⊢
    gi_wp2
    exact hK
  case stop =>
    rintro D c pre W hD hp h _
    exact h.elim
  case body =>
    rintro l x Bx W hI hle hbx hxn
    have HI := Lib.hid hI
    obtain ⟨⟨hn1, hS⟩, hBW⟩ := hI
    rw [hsz] at hle
    rw [List.length_range] at hn1
    have hLW : L < W.heap.size := hn1.lt
    rw [HN.out] at hxn
    have vn := hn1.cell 0
    have vl := VL.out W hS
    obtain ⟨r0, r1, r2, r3, r4⟩ := VR.out W hS x hxn
    have hxb := (show Blk W Bx _ _ from hbx)
    have hBxW := hxb.lt
    obtain ⟨q, hq⟩ : ∃ q, pK s x = q := ⟨_, rfl⟩
    rw [hq] at r0 r1 r2 r3 r4 hxb
    simp only [hq]
    clear hq hbx
    obtain ⟨qb, qk, qu, ql, qc⟩ := q
    simp only [plA] at r0 r1 r2 r3 r4 hxb
    have p0 := hxb.cell 0
    have p1 := hxb.cell 1
    have p2 := hxb.cell 2
    have p3 := hxb.cell 3
    have p4 := hxb.cell 4
    simp only [List.getElem?_toArray, List.getElem?_cons_succ, List.getElem?_cons_zero] at vn p0 p1 p2 p3 p4
    simp only [plA, List.setIfInBounds_toArray, List.set_cons_zero, List.set_cons_succ]
    have w1' : IntKind.i64.wrap ((x : Int) + 1) = (x : Int) + 1 := IntWalk.i64_in _ (by omega)
    have i0 : decide ((n : Int) + 1 ≤ (x : Int)) = false := decide_eq_false (by omega)
    have i3 : (0 : Int) ≤ (x : Int) := by omega
    have i4 : (x : Int) < (n : Int) + 1 := by omega
    gi_wp2
    refine round_g (S := untilG [] (fun X => Below W.heap.size W X)) (by kernel_rfl) (by kernel_rfl) (noOut (fun _ _ h => h)) ?_
    obtain ⟨X0, hX0⟩ : ∃ X, W.drew = X := ⟨_, rfl⟩
    have T0 : Below W.heap.size W X0 := hX0 ▸ (Below.refl W.heap.size W).drew
    rw [hX0]
    clear hX0
    refine wpAnyG_take [0, 3, 4, 5, 6, 7, 8, 9, 10, 11] (i := 0) (v := (.int .i64 x)) rfl (by kernel_rfl) (by kernel_rfl) (by kernel_rfl) (by kernel_rfl) (by kernel_rfl) (by kernel_rfl) (by kernel_rfl) (by kernel_rfl) (fun _ _ _ h => h) (Or.inl ⟨by rfl, ?hy⟩) T0 ?_
    case hy =>
      intro X hX
      have e0 := at_below vn hX
      go_simp
    try simp only [Act.put, List.getElem_toArray, List.getElem_cons_zero, List.getElem_cons_succ, List.setIfInBounds_toArray, List.set_cons_zero, List.set_cons_succ]
    refine wpAnyG_take [1, 2, 3, 4, 5, 6, 7, 8, 9, 10, 11] (i := 1) (v := (.slice (some ⟨g, 0, none⟩) (n + 1) cap)) rfl (by kernel_rfl) (by kernel_rfl) (by kernel_rfl) (by kernel_rfl) (by kernel_rfl) (by kernel_rfl) (by kernel_rfl) (by kernel_rfl) (fun _ _ _ h => h) (Or.inl ⟨by rfl, ?hy⟩) T0 ?_
    case hy =>
      intro X hX
      have e0 := at_below vl hX
      go_simp
    try simp only [Act.put, List.getElem_toArray, List.getElem_cons_zero, List.getElem_cons_succ, List.setIfInBounds_toArray, List.set_cons_zero, List.set_cons_succ]
    refine wpAnyG_take [2, 3, 4, 5, 6, 7, 8, 9, 10, 11] (i := 2) (v := (.int .i64 ((n : Int) + 1))) rfl (by kernel_rfl) (by kernel_rfl) (by kernel_rfl) (by kernel_rfl) (by kernel_rfl) (by kernel_rfl) (by kernel_rfl) (by kernel_rfl) (fun _ _ _ h => h) (Or.inl ⟨by rfl, ?hy⟩) T0 ?_
    case hy =>
      intro X hX
      go_simp
    try simp only [Act.put, List.getElem_toArray, List.getElem_cons_zero, List.getElem_cons_succ, List.setIfInBounds_toArray, List.set_cons_zero, List.set_cons_succ]
    refine wpAnyG_take [3, 4, 5, 6, 7, 8, 9, 10, 11] (i := 3) (v := (.bool false)) rfl (by kernel_rfl) (by kernel_rfl) (by kernel_rfl) (by kernel_rfl) (by kernel_rfl) (by kernel_rfl) (by kernel_rfl) (by kernel_rfl) (fun _ _ _ h => h) (Or.inl ⟨by rfl, ?hy⟩) T0 ?_
    case hy =>
      intro X hX
      go_simp
    try simp only [Act.put, List.getElem_toArray, List.getElem_cons_zero, List.getElem_cons_succ, List.setIfInBounds_toArray, List.set_cons_zero, List.set_cons_succ]
    refine wpAnyG_take [4, 5, 6, 7, 8, 9, 10, 11] (i := 4) (v := (.bool false)) rfl (by kernel_rfl) (by kernel_rfl) (by kernel_rfl) (by kernel_rfl) (by kernel_rfl) (by kernel_rfl) (by kernel_rfl) (by kernel_rfl) (fun _ _ _ h => h) (Or.inl ⟨by rfl, ?hy⟩) T0 ?_
    case hy =>
      intro X hX
      go_simp
    try simp only [Act.put, List.getElem_toArray, List.getElem_cons_zero, List.getElem_cons_succ, List.setIfInBounds_toArray, List.set_cons_zero, List.set_cons_succ]
    refine wpAnyG_take [5, 10, 11] (i := 5) (v := (.agg #[.int .i64 qb, .int .i64 qk, .int .i64 qu, .int .i64 ql, .int .i64 qc])) rfl (by kernel_rfl) (by kernel_rfl) (by kernel_rfl) (by kernel_rfl) (by kernel_rfl) (by kernel_rfl) (by kernel_rfl) (by kernel_rfl) (fun _ _ _ h => h) (Or.inl ⟨by rfl, ?hy⟩) T0 ?_
    case hy =>
      intro X hX
      have e0 := at_below p0 hX
      have e1 := at_below p1 hX
      have e2 := at_below p2 hX
      have e3 := at_below p3 hX
      have e4 := at_below p4 hX
      go_simp
    try simp only [Act.put, List.getElem_toArray, List.getElem_cons_zero, List.getElem_cons_succ, List.setIfInBounds_toArray, List.set_cons_zero, List.set_cons_succ]
    refine wpAnyG_take [6, 8, 9, 10, 11] (i := 6) (v := (.slice (some ⟨g, 0, none⟩) (n + 1) cap)) rfl (by kernel_rfl) (by kernel_rfl) (by kernel_rfl) (by kernel_rfl) (by kernel_rfl) (by kernel_rfl) (by kernel_rfl) (by kernel_rfl) (fun _ _ _ h => h) (Or.inl ⟨by rfl, ?hy⟩) T0 ?_
    case hy =>
      intro X hX
      have e0 := at_below vl hX
      go_simp
    try simp only [Act.put, List.getElem_toArray, List.getElem_cons_zero, List.getElem_cons_succ, List.setIfInBounds_toArray, List.set_cons_zero, List.set_cons_succ]
    refine wpAnyG_take [7, 8, 9, 10, 11] (i := 7) (v := (.int .i64 x)) rfl (by kernel_rfl) (by kernel_rfl) (by kernel_rfl) (by kernel_rfl) (by kernel_rfl) (by kernel_rfl) (by kernel_rfl) (by kernel_rfl) (fun _ _ _ h => h) (Or.inl ⟨by rfl, ?hy⟩) T0 ?_
    case hy =>
      intro X hX
      have e0 := at_below vn hX
      go_simp
    try simp only [Act.put, List.getElem_toArray, List.getElem_cons_zero, List.getElem_cons_succ, List.setIfInBounds_toArray, List.set_cons_zero, List.set_cons_succ]
    refine wpAnyG_take [8, 9, 10, 11] (i := 8) (v := (.pointer (some ⟨g, x * 5, none⟩))) rfl (by kernel_rfl) (by kernel_rfl) (by kernel_rfl) (by kernel_rfl) (by kernel_rfl) (by kernel_rfl) (by kernel_rfl) (by kernel_rfl) (fun _ _ _ h => h) (Or.inl ⟨by rfl, ?hy⟩) T0 ?_
    case hy =>
      intro X hX
      go_simp
    try simp only [Act.put, List.getElem_toArray, List.getElem_cons_zero, List.getElem_cons_succ, List.setIfInBounds_toArray, List.set_cons_zero, List.set_cons_succ]
    refine wpAnyG_take [9, 10, 11] (i := 9) (v := (.agg #[.int .i64 qb, .int .i64 qk, .int .i64 qu, .int .i64 ql, .int .i64 qc])) rfl (by kernel_rfl) (by kernel_rfl) (by kernel_rfl) (by kernel_rfl) (by kernel_rfl) (by kernel_rfl) (by kernel_rfl) (by kernel_rfl) (fun _ _ _ h => h) (Or.inl ⟨by rfl, ?hy⟩) T0 ?_
    case hy =>
      intro X hX
      have e0 := at_below r0 hX
      have e1 := at_below r1 hX
      have e2 := at_below r2 hX
      have e3 := at_below r3 hX
      have e4 := at_below r4 hX
      go_simp
    try simp only [Act.put, List.getElem_toArray, List.getElem_cons_zero, List.getElem_cons_succ, List.setIfInBounds_toArray, List.set_cons_zero, List.set_cons_succ]
    refine wpAnyG_take [10, 11] (i := 10) (v := (.bool false)) rfl (by kernel_rfl) (by kernel_rfl) (by kernel_rfl) (by kernel_rfl) (by kernel_rfl) (by kernel_rfl) (by kernel_rfl) (by kernel_rfl) (fun _ _ _ h => h) (Or.inl ⟨by rfl, ?hy⟩) T0 ?_
    case hy =>
      intro X hX
      go_simp
    try simp only [Act.put, List.getElem_toArray, List.getElem_cons_zero, List.getElem_cons_succ, List.setIfInBounds_toArray, List.set_cons_zero, List.set_cons_succ]
    refine wpAnyG_take [11] (i := 11) (v := (.bool false)) rfl (by kernel_rfl) (by kernel_rfl) (by kernel_rfl) (by kernel_rfl) (by kernel_rfl) (by kernel_rfl) (by kernel_rfl) (by kernel_rfl) (fun _ _ _ h => h) (Or.inl ⟨by rfl, ?hy⟩) T0 ?_
    case hy =>
      intro X hX
      go_simp
    try simp only [Act.put, List.getElem_toArray, List.getElem_cons_zero, List.getElem_cons_succ, List.setIfInBounds_toArray, List.set_cons_zero, List.set_cons_succ]
    refine wpAnyG_done (by kernel_rfl) ?_ _
    have k1 := (hn1.below' T0).cell
    have k2 := (hn1.below' T0).frozen
    have k3 := (hn1.below' T0).lt
    clear vn vl r0 r1 r2 r3 r4 p0 p1 p2 p3 p4
    gi_wp2
    exact pg_next HI.out T0 rfl hwL (by omega) (by omega)
  case done =>
    rintro D U hD ⟨⟨hn1, hS⟩, hBU⟩ hK
    rw [hsz] at hD
    rw [List.length_range, HN.out] at hn1
    have hn2 : Blk U L #[.int .i64 ((n : Int) + 1)] 3 := by simpa using hn1
    have vn := hn2.cell
    have vl := VL.out U hS
    have q0 : Blk U (w.heap.size + 1) #[.bool false] 4 := (hS _ (by omega)).trans R1
    have j1 : ((n : Int) + 1 == (n : Int) + 1) = true := by rw [beq_iff_eq]
    gi_wp2_with (fail)
    refine (callsIn_wide.2 (works_any _)).mono ?_
    rintro e X4 ⟨rfl, T0⟩
    have r0 := q0.below' T0
    have r1 := r0.cell
    have r2 := r0.frozen
    have r3 := r0.lt
    have hDU := (Array.getElem?_eq_some_iff.1 hK).1
    have v1 := (r0.set 0 (.bool true)).cell 0
    have v2 : (X4.setCell ⟨w.heap.size + 1, 0, none⟩ (.bool true)).heap[D]? = some (.deferred (some [])) := (Below.heap_setCell _ _ _ _ (by dsimp only; omega)).trans ((T0.block D hDU).trans hK)
    have v3 := (hBU.trans (T0.mono hBU.size)).setCell (p := ⟨w.heap.size + 1, 0, none⟩) (by dsimp only; omega) (.bool true)
    obtain ⟨Y, hY⟩ : ∃ Y, X4.setCell ⟨w.heap.size + 1, 0, none⟩ (.bool true) = Y := ⟨_, rfl⟩
    rw [hY] at v1 v2 v3
    replace v1 : Y.cell? ⟨w.heap.size + 1, 0, none⟩ = some (.bool true) := by simpa using v1
    gi_wp2
    try rw [hY]
    have c11 : (Y.putObj D (.deferred none)).cell? ⟨w.heap.size + 1, 0, none⟩ = some (.bool true) := (World.cell?_of_block (w := Y) (World.putObj_heap_other (by dsimp only; omega))).trans v1
    have hB11 := v3.trans (belowK_b (w := w) (Nat.le_refl _) Y D _ (.deferred none) (by omega) v2 rfl rfl)
    refine ⟨by simp, .inl ⟨_, _, rfl, run_takeDeferred (w := Y) v2, ?_⟩⟩
    refine ⟨.bool true, ?_, rfl, hB11⟩
    simp [results, Try.f4, go_sem, c11]
end Go.Proofs.Ytjlfdoonhfkabaa
