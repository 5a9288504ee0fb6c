/- ClusterKnown: the law's call. -/
import Derived.Test.YtnbhdgbhmcbeoaaClr
import Derived.Test.YtnbhdgbhmcbeoaaClb
namespace Go.Proofs.Ytnbhdgbhmcbeoaa
set_option linter.unusedVariables false
set_option linter.unusedSimpArgs false
open Go Go.RowKit Go.Shelf
set_option maxRecDepth 100000

def tbl : List (ByteArray × List Cel) := [(⟨#[97, 204, 129, 98]⟩, [(0, 3, 1), (3, 4, 1)]), (⟨#[204, 129, 97, 204, 129, 204, 129]⟩, [(0, 2, 0), (2, 7, 1)]), (⟨#[13, 10, 10, 13]⟩, [(0, 2, 0), (2, 3, 0), (3, 4, 0)]), (⟨#[255, 204, 129, 97]⟩, [(0, 1, 1), (1, 3, 0), (3, 4, 1)]), (⟨#[240, 159, 145, 169, 226, 128, 141, 240, 159, 145, 169, 204, 129]⟩, [(0, 13, 2)]), (⟨#[97, 226, 128, 141, 240, 159, 145, 169]⟩, [(0, 4, 1), (4, 8, 2)]), (⟨#[232, 169, 169, 97]⟩, [(0, 3, 2), (3, 4, 1)]), (⟨#[]⟩, [])]
theorem tbl_cells : tbl.map (fun x => cellsL x.1) = tbl.map (·.2) := by kernel_rfl
theorem tbl_ok {k : Nat} {x : ByteArray × List Cel} (h : tbl[k]? = some x) : cellsL x.1 = x.2 := by
  have := congrArg (·[k]?) tbl_cells
  simp only [List.getElem?_map, h, Option.map_some] at this
  exact Option.some.inj this
theorem tbl_small {k : Nat} {x : ByteArray × List Cel} (h : tbl[k]? = some x) : x.1.size ≤ 100 ∧ x.2.length ≤ 100 := by
  have h1 : tbl.all (fun x => decide (x.1.size ≤ 100) && decide (x.2.length ≤ 100)) = true := by kernel_rfl
  have := List.all_eq_true.1 h1 x (List.mem_of_getElem? h)
  simpa using this
/-- The table, as it can be read. -/
def KnT (w : World) (b : Nat) : Prop := ∀ k x, tbl[k]? = some x → ∃ o cap, w.cell? ⟨b, k * 2, none⟩ = some (.string x.1) ∧ w.cell? ⟨b, k * 2 + 1, none⟩ = some (.slice o x.2.length cap) ∧ RowC w o x.2
theorem KnT.below {w w' : World} {b : Nat} (h : KnT w b) (hb : Below w.heap.size w w') : KnT w' b := by
  intro k x hx
  obtain ⟨o, cap, h1, h2, h3⟩ := h k x hx
  exact ⟨o, cap, at_below h1 hb, at_below h2 hb, h3.below hb⟩
def KnRel (w w1 : World) (i : Value) (wr : World) : Prop := ∃ k : Nat, i = .int .i64 k ∧ k ≤ 8 ∧ Below w1.heap.size w1 wr
theorem kn_at4 : optV (atF ⟨#[97, 204, 129, 98]⟩ 4) = .tuple #[.agg #[.int .i64 0, .int .i64 0, .int .i64 0], .int .i64 5] := by kernel_rfl
theorem kn_at2 : optV (atF ⟨#[97, 204, 129, 98]⟩ 2) = .tuple #[.agg #[.int .i64 0, .int .i64 3, .int .i64 1], .int .i64 0] := by kernel_rfl
theorem kn_un1 : optV (unF ⟨#[232, 169, 169, 97]⟩ 1) = .tuple #[.agg #[.int .i64 0, .int .i64 3, .int .i64 2], .int .i64 0] := by kernel_rfl
theorem kn_un2 : optV (unF ⟨#[232, 169, 169, 97]⟩ 2) = .tuple #[.agg #[.int .i64 3, .int .i64 4, .int .i64 1], .int .i64 0] := by kernel_rfl
theorem kn_un3 : optV (unF ⟨#[232, 169, 169, 97]⟩ 3) = .tuple #[.agg #[.int .i64 0, .int .i64 0, .int .i64 0], .int .i64 5] := by kernel_rfl
theorem kn_rev : catR ⟨#[97, 204, 129, 98, 13, 10]⟩ (revL ⟨#[97, 204, 129, 98, 13, 10]⟩) = ⟨#[13, 10, 98, 97, 204, 129]⟩ := by kernel_rfl
theorem kn_ed1 : edF ⟨#[97, 204, 129, 98]⟩ 1 = false := by kernel_rfl
theorem kn_ed4 : edF ⟨#[97, 204, 129, 98]⟩ 4 = true := by kernel_rfl
theorem kn_cells : cellsL ⟨#[204, 129, 97]⟩ = [(0, 2, 0), (2, 3, 1)] := by kernel_rfl
theorem kn_cut {P : List Cel} (h : CutOf ⟨#[204, 129, 97]⟩ 0 P) : P = [(0, 2, 0)] := by
  obtain ⟨⟨R, hR⟩, h2, h3⟩ := h
  rw [kn_cells] at hR h3
  match P, hR, h2, h3 with
  | [], hR, h2, h3 => have := h3 (0, 2, 0) ⟨[(2, 3, 1)], rfl⟩; simp [colsL] at this
  | [a], hR, h2, h3 => have := (List.cons.inj hR).1; rw [this]
  | [a, b], hR, h2, h3 =>
    have h1 := (List.cons.inj hR).1
    have h4 := (List.cons.inj (List.cons.inj hR).2).1
    subst h1; subst h4
    exact absurd h2 (by decide)
  | a :: b :: c :: P, hR, h2, h3 => have := congrArg List.length hR; simp at this
theorem kn_cutc (W : World) : Calls Try.prog 18 #[.string ⟨#[204, 129, 97]⟩, .int .i64 0] W fun e w' => e = .returned (.tuple #[.string ⟨#[204, 129]⟩, .string ⟨#[97]⟩, .int .i64 0]) ∧ Below W.heap.size W w' :=
  (cut_any ⟨#[204, 129, 97]⟩ (by decide) 0 W).mono fun e w' ⟨P, hP, _, he, hb⟩ => by
    have e1 := kn_cut hP
    subst e1
    exact ⟨he, hb⟩
theorem rowC_none (w : World) : RowC w none [] := fun k x h => by cases h

set_option maxHeartbeats 16000000 in
theorem lkn_any (w : World) : Calls Try.prog 3 #[] w fun e w' => e = .returned (.bool true) ∧ Below w.heap.size w w' := by
  go_enter Try.func3, Try.ntmps3
  go_wp2_with (fail)
  refine (works_any _).mono ?_
  rintro e w1 ⟨rfl, hB⟩
  go_wp2_with (fail)
  refine (cell_any 0 3 1 _).mono ?_
  rintro e w2 ⟨rfl, hb⟩
  replace hB := hB.trans (hb.mono hB.size)
  clear hb
  go_wp2_with (fail)
  refine (cell_any 3 4 1 _).mono ?_
  rintro e w3 ⟨rfl, hb⟩
  replace hB := hB.trans (hb.mono hB.size)
  clear hb
  go_wp2_with (fail)
  obtain ⟨v1, hW⟩ : ∃ x, w3.alloc (.cells #[.int .i64 0, .int .i64 3, .int .i64 1, .int .i64 3, .int .i64 4, .int .i64 1] 26) = x := ⟨_, rfl⟩
  rw [show w3.alloc (.cells #[.int .i64 0, .int .i64 3, .int .i64 1, .int .i64 3, .int .i64 4, .int .i64 1] 26) = v1 from hW]
  have al := (Below.refl w3.heap.size w3).alloc (Nat.le_refl _) (.cells #[.int .i64 (0 : Nat), .int .i64 (3 : Nat), .int .i64 (1 : Nat), .int .i64 (3 : Nat), .int .i64 (4 : Nat), .int .i64 (1 : Nat)] 26)
  have nb := Blk.new w3 #[.int .i64 (0 : Nat), .int .i64 (3 : Nat), .int .i64 (1 : Nat), .int .i64 (3 : Nat), .int .i64 (4 : Nat), .int .i64 (1 : Nat)] 26
  rw [show w3.alloc (.cells #[.int .i64 (0 : Nat), .int .i64 (3 : Nat), .int .i64 (1 : Nat), .int .i64 (3 : Nat), .int .i64 (4 : Nat), .int .i64 (1 : Nat)] 26) = v1 from hW] at al nb
  have r0 := RowC.of_blk (l := [(0, 3, 1), (3, 4, 1)]) nb rfl
  replace hB := hB.trans (al.mono hB.size)
  clear hW al nb
  refine (cell_any 0 2 0 _).mono ?_
  rintro e w4 ⟨rfl, hb⟩
  replace r0 := r0.below hb
  replace hB := hB.trans (hb.mono hB.size)
  clear hb
  go_wp2_with (fail)
  refine (cell_any 2 7 1 _).mono ?_
  rintro e w5 ⟨rfl, hb⟩
  replace r0 := r0.below hb
  replace hB := hB.trans (hb.mono hB.size)
  clear hb
  go_wp2_with (fail)
  obtain ⟨v2, hW⟩ : ∃ x, w5.alloc (.cells #[.int .i64 0, .int .i64 2, .int .i64 0, .int .i64 2, .int .i64 7, .int .i64 1] 26) = x := ⟨_, rfl⟩
  rw [show w5.alloc (.cells #[.int .i64 0, .int .i64 2, .int .i64 0, .int .i64 2, .int .i64 7, .int .i64 1] 26) = v2 from hW]
  have al := (Below.refl w5.heap.size w5).alloc (Nat.le_refl _) (.cells #[.int .i64 (0 : Nat), .int .i64 (2 : Nat), .int .i64 (0 : Nat), .int .i64 (2 : Nat), .int .i64 (7 : Nat), .int .i64 (1 : Nat)] 26)
  have nb := Blk.new w5 #[.int .i64 (0 : Nat), .int .i64 (2 : Nat), .int .i64 (0 : Nat), .int .i64 (2 : Nat), .int .i64 (7 : Nat), .int .i64 (1 : Nat)] 26
  rw [show w5.alloc (.cells #[.int .i64 (0 : Nat), .int .i64 (2 : Nat), .int .i64 (0 : Nat), .int .i64 (2 : Nat), .int .i64 (7 : Nat), .int .i64 (1 : Nat)] 26) = v2 from hW] at al nb
  replace r0 := r0.below al
  have r1 := RowC.of_blk (l := [(0, 2, 0), (2, 7, 1)]) nb rfl
  replace hB := hB.trans (al.mono hB.size)
  clear hW al nb
  refine (cell_any 0 2 0 _).mono ?_
  rintro e w6 ⟨rfl, hb⟩
  replace r0 := r0.below hb
  replace r1 := r1.below hb
  replace hB := hB.trans (hb.mono hB.size)
  clear hb
  go_wp2_with (fail)
  refine (cell_any 2 3 0 _).mono ?_
  rintro e w7 ⟨rfl, hb⟩
  replace r0 := r0.below hb
  replace r1 := r1.below hb
  replace hB := hB.trans (hb.mono hB.size)
  clear hb
  go_wp2_with (fail)
  refine (cell_any 3 4 0 _).mono ?_
  rintro e w8 ⟨rfl, hb⟩
  replace r0 := r0.below hb
  replace r1 := r1.below hb
  replace hB := hB.trans (hb.mono hB.size)
  clear hb
  go_wp2_with (fail)
  obtain ⟨v3, hW⟩ : ∃ x, w8.alloc (.cells #[.int .i64 0, .int .i64 2, .int .i64 0, .int .i64 2, .int .i64 3, .int .i64 0, .int .i64 3, .int .i64 4, .int .i64 0] 26) = x := ⟨_, rfl⟩
  rw [show w8.alloc (.cells #[.int .i64 0, .int .i64 2, .int .i64 0, .int .i64 2, .int .i64 3, .int .i64 0, .int .i64 3, .int .i64 4, .int .i64 0] 26) = v3 from hW]
  have al := (Below.refl w8.heap.size w8).alloc (Nat.le_refl _) (.cells #[.int .i64 (0 : Nat), .int .i64 (2 : Nat), .int .i64 (0 : Nat), .int .i64 (2 : Nat), .int .i64 (3 : Nat), .int .i64 (0 : Nat), .int .i64 (3 : Nat), .int .i64 (4 : Nat), .int .i64 (0 : Nat)] 26)
  have nb := Blk.new w8 #[.int .i64 (0 : Nat), .int .i64 (2 : Nat), .int .i64 (0 : Nat), .int .i64 (2 : Nat), .int .i64 (3 : Nat), .int .i64 (0 : Nat), .int .i64 (3 : Nat), .int .i64 (4 : Nat), .int .i64 (0 : Nat)] 26
  rw [show w8.alloc (.cells #[.int .i64 (0 : Nat), .int .i64 (2 : Nat), .int .i64 (0 : Nat), .int .i64 (2 : Nat), .int .i64 (3 : Nat), .int .i64 (0 : Nat), .int .i64 (3 : Nat), .int .i64 (4 : Nat), .int .i64 (0 : Nat)] 26) = v3 from hW] at al nb
  replace r0 := r0.below al
  replace r1 := r1.below al
  have r2 := RowC.of_blk (l := [(0, 2, 0), (2, 3, 0), (3, 4, 0)]) nb rfl
  replace hB := hB.trans (al.mono hB.size)
  clear hW al nb
  refine (cell_any 0 1 1 _).mono ?_
  rintro e w9 ⟨rfl, hb⟩
  replace r0 := r0.below hb
  replace r1 := r1.below hb
  replace r2 := r2.below hb
  replace hB := hB.trans (hb.mono hB.size)
  clear hb
  go_wp2_with (fail)
  refine (cell_any 1 3 0 _).mono ?_
  rintro e w10 ⟨rfl, hb⟩
  replace r0 := r0.below hb
  replace r1 := r1.below hb
  replace r2 := r2.below hb
  replace hB := hB.trans (hb.mono hB.size)
  clear hb
  go_wp2_with (fail)
  refine (cell_any 3 4 1 _).mono ?_
  rintro e w11 ⟨rfl, hb⟩
  replace r0 := r0.below hb
  replace r1 := r1.below hb
  replace r2 := r2.below hb
  replace hB := hB.trans (hb.mono hB.size)
  clear hb
  go_wp2_with (fail)
  obtain ⟨v4, hW⟩ : ∃ x, w11.alloc (.cells #[.int .i64 0, .int .i64 1, .int .i64 1, .int .i64 1, .int .i64 3, .int .i64 0, .int .i64 3, .int .i64 4, .int .i64 1] 26) = x := ⟨_, rfl⟩
  rw [show w11.alloc (.cells #[.int .i64 0, .int .i64 1, .int .i64 1, .int .i64 1, .int .i64 3, .int .i64 0, .int .i64 3, .int .i64 4, .int .i64 1] 26) = v4 from hW]
  have al := (Below.refl w11.heap.size w11).alloc (Nat.le_refl _) (.cells #[.int .i64 (0 : Nat), .int .i64 (1 : Nat), .int .i64 (1 : Nat), .int .i64 (1 : Nat), .int .i64 (3 : Nat), .int .i64 (0 : Nat), .int .i64 (3 : Nat), .int .i64 (4 : Nat), .int .i64 (1 : Nat)] 26)
  have nb := Blk.new w11 #[.int .i64 (0 : Nat), .int .i64 (1 : Nat), .int .i64 (1 : Nat), .int .i64 (1 : Nat), .int .i64 (3 : Nat), .int .i64 (0 : Nat), .int .i64 (3 : Nat), .int .i64 (4 : Nat), .int .i64 (1 : Nat)] 26
  rw [show w11.alloc (.cells #[.int .i64 (0 : Nat), .int .i64 (1 : Nat), .int .i64 (1 : Nat), .int .i64 (1 : Nat), .int .i64 (3 : Nat), .int .i64 (0 : Nat), .int .i64 (3 : Nat), .int .i64 (4 : Nat), .int .i64 (1 : Nat)] 26) = v4 from hW] at al nb
  replace r0 := r0.below al
  replace r1 := r1.below al
  replace r2 := r2.below al
  have r3 := RowC.of_blk (l := [(0, 1, 1), (1, 3, 0), (3, 4, 1)]) nb rfl
  replace hB := hB.trans (al.mono hB.size)
  clear hW al nb
  refine (cell_any 0 13 2 _).mono ?_
  rintro e w12 ⟨rfl, hb⟩
  replace r0 := r0.below hb
  replace r1 := r1.below hb
  replace r2 := r2.below hb
  replace r3 := r3.below hb
  replace hB := hB.trans (hb.mono hB.size)
  clear hb
  go_wp2_with (fail)
  obtain ⟨v5, hW⟩ : ∃ x, w12.alloc (.cells #[.int .i64 0, .int .i64 13, .int .i64 2] 26) = x := ⟨_, rfl⟩
  rw [show w12.alloc (.cells #[.int .i64 0, .int .i64 13, .int .i64 2] 26) = v5 from hW]
  have al := (Below.refl w12.heap.size w12).alloc (Nat.le_refl _) (.cells #[.int .i64 (0 : Nat), .int .i64 (13 : Nat), .int .i64 (2 : Nat)] 26)
  have nb := Blk.new w12 #[.int .i64 (0 : Nat), .int .i64 (13 : Nat), .int .i64 (2 : Nat)] 26
  rw [show w12.alloc (.cells #[.int .i64 (0 : Nat), .int .i64 (13 : Nat), .int .i64 (2 : Nat)] 26) = v5 from hW] at al nb
  replace r0 := r0.below al
  replace r1 := r1.below al
  replace r2 := r2.below al
  replace r3 := r3.below al
  have r4 := RowC.of_blk (l := [(0, 13, 2)]) nb rfl
  replace hB := hB.trans (al.mono hB.size)
  clear hW al nb
  refine (cell_any 0 4 1 _).mono ?_
  rintro e w13 ⟨rfl, hb⟩
  replace r0 := r0.below hb
  replace r1 := r1.below hb
  replace r2 := r2.below hb
  replace r3 := r3.below hb
  replace r4 := r4.below hb
  replace hB := hB.trans (hb.mono hB.size)
  clear hb
  go_wp2_with (fail)
  refine (cell_any 4 8 2 _).mono ?_
  rintro e w14 ⟨rfl, hb⟩
  replace r0 := r0.below hb
  replace r1 := r1.below hb
  replace r2 := r2.below hb
  replace r3 := r3.below hb
  replace r4 := r4.below hb
  replace hB := hB.trans (hb.mono hB.size)
  clear hb
  go_wp2_with (fail)
  obtain ⟨v6, hW⟩ : ∃ x, w14.alloc (.cells #[.int .i64 0, .int .i64 4, .int .i64 1, .int .i64 4, .int .i64 8, .int .i64 2] 26) = x := ⟨_, rfl⟩
  rw [show w14.alloc (.cells #[.int .i64 0, .int .i64 4, .int .i64 1, .int .i64 4, .int .i64 8, .int .i64 2] 26) = v6 from hW]
  have al := (Below.refl w14.heap.size w14).alloc (Nat.le_refl _) (.cells #[.int .i64 (0 : Nat), .int .i64 (4 : Nat), .int .i64 (1 : Nat), .int .i64 (4 : Nat), .int .i64 (8 : Nat), .int .i64 (2 : Nat)] 26)
  have nb := Blk.new w14 #[.int .i64 (0 : Nat), .int .i64 (4 : Nat), .int .i64 (1 : Nat), .int .i64 (4 : Nat), .int .i64 (8 : Nat), .int .i64 (2 : Nat)] 26
  rw [show w14.alloc (.cells #[.int .i64 (0 : Nat), .int .i64 (4 : Nat), .int .i64 (1 : Nat), .int .i64 (4 : Nat), .int .i64 (8 : Nat), .int .i64 (2 : Nat)] 26) = v6 from hW] at al nb
  replace r0 := r0.below al
  replace r1 := r1.below al
  replace r2 := r2.below al
  replace r3 := r3.below al
  replace r4 := r4.below al
  have r5 := RowC.of_blk (l := [(0, 4, 1), (4, 8, 2)]) nb rfl
  replace hB := hB.trans (al.mono hB.size)
  clear hW al nb
  refine (cell_any 0 3 2 _).mono ?_
  rintro e w15 ⟨rfl, hb⟩
  replace r0 := r0.below hb
  replace r1 := r1.below hb
  replace r2 := r2.below hb
  replace r3 := r3.below hb
  replace r4 := r4.below hb
  replace r5 := r5.below hb
  replace hB := hB.trans (hb.mono hB.size)
  clear hb
  go_wp2_with (fail)
  refine (cell_any 3 4 1 _).mono ?_
  rintro e w16 ⟨rfl, hb⟩
  replace r0 := r0.below hb
  replace r1 := r1.below hb
  replace r2 := r2.below hb
  replace r3 := r3.below hb
  replace r4 := r4.below hb
  replace r5 := r5.below hb
  replace hB := hB.trans (hb.mono hB.size)
  clear hb
  go_wp2_with (fail)
  have al := (Below.refl w16.heap.size w16).alloc (Nat.le_refl _) (.cells #[.int .i64 (0 : Nat), .int .i64 (3 : Nat), .int .i64 (2 : Nat), .int .i64 (3 : Nat), .int .i64 (4 : Nat), .int .i64 (1 : Nat)] 26)
  have nb := Blk.new w16 #[.int .i64 (0 : Nat), .int .i64 (3 : Nat), .int .i64 (2 : Nat), .int .i64 (3 : Nat), .int .i64 (4 : Nat), .int .i64 (1 : Nat)] 26
  replace r0 := r0.below al
  replace r1 := r1.below al
  replace r2 := r2.below al
  replace r3 := r3.below al
  replace r4 := r4.below al
  replace r5 := r5.below al
  have r6 := RowC.of_blk (l := [(0, 3, 2), (3, 4, 1)]) nb rfl
  replace hB := hB.trans (al.mono hB.size)
  have al2 := (Below.refl (w16.alloc (.cells #[.int .i64 (0 : Nat), .int .i64 (3 : Nat), .int .i64 (2 : Nat), .int .i64 (3 : Nat), .int .i64 (4 : Nat), .int .i64 (1 : Nat)] 26)).heap.size (w16.alloc (.cells #[.int .i64 (0 : Nat), .int .i64 (3 : Nat), .int .i64 (2 : Nat), .int .i64 (3 : Nat), .int .i64 (4 : Nat), .int .i64 (1 : Nat)] 26))).alloc (Nat.le_refl _) (.cells #[.string ⟨#[97, 204, 129, 98]⟩, .slice (some ⟨w3.heap.size, 0, none⟩) 2 2, .string ⟨#[204, 129, 97, 204, 129, 204, 129]⟩, .slice (some ⟨w5.heap.size, 0, none⟩) 2 2, .string ⟨#[13, 10, 10, 13]⟩, .slice (some ⟨w8.heap.size, 0, none⟩) 3 3, .string ⟨#[255, 204, 129, 97]⟩, .slice (some ⟨w11.heap.size, 0, none⟩) 3 3, .string ⟨#[240, 159, 145, 169, 226, 128, 141, 240, 159, 145, 169, 204, 129]⟩, .slice (some ⟨w12.heap.size, 0, none⟩) 1 1, .string ⟨#[97, 226, 128, 141, 240, 159, 145, 169]⟩, .slice (some ⟨w14.heap.size, 0, none⟩) 2 2, .string ⟨#[232, 169, 169, 97]⟩, .slice (some ⟨w16.heap.size, 0, none⟩) 2 2, .string ⟨#[]⟩, .slice none 0 0] 29)
  have nt := Blk.new (w16.alloc (.cells #[.int .i64 (0 : Nat), .int .i64 (3 : Nat), .int .i64 (2 : Nat), .int .i64 (3 : Nat), .int .i64 (4 : Nat), .int .i64 (1 : Nat)] 26)) #[.string ⟨#[97, 204, 129, 98]⟩, .slice (some ⟨w3.heap.size, 0, none⟩) 2 2, .string ⟨#[204, 129, 97, 204, 129, 204, 129]⟩, .slice (some ⟨w5.heap.size, 0, none⟩) 2 2, .string ⟨#[13, 10, 10, 13]⟩, .slice (some ⟨w8.heap.size, 0, none⟩) 3 3, .string ⟨#[255, 204, 129, 97]⟩, .slice (some ⟨w11.heap.size, 0, none⟩) 3 3, .string ⟨#[240, 159, 145, 169, 226, 128, 141, 240, 159, 145, 169, 204, 129]⟩, .slice (some ⟨w12.heap.size, 0, none⟩) 1 1, .string ⟨#[97, 226, 128, 141, 240, 159, 145, 169]⟩, .slice (some ⟨w14.heap.size, 0, none⟩) 2 2, .string ⟨#[232, 169, 169, 97]⟩, .slice (some ⟨w16.heap.size, 0, none⟩) 2 2, .string ⟨#[]⟩, .slice none 0 0] 29
  replace r0 := r0.below al2
  replace r1 := r1.below al2
  replace r2 := r2.below al2
  replace r3 := r3.below al2
  replace r4 := r4.below al2
  replace r5 := r5.below al2
  replace r6 := r6.below al2
  replace hB := hB.trans (al2.mono hB.size)
  have szT : (w16.alloc (.cells #[.int .i64 (0 : Nat), .int .i64 (3 : Nat), .int .i64 (2 : Nat), .int .i64 (3 : Nat), .int .i64 (4 : Nat), .int .i64 (1 : Nat)] 26)).heap.size = w16.heap.size + 1 := by simp
  rw [szT] at nt
  obtain ⟨T, hT⟩ : ∃ x, (w16.alloc (.cells #[.int .i64 (0 : Nat), .int .i64 (3 : Nat), .int .i64 (2 : Nat), .int .i64 (3 : Nat), .int .i64 (4 : Nat), .int .i64 (1 : Nat)] 26)).alloc (.cells #[.string ⟨#[97, 204, 129, 98]⟩, .slice (some ⟨w3.heap.size, 0, none⟩) 2 2, .string ⟨#[204, 129, 97, 204, 129, 204, 129]⟩, .slice (some ⟨w5.heap.size, 0, none⟩) 2 2, .string ⟨#[13, 10, 10, 13]⟩, .slice (some ⟨w8.heap.size, 0, none⟩) 3 3, .string ⟨#[255, 204, 129, 97]⟩, .slice (some ⟨w11.heap.size, 0, none⟩) 3 3, .string ⟨#[240, 159, 145, 169, 226, 128, 141, 240, 159, 145, 169, 204, 129]⟩, .slice (some ⟨w12.heap.size, 0, none⟩) 1 1, .string ⟨#[97, 226, 128, 141, 240, 159, 145, 169]⟩, .slice (some ⟨w14.heap.size, 0, none⟩) 2 2, .string ⟨#[232, 169, 169, 97]⟩, .slice (some ⟨w16.heap.size, 0, none⟩) 2 2, .string ⟨#[]⟩, .slice none 0 0] 29) = x := ⟨_, rfl⟩
  rw [hT] at r0 r1 r2 r3 r4 r5 r6 nt hB
  rw [show (w16.alloc (.cells #[.int .i64 0, .int .i64 3, .int .i64 2, .int .i64 3, .int .i64 4, .int .i64 1] 26)).alloc (.cells #[.string ⟨#[97, 204, 129, 98]⟩, .slice (some ⟨w3.heap.size, 0, none⟩) 2 2, .string ⟨#[204, 129, 97, 204, 129, 204, 129]⟩, .slice (some ⟨w5.heap.size, 0, none⟩) 2 2, .string ⟨#[13, 10, 10, 13]⟩, .slice (some ⟨w8.heap.size, 0, none⟩) 3 3, .string ⟨#[255, 204, 129, 97]⟩, .slice (some ⟨w11.heap.size, 0, none⟩) 3 3, .string ⟨#[240, 159, 145, 169, 226, 128, 141, 240, 159, 145, 169, 204, 129]⟩, .slice (some ⟨w12.heap.size, 0, none⟩) 1 1, .string ⟨#[97, 226, 128, 141, 240, 159, 145, 169]⟩, .slice (some ⟨w14.heap.size, 0, none⟩) 2 2, .string ⟨#[232, 169, 169, 97]⟩, .slice (some ⟨w16.heap.size, 0, none⟩) 2 2, .string ⟨#[]⟩, .slice none 0 0] 29) = T from hT]
  obtain ⟨bT, hbT⟩ : ∃ b, w16.heap.size + 1 = b := ⟨_, rfl⟩
  rw [hbT] at nt ⊢
  have kt : KnT T bT := by
    intro k x hx
    have hk := (List.getElem?_eq_some_iff.1 hx).1
    have hk : k < 8 := hk
    have h8 : k = 0 ∨ k = 1 ∨ k = 2 ∨ k = 3 ∨ k = 4 ∨ k = 5 ∨ k = 6 ∨ k = 7 := by omega
    rcases h8 with rfl | rfl | rfl | rfl | rfl | rfl | rfl | rfl
    · obtain rfl : (⟨#[97, 204, 129, 98]⟩, [(0, 3, 1), (3, 4, 1)]) = x := Option.some.inj hx
      exact ⟨some ⟨w3.heap.size, 0, none⟩, 2, nt.cell 0, nt.cell 1, r0⟩
    · obtain rfl : (⟨#[204, 129, 97, 204, 129, 204, 129]⟩, [(0, 2, 0), (2, 7, 1)]) = x := Option.some.inj hx
      exact ⟨some ⟨w5.heap.size, 0, none⟩, 2, nt.cell 2, nt.cell 3, r1⟩
    · obtain rfl : (⟨#[13, 10, 10, 13]⟩, [(0, 2, 0), (2, 3, 0), (3, 4, 0)]) = x := Option.some.inj hx
      exact ⟨some ⟨w8.heap.size, 0, none⟩, 3, nt.cell 4, nt.cell 5, r2⟩
    · obtain rfl : (⟨#[255, 204, 129, 97]⟩, [(0, 1, 1), (1, 3, 0), (3, 4, 1)]) = x := Option.some.inj hx
      exact ⟨some ⟨w11.heap.size, 0, none⟩, 3, nt.cell 6, nt.cell 7, r3⟩
    · obtain rfl : (⟨#[240, 159, 145, 169, 226, 128, 141, 240, 159, 145, 169, 204, 129]⟩, [(0, 13, 2)]) = x := Option.some.inj hx
      exact ⟨some ⟨w12.heap.size, 0, none⟩, 1, nt.cell 8, nt.cell 9, r4⟩
    · obtain rfl : (⟨#[97, 226, 128, 141, 240, 159, 145, 169]⟩, [(0, 4, 1), (4, 8, 2)]) = x := Option.some.inj hx
      exact ⟨some ⟨w14.heap.size, 0, none⟩, 2, nt.cell 10, nt.cell 11, r5⟩
    · obtain rfl : (⟨#[232, 169, 169, 97]⟩, [(0, 3, 2), (3, 4, 1)]) = x := Option.some.inj hx
      exact ⟨some ⟨w16.heap.size, 0, none⟩, 2, nt.cell 12, nt.cell 13, r6⟩
    · obtain rfl : (⟨#[]⟩, []) = x := Option.some.inj hx
      exact ⟨none, 0, nt.cell 14, nt.cell 15, rowC_none _⟩
  clear al al2 nb nt hT hbT szT r0 r1 r2 r3 r4 r5 r6
  have HT := Lib.hid (And.intro kt hB)
  clear kt hB
  go_loopw [58] (fun i wr => KnRel w T i wr) (fun i _ => 8 - (intOf i).toNat)
  case atStart => exact ⟨0, rfl, by omega, Below.refl _ _⟩
  case round =>
    obtain ⟨k, rfl, hk, hBr⟩ := hrel
    by_cases hlt : k < 8
    · obtain ⟨x, hx⟩ : ∃ x, tbl[k]? = some x := ⟨_, List.getElem?_eq_getElem (show k < tbl.length from hlt)⟩
      obtain ⟨o, cap, c0, c1, hr⟩ := (HT.out.1.below hBr) k x hx
      have hok := tbl_ok hx
      have hsm := tbl_small hx
      obtain ⟨b, l⟩ := x
      simp only at c0 c1 hr hok hsm
      have cC := fun W => cells_any b (by omega) W
      rw [hok] at cC
      obtain ⟨n, hn⟩ : ∃ n, l.length = n := ⟨_, rfl⟩
      rw [hn] at c1 hsm cC
      have HL := Lib.hid hn
      have i1 : (k : Int) < 8 := by omega
      have i2 : (0 : Int) ≤ (k : Int) := by omega
      clear hx hok hn
      go_wp2
      have S0 := Blk.new wr #[.string b, .slice o n cap] 29
      have s0 := S0.cell 0
      have s1 := S0.cell 1
      simp only [List.getElem?_toArray, List.getElem?_cons_succ, List.getElem?_cons_zero] at s0 s1
      have alr := (Below.refl wr.heap.size wr).alloc (Nat.le_refl _) (.cells #[.string b, .slice o n cap] 29)
      have hr2 := hr.below alr
      have hBr2 := hBr.trans (alr.mono hBr.size)
      obtain ⟨bS, hbS⟩ : ∃ b, wr.heap.size = b := ⟨_, rfl⟩
      obtain ⟨X, hX⟩ : ∃ x, wr.alloc (.cells #[.string b, .slice o n cap] 29) = x := ⟨_, rfl⟩
      rw [hX] at s0 s1 hr2 hBr2 ⊢
      rw [hbS] at s0 s1 ⊢
      clear hX S0 alr hr hBr hbS
      refine wp_region_noPanic ?_
      refine wp_region_g (S := untilG [] (fun Y => Below X.heap.size X Y)) (by kernel_rfl) ?_
      obtain ⟨X0, hX0⟩ : ∃ Y, X.drew = Y := ⟨_, rfl⟩
      have T0 : Below X.heap.size X X0 := hX0 ▸ (Below.refl X.heap.size X).drew
      rw [hX0]
      clear hX0
      refine wpAnyG_take [0, 1, 2, 5, 6] (i := 0) (v := (.pointer (some ⟨bS, 0, none⟩))) rfl (by kernel_rfl) (by kernel_rfl) (by kernel_rfl) (by kernel_rfl) (by kernel_rfl) (by kernel_rfl) (by kernel_rfl) (by kernel_rfl) (fun _ _ _ h => h) (Or.inl ⟨by rfl, ?hy⟩) T0 ?_
      case hy =>
        intro X hX
        go_simp
      try simp only [Act.put, List.getElem_toArray, List.getElem_cons_zero, List.getElem_cons_succ, List.setIfInBounds_toArray, List.set_cons_zero, List.set_cons_succ]
      refine wpAnyG_take [1, 2, 5, 6] (i := 1) (v := (.string b)) rfl (by kernel_rfl) (by kernel_rfl) (by kernel_rfl) (by kernel_rfl) (by kernel_rfl) (by kernel_rfl) (by kernel_rfl) (by kernel_rfl) (fun _ _ _ h => h) (Or.inl ⟨by rfl, ?hy⟩) T0 ?_
      case hy =>
        intro X hX
        have e0 := at_below s0 hX
        go_simp
      try simp only [Act.put, List.getElem_toArray, List.getElem_cons_zero, List.getElem_cons_succ, List.setIfInBounds_toArray, List.set_cons_zero, List.set_cons_succ]
      refine wpAnyG_take [3, 4, 5, 6] (i := 3) (v := (.pointer (some ⟨bS, 1, none⟩))) rfl (by kernel_rfl) (by kernel_rfl) (by kernel_rfl) (by kernel_rfl) (by kernel_rfl) (by kernel_rfl) (by kernel_rfl) (by kernel_rfl) (fun _ _ _ h => h) (Or.inl ⟨by rfl, ?hy⟩) T0 ?_
      case hy =>
        intro X hX
        go_simp
      try simp only [Act.put, List.getElem_toArray, List.getElem_cons_zero, List.getElem_cons_succ, List.setIfInBounds_toArray, List.set_cons_zero, List.set_cons_succ]
      refine wpAnyG_take [4, 5, 6] (i := 4) (v := (.slice o n cap)) rfl (by kernel_rfl) (by kernel_rfl) (by kernel_rfl) (by kernel_rfl) (by kernel_rfl) (by kernel_rfl) (by kernel_rfl) (by kernel_rfl) (fun _ _ _ h => h) (Or.inl ⟨by rfl, ?hy⟩) T0 ?_
      case hy =>
        intro X hX
        have e0 := at_below s1 hX
        go_simp
      try simp only [Act.put, List.getElem_toArray, List.getElem_cons_zero, List.getElem_cons_succ, List.setIfInBounds_toArray, List.set_cons_zero, List.set_cons_succ]
      refine wpAnyG_all (rs := [2]) (by kernel_rfl) (by simp) ?_
      intro i hi
      simp only [List.mem_cons, List.not_mem_nil, or_false] at hi
      subst hi
      refine wpOp_open rfl (by rfl) ?_
      go_simp
      refine (cC _).mono ?_
      rintro e X1 ⟨v, rfl, hv, hb5⟩
      obtain ⟨o', cap', rfl, ho'⟩ := own_slice hv
      have rv := RowC.of_own hv HL.out
      have rx := (hr2.below T0).below hb5
      replace T0 := T0.trans (hb5.mono T0.size)
      refine ⟨fun _ => T0, ?_⟩
      try simp only [Act.put, List.getElem_toArray, List.getElem_cons_zero, List.getElem_cons_succ, List.setIfInBounds_toArray, List.set_cons_zero, List.set_cons_succ]
      refine wpAnyG_all (rs := [5]) (by kernel_rfl) (by simp) ?_
      intro i hi
      simp only [List.mem_cons, List.not_mem_nil, or_false] at hi
      subst hi
      refine wpOp_open rfl (by rfl) ?_
      go_simp
      refine (equal_any l l o' o n n cap' cap HL.out HL.out (by omega) (by omega) _ rv rx).mono ?_
      rintro e X2 ⟨rfl, hb6⟩
      rw [decide_eq_true (rfl : l = l)]
      replace T0 := T0.trans (hb6.mono T0.size)
      refine ⟨fun _ => T0, ?_⟩
      try simp only [Act.put, List.getElem_toArray, List.getElem_cons_zero, List.getElem_cons_succ, List.setIfInBounds_toArray, List.set_cons_zero, List.set_cons_succ]
      refine wpAnyG_take [6] (i := 6) (v := (.bool false)) rfl (by kernel_rfl) (by kernel_rfl) (by kernel_rfl) (by kernel_rfl) (by kernel_rfl) (by kernel_rfl) (by kernel_rfl) (by kernel_rfl) (fun _ _ _ h => h) (Or.inl ⟨by rfl, ?hy⟩) T0 ?_
      case hy =>
        intro X hX
        go_simp
      try simp only [Act.put, List.getElem_toArray, List.getElem_cons_zero, List.getElem_cons_succ, List.setIfInBounds_toArray, List.set_cons_zero, List.set_cons_succ]
      refine wpAnyG_done (by kernel_rfl) ?_ _
      refine NoPanic.normal ?_
      go_wp2
      go_roundw
      case rel => exact ⟨k + 1, by go_num, by omega, hBr2.trans (T0.mono hBr2.size)⟩
      case measure => simp [intOf]; omega
    · have i1 : ¬ (k : Int) < 8 := by omega
      have hBn := HT.out.2.trans (hBr.mono HT.out.2.size)
      clear hBr
      go_wp2_with (fail)
      refine (atC_any ⟨#[97, 204, 129, 98]⟩ (by decide) 4 _).mono ?_
      rintro e z1 ⟨rfl, hb⟩
      rw [kn_at4]
      replace hBn := hBn.trans (hb.mono hBn.size)
      clear hb
      have q3 := Blk.new z1 #[.int .i64 0, .int .i64 0, .int .i64 0] 26
      replace hBn := hBn.alloc hBn.size (.cells #[.int .i64 0, .int .i64 0, .int .i64 0] 26)
      go_wp2_with (fail)
      refine (atC_any ⟨#[97, 204, 129, 98]⟩ (by decide) 2 _).mono ?_
      rintro e z2 ⟨rfl, hb⟩
      rw [kn_at2]
      have q3 := Blk.below' q3 hb
      replace hBn := hBn.trans (hb.mono hBn.size)
      clear hb
      have q5 := Blk.new z2 #[.int .i64 0, .int .i64 3, .int .i64 1] 26
      have q3 := q3.alloc (.cells #[.int .i64 0, .int .i64 3, .int .i64 1] 26)
      replace hBn := hBn.alloc hBn.size (.cells #[.int .i64 0, .int .i64 3, .int .i64 1] 26)
      go_wp2_with (fail)
      refine (under_any ⟨#[232, 169, 169, 97]⟩ (by decide) 1 (by decide) _).mono ?_
      rintro e z3 ⟨rfl, hb⟩
      rw [kn_un1]
      have q3 := Blk.below' q3 hb
      have q5 := Blk.below' q5 hb
      replace hBn := hBn.trans (hb.mono hBn.size)
      clear hb
      have q7 := Blk.new z3 #[.int .i64 0, .int .i64 3, .int .i64 2] 26
      have q3 := q3.alloc (.cells #[.int .i64 0, .int .i64 3, .int .i64 2] 26)
      have q5 := q5.alloc (.cells #[.int .i64 0, .int .i64 3, .int .i64 2] 26)
      replace hBn := hBn.alloc hBn.size (.cells #[.int .i64 0, .int .i64 3, .int .i64 2] 26)
      go_wp2_with (fail)
      refine (under_any ⟨#[232, 169, 169, 97]⟩ (by decide) 2 (by decide) _).mono ?_
      rintro e z4 ⟨rfl, hb⟩
      rw [kn_un2]
      have q3 := Blk.below' q3 hb
      have q5 := Blk.below' q5 hb
      have q7 := Blk.below' q7 hb
      replace hBn := hBn.trans (hb.mono hBn.size)
      clear hb
      have q9 := Blk.new z4 #[.int .i64 3, .int .i64 4, .int .i64 1] 26
      have q3 := q3.alloc (.cells #[.int .i64 3, .int .i64 4, .int .i64 1] 26)
      have q5 := q5.alloc (.cells #[.int .i64 3, .int .i64 4, .int .i64 1] 26)
      have q7 := q7.alloc (.cells #[.int .i64 3, .int .i64 4, .int .i64 1] 26)
      replace hBn := hBn.alloc hBn.size (.cells #[.int .i64 3, .int .i64 4, .int .i64 1] 26)
      go_wp2_with (fail)
      refine (under_any ⟨#[232, 169, 169, 97]⟩ (by decide) 3 (by decide) _).mono ?_
      rintro e z5 ⟨rfl, hb⟩
      rw [kn_un3]
      have q3 := Blk.below' q3 hb
      have q5 := Blk.below' q5 hb
      have q7 := Blk.below' q7 hb
      have q9 := Blk.below' q9 hb
      replace hBn := hBn.trans (hb.mono hBn.size)
      clear hb
      have q11 := Blk.new z5 #[.int .i64 0, .int .i64 0, .int .i64 0] 26
      have q3 := q3.alloc (.cells #[.int .i64 0, .int .i64 0, .int .i64 0] 26)
      have q5 := q5.alloc (.cells #[.int .i64 0, .int .i64 0, .int .i64 0] 26)
      have q7 := q7.alloc (.cells #[.int .i64 0, .int .i64 0, .int .i64 0] 26)
      have q9 := q9.alloc (.cells #[.int .i64 0, .int .i64 0, .int .i64 0] 26)
      replace hBn := hBn.alloc hBn.size (.cells #[.int .i64 0, .int .i64 0, .int .i64 0] 26)
      go_wp2_with (fail)
      refine (pad_arg ⟨#[97]⟩ 2 4 _ (.inl rfl)).mono ?_
      rintro e z6 ⟨rfl, rfl⟩
      go_wp2_with (fail)
      refine (pad_arg ⟨#[97]⟩ (-1) 1 _ (.inr (by decide))).mono ?_
      rintro e z7 ⟨rfl, rfl⟩
      go_wp2_with (fail)
      refine (pad_long ⟨#[97]⟩ 65537 1 _ rfl (by decide)).mono ?_
      rintro e z8 ⟨rfl, rfl⟩
      go_wp2_with (fail)
      refine (kn_cutc _).mono ?_
      rintro e z9 ⟨rfl, hb⟩
      have q5 := Blk.below' q5 hb
      have q7 := Blk.below' q7 hb
      have q9 := Blk.below' q9 hb
      replace hBn := hBn.trans (hb.mono hBn.size)
      clear hb
      have d50 := q5.cell 0
      have d51 := q5.cell 1
      have d52 := q5.cell 2
      have d70 := q7.cell 0
      have d71 := q7.cell 1
      have d72 := q7.cell 2
      have d90 := q9.cell 0
      have d91 := q9.cell 1
      have d92 := q9.cell 2
      simp only [List.getElem?_toArray, List.getElem?_cons_succ, List.getElem?_cons_zero] at d50 d51 d52 d70 d71 d72 d90 d91 d92
      go_wp2_with (fail)
      refine wp_region_noPanic ?_
      refine wp_region_g (S := untilG [] (fun Y => Below z9.heap.size z9 Y)) (by kernel_rfl) ?_
      obtain ⟨X0, hX0⟩ : ∃ Y, z9.drew = Y := ⟨_, rfl⟩
      have T0 : Below z9.heap.size z9 X0 := hX0 ▸ (Below.refl z9.heap.size z9).drew
      rw [hX0]
      clear hX0
      refine wpAnyG_all (rs := [0]) (by kernel_rfl) (by simp) ?_
      intro i hi
      simp only [List.mem_cons, List.not_mem_nil, or_false] at hi
      subst hi
      refine wpOp_now rfl rfl ?_
      go_simp
      refine ⟨fun _ => T0, ?_⟩
      try simp only [Act.put, List.getElem_toArray, List.getElem_cons_zero, List.getElem_cons_succ, List.setIfInBounds_toArray, List.set_cons_zero, List.set_cons_succ]
      refine wpAnyG_all (rs := [1]) (by kernel_rfl) (by simp) ?_
      intro i hi
      simp only [List.mem_cons, List.not_mem_nil, or_false] at hi
      subst hi
      refine wpOp_now rfl rfl ?_
      go_simp
      refine ⟨fun _ => T0, ?_⟩
      try simp only [Act.put, List.getElem_toArray, List.getElem_cons_zero, List.getElem_cons_succ, List.setIfInBounds_toArray, List.set_cons_zero, List.set_cons_succ]
      refine wpAnyG_all (rs := [2]) (by kernel_rfl) (by simp) ?_
      intro i hi
      simp only [List.mem_cons, List.not_mem_nil, or_false] at hi
      subst hi
      refine wpOp_now rfl rfl ?_
      go_simp
      refine ⟨fun _ => T0, ?_⟩
      try simp only [Act.put, List.getElem_toArray, List.getElem_cons_zero, List.getElem_cons_succ, List.setIfInBounds_toArray, List.set_cons_zero, List.set_cons_succ]
      refine wpAnyG_all (rs := [3]) (by kernel_rfl) (by simp) ?_
      intro i hi
      simp only [List.mem_cons, List.not_mem_nil, or_false] at hi
      subst hi
      refine wpOp_open rfl (by rfl) ?_
      go_simp
      refine ⟨fun _ => T0, ?_⟩
      try simp only [Act.put, List.getElem_toArray, List.getElem_cons_zero, List.getElem_cons_succ, List.setIfInBounds_toArray, List.set_cons_zero, List.set_cons_succ]
      refine wpAnyG_all (rs := [4]) (by kernel_rfl) (by simp) ?_
      intro i hi
      simp only [List.mem_cons, List.not_mem_nil, or_false] at hi
      subst hi
      refine wpOp_open rfl (by rfl) ?_
      go_simp
      refine ⟨fun _ => T0, ?_⟩
      try simp only [Act.put, List.getElem_toArray, List.getElem_cons_zero, List.getElem_cons_succ, List.setIfInBounds_toArray, List.set_cons_zero, List.set_cons_succ]
      refine wpAnyG_all (rs := [5]) (by kernel_rfl) (by simp) ?_
      intro i hi
      simp only [List.mem_cons, List.not_mem_nil, or_false] at hi
      subst hi
      refine wpOp_now rfl rfl ?_
      go_simp
      refine ⟨fun _ => T0, ?_⟩
      try simp only [Act.put, List.getElem_toArray, List.getElem_cons_zero, List.getElem_cons_succ, List.setIfInBounds_toArray, List.set_cons_zero, List.set_cons_succ]
      refine wpAnyG_all (rs := [6]) (by kernel_rfl) (by simp) ?_
      intro i hi
      simp only [List.mem_cons, List.not_mem_nil, or_false] at hi
      subst hi
      refine wpOp_now rfl rfl ?_
      go_simp
      refine ⟨fun _ => T0, ?_⟩
      try simp only [Act.put, List.getElem_toArray, List.getElem_cons_zero, List.getElem_cons_succ, List.setIfInBounds_toArray, List.set_cons_zero, List.set_cons_succ]
      refine wpAnyG_take [7, 9, 10, 11, 12, 13, 14, 15, 16, 17, 18, 19, 20, 21, 22, 23, 24, 25, 26, 27, 28, 29, 30, 31, 32, 33, 34, 35, 36, 37, 38, 39, 40, 41, 42, 43, 44, 45, 46, 47, 48, 49, 50, 51, 52, 53, 54, 55, 56, 57, 58, 59, 60, 61, 62, 63, 64, 65, 66, 67, 68] (i := 7) (v := (.agg #[.int .i64 0, .int .i64 3, .int .i64 1])) rfl (by kernel_rfl) (by kernel_rfl) (by kernel_rfl) (by kernel_rfl) (by kernel_rfl) (by kernel_rfl) (by kernel_rfl) (by kernel_rfl) (fun _ _ _ h => h) (Or.inl ⟨by rfl, ?hy⟩) T0 ?_
      case hy =>
        intro X hX
        have e0 := at_below d50 hX
        have e1 := at_below d51 hX
        have e2 := at_below d52 hX
        go_simp
      try simp only [Act.put, List.getElem_toArray, List.getElem_cons_zero, List.getElem_cons_succ, List.setIfInBounds_toArray, List.set_cons_zero, List.set_cons_succ]
      refine wpAnyG_all (rs := [8]) (by kernel_rfl) (by simp) ?_
      intro i hi
      simp only [List.mem_cons, List.not_mem_nil, or_false] at hi
      subst hi
      refine wpOp_open rfl (by rfl) ?_
      go_simp
      refine (cell_any 0 3 1 _).mono ?_
      rintro e y1 ⟨rfl, hb⟩
      replace T0 := T0.trans (hb.mono T0.size)
      clear hb
      refine ⟨fun _ => T0, ?_⟩
      try simp only [Act.put, List.getElem_toArray, List.getElem_cons_zero, List.getElem_cons_succ, List.setIfInBounds_toArray, List.set_cons_zero, List.set_cons_succ]
      refine wpAnyG_all (rs := [9]) (by kernel_rfl) (by simp) ?_
      intro i hi
      simp only [List.mem_cons, List.not_mem_nil, or_false] at hi
      subst hi
      refine wpOp_open rfl (by rfl) ?_
      go_simp
      refine ⟨fun _ => T0, ?_⟩
      try simp only [Act.put, List.getElem_toArray, List.getElem_cons_zero, List.getElem_cons_succ, List.setIfInBounds_toArray, List.set_cons_zero, List.set_cons_succ]
      refine wpAnyG_all (rs := [10]) (by kernel_rfl) (by simp) ?_
      intro i hi
      simp only [List.mem_cons, List.not_mem_nil, or_false] at hi
      subst hi
      refine wpOp_now rfl rfl ?_
      go_simp
      refine ⟨fun _ => T0, ?_⟩
      try simp only [Act.put, List.getElem_toArray, List.getElem_cons_zero, List.getElem_cons_succ, List.setIfInBounds_toArray, List.set_cons_zero, List.set_cons_succ]
      refine wpAnyG_all (rs := [11]) (by kernel_rfl) (by simp) ?_
      intro i hi
      simp only [List.mem_cons, List.not_mem_nil, or_false] at hi
      subst hi
      refine wpOp_now rfl rfl ?_
      go_simp
      refine ⟨fun _ => T0, ?_⟩
      try simp only [Act.put, List.getElem_toArray, List.getElem_cons_zero, List.getElem_cons_succ, List.setIfInBounds_toArray, List.set_cons_zero, List.set_cons_succ]
      refine wpAnyG_all (rs := [12]) (by kernel_rfl) (by simp) ?_
      intro i hi
      simp only [List.mem_cons, List.not_mem_nil, or_false] at hi
      subst hi
      refine wpOp_open rfl (by rfl) ?_
      go_simp
      refine ⟨fun _ => T0, ?_⟩
      try simp only [Act.put, List.getElem_toArray, List.getElem_cons_zero, List.getElem_cons_succ, List.setIfInBounds_toArray, List.set_cons_zero, List.set_cons_succ]
      refine wpAnyG_all (rs := [13]) (by kernel_rfl) (by simp) ?_
      intro i hi
      simp only [List.mem_cons, List.not_mem_nil, or_false] at hi
      subst hi
      refine wpOp_open rfl (by rfl) ?_
      go_simp
      refine ⟨fun _ => T0, ?_⟩
      try simp only [Act.put, List.getElem_toArray, List.getElem_cons_zero, List.getElem_cons_succ, List.setIfInBounds_toArray, List.set_cons_zero, List.set_cons_succ]
      refine wpAnyG_all (rs := [14]) (by kernel_rfl) (by simp) ?_
      intro i hi
      simp only [List.mem_cons, List.not_mem_nil, or_false] at hi
      subst hi
      refine wpOp_now rfl rfl ?_
      go_simp
      refine ⟨fun _ => T0, ?_⟩
      try simp only [Act.put, List.getElem_toArray, List.getElem_cons_zero, List.getElem_cons_succ, List.setIfInBounds_toArray, List.set_cons_zero, List.set_cons_succ]
      refine wpAnyG_all (rs := [15]) (by kernel_rfl) (by simp) ?_
      intro i hi
      simp only [List.mem_cons, List.not_mem_nil, or_false] at hi
      subst hi
      refine wpOp_now rfl rfl ?_
      go_simp
      refine ⟨fun _ => T0, ?_⟩
      try simp only [Act.put, List.getElem_toArray, List.getElem_cons_zero, List.getElem_cons_succ, List.setIfInBounds_toArray, List.set_cons_zero, List.set_cons_succ]
      refine wpAnyG_take [16, 18, 19, 20, 21, 22, 23, 24, 25, 26, 27, 28, 29, 30, 31, 32, 33, 34, 35, 36, 37, 38, 39, 40, 41, 42, 43, 44, 45, 46, 47, 48, 49, 50, 51, 52, 53, 54, 55, 56, 57, 58, 59, 60, 61, 62, 63, 64, 65, 66, 67, 68] (i := 16) (v := (.agg #[.int .i64 0, .int .i64 3, .int .i64 2])) rfl (by kernel_rfl) (by kernel_rfl) (by kernel_rfl) (by kernel_rfl) (by kernel_rfl) (by kernel_rfl) (by kernel_rfl) (by kernel_rfl) (fun _ _ _ h => h) (Or.inl ⟨by rfl, ?hy⟩) T0 ?_
      case hy =>
        intro X hX
        have e0 := at_below d70 hX
        have e1 := at_below d71 hX
        have e2 := at_below d72 hX
        go_simp
      try simp only [Act.put, List.getElem_toArray, List.getElem_cons_zero, List.getElem_cons_succ, List.setIfInBounds_toArray, List.set_cons_zero, List.set_cons_succ]
      refine wpAnyG_all (rs := [17]) (by kernel_rfl) (by simp) ?_
      intro i hi
      simp only [List.mem_cons, List.not_mem_nil, or_false] at hi
      subst hi
      refine wpOp_open rfl (by rfl) ?_
      go_simp
      refine (cell_any 0 3 2 _).mono ?_
      rintro e y2 ⟨rfl, hb⟩
      replace T0 := T0.trans (hb.mono T0.size)
      clear hb
      refine ⟨fun _ => T0, ?_⟩
      try simp only [Act.put, List.getElem_toArray, List.getElem_cons_zero, List.getElem_cons_succ, List.setIfInBounds_toArray, List.set_cons_zero, List.set_cons_succ]
      refine wpAnyG_all (rs := [18]) (by kernel_rfl) (by simp) ?_
      intro i hi
      simp only [List.mem_cons, List.not_mem_nil, or_false] at hi
      subst hi
      refine wpOp_open rfl (by rfl) ?_
      go_simp
      refine ⟨fun _ => T0, ?_⟩
      try simp only [Act.put, List.getElem_toArray, List.getElem_cons_zero, List.getElem_cons_succ, List.setIfInBounds_toArray, List.set_cons_zero, List.set_cons_succ]
      refine wpAnyG_all (rs := [19]) (by kernel_rfl) (by simp) ?_
      intro i hi
      simp only [List.mem_cons, List.not_mem_nil, or_false] at hi
      subst hi
      refine wpOp_now rfl rfl ?_
      go_simp
      refine ⟨fun _ => T0, ?_⟩
      try simp only [Act.put, List.getElem_toArray, List.getElem_cons_zero, List.getElem_cons_succ, List.setIfInBounds_toArray, List.set_cons_zero, List.set_cons_succ]
      refine wpAnyG_all (rs := [20]) (by kernel_rfl) (by simp) ?_
      intro i hi
      simp only [List.mem_cons, List.not_mem_nil, or_false] at hi
      subst hi
      refine wpOp_now rfl rfl ?_
      go_simp
      refine ⟨fun _ => T0, ?_⟩
      try simp only [Act.put, List.getElem_toArray, List.getElem_cons_zero, List.getElem_cons_succ, List.setIfInBounds_toArray, List.set_cons_zero, List.set_cons_succ]
      refine wpAnyG_all (rs := [21]) (by kernel_rfl) (by simp) ?_
      intro i hi
      simp only [List.mem_cons, List.not_mem_nil, or_false] at hi
      subst hi
      refine wpOp_open rfl (by rfl) ?_
      go_simp
      refine ⟨fun _ => T0, ?_⟩
      try simp only [Act.put, List.getElem_toArray, List.getElem_cons_zero, List.getElem_cons_succ, List.setIfInBounds_toArray, List.set_cons_zero, List.set_cons_succ]
      refine wpAnyG_all (rs := [22]) (by kernel_rfl) (by simp) ?_
      intro i hi
      simp only [List.mem_cons, List.not_mem_nil, or_false] at hi
      subst hi
      refine wpOp_open rfl (by rfl) ?_
      go_simp
      refine ⟨fun _ => T0, ?_⟩
      try simp only [Act.put, List.getElem_toArray, List.getElem_cons_zero, List.getElem_cons_succ, List.setIfInBounds_toArray, List.set_cons_zero, List.set_cons_succ]
      refine wpAnyG_all (rs := [23]) (by kernel_rfl) (by simp) ?_
      intro i hi
      simp only [List.mem_cons, List.not_mem_nil, or_false] at hi
      subst hi
      refine wpOp_now rfl rfl ?_
      go_simp
      refine ⟨fun _ => T0, ?_⟩
      try simp only [Act.put, List.getElem_toArray, List.getElem_cons_zero, List.getElem_cons_succ, List.setIfInBounds_toArray, List.set_cons_zero, List.set_cons_succ]
      refine wpAnyG_all (rs := [24]) (by kernel_rfl) (by simp) ?_
      intro i hi
      simp only [List.mem_cons, List.not_mem_nil, or_false] at hi
      subst hi
      refine wpOp_now rfl rfl ?_
      go_simp
      refine ⟨fun _ => T0, ?_⟩
      try simp only [Act.put, List.getElem_toArray, List.getElem_cons_zero, List.getElem_cons_succ, List.setIfInBounds_toArray, List.set_cons_zero, List.set_cons_succ]
      refine wpAnyG_take [25, 27, 28, 29, 30, 31, 32, 33, 34, 35, 36, 37, 38, 39, 40, 41, 42, 43, 44, 45, 46, 47, 48, 49, 50, 51, 52, 53, 54, 55, 56, 57, 58, 59, 60, 61, 62, 63, 64, 65, 66, 67, 68] (i := 25) (v := (.agg #[.int .i64 3, .int .i64 4, .int .i64 1])) rfl (by kernel_rfl) (by kernel_rfl) (by kernel_rfl) (by kernel_rfl) (by kernel_rfl) (by kernel_rfl) (by kernel_rfl) (by kernel_rfl) (fun _ _ _ h => h) (Or.inl ⟨by rfl, ?hy⟩) T0 ?_
      case hy =>
        intro X hX
        have e0 := at_below d90 hX
        have e1 := at_below d91 hX
        have e2 := at_below d92 hX
        go_simp
      try simp only [Act.put, List.getElem_toArray, List.getElem_cons_zero, List.getElem_cons_succ, List.setIfInBounds_toArray, List.set_cons_zero, List.set_cons_succ]
      refine wpAnyG_all (rs := [26]) (by kernel_rfl) (by simp) ?_
      intro i hi
      simp only [List.mem_cons, List.not_mem_nil, or_false] at hi
      subst hi
      refine wpOp_open rfl (by rfl) ?_
      go_simp
      refine (cell_any 3 4 1 _).mono ?_
      rintro e y3 ⟨rfl, hb⟩
      replace T0 := T0.trans (hb.mono T0.size)
      clear hb
      refine ⟨fun _ => T0, ?_⟩
      try simp only [Act.put, List.getElem_toArray, List.getElem_cons_zero, List.getElem_cons_succ, List.setIfInBounds_toArray, List.set_cons_zero, List.set_cons_succ]
      refine wpAnyG_all (rs := [27]) (by kernel_rfl) (by simp) ?_
      intro i hi
      simp only [List.mem_cons, List.not_mem_nil, or_false] at hi
      subst hi
      refine wpOp_open rfl (by rfl) ?_
      go_simp
      refine ⟨fun _ => T0, ?_⟩
      try simp only [Act.put, List.getElem_toArray, List.getElem_cons_zero, List.getElem_cons_succ, List.setIfInBounds_toArray, List.set_cons_zero, List.set_cons_succ]
      refine wpAnyG_all (rs := [28]) (by kernel_rfl) (by simp) ?_
      intro i hi
      simp only [List.mem_cons, List.not_mem_nil, or_false] at hi
      subst hi
      refine wpOp_now rfl rfl ?_
      go_simp
      refine ⟨fun _ => T0, ?_⟩
      try simp only [Act.put, List.getElem_toArray, List.getElem_cons_zero, List.getElem_cons_succ, List.setIfInBounds_toArray, List.set_cons_zero, List.set_cons_succ]
      refine wpAnyG_all (rs := [29]) (by kernel_rfl) (by simp) ?_
      intro i hi
      simp only [List.mem_cons, List.not_mem_nil, or_false] at hi
      subst hi
      refine wpOp_now rfl rfl ?_
      go_simp
      refine ⟨fun _ => T0, ?_⟩
      try simp only [Act.put, List.getElem_toArray, List.getElem_cons_zero, List.getElem_cons_succ, List.setIfInBounds_toArray, List.set_cons_zero, List.set_cons_succ]
      refine wpAnyG_all (rs := [30]) (by kernel_rfl) (by simp) ?_
      intro i hi
      simp only [List.mem_cons, List.not_mem_nil, or_false] at hi
      subst hi
      refine wpOp_open rfl (by rfl) ?_
      go_simp
      refine ⟨fun _ => T0, ?_⟩
      try simp only [Act.put, List.getElem_toArray, List.getElem_cons_zero, List.getElem_cons_succ, List.setIfInBounds_toArray, List.set_cons_zero, List.set_cons_succ]
      refine wpAnyG_all (rs := [31]) (by kernel_rfl) (by simp) ?_
      intro i hi
      simp only [List.mem_cons, List.not_mem_nil, or_false] at hi
      subst hi
      refine wpOp_open rfl (by rfl) ?_
      go_simp
      refine ⟨fun _ => T0, ?_⟩
      try simp only [Act.put, List.getElem_toArray, List.getElem_cons_zero, List.getElem_cons_succ, List.setIfInBounds_toArray, List.set_cons_zero, List.set_cons_succ]
      refine wpAnyG_all (rs := [32]) (by kernel_rfl) (by simp) ?_
      intro i hi
      simp only [List.mem_cons, List.not_mem_nil, or_false] at hi
      subst hi
      refine wpOp_now rfl rfl ?_
      go_simp
      refine ⟨fun _ => T0, ?_⟩
      try simp only [Act.put, List.getElem_toArray, List.getElem_cons_zero, List.getElem_cons_succ, List.setIfInBounds_toArray, List.set_cons_zero, List.set_cons_succ]
      refine wpAnyG_all (rs := [33]) (by kernel_rfl) (by simp) ?_
      intro i hi
      simp only [List.mem_cons, List.not_mem_nil, or_false] at hi
      subst hi
      refine wpOp_now rfl rfl ?_
      go_simp
      refine ⟨fun _ => T0, ?_⟩
      try simp only [Act.put, List.getElem_toArray, List.getElem_cons_zero, List.getElem_cons_succ, List.setIfInBounds_toArray, List.set_cons_zero, List.set_cons_succ]
      refine wpAnyG_all (rs := [34]) (by kernel_rfl) (by simp) ?_
      intro i hi
      simp only [List.mem_cons, List.not_mem_nil, or_false] at hi
      subst hi
      refine wpOp_open rfl (by rfl) ?_
      go_simp
      refine ⟨fun _ => T0, ?_⟩
      try simp only [Act.put, List.getElem_toArray, List.getElem_cons_zero, List.getElem_cons_succ, List.setIfInBounds_toArray, List.set_cons_zero, List.set_cons_succ]
      refine wpAnyG_all (rs := [35]) (by kernel_rfl) (by simp) ?_
      intro i hi
      simp only [List.mem_cons, List.not_mem_nil, or_false] at hi
      subst hi
      refine wpOp_open rfl (by rfl) ?_
      go_simp
      refine ⟨fun _ => T0, ?_⟩
      try simp only [Act.put, List.getElem_toArray, List.getElem_cons_zero, List.getElem_cons_succ, List.setIfInBounds_toArray, List.set_cons_zero, List.set_cons_succ]
      refine wpAnyG_all (rs := [36]) (by kernel_rfl) (by simp) ?_
      intro i hi
      simp only [List.mem_cons, List.not_mem_nil, or_false] at hi
      subst hi
      refine wpOp_now rfl rfl ?_
      go_simp
      refine ⟨fun _ => T0, ?_⟩
      try simp only [Act.put, List.getElem_toArray, List.getElem_cons_zero, List.getElem_cons_succ, List.setIfInBounds_toArray, List.set_cons_zero, List.set_cons_succ]
      refine wpAnyG_all (rs := [37]) (by kernel_rfl) (by simp) ?_
      intro i hi
      simp only [List.mem_cons, List.not_mem_nil, or_false] at hi
      subst hi
      refine wpOp_now rfl rfl ?_
      go_simp
      refine ⟨fun _ => T0, ?_⟩
      try simp only [Act.put, List.getElem_toArray, List.getElem_cons_zero, List.getElem_cons_succ, List.setIfInBounds_toArray, List.set_cons_zero, List.set_cons_succ]
      refine wpAnyG_all (rs := [38]) (by kernel_rfl) (by simp) ?_
      intro i hi
      simp only [List.mem_cons, List.not_mem_nil, or_false] at hi
      subst hi
      refine wpOp_open rfl (by rfl) ?_
      go_simp
      refine ⟨fun _ => T0, ?_⟩
      try simp only [Act.put, List.getElem_toArray, List.getElem_cons_zero, List.getElem_cons_succ, List.setIfInBounds_toArray, List.set_cons_zero, List.set_cons_succ]
      refine wpAnyG_all (rs := [39]) (by kernel_rfl) (by simp) ?_
      intro i hi
      simp only [List.mem_cons, List.not_mem_nil, or_false] at hi
      subst hi
      refine wpOp_open rfl (by rfl) ?_
      go_simp
      refine ⟨fun _ => T0, ?_⟩
      try simp only [Act.put, List.getElem_toArray, List.getElem_cons_zero, List.getElem_cons_succ, List.setIfInBounds_toArray, List.set_cons_zero, List.set_cons_succ]
      refine wpAnyG_all (rs := [40]) (by kernel_rfl) (by simp) ?_
      intro i hi
      simp only [List.mem_cons, List.not_mem_nil, or_false] at hi
      subst hi
      refine wpOp_now rfl rfl ?_
      go_simp
      refine ⟨fun _ => T0, ?_⟩
      try simp only [Act.put, List.getElem_toArray, List.getElem_cons_zero, List.getElem_cons_succ, List.setIfInBounds_toArray, List.set_cons_zero, List.set_cons_succ]
      refine wpAnyG_all (rs := [41]) (by kernel_rfl) (by simp) ?_
      intro i hi
      simp only [List.mem_cons, List.not_mem_nil, or_false] at hi
      subst hi
      refine wpOp_now rfl rfl ?_
      go_simp
      refine ⟨fun _ => T0, ?_⟩
      try simp only [Act.put, List.getElem_toArray, List.getElem_cons_zero, List.getElem_cons_succ, List.setIfInBounds_toArray, List.set_cons_zero, List.set_cons_succ]
      refine wpAnyG_all (rs := [42]) (by kernel_rfl) (by simp) ?_
      intro i hi
      simp only [List.mem_cons, List.not_mem_nil, or_false] at hi
      subst hi
      refine wpOp_open rfl (by rfl) ?_
      go_simp
      refine ⟨fun _ => T0, ?_⟩
      try simp only [Act.put, List.getElem_toArray, List.getElem_cons_zero, List.getElem_cons_succ, List.setIfInBounds_toArray, List.set_cons_zero, List.set_cons_succ]
      refine wpAnyG_all (rs := [43]) (by kernel_rfl) (by simp) ?_
      intro i hi
      simp only [List.mem_cons, List.not_mem_nil, or_false] at hi
      subst hi
      refine wpOp_open rfl (by rfl) ?_
      go_simp
      refine ⟨fun _ => T0, ?_⟩
      try simp only [Act.put, List.getElem_toArray, List.getElem_cons_zero, List.getElem_cons_succ, List.setIfInBounds_toArray, List.set_cons_zero, List.set_cons_succ]
      refine wpAnyG_all (rs := [44]) (by kernel_rfl) (by simp) ?_
      intro i hi
      simp only [List.mem_cons, List.not_mem_nil, or_false] at hi
      subst hi
      refine wpOp_now rfl rfl ?_
      go_simp
      refine ⟨fun _ => T0, ?_⟩
      try simp only [Act.put, List.getElem_toArray, List.getElem_cons_zero, List.getElem_cons_succ, List.setIfInBounds_toArray, List.set_cons_zero, List.set_cons_succ]
      refine wpAnyG_all (rs := [45]) (by kernel_rfl) (by simp) ?_
      intro i hi
      simp only [List.mem_cons, List.not_mem_nil, or_false] at hi
      subst hi
      refine wpOp_now rfl rfl ?_
      go_simp
      refine ⟨fun _ => T0, ?_⟩
      try simp only [Act.put, List.getElem_toArray, List.getElem_cons_zero, List.getElem_cons_succ, List.setIfInBounds_toArray, List.set_cons_zero, List.set_cons_succ]
      refine wpAnyG_all (rs := [46]) (by kernel_rfl) (by simp) ?_
      intro i hi
      simp only [List.mem_cons, List.not_mem_nil, or_false] at hi
      subst hi
      refine wpOp_open rfl (by rfl) ?_
      go_simp
      refine ⟨fun _ => T0, ?_⟩
      try simp only [Act.put, List.getElem_toArray, List.getElem_cons_zero, List.getElem_cons_succ, List.setIfInBounds_toArray, List.set_cons_zero, List.set_cons_succ]
      refine wpAnyG_all (rs := [47]) (by kernel_rfl) (by simp) ?_
      intro i hi
      simp only [List.mem_cons, List.not_mem_nil, or_false] at hi
      subst hi
      refine wpOp_open rfl (by rfl) ?_
      go_simp
      refine ⟨fun _ => T0, ?_⟩
      try simp only [Act.put, List.getElem_toArray, List.getElem_cons_zero, List.getElem_cons_succ, List.setIfInBounds_toArray, List.set_cons_zero, List.set_cons_succ]
      refine wpAnyG_all (rs := [48]) (by kernel_rfl) (by simp) ?_
      intro i hi
      simp only [List.mem_cons, List.not_mem_nil, or_false] at hi
      subst hi
      refine wpOp_now rfl rfl ?_
      go_simp
      refine ⟨fun _ => T0, ?_⟩
      try simp only [Act.put, List.getElem_toArray, List.getElem_cons_zero, List.getElem_cons_succ, List.setIfInBounds_toArray, List.set_cons_zero, List.set_cons_succ]
      refine wpAnyG_all (rs := [49]) (by kernel_rfl) (by simp) ?_
      intro i hi
      simp only [List.mem_cons, List.not_mem_nil, or_false] at hi
      subst hi
      refine wpOp_now rfl rfl ?_
      go_simp
      refine ⟨fun _ => T0, ?_⟩
      try simp only [Act.put, List.getElem_toArray, List.getElem_cons_zero, List.getElem_cons_succ, List.setIfInBounds_toArray, List.set_cons_zero, List.set_cons_succ]
      refine wpAnyG_all (rs := [50]) (by kernel_rfl) (by simp) ?_
      intro i hi
      simp only [List.mem_cons, List.not_mem_nil, or_false] at hi
      subst hi
      refine wpOp_open rfl (by rfl) ?_
      go_simp
      refine ⟨fun _ => T0, ?_⟩
      try simp only [Act.put, List.getElem_toArray, List.getElem_cons_zero, List.getElem_cons_succ, List.setIfInBounds_toArray, List.set_cons_zero, List.set_cons_succ]
      refine wpAnyG_all (rs := [51]) (by kernel_rfl) (by simp) ?_
      intro i hi
      simp only [List.mem_cons, List.not_mem_nil, or_false] at hi
      subst hi
      refine wpOp_open rfl (by rfl) ?_
      go_simp
      refine ⟨fun _ => T0, ?_⟩
      try simp only [Act.put, List.getElem_toArray, List.getElem_cons_zero, List.getElem_cons_succ, List.setIfInBounds_toArray, List.set_cons_zero, List.set_cons_succ]
      refine wpAnyG_all (rs := [52]) (by kernel_rfl) (by simp) ?_
      intro i hi
      simp only [List.mem_cons, List.not_mem_nil, or_false] at hi
      subst hi
      refine wpOp_now rfl rfl ?_
      go_simp
      refine ⟨fun _ => T0, ?_⟩
      try simp only [Act.put, List.getElem_toArray, List.getElem_cons_zero, List.getElem_cons_succ, List.setIfInBounds_toArray, List.set_cons_zero, List.set_cons_succ]
      refine wpAnyG_all (rs := [53]) (by kernel_rfl) (by simp) ?_
      intro i hi
      simp only [List.mem_cons, List.not_mem_nil, or_false] at hi
      subst hi
      refine wpOp_now rfl rfl ?_
      go_simp
      refine ⟨fun _ => T0, ?_⟩
      try simp only [Act.put, List.getElem_toArray, List.getElem_cons_zero, List.getElem_cons_succ, List.setIfInBounds_toArray, List.set_cons_zero, List.set_cons_succ]
      refine wpAnyG_all (rs := [54]) (by kernel_rfl) (by simp) ?_
      intro i hi
      simp only [List.mem_cons, List.not_mem_nil, or_false] at hi
      subst hi
      refine wpOp_open rfl (by rfl) ?_
      go_simp
      refine ⟨fun _ => T0, ?_⟩
      try simp only [Act.put, List.getElem_toArray, List.getElem_cons_zero, List.getElem_cons_succ, List.setIfInBounds_toArray, List.set_cons_zero, List.set_cons_succ]
      refine wpAnyG_all (rs := [55]) (by kernel_rfl) (by simp) ?_
      intro i hi
      simp only [List.mem_cons, List.not_mem_nil, or_false] at hi
      subst hi
      refine wpOp_open rfl (by rfl) ?_
      go_simp
      refine ⟨fun _ => T0, ?_⟩
      try simp only [Act.put, List.getElem_toArray, List.getElem_cons_zero, List.getElem_cons_succ, List.setIfInBounds_toArray, List.set_cons_zero, List.set_cons_succ]
      refine wpAnyG_all (rs := [56]) (by kernel_rfl) (by simp) ?_
      intro i hi
      simp only [List.mem_cons, List.not_mem_nil, or_false] at hi
      subst hi
      refine wpOp_now rfl rfl ?_
      go_simp
      refine ⟨fun _ => T0, ?_⟩
      try simp only [Act.put, List.getElem_toArray, List.getElem_cons_zero, List.getElem_cons_succ, List.setIfInBounds_toArray, List.set_cons_zero, List.set_cons_succ]
      refine wpAnyG_all (rs := [57]) (by kernel_rfl) (by simp) ?_
      intro i hi
      simp only [List.mem_cons, List.not_mem_nil, or_false] at hi
      subst hi
      refine wpOp_now rfl rfl ?_
      go_simp
      refine ⟨fun _ => T0, ?_⟩
      try simp only [Act.put, List.getElem_toArray, List.getElem_cons_zero, List.getElem_cons_succ, List.setIfInBounds_toArray, List.set_cons_zero, List.set_cons_succ]
      refine wpAnyG_all (rs := [58]) (by kernel_rfl) (by simp) ?_
      intro i hi
      simp only [List.mem_cons, List.not_mem_nil, or_false] at hi
      subst hi
      refine wpOp_open rfl (by rfl) ?_
      go_simp
      refine (rev_any ⟨#[97, 204, 129, 98, 13, 10]⟩ (by decide) _).mono ?_
      rintro e y4 ⟨rfl, hb⟩
      rw [kn_rev]
      replace T0 := T0.trans (hb.mono T0.size)
      clear hb
      refine ⟨fun _ => T0, ?_⟩
      try simp only [Act.put, List.getElem_toArray, List.getElem_cons_zero, List.getElem_cons_succ, List.setIfInBounds_toArray, List.set_cons_zero, List.set_cons_succ]
      refine wpAnyG_all (rs := [59]) (by kernel_rfl) (by simp) ?_
      intro i hi
      simp only [List.mem_cons, List.not_mem_nil, or_false] at hi
      subst hi
      refine wpOp_open rfl (by rfl) ?_
      go_simp
      refine ⟨fun _ => T0, ?_⟩
      try simp only [Act.put, List.getElem_toArray, List.getElem_cons_zero, List.getElem_cons_succ, List.setIfInBounds_toArray, List.set_cons_zero, List.set_cons_succ]
      refine wpAnyG_all (rs := [60]) (by kernel_rfl) (by simp) ?_
      intro i hi
      simp only [List.mem_cons, List.not_mem_nil, or_false] at hi
      subst hi
      refine wpOp_now rfl rfl ?_
      go_simp
      refine ⟨fun _ => T0, ?_⟩
      try simp only [Act.put, List.getElem_toArray, List.getElem_cons_zero, List.getElem_cons_succ, List.setIfInBounds_toArray, List.set_cons_zero, List.set_cons_succ]
      refine wpAnyG_all (rs := [61]) (by kernel_rfl) (by simp) ?_
      intro i hi
      simp only [List.mem_cons, List.not_mem_nil, or_false] at hi
      subst hi
      refine wpOp_now rfl rfl ?_
      go_simp
      refine ⟨fun _ => T0, ?_⟩
      try simp only [Act.put, List.getElem_toArray, List.getElem_cons_zero, List.getElem_cons_succ, List.setIfInBounds_toArray, List.set_cons_zero, List.set_cons_succ]
      refine wpAnyG_all (rs := [62]) (by kernel_rfl) (by simp) ?_
      intro i hi
      simp only [List.mem_cons, List.not_mem_nil, or_false] at hi
      subst hi
      refine wpOp_open rfl (by rfl) ?_
      go_simp
      refine (edge_any ⟨#[97, 204, 129, 98]⟩ (by decide) 1 _).mono ?_
      rintro e y5 ⟨rfl, hb⟩
      rw [kn_ed1]
      replace T0 := T0.trans (hb.mono T0.size)
      clear hb
      refine ⟨fun _ => T0, ?_⟩
      try simp only [Act.put, List.getElem_toArray, List.getElem_cons_zero, List.getElem_cons_succ, List.setIfInBounds_toArray, List.set_cons_zero, List.set_cons_succ]
      refine wpAnyG_all (rs := [63]) (by kernel_rfl) (by simp) ?_
      intro i hi
      simp only [List.mem_cons, List.not_mem_nil, or_false] at hi
      subst hi
      refine wpOp_open rfl (by rfl) ?_
      go_simp
      refine ⟨fun _ => T0, ?_⟩
      try simp only [Act.put, List.getElem_toArray, List.getElem_cons_zero, List.getElem_cons_succ, List.setIfInBounds_toArray, List.set_cons_zero, List.set_cons_succ]
      refine wpAnyG_all (rs := [64]) (by kernel_rfl) (by simp) ?_
      intro i hi
      simp only [List.mem_cons, List.not_mem_nil, or_false] at hi
      subst hi
      refine wpOp_now rfl rfl ?_
      go_simp
      refine ⟨fun _ => T0, ?_⟩
      try simp only [Act.put, List.getElem_toArray, List.getElem_cons_zero, List.getElem_cons_succ, List.setIfInBounds_toArray, List.set_cons_zero, List.set_cons_succ]
      refine wpAnyG_all (rs := [65]) (by kernel_rfl) (by simp) ?_
      intro i hi
      simp only [List.mem_cons, List.not_mem_nil, or_false] at hi
      subst hi
      refine wpOp_now rfl rfl ?_
      go_simp
      refine ⟨fun _ => T0, ?_⟩
      try simp only [Act.put, List.getElem_toArray, List.getElem_cons_zero, List.getElem_cons_succ, List.setIfInBounds_toArray, List.set_cons_zero, List.set_cons_succ]
      refine wpAnyG_all (rs := [66]) (by kernel_rfl) (by simp) ?_
      intro i hi
      simp only [List.mem_cons, List.not_mem_nil, or_false] at hi
      subst hi
      refine wpOp_open rfl (by rfl) ?_
      go_simp
      refine (edge_any ⟨#[97, 204, 129, 98]⟩ (by decide) 4 _).mono ?_
      rintro e y6 ⟨rfl, hb⟩
      rw [kn_ed4]
      replace T0 := T0.trans (hb.mono T0.size)
      clear hb
      refine ⟨fun _ => T0, ?_⟩
      try simp only [Act.put, List.getElem_toArray, List.getElem_cons_zero, List.getElem_cons_succ, List.setIfInBounds_toArray, List.set_cons_zero, List.set_cons_succ]
      refine wpAnyG_all (rs := [67]) (by kernel_rfl) (by simp) ?_
      intro i hi
      simp only [List.mem_cons, List.not_mem_nil, or_false] at hi
      subst hi
      refine wpOp_now rfl rfl ?_
      go_simp
      refine ⟨fun _ => T0, ?_⟩
      try simp only [Act.put, List.getElem_toArray, List.getElem_cons_zero, List.getElem_cons_succ, List.setIfInBounds_toArray, List.set_cons_zero, List.set_cons_succ]
      refine wpAnyG_all (rs := [68]) (by kernel_rfl) (by simp) ?_
      intro i hi
      simp only [List.mem_cons, List.not_mem_nil, or_false] at hi
      subst hi
      refine wpOp_now rfl rfl ?_
      go_simp
      refine ⟨fun _ => T0, ?_⟩
      try simp only [Act.put, List.getElem_toArray, List.getElem_cons_zero, List.getElem_cons_succ, List.setIfInBounds_toArray, List.set_cons_zero, List.set_cons_succ]
      refine wpAnyG_done (by kernel_rfl) ?_ _
      refine NoPanic.normal ?_
      replace hBn := hBn.trans (T0.mono hBn.size)
      go_wp2
      go_ret
      exact ⟨rfl, hBn⟩
end Go.Proofs.Ytnbhdgbhmcbeoaa
