/- Layer 5: works. -/
import Derived.Test.YtnbhdgbhmcbeoaaCla
namespace Go.Proofs.Ytnbhdgbhmcbeoaa
set_option linter.unusedVariables false
set_option linter.unusedSimpArgs false
open Go Go.RowKit Go.Shelf
set_option maxRecDepth 100000

theorem cut_all {s : ByteArray} {cz : Int} {P : List Cel} (h : CutOf s cz P) (hc : (colsL (cellsL s) : Int) ≤ max cz 0) : P = cellsL s := by
  obtain ⟨⟨r, hr⟩, _, h3⟩ := h
  cases r with
  | nil => rw [← hr]; simp
  | cons x r =>
    have := h3 x ⟨r, by rw [← hr]; simp⟩
    rw [← hr, colsL_app, colsL_cons] at hc
    push_cast at hc
    omega
def teeB : ByteArray := ⟨#[97, 204, 129, 204, 130, 13, 10, 255, 240, 159, 145, 169, 226, 128, 141, 240, 159, 145, 169]⟩
def shiB : ByteArray := ⟨#[232, 169, 169, 97]⟩
def teeL : List Cel := [(0, 5, 1), (5, 7, 0), (7, 8, 1), (8, 19, 2)]
theorem tee_cells : cellsL teeB = teeL := by kernel_rfl
theorem shi_cells : cellsL shiB = [(0, 3, 2), (3, 4, 1)] := by kernel_rfl
theorem shi_pad : padB shiB 3 5 [(0, 3, 2), (3, 4, 1)] = ⟨#[32, 232, 169, 169, 97, 32]⟩ := by kernel_rfl

theorem RowC.of_blk {w : World} {b : Nat} {cs : Array Value} {T : TypeId} {l : List Cel} (h : Blk w b cs T) (hl : cs.toList = cc l) : RowC w (some ⟨b, 0, none⟩) l := by
  intro k x hx
  obtain ⟨r0, r1, r2⟩ := cc_get hx
  rw [← hl, Array.getElem?_toList] at r0 r1 r2
  exact ⟨b, 0, rfl, by rw [Nat.zero_add, h.cell]; exact r0, by rw [Nat.zero_add, h.cell]; exact r1, by rw [Nat.zero_add, h.cell]; exact r2⟩

set_option maxHeartbeats 4000000 in
theorem works_any (w : World) : Calls Try.prog 11 #[] w fun e w' => e = .returned (.bool true) ∧ Below w.heap.size w w' := by
  have cP : ∀ w0 : World, Calls Try.prog 17 #[.string shiB, .int .i64 5, .int .i64 3] w0 fun e w' => e = .returned (.tuple #[.string ⟨#[32, 232, 169, 169, 97, 32]⟩, .int .i64 0]) ∧ Below w0.heap.size w0 w' := fun w0 =>
    (pad_ok shiB (by decide) 5 (by decide) 3 (by decide) w0).mono fun e w' ⟨P, h1, _, h3, h4⟩ => by
      have hP := cut_all h1 (by rw [shi_cells]; decide)
      rw [hP, shi_cells, shi_pad] at h3
      exact ⟨h3, h4⟩
  have cC := fun w0 : World => cells_any teeB (by decide) w0
  have cK := fun w0 : World => columnsOf_any teeB (by decide) w0
  simp only [tee_cells] at cC cK
  go_enter Try.func11, Try.ntmps11
  go_wp2_with (fail)
  refine (cP w).mono ?_
  rintro e w1 ⟨rfl, hb1⟩
  go_wp2_with (fail)
  refine (cC w1).mono ?_
  rintro e w2 ⟨v, rfl, hv, hb2⟩
  obtain ⟨o, cap, rfl, ho⟩ := own_slice hv
  have r2 := RowC.of_own hv rfl
  have hB2 := hb1.trans (hb2.mono hb1.size)
  clear hv hb1 hb2 ho
  go_wp2_with (fail)
  refine (cell_any 0 5 1 w2).mono ?_
  rintro e w3 ⟨rfl, hb3⟩
  have r3 := r2.below hb3
  have hB3 := hB2.trans (hb3.mono hB2.size)
  clear r2 hB2 hb3
  go_wp2_with (fail)
  refine (cell_any 5 7 0 w3).mono ?_
  rintro e w4 ⟨rfl, hb3⟩
  have r4 := r3.below hb3
  have hB4 := hB3.trans (hb3.mono hB3.size)
  clear r3 hB3 hb3
  go_wp2_with (fail)
  refine (cell_any 7 8 1 w4).mono ?_
  rintro e w5 ⟨rfl, hb3⟩
  have r5 := r4.below hb3
  have hB5 := hB4.trans (hb3.mono hB4.size)
  clear r4 hB4 hb3
  go_wp2_with (fail)
  refine (cell_any 8 19 2 w5).mono ?_
  rintro e w6 ⟨rfl, hb3⟩
  have r6 := r5.below hb3
  have hB6 := hB5.trans (hb3.mono hB5.size)
  clear r5 hB5 hb3
  have hB7 : ∀ c, Below w.heap.size w (w6.alloc c) := fun c => hB6.alloc hB6.size c
  have r7 : ∀ c, RowC (w6.alloc c) o teeL := fun c => r6.below ((Below.refl _ w6).alloc (Nat.le_refl _) c)
  have q7 := Blk.new w6 #[.int .i64 (0 : Nat), .int .i64 (5 : Nat), .int .i64 (1 : Nat), .int .i64 (5 : Nat), .int .i64 (7 : Nat), .int .i64 (0 : Nat), .int .i64 (7 : Nat), .int .i64 (8 : Nat), .int .i64 (1 : Nat), .int .i64 (8 : Nat), .int .i64 (19 : Nat), .int .i64 (2 : Nat)] 26
  have q8 := RowC.of_blk (l := teeL) q7 rfl
  have HB := Lib.hid (hB7 (.cells #[.int .i64 (0 : Nat), .int .i64 (5 : Nat), .int .i64 (1 : Nat), .int .i64 (5 : Nat), .int .i64 (7 : Nat), .int .i64 (0 : Nat), .int .i64 (7 : Nat), .int .i64 (8 : Nat), .int .i64 (1 : Nat), .int .i64 (8 : Nat), .int .i64 (19 : Nat), .int .i64 (2 : Nat)] 26))
  have HR := Lib.hid (And.intro q8 (r7 (.cells #[.int .i64 (0 : Nat), .int .i64 (5 : Nat), .int .i64 (1 : Nat), .int .i64 (5 : Nat), .int .i64 (7 : Nat), .int .i64 (0 : Nat), .int .i64 (7 : Nat), .int .i64 (8 : Nat), .int .i64 (1 : Nat), .int .i64 (8 : Nat), .int .i64 (19 : Nat), .int .i64 (2 : Nat)] 26)))
  clear hB7 r7 hB6 r6 q7 q8
  go_wp2_with (fail)
  obtain ⟨W, hW⟩ : ∃ W, w6.alloc (.cells #[.int .i64 0, .int .i64 5, .int .i64 1, .int .i64 5, .int .i64 7, .int .i64 0, .int .i64 7, .int .i64 8, .int .i64 1, .int .i64 8, .int .i64 19, .int .i64 2] 26) = W := ⟨_, rfl⟩
  have hB8 : Below w.heap.size w W := by rw [← hW]; exact HB.out
  have hR1 : RowC W (some ⟨w6.heap.size, 0, none⟩) teeL := by rw [← hW]; exact HR.out.1
  have hR2 : RowC W o teeL := by rw [← hW]; exact HR.out.2
  rw [hW]
  clear hW HB HR
  refine (equal_any teeL teeL o _ 4 4 cap 4 rfl rfl (by omega) (by omega) W hR2 hR1).mono ?_
  rintro e w7 ⟨rfl, hb7⟩
  rw [decide_eq_true (rfl : teeL = teeL)]
  have hB9 := hB8.trans (hb7.mono hB8.size)
  clear hR1 hR2 hB8 hb7
  go_wp2_with (fail)
  refine (cK w7).mono ?_
  rintro e w8 ⟨rfl, hb8⟩
  have hB10 := hB9.trans (hb8.mono hB9.size)
  have ek : colsL teeL = 4 := rfl
  rw [ek]
  clear hB9 hb8 cP cC cK ek
  go_wp2
  go_ret
  exact ⟨rfl, hB10⟩
end Go.Proofs.Ytnbhdgbhmcbeoaa
