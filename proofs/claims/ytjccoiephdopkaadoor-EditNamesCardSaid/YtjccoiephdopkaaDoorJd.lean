/- Stage 27: the cursor: take. -/
import Derived.Test.YtjccoiephdopkaaDoorJc
import Derived.Test.YtjccoiephdopkaaDoorHe
namespace Go.Proofs.YtjccoiephdopkaaDoor
set_option linter.unusedVariables false
set_option linter.unusedSimpArgs false
open Go Go.RowKit Go.Shelf
set_option maxRecDepth 100000

/-- All stays but one block. -/
structure KpC (C : Nat) (W W' : World) : Prop where
  os : W'.os = W.os
  tape : W'.tape = W.tape
  output : W'.output = W.output
  size : W.heap.size ≤ W'.heap.size
  blk : ∀ q, q < W.heap.size → q ≠ C → W'.heap[q]? = W.heap[q]?
theorem KpC.of_below {C : Nat} {W X : World} (hb : Below W.heap.size W X) : KpC C W X := ⟨hb.os, hb.tape, hb.output, hb.size, fun q hq _ => hb.block q hq⟩
theorem KpC.trans {C : Nat} {X Y Z : World} (h : KpC C X Y) (g : KpC C Y Z) : KpC C X Z :=
  ⟨g.os.trans h.os, g.tape.trans h.tape, g.output.trans h.output, Nat.le_trans h.size g.size, fun q hq hB => (g.blk q (Nat.lt_of_lt_of_le hq h.size) hB).trans (h.blk q hq hB)⟩
theorem KpC.set (C o : Nat) (v : Value) (W : World) : KpC C W (W.setCell ⟨C, o, none⟩ v) := ⟨rfl, rfl, rfl, by simp, fun q hq hB => Below.heap_setCell _ _ _ _ (fun e => hB e)⟩
/-- What a step hands back of its bytes. -/
def takeS (x : Sp) (u n : Nat) : ByteArray := if kindN x = 2 then x.d.extract u (u + n) else if kindN x = 3 then x.p.extract u (u + n) else .empty
theorem CuB.put {w0 W : World} {C : Nat} {o : Option Addr} {c : Nat} {l : List Sp} {u : Nat} (h : CuB w0 W C o c l u) (v : Nat) : CuB w0 (W.setCell ⟨C, 1, none⟩ (.int .i64 v)) C o c l v := by
  obtain ⟨hb, hr, hB, hC, hc⟩ := h
  have b4 := hb.set 1 (.int .i64 v)
  simp only [List.setIfInBounds_toArray, List.set_cons_zero, List.set_cons_succ] at b4
  exact ⟨b4, hr, hB.setCell (p := ⟨C, 1, none⟩) hC _, hC, hc⟩
theorem row_tail {w : World} {g off : Nat} {x : Sp} {l : List Sp} (h : RowAt w encS 3 (some ⟨g, off, none⟩) (x :: l)) : RowAt w encS 3 (some ⟨g, off + 3, none⟩) l := by
  intro i y hi
  obtain ⟨g', off', e, hc⟩ := h (i + 1) y hi
  cases e
  refine ⟨g, off + 3, rfl, fun j hj => ?_⟩
  rw [← hc j hj, Nat.succ_mul]
  congr 2
  omega
/-- The next step. -/
theorem CuB.next {w0 W : World} {C g off : Nat} {c : Nat} {x : Sp} {l : List Sp} {u : Nat} (h : CuB w0 W C (some ⟨g, off, none⟩) c (x :: l) u) {o' : Option Addr} (ho : l ≠ [] → o' = some ⟨g, off + 3, none⟩) :
    CuB w0 ((W.setCell ⟨C, 0, none⟩ (.slice o' l.length (c - 1))).setCell ⟨C, 1, none⟩ (.int .i64 0)) C o' (c - 1) l 0 := by
  obtain ⟨hb, hr, hB, hC, hc, hc6⟩ := h
  have b4 := (hb.set 0 (.slice o' l.length (c - 1))).set 1 (.int .i64 0)
  simp only [List.setIfInBounds_toArray, List.set_cons_zero, List.set_cons_succ] at b4
  refine ⟨b4, ?_, (hB.setCell (p := ⟨C, 0, none⟩) hC _).setCell (p := ⟨C, 1, none⟩) hC _, hC, by simp at hc; omega, by omega⟩
  cases l with
  | nil => exact fun i x hi => by simp at hi
  | cons y l => rw [ho (by simp)]; exact row_tail hr
/-- What stands behind a take. -/
def TakeP (w0 W' : World) (C : Nat) (x : Sp) (l : List Sp) (u : Nat) : Prop := ∃ o' c', if u = szS x then CuB w0 W' C o' c' l 0 else CuB w0 W' C o' c' (x :: l) u
set_option maxHeartbeats 8000000 in
theorem cu_take {w0 W : World} {C : Nat} {o : Option Addr} {c : Nat} {x : Sp} {l : List Sp} {u n : Nat} (h : CuB w0 W C o c (x :: l) u) (hk : kindN x ≠ 0) (hl : ∀ x ∈ l, 0 ≤ x.k ∧ x.k ≤ 65536 ∧ x.d.size ≤ 65536 ∧ x.p.size ≤ 65536)
    (hx0 : 0 ≤ x.k ∧ x.k ≤ 65536 ∧ x.d.size ≤ 65536 ∧ x.p.size ≤ 65536) (hu : u + n ≤ szS x) (hl6 : l.length ≤ 1000000) :
    Calls Tryd.prog 68 #[.pointer (some ⟨C, 0, none⟩), .int .i64 n] W fun e W' => e = .returned (.string (takeS x u n)) ∧ KpC C W W' ∧ TakeP w0 W' C x l (u + n) := by
  obtain ⟨g, off, rfl, x0, x1, x2⟩ := row_head h.row
  have hsz : szS x ≤ 1000000 := by unfold szS; omega
  obtain ⟨m, hm⟩ : ∃ m, l.length = m := ⟨_, rfl⟩
  have c0 := h.1.cell 0
  have c1 := h.1.cell 1
  simp only [List.getElem?_toArray, List.getElem?_cons_zero, List.getElem?_cons_succ, List.length_cons] at c0 c1
  rw [hm] at c0
  have hn0 : (0 : Int) < ((m + 1 : Nat) : Int) := by omega
  have n3 := Blk.new W #[.int .i64 x.k, .string x.d, .string x.p] 39
  have hbA := (Below.refl W.heap.size W).alloc (Nat.le_refl _) (.cells #[.int .i64 x.k, .string x.d, .string x.p] 39)
  have hA := h.below hbA
  have m3 := hA.1.cell 1
  have f3 := hA.1.frozen 1
  simp only [List.getElem?_toArray, List.getElem?_cons_succ, List.getElem?_cons_zero] at m3
  obtain ⟨U, hU⟩ : ∃ U, u + n = U := ⟨_, rfl⟩
  have j1 : IntKind.i64.wrap ((u : Int) + (n : Int)) = (U : Int) := by rw [IntWalk.i64_in _ (by omega)]; omega
  have cL := cu_left (hA.put U) (by intro y hy; rcases List.mem_cons.1 hy with rfl | hy; exact hx0; exact hl y hy) (by show U ≤ szS x - 0; omega) (by omega)
  have hP := hA.put U
  have hCW : W.heap.size ≠ C := by have := h.1.lt; omega
  have HC := Lib.hid hCW
  have n4 := n3.other (B' := C) hCW 1 (.int .i64 U)
  have hbC : KpC C W ((W.alloc (.cells #[.int .i64 x.k, .string x.d, .string x.p] 39)).setCell ⟨C, 1, none⟩ (.int .i64 U)) := (KpC.of_below hbA).trans (KpC.set C 1 _ _)
  obtain ⟨R, hR⟩ : ∃ R, szS x - U = R := ⟨_, rfl⟩
  rw [show leftC U (x :: l) = R from hR] at cL
  rw [hU] at hu ⊢
  have HR := Lib.hid (And.intro hR (And.intro hU hu))
  have H1 := Lib.hid (And.intro hP (And.intro hbC n4))
  clear h hA hbA n3 hP n4 hbC hR hU hu hCW
  go_enter Tryd.func68, Tryd.ntmps68
  go_wp2_with (fail)
  refine cL.mono ?_
  rintro e V ⟨rfl, hbV⟩
  have hV := H1.out.1.below hbV
  have v0 := hV.1.cell 0
  have v1 := hV.1.cell 1
  have w0f := hV.1.frozen 0
  have w1f := hV.1.frozen 1
  have nV := H1.out.2.2.below' hbV
  simp only [List.getElem?_toArray, List.getElem?_cons_zero, List.getElem?_cons_succ, List.length_cons] at v0 v1
  rw [hm] at v0
  have HV := Lib.hid (And.intro hV (And.intro nV (H1.out.2.1.trans (KpC.of_below hbV))))
  clear hbV cL hV nV
  have hK : (kindN x = 1 ∧ True) ∨ (kindN x = 2 ∧ szS x = x.d.size) ∨ (kindN x = 3 ∧ szS x = x.p.size) := by
    obtain ⟨k, d, p⟩ := x
    rcases kind_three k d p with h | ⟨h1, h2, h3, h4⟩ | ⟨h1, h2, h3, h4⟩ | ⟨h1, h2, h3, h4⟩
    · exact absurd h hk
    · exact .inl ⟨h4, trivial⟩
    · subst h1; subst h2; exact .inr (.inl ⟨h4, by simp [szS, emp_size]⟩)
    · subst h1; subst h2; exact .inr (.inr ⟨h4, by simp [szS, emp_size]⟩)
  by_cases hR0 : R = 0
  · have r1 : ((R : Int) == 0) = true := by rw [beq_iff_eq]; omega
    have hmc : m + 1 ≤ c := by have := HV.out.1.2.2.2.2.1; simp only [List.length_cons] at this; omega
    have i1 : (1 : Int) ≤ ((m + 1 : Nat) : Int) := by omega
    by_cases hc1 : c = 1
    · have hm0 : m = 0 := by omega
      have hN := HV.out.1.next (o' := some ⟨g, off, none⟩) (by intro hne; have := List.length_pos_iff.2 hne; omega)
      rw [hm] at hN
      subst hm0
      subst hc1
      have n5 : Blk ((V.setCell ⟨C, 0, none⟩ (.slice (some ⟨g, off, none⟩) 0 0)).setCell ⟨C, 1, none⟩ (.int .i64 0)) W.heap.size #[.int .i64 x.k, .string x.d, .string x.p] 39 := (HV.out.2.1.other HC.out 0 _).other HC.out 1 _
      have hKK : KpC C W ((V.setCell ⟨C, 0, none⟩ (.slice (some ⟨g, off, none⟩) 0 0)).setCell ⟨C, 1, none⟩ (.int .i64 0)) := (HV.out.2.2.trans (KpC.set C 0 _ _)).trans (KpC.set C 1 _ _)
      have HF := Lib.hid (And.intro hKK (And.intro (hN) n5))
      have y0 := HV.out.2.1.cell 0
      have y1 := HV.out.2.1.cell 1
      have y2 := HV.out.2.1.cell 2
      simp only [List.getElem?_toArray, List.getElem?_cons_zero, List.getElem?_cons_succ] at y0 y1 y2
      have kc1 : (C = W.heap.size) = False := eq_false (fun e => HC.out e.symm)
      have kc2 : (W.heap.size = C) = False := eq_false HC.out
      clear n5
      go_wp2_with (fail)
      refine (kind_any x _).mono ?_
      rintro e Y ⟨rfl, hbY⟩
      have nY := HF.out.2.2.below' hbY
      have z0 := nY.cell 0
      have z1 := nY.cell 1
      have z2 := nY.cell 2
      simp only [List.getElem?_toArray, List.getElem?_cons_zero, List.getElem?_cons_succ] at z0 z1 z2
      have HY := Lib.hid (And.intro (HF.out.1.trans (KpC.of_below hbY)) (HF.out.2.1.below hbY))
      clear hbY HF nY y0 y1 y2
      rcases hK with ⟨q1, q2⟩ | ⟨q1, q2⟩ | ⟨q1, q2⟩
      · rw [q1]
        have HQ := Lib.hid q1
        clear q1 q2
        go_wp2
        go_ret
        refine ⟨by unfold takeS; rw [HQ.out]; rfl, HY.out.1, ?_⟩
        exact ⟨_, _, by rw [if_pos (by have := HR.out; omega)]; exact HY.out.2⟩
      · rw [q1]
        have hU := HR.out.2.1
        have hu := HR.out.2.2
        rw [q2] at hu
        have b1 : (u : Int) ≤ (U : Int) := by omega
        have b2 : (U : Int) ≤ (x.d.size : Int) := by omega
        have HQ := Lib.hid q1
        clear q1 q2 hU
        go_wp2
        go_ret
        refine ⟨by unfold takeS; rw [HQ.out, HR.out.2.1]; rfl, HY.out.1, ?_⟩
        exact ⟨_, _, by rw [if_pos (by have := HR.out; omega)]; exact HY.out.2⟩
      · rw [q1]
        have hU := HR.out.2.1
        have hu := HR.out.2.2
        rw [q2] at hu
        have b1 : (u : Int) ≤ (U : Int) := by omega
        have b2 : (U : Int) ≤ (x.p.size : Int) := by omega
        have HQ := Lib.hid q1
        clear q1 q2 hU
        go_wp2
        go_ret
        refine ⟨by unfold takeS; rw [HQ.out, HR.out.2.1]; rfl, HY.out.1, ?_⟩
        exact ⟨_, _, by rw [if_pos (by have := HR.out; omega)]; exact HY.out.2⟩
    · have hN := HV.out.1.next (o' := some ⟨g, off + 3, none⟩) (fun _ => rfl)
      have k1 : (c = 1) = False := eq_false hc1
      have k2 : (1 = c) = False := eq_false (fun e => hc1 e.symm)
      rw [hm] at hN
      have n5 : Blk ((V.setCell ⟨C, 0, none⟩ (.slice (some ⟨g, off + 3, none⟩) m (c - 1))).setCell ⟨C, 1, none⟩ (.int .i64 0)) W.heap.size #[.int .i64 x.k, .string x.d, .string x.p] 39 := (HV.out.2.1.other HC.out 0 _).other HC.out 1 _
      have hKK : KpC C W ((V.setCell ⟨C, 0, none⟩ (.slice (some ⟨g, off + 3, none⟩) m (c - 1))).setCell ⟨C, 1, none⟩ (.int .i64 0)) := (HV.out.2.2.trans (KpC.set C 0 _ _)).trans (KpC.set C 1 _ _)
      have HF := Lib.hid (And.intro hKK (And.intro (hN) n5))
      have y0 := HV.out.2.1.cell 0
      have y1 := HV.out.2.1.cell 1
      have y2 := HV.out.2.1.cell 2
      simp only [List.getElem?_toArray, List.getElem?_cons_zero, List.getElem?_cons_succ] at y0 y1 y2
      have kc1 : (C = W.heap.size) = False := eq_false (fun e => HC.out e.symm)
      have kc2 : (W.heap.size = C) = False := eq_false HC.out
      clear n5
      go_wp2_with (fail)
      refine (kind_any x _).mono ?_
      rintro e Y ⟨rfl, hbY⟩
      have nY := HF.out.2.2.below' hbY
      have z0 := nY.cell 0
      have z1 := nY.cell 1
      have z2 := nY.cell 2
      simp only [List.getElem?_toArray, List.getElem?_cons_zero, List.getElem?_cons_succ] at z0 z1 z2
      have HY := Lib.hid (And.intro (HF.out.1.trans (KpC.of_below hbY)) (HF.out.2.1.below hbY))
      clear hbY HF nY y0 y1 y2
      rcases hK with ⟨q1, q2⟩ | ⟨q1, q2⟩ | ⟨q1, q2⟩
      · rw [q1]
        have HQ := Lib.hid q1
        clear q1 q2
        go_wp2
        go_ret
        refine ⟨by unfold takeS; rw [HQ.out]; rfl, HY.out.1, ?_⟩
        exact ⟨_, _, by rw [if_pos (by have := HR.out; omega)]; exact HY.out.2⟩
      · rw [q1]
        have hU := HR.out.2.1
        have hu := HR.out.2.2
        rw [q2] at hu
        have b1 : (u : Int) ≤ (U : Int) := by omega
        have b2 : (U : Int) ≤ (x.d.size : Int) := by omega
        have HQ := Lib.hid q1
        clear q1 q2 hU
        go_wp2
        go_ret
        refine ⟨by unfold takeS; rw [HQ.out, HR.out.2.1]; rfl, HY.out.1, ?_⟩
        exact ⟨_, _, by rw [if_pos (by have := HR.out; omega)]; exact HY.out.2⟩
      · rw [q1]
        have hU := HR.out.2.1
        have hu := HR.out.2.2
        rw [q2] at hu
        have b1 : (u : Int) ≤ (U : Int) := by omega
        have b2 : (U : Int) ≤ (x.p.size : Int) := by omega
        have HQ := Lib.hid q1
        clear q1 q2 hU
        go_wp2
        go_ret
        refine ⟨by unfold takeS; rw [HQ.out, HR.out.2.1]; rfl, HY.out.1, ?_⟩
        exact ⟨_, _, by rw [if_pos (by have := HR.out; omega)]; exact HY.out.2⟩
  · have r1 : ((R : Int) == 0) = false := by rw [beq_eq_false_iff_ne]; omega
    have n5 : Blk (V) W.heap.size #[.int .i64 x.k, .string x.d, .string x.p] 39 := HV.out.2.1
    have HF := Lib.hid (And.intro (HV.out.2.2) (And.intro (HV.out.1) n5))
    have y0 := n5.cell 0
    have y1 := n5.cell 1
    have y2 := n5.cell 2
    simp only [List.getElem?_toArray, List.getElem?_cons_zero, List.getElem?_cons_succ] at y0 y1 y2
    clear n5
    go_wp2_with (fail)
    refine (kind_any x _).mono ?_
    rintro e Y ⟨rfl, hbY⟩
    have nY := HF.out.2.2.below' hbY
    have z0 := nY.cell 0
    have z1 := nY.cell 1
    have z2 := nY.cell 2
    simp only [List.getElem?_toArray, List.getElem?_cons_zero, List.getElem?_cons_succ] at z0 z1 z2
    have HY := Lib.hid (And.intro (HF.out.1.trans (KpC.of_below hbY)) (HF.out.2.1.below hbY))
    clear hbY HF nY y0 y1 y2
    rcases hK with ⟨q1, q2⟩ | ⟨q1, q2⟩ | ⟨q1, q2⟩
    · rw [q1]
      have HQ := Lib.hid q1
      clear q1 q2
      go_wp2
      go_ret
      refine ⟨by unfold takeS; rw [HQ.out]; rfl, HY.out.1, ?_⟩
      exact ⟨_, _, by rw [if_neg (by have := HR.out; omega)]; exact HY.out.2⟩
    · rw [q1]
      have hU := HR.out.2.1
      have hu := HR.out.2.2
      rw [q2] at hu
      have b1 : (u : Int) ≤ (U : Int) := by omega
      have b2 : (U : Int) ≤ (x.d.size : Int) := by omega
      have HQ := Lib.hid q1
      clear q1 q2 hU
      go_wp2
      go_ret
      refine ⟨by unfold takeS; rw [HQ.out, HR.out.2.1]; rfl, HY.out.1, ?_⟩
      exact ⟨_, _, by rw [if_neg (by have := HR.out; omega)]; exact HY.out.2⟩
    · rw [q1]
      have hU := HR.out.2.1
      have hu := HR.out.2.2
      rw [q2] at hu
      have b1 : (u : Int) ≤ (U : Int) := by omega
      have b2 : (U : Int) ≤ (x.p.size : Int) := by omega
      have HQ := Lib.hid q1
      clear q1 q2 hU
      go_wp2
      go_ret
      refine ⟨by unfold takeS; rw [HQ.out, HR.out.2.1]; rfl, HY.out.1, ?_⟩
      exact ⟨_, _, by rw [if_neg (by have := HR.out; omega)]; exact HY.out.2⟩
end Go.Proofs.YtjccoiephdopkaaDoor
