/- Stage 27: the cursor: kind, left. -/
import Derived.Test.YtjccoiephdopkaaDoorJx
import Derived.Test.YtjccoiephdopkaaDoorJb
namespace Go.Proofs.YtjccoiephdopkaaDoor
set_option linter.unusedVariables false
set_option linter.unusedSimpArgs false
open Go Go.RowKit Go.Shelf
set_option maxRecDepth 100000

/-- A cursor: its steps, and how many bytes of the first one are used. -/
def CuB (w0 W : World) (C : Nat) (o : Option Addr) (c : Nat) (l : List Sp) (u : Nat) : Prop :=
  Blk W C #[.slice o l.length c, .int .i64 u] 119 ∧ RowAt w0 encS 3 o l ∧ Below w0.heap.size w0 W ∧ w0.heap.size ≤ C ∧ l.length ≤ c ∧ c ≤ 9223372036854775807
def kindC : List Sp → Nat
  | [] => 0
  | x :: _ => kindN x
/-- How many bytes a step has. -/
def szS (x : Sp) : Nat := x.k.toNat + x.d.size + x.p.size
def leftC (u : Nat) : List Sp → Nat
  | [] => 0
  | x :: _ => szS x - u
theorem row_head {W : World} {o : Option Addr} {x : Sp} {l : List Sp} (h : RowAt W encS 3 o (x :: l)) : ∃ g off, o = some ⟨g, off, none⟩ ∧ W.cell? ⟨g, off, none⟩ = some (.int .i64 x.k) ∧ W.cell? ⟨g, off + 1, none⟩ = some (.string x.d) ∧ W.cell? ⟨g, off + 2, none⟩ = some (.string x.p) := by
  obtain ⟨g, off, e, hc⟩ := h 0 x rfl
  have h0 := hc 0 (by decide)
  have h1 := hc 1 (by decide)
  have h2 := hc 2 (by decide)
  simp only [Nat.zero_mul, Nat.add_zero] at h0 h1 h2
  exact ⟨g, off, e, h0, h1, h2⟩
theorem CuB.below {w0 W X : World} {C : Nat} {o : Option Addr} {c : Nat} {l : List Sp} {u : Nat} (h : CuB w0 W C o c l u) (hb : Below W.heap.size W X) : CuB w0 X C o c l u :=
  ⟨h.1.below' hb, h.2.1, h.2.2.1.trans (hb.mono h.2.2.1.size), h.2.2.2⟩
theorem CuB.row {w0 W : World} {C : Nat} {o : Option Addr} {c : Nat} {l : List Sp} {u : Nat} (h : CuB w0 W C o c l u) : RowAt W encS 3 o l := h.2.1.below encS_len (by decide) h.2.2.1
theorem CuB.same {w0 W X : World} {C : Nat} {o : Option Addr} {c : Nat} {l : List Sp} {u : Nat} (h : CuB w0 W C o c l u) (hb : Below w0.heap.size w0 X) (e : X.heap[C]? = W.heap[C]?) : CuB w0 X C o c l u :=
  ⟨e.trans h.1, h.2.1, hb, h.2.2.2⟩
set_option maxHeartbeats 4000000 in
theorem cu_kind {w0 W : World} {C : Nat} {o : Option Addr} {c : Nat} {l : List Sp} {u : Nat} (h : CuB w0 W C o c l u) :
    Calls Tryd.prog 67 #[.pointer (some ⟨C, 0, none⟩)] W fun e W' => e = .returned (.int .i64 (kindC l)) ∧ Below W.heap.size W W' := by
  have hr := h.row
  obtain ⟨hb, _, _, _, hc, hc6⟩ := h
  have c0 := hb.cell 0
  simp only [List.getElem?_toArray, List.getElem?_cons_zero] at c0
  cases l with
  | nil =>
    clear hr hb hc hc6
    go_enter Tryd.func67, Tryd.ntmps67
    go_wp2
    go_ret
    exact ⟨rfl, Below.refl _ _⟩
  | cons x l =>
    obtain ⟨g, off, rfl, x0, x1, x2⟩ := row_head hr
    obtain ⟨n, hn⟩ : ∃ n, (x :: l).length = n := ⟨_, rfl⟩
    have hn0 : 0 < n := by rw [← hn]; simp
    have hn1 : ((n : Int) == 0) = false := by rw [beq_eq_false_iff_ne]; omega
    rw [hn] at c0
    have cK := kind_any x W
    clear hr hb hc hc6 hn
    go_enter Tryd.func67, Tryd.ntmps67
    go_wp2_with (fail)
    refine cK.mono ?_
    rintro e W1 ⟨rfl, hb1⟩
    have HB := Lib.hid hb1
    clear hb1
    go_wp2
    go_ret
    exact ⟨rfl, HB.out⟩
set_option maxHeartbeats 4000000 in
theorem cu_left {w0 W : World} {C : Nat} {o : Option Addr} {c : Nat} {l : List Sp} {u : Nat} (h : CuB w0 W C o c l u) (hl : ∀ x ∈ l, 0 ≤ x.k ∧ x.k ≤ 65536 ∧ x.d.size ≤ 65536 ∧ x.p.size ≤ 65536) (hu : u ≤ leftC 0 l) (hu6 : u ≤ 1000000) :
    Calls Tryd.prog 69 #[.pointer (some ⟨C, 0, none⟩)] W fun e W' => e = .returned (.int .i64 (leftC u l)) ∧ Below W.heap.size W W' := by
  have hr := h.row
  obtain ⟨hb, _, _, _, hc, hc6⟩ := h
  have c0 := hb.cell 0
  have c1 := hb.cell 1
  simp only [List.getElem?_toArray, List.getElem?_cons_zero, List.getElem?_cons_succ] at c0 c1
  cases l with
  | nil =>
    clear hr hb hc hc6
    go_enter Tryd.func69, Tryd.ntmps69
    go_wp2
    go_ret
    exact ⟨rfl, Below.refl _ _⟩
  | cons x l =>
    obtain ⟨g, off, rfl, x0, x1, x2⟩ := row_head hr
    obtain ⟨n, hn⟩ : ∃ n, (x :: l).length = n := ⟨_, rfl⟩
    have hn0 : 0 < n := by rw [← hn]; simp
    have hn1 : ((n : Int) == 0) = false := by rw [beq_eq_false_iff_ne]; omega
    rw [hn] at c0
    obtain ⟨hk0, hk6, hd6, hp6⟩ := hl x (by simp)
    obtain ⟨k, d, p⟩ := x
    obtain ⟨kn, rfl⟩ : ∃ kn : Nat, k = kn := ⟨k.toNat, by simp only at hk0; omega⟩
    simp only [leftC, szS, Int.toNat_natCast, Nat.sub_zero] at hu ⊢
    obtain ⟨A, hA⟩ : ∃ A, kn + d.size = A := ⟨_, rfl⟩
    obtain ⟨D, hD⟩ : ∃ D, A + p.size = D := ⟨_, rfl⟩
    obtain ⟨E, hE⟩ : ∃ E, D - u = E := ⟨_, rfl⟩
    simp only at hk6 hd6 hp6
    have j1 : IntKind.i64.wrap ((kn : Int) + (d.size : Int)) = (A : Int) := by rw [IntWalk.i64_in _ (by omega)]; omega
    have j2 : IntKind.i64.wrap ((A : Int) + (p.size : Int)) = (D : Int) := by rw [IntWalk.i64_in _ (by omega)]; omega
    have j3 : IntKind.i64.wrap ((D : Int) - (u : Int)) = (E : Int) := by rw [IntWalk.i64_in _ (by omega)]; omega
    have HE := Lib.hid (And.intro hA (And.intro hD hE))
    have hbA := (Below.refl W.heap.size W).alloc (Nat.le_refl _) (.cells #[.int .i64 kn, .string d, .string p] 39)
    have n3 := Blk.new W #[.int .i64 kn, .string d, .string p] 39
    have m0 := n3.cell 0
    have m1 := n3.cell 1
    have m2 := n3.cell 2
    have m3 := (hb.below' hbA).cell 1
    simp only [List.getElem?_toArray, List.getElem?_cons_succ, List.getElem?_cons_zero] at m0 m1 m2 m3
    have HB := Lib.hid hbA
    clear hr hb hc hc6 hn hA hD hE hbA hl hk0 hu hk6 hd6 hp6 n3
    simp only at x0 x1 x2
    go_enter Tryd.func69, Tryd.ntmps69
    go_wp2
    go_quiet (fail)
    generalize hU : World.drewN _ _ = U
    have HU := Lib.hid (HB.out.trans ((hU ▸ below_drewN _ _ : Below _ _ U).mono (by simp)))
    clear hU
    go_wp2
    go_ret
    refine ⟨?_, HU.out⟩
    rw [← HE.out.2.2, ← HE.out.2.1, ← HE.out.1]
    rfl
end Go.Proofs.YtjccoiephdopkaaDoor
