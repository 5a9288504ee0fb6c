/- Layer 5: Cut. -/
import Derived.Test.YtnbhdgbhmcbeoaaCl5
namespace Go.Proofs.Ytnbhdgbhmcbeoaa
set_option linter.unusedVariables false
set_option linter.unusedSimpArgs false
open Go Go.RowKit Go.Shelf
set_option maxRecDepth 100000
attribute [local go_sem] Oper.semAt_some

set_option maxHeartbeats 4000000 in
/-- The closure: the cluster does not go. -/
theorem add_no (x : Cel) (cz : Int) (tk b0 b2 : Nat) (p1 : Value) (hx : x.2.2 ≤ 2) (htk : tk + x.2.2 ≤ 9223372036854775807) (w : World) (hk : Boxed w b0 3 (.int .i64 cz)) (ht : Boxed w b2 3 (.int .i64 (tk : Nat)))
    (hno : max cz 0 < (tk : Int) + (x.2.2 : Int)) :
    Calls Try.prog 40 #[celV x, .pointer (some ⟨b2, 0, none⟩), .pointer (some ⟨b0, 0, none⟩), p1] w fun e w' => e = .returned (.bool false) ∧ Below w.heap.size w w' := by
  have a := Blk.new w #[.int .i64 (x.1 : Nat), .int .i64 (x.2.1 : Nat), .int .i64 (x.2.2 : Nat)] 26
  have a2 := a.cell 2
  simp only [List.getElem?_toArray, List.getElem?_cons_succ, List.getElem?_cons_zero] at a2
  have k0 := (hk.alloc (.cells #[.int .i64 (x.1 : Nat), .int .i64 (x.2.1 : Nat), .int .i64 (x.2.2 : Nat)] 26)).cell
  have k2 := (ht.alloc (.cells #[.int .i64 (x.1 : Nat), .int .i64 (x.2.1 : Nat), .int .i64 (x.2.2 : Nat)] 26)).cell
  have j1 : IntKind.i64.wrap ((tk : Int) + (x.2.2 : Int)) = (tk : Int) + (x.2.2 : Int) := IntWalk.i64_in _ (by omega)
  have j2 : decide ((if cz < 0 then (0 : Int) else cz) < (tk : Int) + (x.2.2 : Int)) = true := decide_eq_true (by split <;> omega)
  clear hno
  simp only [celV]
  go_enter Try.func40, Try.ntmps40
  go_wp2
  all_goals
    go_ret
    exact ⟨rfl, (Below.refl _ _).alloc (Nat.le_refl _) _⟩

set_option maxHeartbeats 4000000 in
/-- The closure: it goes. -/
theorem add_yes (x : Cel) (cz : Int) (tk ta b0 b1 b2 : Nat) (hx : x.2.2 ≤ 2) (htk : tk + x.2.2 ≤ 9223372036854775807) (w : World) (hk : Boxed w b0 3 (.int .i64 cz)) (ha : Boxed w b1 3 (.int .i64 (ta : Nat))) (ht : Boxed w b2 3 (.int .i64 (tk : Nat)))
    (hne : b1 ≠ b2) (hno : ¬ max cz 0 < (tk : Int) + (x.2.2 : Int)) :
    Calls Try.prog 40 #[celV x, .pointer (some ⟨b2, 0, none⟩), .pointer (some ⟨b0, 0, none⟩), .pointer (some ⟨b1, 0, none⟩)] w fun e w' => e = .returned (.bool true) ∧ ∃ Z, Below w.heap.size w Z ∧ w' = (Z.setCell ⟨b1, 0, none⟩ (.int .i64 (x.2.1 : Nat))).setCell ⟨b2, 0, none⟩ (.int .i64 ((tk : Int) + (x.2.2 : Int))) := by
  have a := Blk.new w #[.int .i64 (x.1 : Nat), .int .i64 (x.2.1 : Nat), .int .i64 (x.2.2 : Nat)] 26
  have a1 := a.cell 1
  have a2 := a.cell 2
  simp only [List.getElem?_toArray, List.getElem?_cons_succ, List.getElem?_cons_zero] at a1 a2
  have k0 := (hk.alloc (.cells #[.int .i64 (x.1 : Nat), .int .i64 (x.2.1 : Nat), .int .i64 (x.2.2 : Nat)] 26)).cell
  have kb1 := ha.alloc (.cells #[.int .i64 (x.1 : Nat), .int .i64 (x.2.1 : Nat), .int .i64 (x.2.2 : Nat)] 26)
  have kb2 := ht.alloc (.cells #[.int .i64 (x.1 : Nat), .int .i64 (x.2.1 : Nat), .int .i64 (x.2.2 : Nat)] 26)
  have k2 := kb2.cell
  have j1 : IntKind.i64.wrap ((tk : Int) + (x.2.2 : Int)) = (tk : Int) + (x.2.2 : Int) := IntWalk.i64_in _ (by omega)
  have j2 : decide ((if cz < 0 then (0 : Int) else cz) < (tk : Int) + (x.2.2 : Int)) = false := decide_eq_false (by split <;> omega)
  have j3 : decide ((0 : Int) < (tk : Int) + (x.2.2 : Int)) = true ∨ decide ((0 : Int) < (tk : Int) + (x.2.2 : Int)) = false := by cases decide ((0 : Int) < (tk : Int) + (x.2.2 : Int)) <;> simp
  have Y0b := (Below.refl w.heap.size w).alloc (Nat.le_refl _) (.cells #[.int .i64 (x.1 : Nat), .int .i64 (x.2.1 : Nat), .int .i64 (x.2.2 : Nat)] 26)
  have HNO := Lib.hid hno
  clear hno
  simp only [celV]
  go_enter Try.func40, Try.ntmps40
  go_wp2
  all_goals
    refine wp_region_noPanic ?_
    refine wp_region_g (S := untilG [8] (fun X => X.cell? ⟨w.heap.size, 1, none⟩ = some (.int .i64 (x.2.1 : Nat)) ∧ X.cell? ⟨w.heap.size, 2, none⟩ = some (.int .i64 (x.2.2 : Nat)) ∧ X.cell? ⟨b2, 0, none⟩ = some (.int .i64 (tk : Nat)))) (by kernel_rfl) ?_
    have hYB : Below w.heap.size w (w.alloc (.cells #[.int .i64 (x.1 : Nat), .int .i64 (x.2.1 : Nat), .int .i64 (x.2.2 : Nat)] 26)).drew := Y0b.drew
    have n1 : Boxed (w.alloc (.cells #[.int .i64 (x.1 : Nat), .int .i64 (x.2.1 : Nat), .int .i64 (x.2.2 : Nat)] 26)).drew b1 3 (.int .i64 (ta : Nat)) := kb1
    have n2 : Boxed (w.alloc (.cells #[.int .i64 (x.1 : Nat), .int .i64 (x.2.1 : Nat), .int .i64 (x.2.2 : Nat)] 26)).drew b2 3 (.int .i64 (tk : Nat)) := kb2
    have na : Blk (w.alloc (.cells #[.int .i64 (x.1 : Nat), .int .i64 (x.2.1 : Nat), .int .i64 (x.2.2 : Nat)] 26)).drew w.heap.size #[.int .i64 (x.1 : Nat), .int .i64 (x.2.1 : Nat), .int .i64 (x.2.2 : Nat)] 26 := a
    obtain ⟨Y0, hY0⟩ : ∃ X, (w.alloc (.cells #[.int .i64 (x.1 : Nat), .int .i64 (x.2.1 : Nat), .int .i64 (x.2.2 : Nat)] 26)).drew = X := ⟨_, rfl⟩
    rw [hY0] at hYB n1 n2 na ⊢
    clear hY0
    have m1 := na.cell 1
    have m2 := na.cell 2
    have m3 := n2.cell
    simp only [List.getElem?_toArray, List.getElem?_cons_succ, List.getElem?_cons_zero] at m1 m2
    have T0 : Y0.cell? ⟨w.heap.size, 1, none⟩ = some (.int .i64 (x.2.1 : Nat)) ∧ Y0.cell? ⟨w.heap.size, 2, none⟩ = some (.int .i64 (x.2.2 : Nat)) ∧ Y0.cell? ⟨b2, 0, none⟩ = some (.int .i64 (tk : Nat)) := ⟨m1, m2, m3⟩
    clear a1 a2 k0 k2
    refine wpAnyG_take [0, 1, 2, 7] (i := 0) (v := (.pointer (some ⟨w.heap.size, 0, none⟩))) rfl (by kernel_rfl) (by kernel_rfl) (by kernel_rfl) (by kernel_rfl) (by kernel_rfl) (by kernel_rfl) (by kernel_rfl) (by kernel_rfl) (fun _ _ _ h => h) (Or.inl ⟨by rfl, ?hy⟩) T0 ?_
    case hy =>
      intro X hX
      obtain ⟨a1, a2, k2⟩ := hX
      go_simp
    try simp only [Act.put, List.getElem_toArray, List.getElem_cons_zero, List.getElem_cons_succ, List.setIfInBounds_toArray, List.set_cons_zero, List.set_cons_succ]
    refine wpAnyG_take [1, 2, 7] (i := 1) (v := (.pointer (some ⟨w.heap.size, 1, none⟩))) rfl (by kernel_rfl) (by kernel_rfl) (by kernel_rfl) (by kernel_rfl) (by kernel_rfl) (by kernel_rfl) (by kernel_rfl) (by kernel_rfl) (fun _ _ _ h => h) (Or.inl ⟨by rfl, ?hy⟩) T0 ?_
    case hy =>
      intro X hX
      obtain ⟨a1, a2, k2⟩ := hX
      go_simp
    try simp only [Act.put, List.getElem_toArray, List.getElem_cons_zero, List.getElem_cons_succ, List.setIfInBounds_toArray, List.set_cons_zero, List.set_cons_succ]
    refine wpAnyG_take [4, 5, 6] (i := 4) (v := (.pointer (some ⟨w.heap.size, 2, none⟩))) rfl (by kernel_rfl) (by kernel_rfl) (by kernel_rfl) (by kernel_rfl) (by kernel_rfl) (by kernel_rfl) (by kernel_rfl) (by kernel_rfl) (fun _ _ _ h => h) (Or.inl ⟨by rfl, ?hy⟩) T0 ?_
    case hy =>
      intro X hX
      obtain ⟨a1, a2, k2⟩ := hX
      go_simp
    try simp only [Act.put, List.getElem_toArray, List.getElem_cons_zero, List.getElem_cons_succ, List.setIfInBounds_toArray, List.set_cons_zero, List.set_cons_succ]
    refine wpAnyG_take [2, 7] (i := 2) (v := (.int .i64 (x.2.1 : Nat))) rfl (by kernel_rfl) (by kernel_rfl) (by kernel_rfl) (by kernel_rfl) (by kernel_rfl) (by kernel_rfl) (by kernel_rfl) (by kernel_rfl) (fun _ _ _ h => h) (Or.inl ⟨by rfl, ?hy⟩) T0 ?_
    case hy =>
      intro X hX
      obtain ⟨a1, a2, k2⟩ := hX
      go_simp
    try simp only [Act.put, List.getElem_toArray, List.getElem_cons_zero, List.getElem_cons_succ, List.setIfInBounds_toArray, List.set_cons_zero, List.set_cons_succ]
    refine wpAnyG_take [3, 6] (i := 3) (v := (.int .i64 (tk : Nat))) rfl (by kernel_rfl) (by kernel_rfl) (by kernel_rfl) (by kernel_rfl) (by kernel_rfl) (by kernel_rfl) (by kernel_rfl) (by kernel_rfl) (fun _ _ _ h => h) (Or.inl ⟨by rfl, ?hy⟩) T0 ?_
    case hy =>
      intro X hX
      obtain ⟨a1, a2, k2⟩ := hX
      go_simp
    try simp only [Act.put, List.getElem_toArray, List.getElem_cons_zero, List.getElem_cons_succ, List.setIfInBounds_toArray, List.set_cons_zero, List.set_cons_succ]
    refine wpAnyG_take [5, 6] (i := 5) (v := (.int .i64 (x.2.2 : Nat))) rfl (by kernel_rfl) (by kernel_rfl) (by kernel_rfl) (by kernel_rfl) (by kernel_rfl) (by kernel_rfl) (by kernel_rfl) (by kernel_rfl) (fun _ _ _ h => h) (Or.inl ⟨by rfl, ?hy⟩) T0 ?_
    case hy =>
      intro X hX
      obtain ⟨a1, a2, k2⟩ := hX
      go_simp
    try simp only [Act.put, List.getElem_toArray, List.getElem_cons_zero, List.getElem_cons_succ, List.setIfInBounds_toArray, List.set_cons_zero, List.set_cons_succ]
    refine wpAnyG_take [6] (i := 6) (v := (.int .i64 ((tk : Int) + (x.2.2 : Int)))) rfl (by kernel_rfl) (by kernel_rfl) (by kernel_rfl) (by kernel_rfl) (by kernel_rfl) (by kernel_rfl) (by kernel_rfl) (by kernel_rfl) (fun _ _ _ h => h) (Or.inl ⟨by rfl, ?hy⟩) T0 ?_
    case hy =>
      intro X hX
      obtain ⟨a1, a2, k2⟩ := hX
      go_simp
    try simp only [Act.put, List.getElem_toArray, List.getElem_cons_zero, List.getElem_cons_succ, List.setIfInBounds_toArray, List.set_cons_zero, List.set_cons_succ]
    have n3 := n1.cell
    have n4 := n1.frozen
    refine wpAnyG_all (rs := [7]) (by kernel_rfl) (by simp) ?_
    intro i hi
    simp only [List.mem_cons, List.not_mem_nil, or_false] at hi
    subst hi
    refine wpOp_now rfl rfl ?_
    go_simp
    have l1 : b1 < w.heap.size := Blk.lt (show Blk _ _ _ _ from ha)
    have n5 := n2.other (B' := b1) (by omega) (.int .i64 (x.2.1 : Nat))
    have n6 := na.other (B' := b1) (by omega) 0 (.int .i64 (x.2.1 : Nat))
    have n7 := n6.cell 1
    have n8 := n6.cell 2
    have n9 := n5.cell
    have n10 := n5.frozen
    simp only [List.getElem?_toArray, List.getElem?_cons_succ, List.getElem?_cons_zero] at n7 n8
    refine ⟨fun _ => ⟨n7, n8, n9⟩, ?_⟩
    try simp only [Act.put, List.getElem_toArray, List.getElem_cons_zero, List.getElem_cons_succ, List.setIfInBounds_toArray, List.set_cons_zero, List.set_cons_succ]
    refine wpAnyG_all (rs := [8]) (by kernel_rfl) (by simp) ?_
    intro i hi
    simp only [List.mem_cons, List.not_mem_nil, or_false] at hi
    subst hi
    refine wpOp_now rfl rfl ?_
    go_simp
    refine ⟨fun h => (nomatch (show (false : Bool) = true from h)), ?_⟩
    refine wpAnyG_done (by kernel_rfl) ?_ _
    refine NoPanic.normal ?_
    go_wp2
    go_ret
    exact ⟨rfl, Y0, hYB, rfl⟩
end Go.Proofs.Ytnbhdgbhmcbeoaa
