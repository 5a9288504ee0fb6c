/- A Feed of the document's: Held, End, Put. -/
import Derived.Test.YtgpnheaefagfiaaFd3
import Derived.Test.YtgpnheaefagfiaaGn
namespace Go.Proofs.Ytgpnheaefagfiaa
set_option linter.unusedVariables false
set_option linter.unusedSimpArgs false
open Go Go.RowKit
set_option maxRecDepth 100000

theorem at_below {X Y : World} {b i : Nat} {v : Value} (h : X.cell? ⟨b, i, none⟩ = some v) (hb : Below X.heap.size X Y) : Y.cell? ⟨b, i, none⟩ = some v := (hb.cell (p := ⟨b, i, none⟩) (lt_cell h)).trans h
theorem heldR_any (X : ByteArray) (hX : X.size ≤ 1048576) (a o : Nat) (ha : a ≤ X.size) (w : World) (G : Nat) (cs : Array Value) (hG : Blk w G cs 79) (h0 : cs[o]? = some (.string X)) (h1 : cs[o + 1]? = some (.int .i64 (a : Nat))) :
    Calls Try.prog 64 #[.pointer (some ⟨G, o, none⟩)] w fun e w' => e = .returned (.string (X.extract a X.size)) ∧ Below w.heap.size w w' := by
  have g0 : w.cell? ⟨G, o, none⟩ = some (.string X) := (hG.cell o).trans h0
  have g1 : w.cell? ⟨G, o + 1, none⟩ = some (.int .i64 (a : Nat)) := (hG.cell (o + 1)).trans h1
  have f1 : (a : Int) ≤ (X.size : Int) := by omega
  go_enter Try.func64, Try.ntmps64
  go_wp2
  go_quiet (fail)
  go_wp2
  go_ret
  exact ⟨rfl, rfl, rfl, rfl, Nat.le_refl _, fun _ _ => rfl⟩

def ReEnd (X : ByteArray) (a o : Nat) (w : World) (G : Nat) (cs : Array Value) (e : Ending) (w' : World) : Prop :=
  ∃ v, e = .returned v ∧ w'.ownsRow w.heap.size 24 4 v (tellL X a X.size).length (pcs X (tellL X a X.size)) ∧ w.grownBy w' (some G) ∧ Blk w' G ((cs.setIfInBounds o (.string ByteArray.empty)).setIfInBounds (o + 1) (.int .i64 0)) 79

theorem set_twice (cs : Array Value) (o : Nat) (u v x : Value) : ((cs.setIfInBounds (o + 1) u).setIfInBounds o x).setIfInBounds (o + 1) v = (cs.setIfInBounds o x).setIfInBounds (o + 1) v := by
  rw [Array.setIfInBounds_comm _ _ (show o + 1 ≠ o by omega)]
  simp

set_option maxHeartbeats 1000000 in
theorem endR_any (X : ByteArray) (hX : X.size ≤ 1048576) (a o : Nat) (ha : a ≤ X.size) (w : World) (G : Nat) (cs : Array Value) (hG : Blk w G cs 79) (h0 : cs[o]? = some (.string X)) (h1 : cs[o + 1]? = some (.int .i64 (a : Nat))) :
    Calls Try.prog 59 #[.pointer (some ⟨G, o, none⟩)] w (ReEnd X a o w G cs) := by
  have g0 : w.cell? ⟨G, o, none⟩ = some (.string X) := (hG.cell o).trans h0
  have cT := tellR_any X hX a X.size o ha (Nat.le_refl _) w G cs hG h0 h1
  have k0 : (cs.setIfInBounds (o + 1) (.int .i64 (X.size : Nat)))[o]? = some (.string X) := by rw [Array.getElem?_setIfInBounds_ne (by omega)]; exact h0
  have hlt1 : o + 1 < cs.size := by
    rcases Nat.lt_or_ge (o + 1) cs.size with h | h
    · exact h
    · rw [Array.getElem?_eq_none h] at h1; cases h1
  have k1 : (cs.setIfInBounds (o + 1) (.int .i64 (X.size : Nat)))[o + 1]? = some (.int .i64 (X.size : Nat)) := by rw [Array.getElem?_setIfInBounds_self_of_lt hlt1]
  go_enter Try.func59, Try.ntmps59
  go_wp2_with (first | (go_at_call 86; refine cT.mono ?_; rintro e w2 ⟨v, rfl, hrow, hg2, h2⟩; have c0 := (h2.cell o).trans k0; have c1 := (h2.cell (o + 1)).trans k1; have f0 := h2.frozen o; have f1 := h2.frozen (o + 1)))
  have z := (h2.set o (.string ByteArray.empty)).set (o + 1) (.int .i64 0)
  rw [set_twice] at z
  have zg := (grownBy_setCell w2 G o (.string ByteArray.empty)).trans (grownBy_setCell _ G (o + 1) (.int .i64 0))
  have hnr := h2.not_row (by decide) hrow
  have zr := hrow.kept zg (.inr (fun e => hnr e.symm))
  go_ret
  exact ⟨v, rfl, zr, hg2.trans zg, z⟩

def RePut (S : ByteArray) (a b o : Nat) (w : World) (G : Nat) (cs : Array Value) (e : Ending) (w' : World) : Prop :=
  ∃ v, e = .returned v ∧ w'.ownsRow w.heap.size 24 4 v (tellL S a b).length (pcs S (tellL S a b)) ∧ w.grownBy w' (some G) ∧ Blk w' G ((cs.setIfInBounds o (.string S)).setIfInBounds (o + 1) (.int .i64 (b : Nat))) 79

set_option maxHeartbeats 1000000 in
theorem putR_any (X s : ByteArray) (hX : X.size + s.size ≤ 1048576) (a o : Nat) (ha : a ≤ X.size) (w : World) (G : Nat) (cs : Array Value) (hG : Blk w G cs 79) (h0 : cs[o]? = some (.string X)) (h1 : cs[o + 1]? = some (.int .i64 (a : Nat))) (S : ByteArray) (hS : X ++ s = S) (b : Nat) (hb : S.size - opN S = b) :
    Calls Try.prog 61 #[.pointer (some ⟨G, o, none⟩), .string s] w (RePut S a b o w G cs) := by
  have g0 : w.cell? ⟨G, o, none⟩ = some (.string X) := (hG.cell o).trans h0
  have gf := hG.frozen o
  have hSz : X.size + s.size = S.size := by rw [← hS, ByteArray.size_append]
  have ha2 : a ≤ S.size := by omega
  have hS2 : S.size ≤ 1048576 := by omega
  have hbS : b ≤ S.size := by omega
  have cB := begun_any S (by omega) b hb
  have zB : (S.extract b S.size).size = S.size - b := by rw [ByteArray.size_extract]; omega
  obtain ⟨R, hR⟩ : ∃ R, S.extract b S.size = R := ⟨_, rfl⟩
  rw [hR] at cB zB
  have zi : (S.size : Int) - (R.size : Int) = (b : Int) := by omega
  have hlt0 : o < cs.size := by
    rcases Nat.lt_or_ge o cs.size with h | h
    · exact h
    · rw [Array.getElem?_eq_none h] at h0; cases h0
  have k0 : (cs.setIfInBounds o (.string S))[o]? = some (.string S) := by rw [Array.getElem?_setIfInBounds_self_of_lt hlt0]
  have k1 : (cs.setIfInBounds o (.string S))[o + 1]? = some (.int .i64 (a : Nat)) := by rw [Array.getElem?_setIfInBounds_ne (by omega)]; exact h1
  have hG1 := hG.set o (.string S)
  have e1 := (hG1.cell o).trans k0
  have hgr := grownBy_setCell w G o (.string S)
  have zw : IntKind.i64.wrap (b : Int) = (b : Int) := IntWalk.i64_in _ (by omega)
  clear hSz hR hb zB
  go_enter Try.func61, Try.ntmps61
  go_wp2
  obtain ⟨W1, hW1⟩ : ∃ y, w.setCell ⟨G, o, none⟩ (.string S) = y := ⟨_, rfl⟩
  rw [hW1] at hG1 e1 hgr ⊢
  clear hW1 g0 gf hG
  refine wp_region_g (S := untilG [13] (fun Z => Below W1.heap.size W1 Z)) (by kernel_rfl) ?_
  obtain ⟨X0, hX0⟩ : ∃ Z, W1.drew = Z := ⟨_, rfl⟩
  have T0 : Below W1.heap.size W1 X0 := hX0 ▸ (Below.refl W1.heap.size W1).drew
  rw [hX0]
  clear hX0
  refine wpAnyG_take [0, 14] (i := 0) (v := (.pointer (some ⟨G, o, none⟩))) rfl (by kernel_rfl) (by kernel_rfl) (by kernel_rfl) (by kernel_rfl) (by kernel_rfl) (by kernel_rfl) (by kernel_rfl) (by kernel_rfl) (fun _ _ _ h => h) (Or.inl ⟨by rfl, ?hy⟩) T0 ?_
  case hy =>
    intro X hX
    go_simp
  try simp only [Act.put, List.getElem_toArray, List.getElem_cons_zero, List.getElem_cons_succ, List.setIfInBounds_toArray, List.set_cons_zero, List.set_cons_succ]
  refine wpAnyG_take [1, 2, 3, 4, 5, 12, 14] (i := 1) (v := (.pointer (some ⟨G, o, none⟩))) rfl (by kernel_rfl) (by kernel_rfl) (by kernel_rfl) (by kernel_rfl) (by kernel_rfl) (by kernel_rfl) (by kernel_rfl) (by kernel_rfl) (fun _ _ _ h => h) (Or.inl ⟨by rfl, ?hy⟩) T0 ?_
  case hy =>
    intro X hX
    go_simp
  try simp only [Act.put, List.getElem_toArray, List.getElem_cons_zero, List.getElem_cons_succ, List.setIfInBounds_toArray, List.set_cons_zero, List.set_cons_succ]
  refine wpAnyG_take [2, 3, 4, 5, 12, 14] (i := 2) (v := (.pointer (some ⟨G, o, none⟩))) rfl (by kernel_rfl) (by kernel_rfl) (by kernel_rfl) (by kernel_rfl) (by kernel_rfl) (by kernel_rfl) (by kernel_rfl) (by kernel_rfl) (fun _ _ _ h => h) (Or.inl ⟨by rfl, ?hy⟩) T0 ?_
  case hy =>
    intro X hX
    go_simp
  try simp only [Act.put, List.getElem_toArray, List.getElem_cons_zero, List.getElem_cons_succ, List.setIfInBounds_toArray, List.set_cons_zero, List.set_cons_succ]
  refine wpAnyG_take [3, 4, 5, 12, 14] (i := 3) (v := (.pointer (some ⟨G, o, none⟩))) rfl (by kernel_rfl) (by kernel_rfl) (by kernel_rfl) (by kernel_rfl) (by kernel_rfl) (by kernel_rfl) (by kernel_rfl) (by kernel_rfl) (fun _ _ _ h => h) (Or.inl ⟨by rfl, ?hy⟩) T0 ?_
  case hy =>
    intro X hX
    go_simp
  try simp only [Act.put, List.getElem_toArray, List.getElem_cons_zero, List.getElem_cons_succ, List.setIfInBounds_toArray, List.set_cons_zero, List.set_cons_succ]
  refine wpAnyG_take [4, 5, 12, 14] (i := 4) (v := (.string S)) rfl (by kernel_rfl) (by kernel_rfl) (by kernel_rfl) (by kernel_rfl) (by kernel_rfl) (by kernel_rfl) (by kernel_rfl) (by kernel_rfl) (fun _ _ _ h => h) (Or.inl ⟨by rfl, ?hy⟩) T0 ?_
  case hy =>
    intro X hX
    have e0 := at_below e1 hX
    go_simp
  try simp only [Act.put, List.getElem_toArray, List.getElem_cons_zero, List.getElem_cons_succ, List.setIfInBounds_toArray, List.set_cons_zero, List.set_cons_succ]
  refine wpAnyG_take [5, 12, 14] (i := 5) (v := (.int .i64 (S.size : Nat))) rfl (by kernel_rfl) (by kernel_rfl) (by kernel_rfl) (by kernel_rfl) (by kernel_rfl) (by kernel_rfl) (by kernel_rfl) (by kernel_rfl) (fun _ _ _ h => h) (Or.inl ⟨by rfl, ?hy⟩) T0 ?_
  case hy =>
    intro X hX
    go_simp
  try simp only [Act.put, List.getElem_toArray, List.getElem_cons_zero, List.getElem_cons_succ, List.setIfInBounds_toArray, List.set_cons_zero, List.set_cons_succ]
  refine wpAnyG_take [6, 7, 8, 9, 10, 11, 12, 14] (i := 6) (v := (.pointer (some ⟨G, o, none⟩))) rfl (by kernel_rfl) (by kernel_rfl) (by kernel_rfl) (by kernel_rfl) (by kernel_rfl) (by kernel_rfl) (by kernel_rfl) (by kernel_rfl) (fun _ _ _ h => h) (Or.inl ⟨by rfl, ?hy⟩) T0 ?_
  case hy =>
    intro X hX
    go_simp
  try simp only [Act.put, List.getElem_toArray, List.getElem_cons_zero, List.getElem_cons_succ, List.setIfInBounds_toArray, List.set_cons_zero, List.set_cons_succ]
  refine wpAnyG_take [7, 8, 9, 10, 11, 12, 14] (i := 7) (v := (.pointer (some ⟨G, o, none⟩))) rfl (by kernel_rfl) (by kernel_rfl) (by kernel_rfl) (by kernel_rfl) (by kernel_rfl) (by kernel_rfl) (by kernel_rfl) (by kernel_rfl) (fun _ _ _ h => h) (Or.inl ⟨by rfl, ?hy⟩) T0 ?_
  case hy =>
    intro X hX
    go_simp
  try simp only [Act.put, List.getElem_toArray, List.getElem_cons_zero, List.getElem_cons_succ, List.setIfInBounds_toArray, List.set_cons_zero, List.set_cons_succ]
  refine wpAnyG_take [8, 9, 10, 11, 12, 14] (i := 8) (v := (.pointer (some ⟨G, o, none⟩))) rfl (by kernel_rfl) (by kernel_rfl) (by kernel_rfl) (by kernel_rfl) (by kernel_rfl) (by kernel_rfl) (by kernel_rfl) (by kernel_rfl) (fun _ _ _ h => h) (Or.inl ⟨by rfl, ?hy⟩) T0 ?_
  case hy =>
    intro X hX
    go_simp
  try simp only [Act.put, List.getElem_toArray, List.getElem_cons_zero, List.getElem_cons_succ, List.setIfInBounds_toArray, List.set_cons_zero, List.set_cons_succ]
  refine wpAnyG_take [9, 10, 11, 12, 14] (i := 9) (v := (.string S)) rfl (by kernel_rfl) (by kernel_rfl) (by kernel_rfl) (by kernel_rfl) (by kernel_rfl) (by kernel_rfl) (by kernel_rfl) (by kernel_rfl) (fun _ _ _ h => h) (Or.inl ⟨by rfl, ?hy⟩) T0 ?_
  case hy =>
    intro X hX
    have e0 := at_below e1 hX
    go_simp
  try simp only [Act.put, List.getElem_toArray, List.getElem_cons_zero, List.getElem_cons_succ, List.setIfInBounds_toArray, List.set_cons_zero, List.set_cons_succ]
  refine wpAnyG_all (rs := [10]) (by kernel_rfl) (by simp) ?_
  intro i hi
  simp only [List.mem_cons, List.not_mem_nil, or_false] at hi
  subst hi
  refine wpOp_now rfl rfl ?_
  go_simp
  refine (cB _).mono ?_
  rintro e X1 ⟨rfl, hb1⟩
  replace T0 := T0.trans (hb1.mono T0.size)
  clear hb1
  refine ⟨fun _ => T0, ?_⟩
  try simp only [Act.put, List.getElem_toArray, List.getElem_cons_zero, List.getElem_cons_succ, List.setIfInBounds_toArray, List.set_cons_zero, List.set_cons_succ]
  refine wpAnyG_take [11, 12, 14] (i := 11) (v := (.int .i64 (R.size : Nat))) rfl (by kernel_rfl) (by kernel_rfl) (by kernel_rfl) (by kernel_rfl) (by kernel_rfl) (by kernel_rfl) (by kernel_rfl) (by kernel_rfl) (fun _ _ _ h => h) (Or.inl ⟨by rfl, ?hy⟩) T0 ?_
  case hy =>
    intro X hX
    go_simp
  try simp only [Act.put, List.getElem_toArray, List.getElem_cons_zero, List.getElem_cons_succ, List.setIfInBounds_toArray, List.set_cons_zero, List.set_cons_succ]
  refine wpAnyG_take [12, 14] (i := 12) (v := (.int .i64 (b : Nat))) rfl (by kernel_rfl) (by kernel_rfl) (by kernel_rfl) (by kernel_rfl) (by kernel_rfl) (by kernel_rfl) (by kernel_rfl) (by kernel_rfl) (fun _ _ _ h => h) (Or.inl ⟨by rfl, ?hy⟩) T0 ?_
  case hy =>
    intro X hX
    go_simp
  try simp only [Act.put, List.getElem_toArray, List.getElem_cons_zero, List.getElem_cons_succ, List.setIfInBounds_toArray, List.set_cons_zero, List.set_cons_succ]
  refine wpAnyG_all (rs := [13]) (by kernel_rfl) (by simp) ?_
  intro i hi
  simp only [List.mem_cons, List.not_mem_nil, or_false] at hi
  subst hi
  refine wpOp_now rfl rfl ?_
  go_simp
  have hG2 := hG1.below' T0
  refine (tellR_any S hS2 a b o ha2 hbS _ G _ hG2 k0 k1).mono ?_
  rintro e X2 ⟨v, rfl, hrow, hg2, h2⟩
  refine ⟨fun h => (by cases h), ?_⟩
  try simp only [Act.put, List.getElem_toArray, List.getElem_cons_zero, List.getElem_cons_succ, List.setIfInBounds_toArray, List.set_cons_zero, List.set_cons_succ]
  refine wpAnyG_all (rs := [14]) (by kernel_rfl) (by simp) ?_
  intro i hi
  simp only [List.mem_cons, List.not_mem_nil, or_false] at hi
  subst hi
  refine wpOp_now rfl rfl ?_
  go_simp
  refine ⟨fun h => (by cases h), ?_⟩
  try simp only [Act.put, List.getElem_toArray, List.getElem_cons_zero, List.getElem_cons_succ, List.setIfInBounds_toArray, List.set_cons_zero, List.set_cons_succ]
  refine wpAnyG_done (by kernel_rfl) ?_ _
  have z := (hgr.trans ((grown_none T0).but (some G))).trans hg2
  have zr := hrow.mono (Nat.le_trans hgr.size T0.size)
  go_wp2
  go_ret
  exact ⟨v, rfl, zr, z, h2⟩
end Go.Proofs.Ytgpnheaefagfiaa
