/- The document's Pieces of layer 5. -/
import Derived.Test.YtnbhdgbhmcbeoaaDw
import Derived.Test.YtnbhdgbhmcbeoaaRp5
import Derived.Test.YtnbhdgbhmcbeoaaCd4
import Derived.Test.YtnbhdgbhmcbeoaaKa
namespace Go.Proofs.Ytnbhdgbhmcbeoaa
set_option linter.unusedVariables false
set_option linter.unusedSimpArgs false
open Go Go.RowKit Go.Shelf
set_option maxRecDepth 100000

/-- Cells of five each: a piece, its kind, whether it is a joiner, its columns. -/
def q5 (s : ByteArray) (l : List Nat) : List Value := l.flatMap fun i => [.int .i64 (i : Nat), .int .i64 (i + wd s i : Nat), .int .i64 (kdc s i : Nat), .bool (rn s i == 8205), .int .i64 (colc s i : Nat)]
theorem q5_app (s : ByteArray) (a b : List Nat) : q5 s (a ++ b) = q5 s a ++ q5 s b := by simp [q5]
theorem q5_len (s : ByteArray) (l : List Nat) : (q5 s l).length = l.length * 5 := by
  induction l with
  | nil => rfl
  | cons x l ih => rw [show q5 s (x :: l) = q5 s [x] ++ q5 s l from q5_app s [x] l, List.length_append, ih, List.length_cons]; simp [q5]; omega
theorem q5_get (s : ByteArray) : ∀ {l : List Nat} {k : Nat} {i : Nat}, l[k]? = some i → (q5 s l)[k * 5]? = some (.int .i64 (i : Nat)) ∧ (q5 s l)[k * 5 + 1]? = some (.int .i64 (i + wd s i : Nat)) ∧ (q5 s l)[k * 5 + 2]? = some (.int .i64 (kdc s i : Nat)) ∧ (q5 s l)[k * 5 + 3]? = some (.bool (rn s i == 8205)) ∧ (q5 s l)[k * 5 + 4]? = some (.int .i64 (colc s i : Nat))
  | y :: l, 0, i, h => by
    have h : y = i := by simpa using h
    subst h
    exact ⟨rfl, rfl, rfl, rfl, rfl⟩
  | y :: l, k + 1, i, h => by
    have h : l[k]? = some i := by simpa using h
    have := q5_get s h
    have e : q5 s (y :: l) = .int .i64 (y : Nat) :: .int .i64 (y + wd s y : Nat) :: .int .i64 (kdc s y : Nat) :: .bool (rn s y == 8205) :: .int .i64 (colc s y : Nat) :: q5 s l := rfl
    rw [e, show (k + 1) * 5 = k * 5 + 1 + 1 + 1 + 1 + 1 by omega]
    simp only [List.getElem?_cons_succ, Nat.add_right_comm _ 1]
    exact ⟨this.1, this.2.1, this.2.2.1, this.2.2.2.1, this.2.2.2.2⟩
theorem q4_get : ∀ {l : List (Nat × Nat × Nat)} {k : Nat} {x : Nat × Nat × Nat}, l[k]? = some x → (q4 l)[k * 3]? = some (.int .i64 (x.1 : Nat)) ∧ (q4 l)[k * 3 + 1]? = some (.int .i64 (x.2.1 : Nat)) ∧ (q4 l)[k * 3 + 2]? = some (.int .i32 (x.2.2 : Nat))
  | y :: l, 0, x, h => by
    have h : y = x := by simpa using h
    subst h
    exact ⟨rfl, rfl, rfl⟩
  | y :: l, k + 1, x, h => by
    have h : l[k]? = some x := by simpa using h
    have := q4_get h
    have e : q4 (y :: l) = .int .i64 (y.1 : Nat) :: .int .i64 (y.2.1 : Nat) :: .int .i32 (y.2.2 : Nat) :: q4 l := rfl
    rw [e, show (k + 1) * 3 = k * 3 + 1 + 1 + 1 by omega]
    simp only [List.getElem?_cons_succ, Nat.add_right_comm _ 1]
    exact ⟨this.1, this.2.1, this.2.2⟩
theorem infoP5 : (Try.prog.info? 71).map (fun i => (i.zero, i.size, i.bytes)) = some (some (.agg #[.int .i64 0, .int .i64 0, .int .i64 0, .bool false, .int .i64 0]), 5, 40) := by kernel_rfl
theorem own_far {X : World} {base sz n B : Nat} {e : TypeId} {v : Value} {xs : List Value} (h : X.ownsRow base e sz v n xs) (hB : ∀ g, v.ownBlock = some g → g ≠ B) (o : Nat) (u : Value) : (X.setCell ⟨B, o, none⟩ u).ownsRow base e sz v n xs :=
  own_same h (fun g hg => Below.heap_setCell X ⟨B, o, none⟩ u g (by dsimp only; exact hB g hg))
theorem own_low {X : World} {base b2 sz n : Nat} {e : TypeId} {v : Value} {xs : List Value} (h : X.ownsRow base e sz v n xs) (hb : b2 ≤ base) : X.ownsRow b2 e sz v n xs :=
  ⟨h.1, h.2.imp id (fun ⟨g, cap, cur, e1, h1, r⟩ => ⟨g, cap, cur, e1, Nat.le_trans hb h1, r⟩)⟩
theorem at_other {W : World} {b B i : Nat} {v : Value} (h : W.cell? ⟨b, i, none⟩ = some v) (hn : b ≠ B) (o : Nat) (u : Value) : (W.setCell ⟨B, o, none⟩ u).cell? ⟨b, i, none⟩ = some v :=
  (World.cell?_of_block (w := W) (Below.heap_setCell W ⟨B, o, none⟩ u b (by dsimp only; exact hn))).trans h
theorem piece_case (s : ByteArray) (p : Nat) (hps : p < s.size) {wp' rp : Nat} (hwp : wd s p = wp') (hrp : rn s p = rp) :
    (((rp : Int) == 65533) = true ∧ ((wp' : Int) == 1) = true ∧ q5 s [p] = [.int .i64 p, .int .i64 ((p : Int) + (wp' : Int)), .int .i64 11, .bool false, .int .i64 1]) ∨
          ∃ (kd : Nat) (bj : Bool) (cl : Nat), kindZ (rp : Int) = (kd : Int) ∧ ((rp : Int) == 8205) = bj ∧ colc s p = cl ∧ q5 s [p] = [.int .i64 p, .int .i64 ((p : Int) + (wp' : Int)), .int .i64 (kd : Int), .bool bj, .int .i64 (cl : Int)] ∧
            (((rp : Int) == 65533) = false ∨ (((rp : Int) == 65533) = true ∧ ((wp' : Int) == 1) = false)) ∧
            ((bj = true ∧ cl = 0) ∨ (bj = false ∧ (((kd : Int) == 2) = true ∧ cl = 0 ∨ ((kd : Int) == 2) = false ∧ (((kd : Int) == 4) = true ∧ cl = 0 ∨ ((kd : Int) == 4) = false ∧ (((kd : Int) == 9) = true ∧ cl = 0 ∨ ((kd : Int) == 9) = false ∧ (wideZ (rp : Int) = true ∧ cl = 2 ∨ wideZ (rp : Int) = false ∧ cl = 1)))))) := by
  cases hb : bk s p with
  | true =>
    obtain ⟨h1, h2⟩ := bk_rn s p hb
    have h3 : kdc s p = 11 := by unfold kdc; rw [hb]; rfl
    have h4 : colc s p = 1 := by unfold colc; rw [h3]; rfl
    left
    refine ⟨by rw [← hrp, h1]; rfl, by rw [← hwp, h2]; rfl, ?_⟩
    simp only [q5, List.flatMap_cons, List.flatMap_nil, List.append_nil, h3, h4, h1, ← hwp]
    push_cast
    rfl
  | false =>
    have hkd : kdc s p = (kindZ (rp : Int)).toNat := by unfold kdc; rw [hb, hrp]; rfl
    have hk0 := kindZ_nn (rp : Int)
    have hk10 := kindZ_le (rp : Int)
    have hkd2 : kindZ (rp : Int) = (kdc s p : Int) := by rw [hkd]; omega
    have hco : colc s p = if kdc s p = 2 ∨ kdc s p = 4 ∨ kdc s p = 9 then 0 else if wideZ (rp : Int) then 2 else 1 := by
      unfold colc colZ; rw [if_neg (by omega), hrp]
    have hj9 : rp = 8205 → kdc s p = 9 := fun h => by rw [hkd, h]; rfl
    right
    refine ⟨kdc s p, ((rp : Int) == 8205), colc s p, hkd2, rfl, rfl, ?_, ?_, ?_⟩
    · simp only [q5, List.flatMap_cons, List.flatMap_nil, List.append_nil, hwp, hrp]
      push_cast
      have e : (rp == 8205) = ((rp : Int) == 8205) := by
        rw [Bool.eq_iff_iff, beq_iff_eq, beq_iff_eq]; omega
      rw [e]
    · by_cases h : rp = 65533
      · right
        have h3 : wd s p = 3 := by rw [← wid_rn s p hps hb, hrp, h]; rfl
        exact ⟨by rw [h]; rfl, by rw [← hwp, h3]; rfl⟩
      · left; rw [beq_eq_false_iff_ne]; omega
    · rw [hco]
      by_cases hj : rp = 8205
      · left
        exact ⟨by rw [hj]; rfl, by rw [hj9 hj]; rfl⟩
      · right
        refine ⟨by rw [beq_eq_false_iff_ne]; omega, ?_⟩
        by_cases k2 : kdc s p = 2
        · exact .inl ⟨by rw [k2]; rfl, by rw [k2]; rfl⟩
        · refine .inr ⟨by rw [beq_eq_false_iff_ne]; omega, ?_⟩
          by_cases k4 : kdc s p = 4
          · exact .inl ⟨by rw [k4]; rfl, by rw [k4]; rfl⟩
          · refine .inr ⟨by rw [beq_eq_false_iff_ne]; omega, ?_⟩
            by_cases k9 : kdc s p = 9
            · exact .inl ⟨by rw [k9]; rfl, by rw [k9]; rfl⟩
            · refine .inr ⟨by rw [beq_eq_false_iff_ne]; omega, ?_⟩
              rw [if_neg (by omega)]
              cases hw : wideZ (rp : Int) with
              | true => exact .inl ⟨rfl, rfl⟩
              | false => exact .inr ⟨rfl, rfl⟩
/-- The document's pieces, as they can be read. -/
def PcR (s : ByteArray) (w1 : World) (o : Option Addr) (L : List Nat) : Prop := ∀ k p, L[k]? = some p → ∃ g, o = some ⟨g, 0, none⟩ ∧ w1.cell? ⟨g, k * 3, none⟩ = some (.int .i64 (p : Nat)) ∧ w1.cell? ⟨g, k * 3 + 1, none⟩ = some (.int .i64 (wd s p : Nat)) ∧ w1.cell? ⟨g, k * 3 + 2, none⟩ = some (.int .i32 (rn s p : Nat))
def P5Rel (s : ByteArray) (L : List Nat) (w1 : World) (i v : Value) (wr : World) : Prop := ∃ k : Nat, i = .int .i64 k ∧ k ≤ L.length ∧ wr.ownsRow w1.heap.size 71 5 v k (q5 s (L.take k)) ∧ Below w1.heap.size w1 wr

set_option maxHeartbeats 4000000 in
theorem pieces5_any (s : ByteArray) (hs : s.size ≤ 2147483647) (w : World) :
    Calls Try.prog 41 #[.string s] w fun e w' => ∃ v, e = .returned v ∧ w'.ownsRow w.heap.size 71 5 v (posns s).length (q5 s (posns s)) ∧ Below w.heap.size w w' := by
  obtain ⟨i0, hi, hz0, hz1, hz2⟩ := info_parts infoP5
  go_enter Try.func41, Try.ntmps41
  go_wp2_with (fail)
  refine (piecesD_any s hs _).mono ?_
  rintro e w1 ⟨vl, rfl, hl, hb1⟩
  obtain ⟨o, cap, rfl, ho⟩ := own_slice hl
  have hpc : PcR s w1 o (posns s) := by
    intro k p hp
    have hk := (List.getElem?_eq_some_iff.1 hp).1
    obtain ⟨g, rfl⟩ := ho (by omega)
    have hm : ((posns s).map (pHalf s))[k]? = some (pHalf s p) := by rw [List.getElem?_map, hp]; rfl
    obtain ⟨r0, r1, r2⟩ := q4_get hm
    exact ⟨g, rfl, (hl.cellAt _ (by omega)).trans r0, (hl.cellAt _ (by omega)).trans r1, (hl.cellAt _ (by omega)).trans r2⟩
  have hpl := posns_len s
  have hpm : ∀ p ∈ posns s, p < s.size := fun p hp => (posG_ge s 0 p (by rw [← posns_G]; exact hp)).2
  obtain ⟨L, hL⟩ : ∃ L, posns s = L := ⟨_, rfl⟩
  rw [hL] at hl hpc hpl hpm ⊢
  have HL := Lib.hid hL
  clear hL hl ho
  obtain ⟨n, hn⟩ : ∃ n, L.length = n := ⟨_, rfl⟩
  have H := Lib.hid (And.intro hn (And.intro hpc (And.intro hpm hb1)))
  rw [hn] at hpl ⊢
  clear hpc hpm hb1 hn
  go_wp2
  go_loopw [5, 4] (fun i v wr => P5Rel s L w1 i v wr) (fun i _ _ => n - (intOf i).toNat)
  case atStart => exact ⟨0, rfl, Nat.zero_le _, World.ownsRow_nil _ _ _ _, Below.refl _ _⟩
  case round =>
    obtain ⟨k, rfl, hk, hown, hB⟩ := hrel
    rw [H.out.1] at hk
    obtain ⟨o4, cap4, rfl, ho4⟩ := own_slice hown
    by_cases hlt : k < n
    · have i1 : (k : Int) < (n : Int) := by omega
      have i2 : (0 : Int) ≤ (k : Int) := by omega
      have i3 : decide ((k : Int) < (n : Int)) = true := decide_eq_true i1
      obtain ⟨p, hp⟩ : ∃ p, L[k]? = some p := ⟨_, List.getElem?_eq_getElem (by rw [H.out.1]; exact hlt)⟩
      have hps := H.out.2.2.1 p (List.mem_of_getElem? hp)
      obtain ⟨g, rfl, c0, c1, c2⟩ := H.out.2.1 k p hp
      have hwf := wd_fits s p hps
      have c0 := at_below c0 hB
      have hgl := lt_cell c0
      have c1 := at_below c1 hB
      have c2 := at_below c2 hB
      obtain ⟨wp', hwp⟩ : ∃ x, wd s p = x := ⟨_, rfl⟩
      obtain ⟨rp, hrp⟩ : ∃ x, rn s p = x := ⟨_, rfl⟩
      rw [hwp] at c1 hwf
      rw [hrp] at c2
      have j1 : IntKind.i64.wrap ((p : Int) + (wp' : Int)) = (p : Int) + (wp' : Int) := IntWalk.i64_in _ (by omega)
      have hcase : (((rp : Int) == 65533) = true ∧ ((wp' : Int) == 1) = true ∧ q5 s [p] = [.int .i64 p, .int .i64 ((p : Int) + (wp' : Int)), .int .i64 11, .bool false, .int .i64 1]) ∨
          ∃ (kd : Nat) (bj : Bool) (cl : Nat), kindZ (rp : Int) = (kd : Int) ∧ ((rp : Int) == 8205) = bj ∧ colc s p = cl ∧ q5 s [p] = [.int .i64 p, .int .i64 ((p : Int) + (wp' : Int)), .int .i64 (kd : Int), .bool bj, .int .i64 (cl : Int)] ∧
            (((rp : Int) == 65533) = false ∨ (((rp : Int) == 65533) = true ∧ ((wp' : Int) == 1) = false)) ∧
            ((bj = true ∧ cl = 0) ∨ (bj = false ∧ (((kd : Int) == 2) = true ∧ cl = 0 ∨ ((kd : Int) == 2) = false ∧ (((kd : Int) == 4) = true ∧ cl = 0 ∨ ((kd : Int) == 4) = false ∧ (((kd : Int) == 9) = true ∧ cl = 0 ∨ ((kd : Int) == 9) = false ∧ (wideZ (rp : Int) = true ∧ cl = 2 ∨ wideZ (rp : Int) = false ∧ cl = 1)))))) := by
        exact piece_case s p hps hwp hrp
      go_wp2
      refine wp_region_noPanic ?_
      refine wp_region_g (S := untilG [] (fun Y => Below wr.heap.size wr Y)) (by kernel_rfl) ?_
      obtain ⟨X0, hX0⟩ : ∃ Y, wr.drew = Y := ⟨_, rfl⟩
      have T0 : Below wr.heap.size wr X0 := hX0 ▸ (Below.refl wr.heap.size wr).drew
      have hX0s := T0.size
      rw [hX0]
      clear hX0
      refine wpAnyG_take [0, 2, 3, 4, 16, 17, 19] (i := 0) (v := (.slice (some ⟨g, 0, none⟩) n cap)) rfl (by kernel_rfl) (by kernel_rfl) (by kernel_rfl) (by kernel_rfl) (by kernel_rfl) (by kernel_rfl) (by kernel_rfl) (by kernel_rfl) (fun _ _ _ h => h) (Or.inl ⟨by rfl, ?hy⟩) T0 ?_
      case hy =>
        intro X hX
        go_simp
      try simp only [Act.put, List.getElem_toArray, List.getElem_cons_zero, List.getElem_cons_succ, List.setIfInBounds_toArray, List.set_cons_zero, List.set_cons_succ]
      refine wpAnyG_take [1, 2, 3, 4, 16, 17, 19] (i := 1) (v := (.int .i64 k)) rfl (by kernel_rfl) (by kernel_rfl) (by kernel_rfl) (by kernel_rfl) (by kernel_rfl) (by kernel_rfl) (by kernel_rfl) (by kernel_rfl) (fun _ _ _ h => h) (Or.inl ⟨by rfl, ?hy⟩) T0 ?_
      case hy =>
        intro X hX
        go_simp
      try simp only [Act.put, List.getElem_toArray, List.getElem_cons_zero, List.getElem_cons_succ, List.setIfInBounds_toArray, List.set_cons_zero, List.set_cons_succ]
      refine wpAnyG_take [2, 3, 4, 16, 17, 19] (i := 2) (v := (.pointer (some ⟨g, k * 3, none⟩))) rfl (by kernel_rfl) (by kernel_rfl) (by kernel_rfl) (by kernel_rfl) (by kernel_rfl) (by kernel_rfl) (by kernel_rfl) (by kernel_rfl) (fun _ _ _ h => h) (Or.inl ⟨by rfl, ?hy⟩) T0 ?_
      case hy =>
        intro X hX
        go_simp
      try simp only [Act.put, List.getElem_toArray, List.getElem_cons_zero, List.getElem_cons_succ, List.setIfInBounds_toArray, List.set_cons_zero, List.set_cons_succ]
      refine wpAnyG_take [3, 4, 16, 17, 19] (i := 3) (v := (.pointer (some ⟨g, k * 3, none⟩))) rfl (by kernel_rfl) (by kernel_rfl) (by kernel_rfl) (by kernel_rfl) (by kernel_rfl) (by kernel_rfl) (by kernel_rfl) (by kernel_rfl) (fun _ _ _ h => h) (Or.inl ⟨by rfl, ?hy⟩) T0 ?_
      case hy =>
        intro X hX
        go_simp
      try simp only [Act.put, List.getElem_toArray, List.getElem_cons_zero, List.getElem_cons_succ, List.setIfInBounds_toArray, List.set_cons_zero, List.set_cons_succ]
      refine wpAnyG_take [4, 16, 17, 19] (i := 4) (v := (.int .i64 p)) rfl (by kernel_rfl) (by kernel_rfl) (by kernel_rfl) (by kernel_rfl) (by kernel_rfl) (by kernel_rfl) (by kernel_rfl) (by kernel_rfl) (fun _ _ _ h => h) (Or.inl ⟨by rfl, ?hy⟩) T0 ?_
      case hy =>
        intro X hX
        have e0 := at_below c0 hX
        go_simp
      try simp only [Act.put, List.getElem_toArray, List.getElem_cons_zero, List.getElem_cons_succ, List.setIfInBounds_toArray, List.set_cons_zero, List.set_cons_succ]
      refine wpAnyG_take [5, 7, 8, 9, 15, 16, 17, 19] (i := 5) (v := (.slice (some ⟨g, 0, none⟩) n cap)) rfl (by kernel_rfl) (by kernel_rfl) (by kernel_rfl) (by kernel_rfl) (by kernel_rfl) (by kernel_rfl) (by kernel_rfl) (by kernel_rfl) (fun _ _ _ h => h) (Or.inl ⟨by rfl, ?hy⟩) T0 ?_
      case hy =>
        intro X hX
        go_simp
      try simp only [Act.put, List.getElem_toArray, List.getElem_cons_zero, List.getElem_cons_succ, List.setIfInBounds_toArray, List.set_cons_zero, List.set_cons_succ]
      refine wpAnyG_take [6, 7, 8, 9, 15, 16, 17, 19] (i := 6) (v := (.int .i64 k)) rfl (by kernel_rfl) (by kernel_rfl) (by kernel_rfl) (by kernel_rfl) (by kernel_rfl) (by kernel_rfl) (by kernel_rfl) (by kernel_rfl) (fun _ _ _ h => h) (Or.inl ⟨by rfl, ?hy⟩) T0 ?_
      case hy =>
        intro X hX
        go_simp
      try simp only [Act.put, List.getElem_toArray, List.getElem_cons_zero, List.getElem_cons_succ, List.setIfInBounds_toArray, List.set_cons_zero, List.set_cons_succ]
      refine wpAnyG_take [7, 8, 9, 15, 16, 17, 19] (i := 7) (v := (.pointer (some ⟨g, k * 3, none⟩))) rfl (by kernel_rfl) (by kernel_rfl) (by kernel_rfl) (by kernel_rfl) (by kernel_rfl) (by kernel_rfl) (by kernel_rfl) (by kernel_rfl) (fun _ _ _ h => h) (Or.inl ⟨by rfl, ?hy⟩) T0 ?_
      case hy =>
        intro X hX
        go_simp
      try simp only [Act.put, List.getElem_toArray, List.getElem_cons_zero, List.getElem_cons_succ, List.setIfInBounds_toArray, List.set_cons_zero, List.set_cons_succ]
      refine wpAnyG_take [8, 9, 15, 16, 17, 19] (i := 8) (v := (.pointer (some ⟨g, k * 3, none⟩))) rfl (by kernel_rfl) (by kernel_rfl) (by kernel_rfl) (by kernel_rfl) (by kernel_rfl) (by kernel_rfl) (by kernel_rfl) (by kernel_rfl) (fun _ _ _ h => h) (Or.inl ⟨by rfl, ?hy⟩) T0 ?_
      case hy =>
        intro X hX
        go_simp
      try simp only [Act.put, List.getElem_toArray, List.getElem_cons_zero, List.getElem_cons_succ, List.setIfInBounds_toArray, List.set_cons_zero, List.set_cons_succ]
      refine wpAnyG_take [9, 15, 16, 17, 19] (i := 9) (v := (.int .i64 p)) rfl (by kernel_rfl) (by kernel_rfl) (by kernel_rfl) (by kernel_rfl) (by kernel_rfl) (by kernel_rfl) (by kernel_rfl) (by kernel_rfl) (fun _ _ _ h => h) (Or.inl ⟨by rfl, ?hy⟩) T0 ?_
      case hy =>
        intro X hX
        have e0 := at_below c0 hX
        go_simp
      try simp only [Act.put, List.getElem_toArray, List.getElem_cons_zero, List.getElem_cons_succ, List.setIfInBounds_toArray, List.set_cons_zero, List.set_cons_succ]
      refine wpAnyG_take [10, 12, 13, 14, 15, 16, 17, 19] (i := 10) (v := (.slice (some ⟨g, 0, none⟩) n cap)) rfl (by kernel_rfl) (by kernel_rfl) (by kernel_rfl) (by kernel_rfl) (by kernel_rfl) (by kernel_rfl) (by kernel_rfl) (by kernel_rfl) (fun _ _ _ h => h) (Or.inl ⟨by rfl, ?hy⟩) T0 ?_
      case hy =>
        intro X hX
        go_simp
      try simp only [Act.put, List.getElem_toArray, List.getElem_cons_zero, List.getElem_cons_succ, List.setIfInBounds_toArray, List.set_cons_zero, List.set_cons_succ]
      refine wpAnyG_take [11, 12, 13, 14, 15, 16, 17, 19] (i := 11) (v := (.int .i64 k)) rfl (by kernel_rfl) (by kernel_rfl) (by kernel_rfl) (by kernel_rfl) (by kernel_rfl) (by kernel_rfl) (by kernel_rfl) (by kernel_rfl) (fun _ _ _ h => h) (Or.inl ⟨by rfl, ?hy⟩) T0 ?_
      case hy =>
        intro X hX
        go_simp
      try simp only [Act.put, List.getElem_toArray, List.getElem_cons_zero, List.getElem_cons_succ, List.setIfInBounds_toArray, List.set_cons_zero, List.set_cons_succ]
      refine wpAnyG_take [12, 13, 14, 15, 16, 17, 19] (i := 12) (v := (.pointer (some ⟨g, k * 3, none⟩))) rfl (by kernel_rfl) (by kernel_rfl) (by kernel_rfl) (by kernel_rfl) (by kernel_rfl) (by kernel_rfl) (by kernel_rfl) (by kernel_rfl) (fun _ _ _ h => h) (Or.inl ⟨by rfl, ?hy⟩) T0 ?_
      case hy =>
        intro X hX
        go_simp
      try simp only [Act.put, List.getElem_toArray, List.getElem_cons_zero, List.getElem_cons_succ, List.setIfInBounds_toArray, List.set_cons_zero, List.set_cons_succ]
      refine wpAnyG_take [13, 14, 15, 16, 17, 19] (i := 13) (v := (.pointer (some ⟨g, k * 3 + 1, none⟩))) rfl (by kernel_rfl) (by kernel_rfl) (by kernel_rfl) (by kernel_rfl) (by kernel_rfl) (by kernel_rfl) (by kernel_rfl) (by kernel_rfl) (fun _ _ _ h => h) (Or.inl ⟨by rfl, ?hy⟩) T0 ?_
      case hy =>
        intro X hX
        go_simp
      try simp only [Act.put, List.getElem_toArray, List.getElem_cons_zero, List.getElem_cons_succ, List.setIfInBounds_toArray, List.set_cons_zero, List.set_cons_succ]
      refine wpAnyG_take [14, 15, 16, 17, 19] (i := 14) (v := (.int .i64 wp')) rfl (by kernel_rfl) (by kernel_rfl) (by kernel_rfl) (by kernel_rfl) (by kernel_rfl) (by kernel_rfl) (by kernel_rfl) (by kernel_rfl) (fun _ _ _ h => h) (Or.inl ⟨by rfl, ?hy⟩) T0 ?_
      case hy =>
        intro X hX
        have e0 := at_below c1 hX
        go_simp
      try simp only [Act.put, List.getElem_toArray, List.getElem_cons_zero, List.getElem_cons_succ, List.setIfInBounds_toArray, List.set_cons_zero, List.set_cons_succ]
      refine wpAnyG_take [15, 16, 17, 19] (i := 15) (v := (.int .i64 ((p : Int) + (wp' : Int)))) rfl (by kernel_rfl) (by kernel_rfl) (by kernel_rfl) (by kernel_rfl) (by kernel_rfl) (by kernel_rfl) (by kernel_rfl) (by kernel_rfl) (fun _ _ _ h => h) (Or.inl ⟨by rfl, ?hy⟩) T0 ?_
      case hy =>
        intro X hX
        go_simp
      try simp only [Act.put, List.getElem_toArray, List.getElem_cons_zero, List.getElem_cons_succ, List.setIfInBounds_toArray, List.set_cons_zero, List.set_cons_succ]
      refine wpAnyG_take [16, 17, 19] (i := 16) (v := (.agg #[.int .i64 p, .int .i64 ((p : Int) + (wp' : Int))])) rfl (by kernel_rfl) (by kernel_rfl) (by kernel_rfl) (by kernel_rfl) (by kernel_rfl) (by kernel_rfl) (by kernel_rfl) (by kernel_rfl) (fun _ _ _ h => h) (Or.inl ⟨by rfl, ?hy⟩) T0 ?_
      case hy =>
        intro X hX
        go_simp
      try simp only [Act.put, List.getElem_toArray, List.getElem_cons_zero, List.getElem_cons_succ, List.setIfInBounds_toArray, List.set_cons_zero, List.set_cons_succ]
      refine wpAnyG_take [17, 19] (i := 17) (v := (.agg #[.int .i64 p, .int .i64 ((p : Int) + (wp' : Int)), .int .i64 0, .bool false, .int .i64 1])) rfl (by kernel_rfl) (by kernel_rfl) (by kernel_rfl) (by kernel_rfl) (by kernel_rfl) (by kernel_rfl) (by kernel_rfl) (by kernel_rfl) (fun _ _ _ h => h) (Or.inl ⟨by rfl, ?hy⟩) T0 ?_
      case hy =>
        intro X hX
        go_simp
      try simp only [Act.put, List.getElem_toArray, List.getElem_cons_zero, List.getElem_cons_succ, List.setIfInBounds_toArray, List.set_cons_zero, List.set_cons_succ]
      refine wpAnyG_all (rs := [18]) (by kernel_rfl) (by simp) ?_
      intro i hi
      simp only [List.mem_cons, List.not_mem_nil, or_false] at hi
      subst hi
      refine wpOp_now rfl rfl ?_
      go_simp
      have bz := Blk.new X0 #[.int .i64 0, .int .i64 0, .int .i64 0, .bool false, .int .i64 0] 71
      replace T0 := T0.alloc T0.size (.cells #[.int .i64 0, .int .i64 0, .int .i64 0, .bool false, .int .i64 0] 71)
      obtain ⟨B, hBn⟩ : ∃ B, X0.heap.size = B := ⟨_, rfl⟩
      obtain ⟨X1, hX1⟩ : ∃ X1, X0.alloc (.cells #[.int .i64 0, .int .i64 0, .int .i64 0, .bool false, .int .i64 0] 71) = X1 := ⟨_, rfl⟩
      rw [hBn] at bz
      rw [hX1] at bz T0 ⊢
      rw [hBn]
      have hBw : wr.heap.size ≤ B := by rw [← hBn]; exact hX0s
      clear hX1 hBn
      refine ⟨fun _ => T0, ?_⟩
      try simp only [Act.put, List.getElem_toArray, List.getElem_cons_zero, List.getElem_cons_succ, List.setIfInBounds_toArray, List.set_cons_zero, List.set_cons_succ]
      have m0 := bz.cell 0
      have m1 := bz.cell 1
      have m2 := bz.cell 2
      have m3 := bz.cell 3
      have m4 := bz.cell 4
      have mf := bz.frozen
      simp only [List.getElem?_toArray, List.getElem?_cons_succ, List.getElem?_cons_zero] at m0 m1 m2 m3 m4
      refine wpAnyG_all (rs := [19]) (by kernel_rfl) (by simp) ?_
      intro i hi
      simp only [List.mem_cons, List.not_mem_nil, or_false] at hi
      subst hi
      refine wpOp_now rfl rfl ?_
      go_simp
      have q := ((((bz.set 0 (.int .i64 (p : Int))).set 1 (.int .i64 ((p : Int) + (wp' : Int)))).set 2 (.int .i64 0)).set 3 (.bool false)).set 4 (.int .i64 1)
      simp only [List.setIfInBounds_toArray, List.set_cons_zero, List.set_cons_succ] at q
      replace T0 := ((((T0.setCell (p := ⟨B, 0, none⟩) hBw (.int .i64 (p : Int))).setCell (p := ⟨B, 1, none⟩) hBw (.int .i64 ((p : Int) + (wp' : Int)))).setCell (p := ⟨B, 2, none⟩) hBw (.int .i64 0)).setCell (p := ⟨B, 3, none⟩) hBw (.bool false)).setCell (p := ⟨B, 4, none⟩) hBw (.int .i64 1)
      obtain ⟨Z, hZ⟩ : ∃ Z, ((((X1.setCell ⟨B, 0, none⟩ (.int .i64 (p : Int))).setCell ⟨B, 1, none⟩ (.int .i64 ((p : Int) + (wp' : Int)))).setCell ⟨B, 2, none⟩ (.int .i64 0)).setCell ⟨B, 3, none⟩ (.bool false)).setCell ⟨B, 4, none⟩ (.int .i64 1) = Z := ⟨_, rfl⟩
      rw [hZ] at q T0 ⊢
      clear hZ bz m0 m1 m2 m3 m4 mf
      refine ⟨fun _ => T0, ?_⟩
      try simp only [Act.put, List.getElem_toArray, List.getElem_cons_zero, List.getElem_cons_succ, List.setIfInBounds_toArray, List.set_cons_zero, List.set_cons_succ]
      refine wpAnyG_done (by kernel_rfl) ?_ _
      refine NoPanic.normal ?_
      have c0 := at_below c0 T0
      have c1 := at_below c1 T0
      have c2 := at_below c2 T0
      have hownZ := own_below hown T0
      have hBZ := hB.trans (T0.mono hB.size)
      have hlB := q.lt
      have hgB : g ≠ B := by omega
      have hgo : ∀ g', (Value.slice o4 k cap4).ownBlock = some g' → g' ≠ B := fun g' e => by have := (hown.lt g' e).2; omega
      have hBw1 : w1.heap.size ≤ B := Nat.le_trans hB.size hBw
      have HT := Lib.hid (show L.take (k + 1) = L.take k ++ [p] by rw [List.take_add_one, hp]; rfl)
      have hks : k + 1 ≤ 2147483647 := by omega
      clear T0 hown hB hp hX0s hBw
      rcases hcase with ⟨eA, eB, hv⟩ | ⟨kd, bj, cl, hkd, hbj, hcl, hv, hA, hK⟩
      · have HV := Lib.hid hv
        have q1 := q.set 2 (.int .i64 11)
        simp only [List.setIfInBounds_toArray, List.set_cons_zero, List.set_cons_succ] at q1
        have u0 := q1.cell 0
        have u1 := q1.cell 1
        have u2 := q1.cell 2
        have u3 := q1.cell 3
        have u4 := q1.cell 4
        have uf := q1.frozen
        simp only [List.getElem?_toArray, List.getElem?_cons_succ, List.getElem?_cons_zero] at u0 u1 u2 u3 u4
        have v0 := q.cell 0
        have v1 := q.cell 1
        have v2 := q.cell 2
        have v3 := q.cell 3
        have v4 := q.cell 4
        have vf := q.frozen
        simp only [List.getElem?_toArray, List.getElem?_cons_succ, List.getElem?_cons_zero] at v0 v1 v2 v3 v4
        have own1 := own_far hownZ hgo 2 (.int .i64 11)
        have HB2 := Lib.hid (hBZ.setCell (p := ⟨B, 2, none⟩) hBw1 (.int .i64 11))
        clear q q1 hv hownZ hBZ
        have hnw : ((Z.setCell ⟨B, 2, none⟩ (.int .i64 11)).alloc (.cells #[.int .i64 p, .int .i64 ((p : Int) + (wp' : Int)), .int .i64 11, .bool false, .int .i64 1] 71)).heap[Z.heap.size]? = some (.cells #[.int .i64 p, .int .i64 ((p : Int) + (wp' : Int)), .int .i64 11, .bool false, .int .i64 1] 71 (0, 0)) := by
          have e : (Z.setCell ⟨B, 2, none⟩ (.int .i64 11)).heap.size = Z.heap.size := by simp
          rw [← e]; exact World.alloc_heap_new _ _
        have HNW := Lib.hid hnw
        clear hnw
        go_wp2_with (at_builtin; refine wpList_append_own _ rfl _ _ 68 rfl w1.heap.size 71 i0 (.agg #[.int .i64 0, .int .i64 0, .int .i64 0, .bool false, .int .i64 0]) 5 40 Try.underlying68 hi hz0 hz1 hz2 rfl (by decide) _ _ _ rfl (own1.alloc _) ⟨Z.heap.size, 0, none⟩ 1 1 [.int .i64 p, .int .i64 ((p : Int) + (wp' : Int)), .int .i64 11, .bool false, .int .i64 1] rfl rfl (World.news_of_block (cs := #[.int .i64 p, .int .i64 ((p : Int) + (wp' : Int)), .int .i64 11, .bool false, .int .i64 1]) (t := 71) (fr := (0, 0)) HNW.out) (fun x hx => by simp at hx; rcases hx with rfl | rfl | rfl | rfl | rfl <;> rfl) (by unfold maxLen; omega) (by omega) (by have := HB2.out.size; simp at this ⊢; omega) ?_; intro v' w2 hown' hgrow _)
        go_roundw
        case rel =>
          refine ⟨k + 1, by go_num, by rw [H.out.1]; omega, ?_, (HB2.out.alloc HB2.out.size _).grown hgrow (by have := HB2.out.size; simp at this ⊢; omega) (fun r e => own_ge (own1.alloc (.cells #[.int .i64 p, .int .i64 ((p : Int) + (wp' : Int)), .int .i64 11, .bool false, .int .i64 1] 71)) e)⟩
          rw [HT.out, q5_app]
          have e5 : q5 s [p] = [.int .i64 p, .int .i64 ((p : Int) + (wp' : Int)), .int .i64 11, .bool false, .int .i64 1] := HV.out
          rw [e5]
          exact hown'
        case measure => simp [intOf]; omega
      · have cK := kindD_any (rp : Int)
        rw [hkd] at cK
        have HV := Lib.hid hv
        have kn2 : (kd : Int) = kd := rfl
        have q1 := q.set 2 (.int .i64 (kd : Int))
        simp only [List.setIfInBounds_toArray, List.set_cons_zero, List.set_cons_succ] at q1
        have q2 := q1.set 3 (.bool bj)
        simp only [List.setIfInBounds_toArray, List.set_cons_zero, List.set_cons_succ] at q2
        have v0 := q.cell 0
        have v1 := q.cell 1
        have v2 := q.cell 2
        have v3 := q.cell 3
        have v4 := q.cell 4
        have vf := q.frozen
        simp only [List.getElem?_toArray, List.getElem?_cons_succ, List.getElem?_cons_zero] at v0 v1 v2 v3 v4
        have u0 := q1.cell 0
        have u1 := q1.cell 1
        have u2 := q1.cell 2
        have u3 := q1.cell 3
        have u4 := q1.cell 4
        have uf := q1.frozen
        simp only [List.getElem?_toArray, List.getElem?_cons_succ, List.getElem?_cons_zero] at u0 u1 u2 u3 u4
        have t0 := q2.cell 0
        have t1 := q2.cell 1
        have t2 := q2.cell 2
        have t3 := q2.cell 3
        have t4 := q2.cell 4
        have tf := q2.frozen
        simp only [List.getElem?_toArray, List.getElem?_cons_succ, List.getElem?_cons_zero] at t0 t1 t2 t3 t4
        have own1 := own_far hownZ hgo 2 (.int .i64 (kd : Int))
        have own2 := own_far own1 hgo 3 (.bool bj)
        have hB1 := (hBZ.setCell (p := ⟨B, 2, none⟩) hBw1 (.int .i64 (kd : Int))).setCell (p := ⟨B, 3, none⟩) hBw1 (.bool bj)
        have d2 := at_other c2 hgB 2 (.int .i64 (kd : Int))
        clear hv hownZ own1 hBZ q q1 hkd kn2
        rcases hA with eA | ⟨eA, eB⟩
        · rcases hK with ⟨rfl, rfl⟩ | ⟨rfl, ⟨k2, rfl⟩ | ⟨k2, ⟨k4, rfl⟩ | ⟨k4, ⟨k9, rfl⟩ | ⟨k9, ⟨hw, rfl⟩ | ⟨hw, rfl⟩⟩⟩⟩⟩
          · go_wp2_with (fail)
            refine (cK _).mono ?_
            rintro e w' ⟨rfl, rfl⟩
            have q3 := q2.set 4 (.int .i64 0)
            simp only [List.setIfInBounds_toArray, List.set_cons_zero, List.set_cons_succ] at q3
            have x0 := q3.cell 0
            have x1 := q3.cell 1
            have x2 := q3.cell 2
            have x3 := q3.cell 3
            have x4 := q3.cell 4
            have xf := q3.frozen
            simp only [List.getElem?_toArray, List.getElem?_cons_succ, List.getElem?_cons_zero] at x0 x1 x2 x3 x4
            have own3 := own_far own2 hgo 4 (.int .i64 0)
            have HB2 := Lib.hid (hB1.setCell (p := ⟨B, 4, none⟩) hBw1 (.int .i64 0))
            clear q2 q3 own2 hB1
            have hnw : ((((Z.setCell ⟨B, 2, none⟩ (.int .i64 (kd : Int))).setCell ⟨B, 3, none⟩ (.bool true)).setCell ⟨B, 4, none⟩ (.int .i64 0)).alloc (.cells #[.int .i64 p, .int .i64 ((p : Int) + (wp' : Int)), .int .i64 (kd : Int), .bool true, .int .i64 0] 71)).heap[Z.heap.size]? = some (.cells #[.int .i64 p, .int .i64 ((p : Int) + (wp' : Int)), .int .i64 (kd : Int), .bool true, .int .i64 0] 71 (0, 0)) := by
              have e : (((Z.setCell ⟨B, 2, none⟩ (.int .i64 (kd : Int))).setCell ⟨B, 3, none⟩ (.bool true)).setCell ⟨B, 4, none⟩ (.int .i64 0)).heap.size = Z.heap.size := by simp
              rw [← e]; exact World.alloc_heap_new _ _
            have HNW := Lib.hid hnw
            clear hnw
            go_wp2_with (at_builtin; refine wpList_append_own _ rfl _ _ 68 rfl w1.heap.size 71 i0 (.agg #[.int .i64 0, .int .i64 0, .int .i64 0, .bool false, .int .i64 0]) 5 40 Try.underlying68 hi hz0 hz1 hz2 rfl (by decide) _ _ _ rfl (own3.alloc _) ⟨Z.heap.size, 0, none⟩ 1 1 [.int .i64 p, .int .i64 ((p : Int) + (wp' : Int)), .int .i64 (kd : Int), .bool true, .int .i64 0] rfl rfl (World.news_of_block (cs := #[.int .i64 p, .int .i64 ((p : Int) + (wp' : Int)), .int .i64 (kd : Int), .bool true, .int .i64 0]) (t := 71) (fr := (0, 0)) HNW.out) (fun x hx => by simp at hx; rcases hx with rfl | rfl | rfl | rfl | rfl <;> rfl) (by unfold maxLen; omega) (by omega) (by have := HB2.out.size; simp at this ⊢; omega) ?_; intro v' w2 hown' hgrow _)
            go_roundw
            case rel =>
              refine ⟨k + 1, by go_num, by rw [H.out.1]; omega, ?_, (HB2.out.alloc HB2.out.size _).grown hgrow (by have := HB2.out.size; simp at this ⊢; omega) (fun r e => own_ge (own3.alloc (.cells #[.int .i64 p, .int .i64 ((p : Int) + (wp' : Int)), .int .i64 (kd : Int), .bool true, .int .i64 0] 71)) e)⟩
              rw [HT.out, q5_app]
              have e5 : q5 s [p] = [.int .i64 p, .int .i64 ((p : Int) + (wp' : Int)), .int .i64 (kd : Int), .bool true, .int .i64 0] := HV.out
              rw [e5]
              exact hown'
            case measure => simp [intOf]; omega
          · go_wp2_with (fail)
            refine (cK _).mono ?_
            rintro e w' ⟨rfl, rfl⟩
            have q3 := q2.set 4 (.int .i64 0)
            simp only [List.setIfInBounds_toArray, List.set_cons_zero, List.set_cons_succ] at q3
            have x0 := q3.cell 0
            have x1 := q3.cell 1
            have x2 := q3.cell 2
            have x3 := q3.cell 3
            have x4 := q3.cell 4
            have xf := q3.frozen
            simp only [List.getElem?_toArray, List.getElem?_cons_succ, List.getElem?_cons_zero] at x0 x1 x2 x3 x4
            have own3 := own_far own2 hgo 4 (.int .i64 0)
            have HB2 := Lib.hid (hB1.setCell (p := ⟨B, 4, none⟩) hBw1 (.int .i64 0))
            clear q2 q3 own2 hB1
            have hnw : ((((Z.setCell ⟨B, 2, none⟩ (.int .i64 (kd : Int))).setCell ⟨B, 3, none⟩ (.bool false)).setCell ⟨B, 4, none⟩ (.int .i64 0)).alloc (.cells #[.int .i64 p, .int .i64 ((p : Int) + (wp' : Int)), .int .i64 (kd : Int), .bool false, .int .i64 0] 71)).heap[Z.heap.size]? = some (.cells #[.int .i64 p, .int .i64 ((p : Int) + (wp' : Int)), .int .i64 (kd : Int), .bool false, .int .i64 0] 71 (0, 0)) := by
              have e : (((Z.setCell ⟨B, 2, none⟩ (.int .i64 (kd : Int))).setCell ⟨B, 3, none⟩ (.bool false)).setCell ⟨B, 4, none⟩ (.int .i64 0)).heap.size = Z.heap.size := by simp
              rw [← e]; exact World.alloc_heap_new _ _
            have HNW := Lib.hid hnw
            clear hnw
            go_wp2_with (at_builtin; refine wpList_append_own _ rfl _ _ 68 rfl w1.heap.size 71 i0 (.agg #[.int .i64 0, .int .i64 0, .int .i64 0, .bool false, .int .i64 0]) 5 40 Try.underlying68 hi hz0 hz1 hz2 rfl (by decide) _ _ _ rfl (own3.alloc _) ⟨Z.heap.size, 0, none⟩ 1 1 [.int .i64 p, .int .i64 ((p : Int) + (wp' : Int)), .int .i64 (kd : Int), .bool false, .int .i64 0] rfl rfl (World.news_of_block (cs := #[.int .i64 p, .int .i64 ((p : Int) + (wp' : Int)), .int .i64 (kd : Int), .bool false, .int .i64 0]) (t := 71) (fr := (0, 0)) HNW.out) (fun x hx => by simp at hx; rcases hx with rfl | rfl | rfl | rfl | rfl <;> rfl) (by unfold maxLen; omega) (by omega) (by have := HB2.out.size; simp at this ⊢; omega) ?_; intro v' w2 hown' hgrow _)
            go_roundw
            case rel =>
              refine ⟨k + 1, by go_num, by rw [H.out.1]; omega, ?_, (HB2.out.alloc HB2.out.size _).grown hgrow (by have := HB2.out.size; simp at this ⊢; omega) (fun r e => own_ge (own3.alloc (.cells #[.int .i64 p, .int .i64 ((p : Int) + (wp' : Int)), .int .i64 (kd : Int), .bool false, .int .i64 0] 71)) e)⟩
              rw [HT.out, q5_app]
              have e5 : q5 s [p] = [.int .i64 p, .int .i64 ((p : Int) + (wp' : Int)), .int .i64 (kd : Int), .bool false, .int .i64 0] := HV.out
              rw [e5]
              exact hown'
            case measure => simp [intOf]; omega
          · go_wp2_with (fail)
            refine (cK _).mono ?_
            rintro e w' ⟨rfl, rfl⟩
            have q3 := q2.set 4 (.int .i64 0)
            simp only [List.setIfInBounds_toArray, List.set_cons_zero, List.set_cons_succ] at q3
            have x0 := q3.cell 0
            have x1 := q3.cell 1
            have x2 := q3.cell 2
            have x3 := q3.cell 3
            have x4 := q3.cell 4
            have xf := q3.frozen
            simp only [List.getElem?_toArray, List.getElem?_cons_succ, List.getElem?_cons_zero] at x0 x1 x2 x3 x4
            have own3 := own_far own2 hgo 4 (.int .i64 0)
            have HB2 := Lib.hid (hB1.setCell (p := ⟨B, 4, none⟩) hBw1 (.int .i64 0))
            clear q2 q3 own2 hB1
            have hnw : ((((Z.setCell ⟨B, 2, none⟩ (.int .i64 (kd : Int))).setCell ⟨B, 3, none⟩ (.bool false)).setCell ⟨B, 4, none⟩ (.int .i64 0)).alloc (.cells #[.int .i64 p, .int .i64 ((p : Int) + (wp' : Int)), .int .i64 (kd : Int), .bool false, .int .i64 0] 71)).heap[Z.heap.size]? = some (.cells #[.int .i64 p, .int .i64 ((p : Int) + (wp' : Int)), .int .i64 (kd : Int), .bool false, .int .i64 0] 71 (0, 0)) := by
              have e : (((Z.setCell ⟨B, 2, none⟩ (.int .i64 (kd : Int))).setCell ⟨B, 3, none⟩ (.bool false)).setCell ⟨B, 4, none⟩ (.int .i64 0)).heap.size = Z.heap.size := by simp
              rw [← e]; exact World.alloc_heap_new _ _
            have HNW := Lib.hid hnw
            clear hnw
            go_wp2_with (at_builtin; refine wpList_append_own _ rfl _ _ 68 rfl w1.heap.size 71 i0 (.agg #[.int .i64 0, .int .i64 0, .int .i64 0, .bool false, .int .i64 0]) 5 40 Try.underlying68 hi hz0 hz1 hz2 rfl (by decide) _ _ _ rfl (own3.alloc _) ⟨Z.heap.size, 0, none⟩ 1 1 [.int .i64 p, .int .i64 ((p : Int) + (wp' : Int)), .int .i64 (kd : Int), .bool false, .int .i64 0] rfl rfl (World.news_of_block (cs := #[.int .i64 p, .int .i64 ((p : Int) + (wp' : Int)), .int .i64 (kd : Int), .bool false, .int .i64 0]) (t := 71) (fr := (0, 0)) HNW.out) (fun x hx => by simp at hx; rcases hx with rfl | rfl | rfl | rfl | rfl <;> rfl) (by unfold maxLen; omega) (by omega) (by have := HB2.out.size; simp at this ⊢; omega) ?_; intro v' w2 hown' hgrow _)
            go_roundw
            case rel =>
              refine ⟨k + 1, by go_num, by rw [H.out.1]; omega, ?_, (HB2.out.alloc HB2.out.size _).grown hgrow (by have := HB2.out.size; simp at this ⊢; omega) (fun r e => own_ge (own3.alloc (.cells #[.int .i64 p, .int .i64 ((p : Int) + (wp' : Int)), .int .i64 (kd : Int), .bool false, .int .i64 0] 71)) e)⟩
              rw [HT.out, q5_app]
              have e5 : q5 s [p] = [.int .i64 p, .int .i64 ((p : Int) + (wp' : Int)), .int .i64 (kd : Int), .bool false, .int .i64 0] := HV.out
              rw [e5]
              exact hown'
            case measure => simp [intOf]; omega
          · go_wp2_with (fail)
            refine (cK _).mono ?_
            rintro e w' ⟨rfl, rfl⟩
            have q3 := q2.set 4 (.int .i64 0)
            simp only [List.setIfInBounds_toArray, List.set_cons_zero, List.set_cons_succ] at q3
            have x0 := q3.cell 0
            have x1 := q3.cell 1
            have x2 := q3.cell 2
            have x3 := q3.cell 3
            have x4 := q3.cell 4
            have xf := q3.frozen
            simp only [List.getElem?_toArray, List.getElem?_cons_succ, List.getElem?_cons_zero] at x0 x1 x2 x3 x4
            have own3 := own_far own2 hgo 4 (.int .i64 0)
            have HB2 := Lib.hid (hB1.setCell (p := ⟨B, 4, none⟩) hBw1 (.int .i64 0))
            clear q2 q3 own2 hB1
            have hnw : ((((Z.setCell ⟨B, 2, none⟩ (.int .i64 (kd : Int))).setCell ⟨B, 3, none⟩ (.bool false)).setCell ⟨B, 4, none⟩ (.int .i64 0)).alloc (.cells #[.int .i64 p, .int .i64 ((p : Int) + (wp' : Int)), .int .i64 (kd : Int), .bool false, .int .i64 0] 71)).heap[Z.heap.size]? = some (.cells #[.int .i64 p, .int .i64 ((p : Int) + (wp' : Int)), .int .i64 (kd : Int), .bool false, .int .i64 0] 71 (0, 0)) := by
              have e : (((Z.setCell ⟨B, 2, none⟩ (.int .i64 (kd : Int))).setCell ⟨B, 3, none⟩ (.bool false)).setCell ⟨B, 4, none⟩ (.int .i64 0)).heap.size = Z.heap.size := by simp
              rw [← e]; exact World.alloc_heap_new _ _
            have HNW := Lib.hid hnw
            clear hnw
            go_wp2_with (at_builtin; refine wpList_append_own _ rfl _ _ 68 rfl w1.heap.size 71 i0 (.agg #[.int .i64 0, .int .i64 0, .int .i64 0, .bool false, .int .i64 0]) 5 40 Try.underlying68 hi hz0 hz1 hz2 rfl (by decide) _ _ _ rfl (own3.alloc _) ⟨Z.heap.size, 0, none⟩ 1 1 [.int .i64 p, .int .i64 ((p : Int) + (wp' : Int)), .int .i64 (kd : Int), .bool false, .int .i64 0] rfl rfl (World.news_of_block (cs := #[.int .i64 p, .int .i64 ((p : Int) + (wp' : Int)), .int .i64 (kd : Int), .bool false, .int .i64 0]) (t := 71) (fr := (0, 0)) HNW.out) (fun x hx => by simp at hx; rcases hx with rfl | rfl | rfl | rfl | rfl <;> rfl) (by unfold maxLen; omega) (by omega) (by have := HB2.out.size; simp at this ⊢; omega) ?_; intro v' w2 hown' hgrow _)
            go_roundw
            case rel =>
              refine ⟨k + 1, by go_num, by rw [H.out.1]; omega, ?_, (HB2.out.alloc HB2.out.size _).grown hgrow (by have := HB2.out.size; simp at this ⊢; omega) (fun r e => own_ge (own3.alloc (.cells #[.int .i64 p, .int .i64 ((p : Int) + (wp' : Int)), .int .i64 (kd : Int), .bool false, .int .i64 0] 71)) e)⟩
              rw [HT.out, q5_app]
              have e5 : q5 s [p] = [.int .i64 p, .int .i64 ((p : Int) + (wp' : Int)), .int .i64 (kd : Int), .bool false, .int .i64 0] := HV.out
              rw [e5]
              exact hown'
            case measure => simp [intOf]; omega
          · go_wp2_with (fail)
            refine (cK _).mono ?_
            rintro e w' ⟨rfl, rfl⟩
            go_wp2_with (fail)
            refine (wideD_any (rp : Int) _).mono ?_
            rintro e W5 ⟨rfl, hb5⟩
            rw [hw]
            have q6 := q2.below' hb5
            have own6 := own_below own2 hb5
            have hB6 := hB1.trans (hb5.mono hB1.size)
            have hgo6 := hgo
            have y0 := q6.cell 0
            have y1 := q6.cell 1
            have y2 := q6.cell 2
            have y3 := q6.cell 3
            have y4 := q6.cell 4
            have yf := q6.frozen
            simp only [List.getElem?_toArray, List.getElem?_cons_succ, List.getElem?_cons_zero] at y0 y1 y2 y3 y4
            have q7 := q6.set 4 (.int .i64 2)
            simp only [List.setIfInBounds_toArray, List.set_cons_zero, List.set_cons_succ] at q7
            have x0 := q7.cell 0
            have x1 := q7.cell 1
            have x2 := q7.cell 2
            have x3 := q7.cell 3
            have x4 := q7.cell 4
            have xf := q7.frozen
            simp only [List.getElem?_toArray, List.getElem?_cons_succ, List.getElem?_cons_zero] at x0 x1 x2 x3 x4
            have own7 := own_far own6 hgo 4 (.int .i64 2)
            have HB2 := Lib.hid (hB6.setCell (p := ⟨B, 4, none⟩) hBw1 (.int .i64 2))
            clear q2 q6 q7 own2 own6 hB1 hB6 hb5
            have hnw : ((W5.setCell ⟨B, 4, none⟩ (.int .i64 2)).alloc (.cells #[.int .i64 p, .int .i64 ((p : Int) + (wp' : Int)), .int .i64 (kd : Int), .bool false, .int .i64 2] 71)).heap[W5.heap.size]? = some (.cells #[.int .i64 p, .int .i64 ((p : Int) + (wp' : Int)), .int .i64 (kd : Int), .bool false, .int .i64 2] 71 (0, 0)) := by
              have e : (W5.setCell ⟨B, 4, none⟩ (.int .i64 2)).heap.size = W5.heap.size := by simp
              rw [← e]; exact World.alloc_heap_new _ _
            have HNW := Lib.hid hnw
            clear hnw
            go_wp2_with (at_builtin; refine wpList_append_own _ rfl _ _ 68 rfl w1.heap.size 71 i0 (.agg #[.int .i64 0, .int .i64 0, .int .i64 0, .bool false, .int .i64 0]) 5 40 Try.underlying68 hi hz0 hz1 hz2 rfl (by decide) _ _ _ rfl (own7.alloc _) ⟨W5.heap.size, 0, none⟩ 1 1 [.int .i64 p, .int .i64 ((p : Int) + (wp' : Int)), .int .i64 (kd : Int), .bool false, .int .i64 2] rfl rfl (World.news_of_block (cs := #[.int .i64 p, .int .i64 ((p : Int) + (wp' : Int)), .int .i64 (kd : Int), .bool false, .int .i64 2]) (t := 71) (fr := (0, 0)) HNW.out) (fun x hx => by simp at hx; rcases hx with rfl | rfl | rfl | rfl | rfl <;> rfl) (by unfold maxLen; omega) (by omega) (by have := HB2.out.size; simp at this ⊢; omega) ?_; intro v' w2 hown' hgrow _)
            go_roundw
            case rel =>
              refine ⟨k + 1, by go_num, by rw [H.out.1]; omega, ?_, (HB2.out.alloc HB2.out.size _).grown hgrow (by have := HB2.out.size; simp at this ⊢; omega) (fun r e => own_ge (own7.alloc (.cells #[.int .i64 p, .int .i64 ((p : Int) + (wp' : Int)), .int .i64 (kd : Int), .bool false, .int .i64 2] 71)) e)⟩
              rw [HT.out, q5_app]
              have e5 : q5 s [p] = [.int .i64 p, .int .i64 ((p : Int) + (wp' : Int)), .int .i64 (kd : Int), .bool false, .int .i64 2] := HV.out
              rw [e5]
              exact hown'
            case measure => simp [intOf]; omega
          · go_wp2_with (fail)
            refine (cK _).mono ?_
            rintro e w' ⟨rfl, rfl⟩
            go_wp2_with (fail)
            refine (wideD_any (rp : Int) _).mono ?_
            rintro e W5 ⟨rfl, hb5⟩
            rw [hw]
            have q6 := q2.below' hb5
            have own6 := own_below own2 hb5
            have hB6 := hB1.trans (hb5.mono hB1.size)
            have hgo6 := hgo
            have y0 := q6.cell 0
            have y1 := q6.cell 1
            have y2 := q6.cell 2
            have y3 := q6.cell 3
            have y4 := q6.cell 4
            have yf := q6.frozen
            simp only [List.getElem?_toArray, List.getElem?_cons_succ, List.getElem?_cons_zero] at y0 y1 y2 y3 y4
            have HB2 := Lib.hid hB6
            clear q2 q6 own2 hB1 hB6 hb5
            have hnw : (W5.alloc (.cells #[.int .i64 p, .int .i64 ((p : Int) + (wp' : Int)), .int .i64 (kd : Int), .bool false, .int .i64 1] 71)).heap[W5.heap.size]? = some (.cells #[.int .i64 p, .int .i64 ((p : Int) + (wp' : Int)), .int .i64 (kd : Int), .bool false, .int .i64 1] 71 (0, 0)) := by
              have e : W5.heap.size = W5.heap.size := by simp
              rw [← e]; exact World.alloc_heap_new _ _
            have HNW := Lib.hid hnw
            clear hnw
            go_wp2_with (at_builtin; refine wpList_append_own _ rfl _ _ 68 rfl w1.heap.size 71 i0 (.agg #[.int .i64 0, .int .i64 0, .int .i64 0, .bool false, .int .i64 0]) 5 40 Try.underlying68 hi hz0 hz1 hz2 rfl (by decide) _ _ _ rfl (own6.alloc _) ⟨W5.heap.size, 0, none⟩ 1 1 [.int .i64 p, .int .i64 ((p : Int) + (wp' : Int)), .int .i64 (kd : Int), .bool false, .int .i64 1] rfl rfl (World.news_of_block (cs := #[.int .i64 p, .int .i64 ((p : Int) + (wp' : Int)), .int .i64 (kd : Int), .bool false, .int .i64 1]) (t := 71) (fr := (0, 0)) HNW.out) (fun x hx => by simp at hx; rcases hx with rfl | rfl | rfl | rfl | rfl <;> rfl) (by unfold maxLen; omega) (by omega) (by have := HB2.out.size; simp at this ⊢; omega) ?_; intro v' w2 hown' hgrow _)
            go_roundw
            case rel =>
              refine ⟨k + 1, by go_num, by rw [H.out.1]; omega, ?_, (HB2.out.alloc HB2.out.size _).grown hgrow (by have := HB2.out.size; simp at this ⊢; omega) (fun r e => own_ge (own6.alloc (.cells #[.int .i64 p, .int .i64 ((p : Int) + (wp' : Int)), .int .i64 (kd : Int), .bool false, .int .i64 1] 71)) e)⟩
              rw [HT.out, q5_app]
              have e5 : q5 s [p] = [.int .i64 p, .int .i64 ((p : Int) + (wp' : Int)), .int .i64 (kd : Int), .bool false, .int .i64 1] := HV.out
              rw [e5]
              exact hown'
            case measure => simp [intOf]; omega
        · rcases hK with ⟨rfl, rfl⟩ | ⟨rfl, ⟨k2, rfl⟩ | ⟨k2, ⟨k4, rfl⟩ | ⟨k4, ⟨k9, rfl⟩ | ⟨k9, ⟨hw, rfl⟩ | ⟨hw, rfl⟩⟩⟩⟩⟩
          · go_wp2_with (fail)
            refine (cK _).mono ?_
            rintro e w' ⟨rfl, rfl⟩
            have q3 := q2.set 4 (.int .i64 0)
            simp only [List.setIfInBounds_toArray, List.set_cons_zero, List.set_cons_succ] at q3
            have x0 := q3.cell 0
            have x1 := q3.cell 1
            have x2 := q3.cell 2
            have x3 := q3.cell 3
            have x4 := q3.cell 4
            have xf := q3.frozen
            simp only [List.getElem?_toArray, List.getElem?_cons_succ, List.getElem?_cons_zero] at x0 x1 x2 x3 x4
            have own3 := own_far own2 hgo 4 (.int .i64 0)
            have HB2 := Lib.hid (hB1.setCell (p := ⟨B, 4, none⟩) hBw1 (.int .i64 0))
            clear q2 q3 own2 hB1
            have hnw : ((((Z.setCell ⟨B, 2, none⟩ (.int .i64 (kd : Int))).setCell ⟨B, 3, none⟩ (.bool true)).setCell ⟨B, 4, none⟩ (.int .i64 0)).alloc (.cells #[.int .i64 p, .int .i64 ((p : Int) + (wp' : Int)), .int .i64 (kd : Int), .bool true, .int .i64 0] 71)).heap[Z.heap.size]? = some (.cells #[.int .i64 p, .int .i64 ((p : Int) + (wp' : Int)), .int .i64 (kd : Int), .bool true, .int .i64 0] 71 (0, 0)) := by
              have e : (((Z.setCell ⟨B, 2, none⟩ (.int .i64 (kd : Int))).setCell ⟨B, 3, none⟩ (.bool true)).setCell ⟨B, 4, none⟩ (.int .i64 0)).heap.size = Z.heap.size := by simp
              rw [← e]; exact World.alloc_heap_new _ _
            have HNW := Lib.hid hnw
            clear hnw
            go_wp2_with (at_builtin; refine wpList_append_own _ rfl _ _ 68 rfl w1.heap.size 71 i0 (.agg #[.int .i64 0, .int .i64 0, .int .i64 0, .bool false, .int .i64 0]) 5 40 Try.underlying68 hi hz0 hz1 hz2 rfl (by decide) _ _ _ rfl (own3.alloc _) ⟨Z.heap.size, 0, none⟩ 1 1 [.int .i64 p, .int .i64 ((p : Int) + (wp' : Int)), .int .i64 (kd : Int), .bool true, .int .i64 0] rfl rfl (World.news_of_block (cs := #[.int .i64 p, .int .i64 ((p : Int) + (wp' : Int)), .int .i64 (kd : Int), .bool true, .int .i64 0]) (t := 71) (fr := (0, 0)) HNW.out) (fun x hx => by simp at hx; rcases hx with rfl | rfl | rfl | rfl | rfl <;> rfl) (by unfold maxLen; omega) (by omega) (by have := HB2.out.size; simp at this ⊢; omega) ?_; intro v' w2 hown' hgrow _)
            go_roundw
            case rel =>
              refine ⟨k + 1, by go_num, by rw [H.out.1]; omega, ?_, (HB2.out.alloc HB2.out.size _).grown hgrow (by have := HB2.out.size; simp at this ⊢; omega) (fun r e => own_ge (own3.alloc (.cells #[.int .i64 p, .int .i64 ((p : Int) + (wp' : Int)), .int .i64 (kd : Int), .bool true, .int .i64 0] 71)) e)⟩
              rw [HT.out, q5_app]
              have e5 : q5 s [p] = [.int .i64 p, .int .i64 ((p : Int) + (wp' : Int)), .int .i64 (kd : Int), .bool true, .int .i64 0] := HV.out
              rw [e5]
              exact hown'
            case measure => simp [intOf]; omega
          · go_wp2_with (fail)
            refine (cK _).mono ?_
            rintro e w' ⟨rfl, rfl⟩
            have q3 := q2.set 4 (.int .i64 0)
            simp only [List.setIfInBounds_toArray, List.set_cons_zero, List.set_cons_succ] at q3
            have x0 := q3.cell 0
            have x1 := q3.cell 1
            have x2 := q3.cell 2
            have x3 := q3.cell 3
            have x4 := q3.cell 4
            have xf := q3.frozen
            simp only [List.getElem?_toArray, List.getElem?_cons_succ, List.getElem?_cons_zero] at x0 x1 x2 x3 x4
            have own3 := own_far own2 hgo 4 (.int .i64 0)
            have HB2 := Lib.hid (hB1.setCell (p := ⟨B, 4, none⟩) hBw1 (.int .i64 0))
            clear q2 q3 own2 hB1
            have hnw : ((((Z.setCell ⟨B, 2, none⟩ (.int .i64 (kd : Int))).setCell ⟨B, 3, none⟩ (.bool false)).setCell ⟨B, 4, none⟩ (.int .i64 0)).alloc (.cells #[.int .i64 p, .int .i64 ((p : Int) + (wp' : Int)), .int .i64 (kd : Int), .bool false, .int .i64 0] 71)).heap[Z.heap.size]? = some (.cells #[.int .i64 p, .int .i64 ((p : Int) + (wp' : Int)), .int .i64 (kd : Int), .bool false, .int .i64 0] 71 (0, 0)) := by
              have e : (((Z.setCell ⟨B, 2, none⟩ (.int .i64 (kd : Int))).setCell ⟨B, 3, none⟩ (.bool false)).setCell ⟨B, 4, none⟩ (.int .i64 0)).heap.size = Z.heap.size := by simp
              rw [← e]; exact World.alloc_heap_new _ _
            have HNW := Lib.hid hnw
            clear hnw
            go_wp2_with (at_builtin; refine wpList_append_own _ rfl _ _ 68 rfl w1.heap.size 71 i0 (.agg #[.int .i64 0, .int .i64 0, .int .i64 0, .bool false, .int .i64 0]) 5 40 Try.underlying68 hi hz0 hz1 hz2 rfl (by decide) _ _ _ rfl (own3.alloc _) ⟨Z.heap.size, 0, none⟩ 1 1 [.int .i64 p, .int .i64 ((p : Int) + (wp' : Int)), .int .i64 (kd : Int), .bool false, .int .i64 0] rfl rfl (World.news_of_block (cs := #[.int .i64 p, .int .i64 ((p : Int) + (wp' : Int)), .int .i64 (kd : Int), .bool false, .int .i64 0]) (t := 71) (fr := (0, 0)) HNW.out) (fun x hx => by simp at hx; rcases hx with rfl | rfl | rfl | rfl | rfl <;> rfl) (by unfold maxLen; omega) (by omega) (by have := HB2.out.size; simp at this ⊢; omega) ?_; intro v' w2 hown' hgrow _)
            go_roundw
            case rel =>
              refine ⟨k + 1, by go_num, by rw [H.out.1]; omega, ?_, (HB2.out.alloc HB2.out.size _).grown hgrow (by have := HB2.out.size; simp at this ⊢; omega) (fun r e => own_ge (own3.alloc (.cells #[.int .i64 p, .int .i64 ((p : Int) + (wp' : Int)), .int .i64 (kd : Int), .bool false, .int .i64 0] 71)) e)⟩
              rw [HT.out, q5_app]
              have e5 : q5 s [p] = [.int .i64 p, .int .i64 ((p : Int) + (wp' : Int)), .int .i64 (kd : Int), .bool false, .int .i64 0] := HV.out
              rw [e5]
              exact hown'
            case measure => simp [intOf]; omega
          · go_wp2_with (fail)
            refine (cK _).mono ?_
            rintro e w' ⟨rfl, rfl⟩
            have q3 := q2.set 4 (.int .i64 0)
            simp only [List.setIfInBounds_toArray, List.set_cons_zero, List.set_cons_succ] at q3
            have x0 := q3.cell 0
            have x1 := q3.cell 1
            have x2 := q3.cell 2
            have x3 := q3.cell 3
            have x4 := q3.cell 4
            have xf := q3.frozen
            simp only [List.getElem?_toArray, List.getElem?_cons_succ, List.getElem?_cons_zero] at x0 x1 x2 x3 x4
            have own3 := own_far own2 hgo 4 (.int .i64 0)
            have HB2 := Lib.hid (hB1.setCell (p := ⟨B, 4, none⟩) hBw1 (.int .i64 0))
            clear q2 q3 own2 hB1
            have hnw : ((((Z.setCell ⟨B, 2, none⟩ (.int .i64 (kd : Int))).setCell ⟨B, 3, none⟩ (.bool false)).setCell ⟨B, 4, none⟩ (.int .i64 0)).alloc (.cells #[.int .i64 p, .int .i64 ((p : Int) + (wp' : Int)), .int .i64 (kd : Int), .bool false, .int .i64 0] 71)).heap[Z.heap.size]? = some (.cells #[.int .i64 p, .int .i64 ((p : Int) + (wp' : Int)), .int .i64 (kd : Int), .bool false, .int .i64 0] 71 (0, 0)) := by
              have e : (((Z.setCell ⟨B, 2, none⟩ (.int .i64 (kd : Int))).setCell ⟨B, 3, none⟩ (.bool false)).setCell ⟨B, 4, none⟩ (.int .i64 0)).heap.size = Z.heap.size := by simp
              rw [← e]; exact World.alloc_heap_new _ _
            have HNW := Lib.hid hnw
            clear hnw
            go_wp2_with (at_builtin; refine wpList_append_own _ rfl _ _ 68 rfl w1.heap.size 71 i0 (.agg #[.int .i64 0, .int .i64 0, .int .i64 0, .bool false, .int .i64 0]) 5 40 Try.underlying68 hi hz0 hz1 hz2 rfl (by decide) _ _ _ rfl (own3.alloc _) ⟨Z.heap.size, 0, none⟩ 1 1 [.int .i64 p, .int .i64 ((p : Int) + (wp' : Int)), .int .i64 (kd : Int), .bool false, .int .i64 0] rfl rfl (World.news_of_block (cs := #[.int .i64 p, .int .i64 ((p : Int) + (wp' : Int)), .int .i64 (kd : Int), .bool false, .int .i64 0]) (t := 71) (fr := (0, 0)) HNW.out) (fun x hx => by simp at hx; rcases hx with rfl | rfl | rfl | rfl | rfl <;> rfl) (by unfold maxLen; omega) (by omega) (by have := HB2.out.size; simp at this ⊢; omega) ?_; intro v' w2 hown' hgrow _)
            go_roundw
            case rel =>
              refine ⟨k + 1, by go_num, by rw [H.out.1]; omega, ?_, (HB2.out.alloc HB2.out.size _).grown hgrow (by have := HB2.out.size; simp at this ⊢; omega) (fun r e => own_ge (own3.alloc (.cells #[.int .i64 p, .int .i64 ((p : Int) + (wp' : Int)), .int .i64 (kd : Int), .bool false, .int .i64 0] 71)) e)⟩
              rw [HT.out, q5_app]
              have e5 : q5 s [p] = [.int .i64 p, .int .i64 ((p : Int) + (wp' : Int)), .int .i64 (kd : Int), .bool false, .int .i64 0] := HV.out
              rw [e5]
              exact hown'
            case measure => simp [intOf]; omega
          · go_wp2_with (fail)
            refine (cK _).mono ?_
            rintro e w' ⟨rfl, rfl⟩
            have q3 := q2.set 4 (.int .i64 0)
            simp only [List.setIfInBounds_toArray, List.set_cons_zero, List.set_cons_succ] at q3
            have x0 := q3.cell 0
            have x1 := q3.cell 1
            have x2 := q3.cell 2
            have x3 := q3.cell 3
            have x4 := q3.cell 4
            have xf := q3.frozen
            simp only [List.getElem?_toArray, List.getElem?_cons_succ, List.getElem?_cons_zero] at x0 x1 x2 x3 x4
            have own3 := own_far own2 hgo 4 (.int .i64 0)
            have HB2 := Lib.hid (hB1.setCell (p := ⟨B, 4, none⟩) hBw1 (.int .i64 0))
            clear q2 q3 own2 hB1
            have hnw : ((((Z.setCell ⟨B, 2, none⟩ (.int .i64 (kd : Int))).setCell ⟨B, 3, none⟩ (.bool false)).setCell ⟨B, 4, none⟩ (.int .i64 0)).alloc (.cells #[.int .i64 p, .int .i64 ((p : Int) + (wp' : Int)), .int .i64 (kd : Int), .bool false, .int .i64 0] 71)).heap[Z.heap.size]? = some (.cells #[.int .i64 p, .int .i64 ((p : Int) + (wp' : Int)), .int .i64 (kd : Int), .bool false, .int .i64 0] 71 (0, 0)) := by
              have e : (((Z.setCell ⟨B, 2, none⟩ (.int .i64 (kd : Int))).setCell ⟨B, 3, none⟩ (.bool false)).setCell ⟨B, 4, none⟩ (.int .i64 0)).heap.size = Z.heap.size := by simp
              rw [← e]; exact World.alloc_heap_new _ _
            have HNW := Lib.hid hnw
            clear hnw
            go_wp2_with (at_builtin; refine wpList_append_own _ rfl _ _ 68 rfl w1.heap.size 71 i0 (.agg #[.int .i64 0, .int .i64 0, .int .i64 0, .bool false, .int .i64 0]) 5 40 Try.underlying68 hi hz0 hz1 hz2 rfl (by decide) _ _ _ rfl (own3.alloc _) ⟨Z.heap.size, 0, none⟩ 1 1 [.int .i64 p, .int .i64 ((p : Int) + (wp' : Int)), .int .i64 (kd : Int), .bool false, .int .i64 0] rfl rfl (World.news_of_block (cs := #[.int .i64 p, .int .i64 ((p : Int) + (wp' : Int)), .int .i64 (kd : Int), .bool false, .int .i64 0]) (t := 71) (fr := (0, 0)) HNW.out) (fun x hx => by simp at hx; rcases hx with rfl | rfl | rfl | rfl | rfl <;> rfl) (by unfold maxLen; omega) (by omega) (by have := HB2.out.size; simp at this ⊢; omega) ?_; intro v' w2 hown' hgrow _)
            go_roundw
            case rel =>
              refine ⟨k + 1, by go_num, by rw [H.out.1]; omega, ?_, (HB2.out.alloc HB2.out.size _).grown hgrow (by have := HB2.out.size; simp at this ⊢; omega) (fun r e => own_ge (own3.alloc (.cells #[.int .i64 p, .int .i64 ((p : Int) + (wp' : Int)), .int .i64 (kd : Int), .bool false, .int .i64 0] 71)) e)⟩
              rw [HT.out, q5_app]
              have e5 : q5 s [p] = [.int .i64 p, .int .i64 ((p : Int) + (wp' : Int)), .int .i64 (kd : Int), .bool false, .int .i64 0] := HV.out
              rw [e5]
              exact hown'
            case measure => simp [intOf]; omega
          · go_wp2_with (fail)
            refine (cK _).mono ?_
            rintro e w' ⟨rfl, rfl⟩
            go_wp2_with (fail)
            refine (wideD_any (rp : Int) _).mono ?_
            rintro e W5 ⟨rfl, hb5⟩
            rw [hw]
            have q6 := q2.below' hb5
            have own6 := own_below own2 hb5
            have hB6 := hB1.trans (hb5.mono hB1.size)
            have hgo6 := hgo
            have y0 := q6.cell 0
            have y1 := q6.cell 1
            have y2 := q6.cell 2
            have y3 := q6.cell 3
            have y4 := q6.cell 4
            have yf := q6.frozen
            simp only [List.getElem?_toArray, List.getElem?_cons_succ, List.getElem?_cons_zero] at y0 y1 y2 y3 y4
            have q7 := q6.set 4 (.int .i64 2)
            simp only [List.setIfInBounds_toArray, List.set_cons_zero, List.set_cons_succ] at q7
            have x0 := q7.cell 0
            have x1 := q7.cell 1
            have x2 := q7.cell 2
            have x3 := q7.cell 3
            have x4 := q7.cell 4
            have xf := q7.frozen
            simp only [List.getElem?_toArray, List.getElem?_cons_succ, List.getElem?_cons_zero] at x0 x1 x2 x3 x4
            have own7 := own_far own6 hgo 4 (.int .i64 2)
            have HB2 := Lib.hid (hB6.setCell (p := ⟨B, 4, none⟩) hBw1 (.int .i64 2))
            clear q2 q6 q7 own2 own6 hB1 hB6 hb5
            have hnw : ((W5.setCell ⟨B, 4, none⟩ (.int .i64 2)).alloc (.cells #[.int .i64 p, .int .i64 ((p : Int) + (wp' : Int)), .int .i64 (kd : Int), .bool false, .int .i64 2] 71)).heap[W5.heap.size]? = some (.cells #[.int .i64 p, .int .i64 ((p : Int) + (wp' : Int)), .int .i64 (kd : Int), .bool false, .int .i64 2] 71 (0, 0)) := by
              have e : (W5.setCell ⟨B, 4, none⟩ (.int .i64 2)).heap.size = W5.heap.size := by simp
              rw [← e]; exact World.alloc_heap_new _ _
            have HNW := Lib.hid hnw
            clear hnw
            go_wp2_with (at_builtin; refine wpList_append_own _ rfl _ _ 68 rfl w1.heap.size 71 i0 (.agg #[.int .i64 0, .int .i64 0, .int .i64 0, .bool false, .int .i64 0]) 5 40 Try.underlying68 hi hz0 hz1 hz2 rfl (by decide) _ _ _ rfl (own7.alloc _) ⟨W5.heap.size, 0, none⟩ 1 1 [.int .i64 p, .int .i64 ((p : Int) + (wp' : Int)), .int .i64 (kd : Int), .bool false, .int .i64 2] rfl rfl (World.news_of_block (cs := #[.int .i64 p, .int .i64 ((p : Int) + (wp' : Int)), .int .i64 (kd : Int), .bool false, .int .i64 2]) (t := 71) (fr := (0, 0)) HNW.out) (fun x hx => by simp at hx; rcases hx with rfl | rfl | rfl | rfl | rfl <;> rfl) (by unfold maxLen; omega) (by omega) (by have := HB2.out.size; simp at this ⊢; omega) ?_; intro v' w2 hown' hgrow _)
            go_roundw
            case rel =>
              refine ⟨k + 1, by go_num, by rw [H.out.1]; omega, ?_, (HB2.out.alloc HB2.out.size _).grown hgrow (by have := HB2.out.size; simp at this ⊢; omega) (fun r e => own_ge (own7.alloc (.cells #[.int .i64 p, .int .i64 ((p : Int) + (wp' : Int)), .int .i64 (kd : Int), .bool false, .int .i64 2] 71)) e)⟩
              rw [HT.out, q5_app]
              have e5 : q5 s [p] = [.int .i64 p, .int .i64 ((p : Int) + (wp' : Int)), .int .i64 (kd : Int), .bool false, .int .i64 2] := HV.out
              rw [e5]
              exact hown'
            case measure => simp [intOf]; omega
          · go_wp2_with (fail)
            refine (cK _).mono ?_
            rintro e w' ⟨rfl, rfl⟩
            go_wp2_with (fail)
            refine (wideD_any (rp : Int) _).mono ?_
            rintro e W5 ⟨rfl, hb5⟩
            rw [hw]
            have q6 := q2.below' hb5
            have own6 := own_below own2 hb5
            have hB6 := hB1.trans (hb5.mono hB1.size)
            have hgo6 := hgo
            have y0 := q6.cell 0
            have y1 := q6.cell 1
            have y2 := q6.cell 2
            have y3 := q6.cell 3
            have y4 := q6.cell 4
            have yf := q6.frozen
            simp only [List.getElem?_toArray, List.getElem?_cons_succ, List.getElem?_cons_zero] at y0 y1 y2 y3 y4
            have HB2 := Lib.hid hB6
            clear q2 q6 own2 hB1 hB6 hb5
            have hnw : (W5.alloc (.cells #[.int .i64 p, .int .i64 ((p : Int) + (wp' : Int)), .int .i64 (kd : Int), .bool false, .int .i64 1] 71)).heap[W5.heap.size]? = some (.cells #[.int .i64 p, .int .i64 ((p : Int) + (wp' : Int)), .int .i64 (kd : Int), .bool false, .int .i64 1] 71 (0, 0)) := by
              have e : W5.heap.size = W5.heap.size := by simp
              rw [← e]; exact World.alloc_heap_new _ _
            have HNW := Lib.hid hnw
            clear hnw
            go_wp2_with (at_builtin; refine wpList_append_own _ rfl _ _ 68 rfl w1.heap.size 71 i0 (.agg #[.int .i64 0, .int .i64 0, .int .i64 0, .bool false, .int .i64 0]) 5 40 Try.underlying68 hi hz0 hz1 hz2 rfl (by decide) _ _ _ rfl (own6.alloc _) ⟨W5.heap.size, 0, none⟩ 1 1 [.int .i64 p, .int .i64 ((p : Int) + (wp' : Int)), .int .i64 (kd : Int), .bool false, .int .i64 1] rfl rfl (World.news_of_block (cs := #[.int .i64 p, .int .i64 ((p : Int) + (wp' : Int)), .int .i64 (kd : Int), .bool false, .int .i64 1]) (t := 71) (fr := (0, 0)) HNW.out) (fun x hx => by simp at hx; rcases hx with rfl | rfl | rfl | rfl | rfl <;> rfl) (by unfold maxLen; omega) (by omega) (by have := HB2.out.size; simp at this ⊢; omega) ?_; intro v' w2 hown' hgrow _)
            go_roundw
            case rel =>
              refine ⟨k + 1, by go_num, by rw [H.out.1]; omega, ?_, (HB2.out.alloc HB2.out.size _).grown hgrow (by have := HB2.out.size; simp at this ⊢; omega) (fun r e => own_ge (own6.alloc (.cells #[.int .i64 p, .int .i64 ((p : Int) + (wp' : Int)), .int .i64 (kd : Int), .bool false, .int .i64 1] 71)) e)⟩
              rw [HT.out, q5_app]
              have e5 : q5 s [p] = [.int .i64 p, .int .i64 ((p : Int) + (wp' : Int)), .int .i64 (kd : Int), .bool false, .int .i64 1] := HV.out
              rw [e5]
              exact hown'
            case measure => simp [intOf]; omega
    · have hkn : k = n := by omega
      have i3 : decide ((k : Int) < (n : Int)) = false := decide_eq_false (by omega)
      have e : L.take k = L := by rw [hkn, ← H.out.1]; exact List.take_length ..
      rw [e] at hown
      have hfin : wr.ownsRow w.heap.size 71 5 (.slice o4 k cap4) n (q5 s L) := by
        rw [← hkn]; exact own_low hown H.out.2.2.2.size
      have HH := Lib.hid (And.intro hfin hB)
      clear hown hB hkn hfin
      go_wp2
      go_ret
      exact ⟨_, rfl, by rw [HL.out, H.out.1]; exact HH.out.1, H.out.2.2.2.trans (HH.out.2.mono H.out.2.2.2.size)⟩
end Go.Proofs.Ytnbhdgbhmcbeoaa
