/- Stage 27: the cursor, byte by byte: what is left of a change; rows of equal bytes at once. -/
import Derived.Test.YtjccoiephdopkaaDoorJd
namespace Go.Proofs.YtjccoiephdopkaaDoor
set_option linter.unusedVariables false
set_option linter.unusedSimpArgs false
open Go Go.RowKit Go.Shelf
set_option maxRecDepth 100000

/-- What is left of a change. -/
def restC (l : List Sp) (u : Nat) : List Atm := (atL l).drop u
def okSp (x : Sp) : Prop := kindN x ≠ 0 ∧ 0 ≤ x.k ∧ x.k ≤ 65536 ∧ x.d.size ≤ 65536 ∧ x.p.size ≤ 65536
structure CuV (l : List Sp) (u : Nat) : Prop where
  ok : ∀ x ∈ l, okSp x
  nil : l = [] → u = 0
  lt : ∀ x r, l = x :: r → u < szS x
  len : l.length ≤ 1000000
theorem atS_len (x : Sp) : (atS x).length = szS x := by
  simp only [atS, szS, List.length_append, List.length_replicate, List.length_map, bL_len]; omega
theorem bL_ext (s : ByteArray) (a n : Nat) : bL (s.extract a (a + n)) = ((bL s).drop a).take n := by
  simp [bL, ByteArray.data_extract, List.extract]
theorem kinds (x : Sp) (h : okSp x) : (kindN x = 1 ∧ atS x = List.replicate (szS x) .K ∧ 0 < szS x) ∨ (kindN x = 2 ∧ atS x = (bL x.d).map .D ∧ szS x = x.d.size ∧ 0 < szS x) ∨ (kindN x = 3 ∧ atS x = (bL x.p).map .P ∧ szS x = x.p.size ∧ 0 < szS x) := by
  obtain ⟨k, d, p⟩ := x
  rcases kind_three k d p with h0 | ⟨h1, h2, h3, h4⟩ | ⟨h1, h2, h3, h4⟩ | ⟨h1, h2, h3, h4⟩
  · exact absurd h0 h.1
  · subst h2; subst h3
    refine .inl ⟨h4, ?_, ?_⟩
    · simp [atS, szS, emp_size, bL_emp]
    · simp only [szS, emp_size]; omega
  · subst h1; subst h2
    exact .inr (.inl ⟨h4, by simp [atS, bL_emp], by simp [szS, emp_size], by simp only [szS, emp_size]; omega⟩)
  · subst h1; subst h2
    exact .inr (.inr ⟨h4, by simp [atS, bL_emp], by simp [szS, emp_size], by simp only [szS, emp_size]; omega⟩)
theorem rest_nil : restC [] 0 = [] := rfl
theorem rest_split {x : Sp} {l : List Sp} {u n : Nat} (h : u + n ≤ szS x) : restC (x :: l) u = ((atS x).drop u).take n ++ restC (x :: l) (u + n) := by
  have e : atL (x :: l) = atS x ++ atL l := rfl
  unfold restC
  have h1 : (atS x ++ atL l).drop u = (atS x).drop u ++ atL l := List.drop_append_of_le_length (by rw [atS_len]; omega)
  rw [e, ← List.drop_drop, h1]
  have h2 : ((atS x).drop u).take n = ((atS x).drop u ++ atL l).take n := (List.take_append_of_le_length (by rw [List.length_drop, atS_len]; omega)).symm
  rw [h2]
  exact (List.take_append_drop n _).symm
theorem rest_next {x : Sp} {l : List Sp} : restC (x :: l) (szS x) = restC l 0 := by
  have e : atL (x :: l) = atS x ++ atL l := rfl
  unfold restC
  rw [e, ← atS_len, List.drop_left]; rfl
/-- What a take hands back, and what is left then. -/
def Chk (k : Nat) (s : ByteArray) (n : Nat) (A B : List Atm) : Prop :=
  (k = 1 ∧ A = List.replicate n .K ++ B) ∨ (k = 2 ∧ (bL s).length = n ∧ A = (bL s).map .D ++ B) ∨ (k = 3 ∧ (bL s).length = n ∧ A = (bL s).map .P ++ B)
theorem chk_of {x : Sp} {l : List Sp} {u n : Nat} (hx : okSp x) (h : u + n ≤ szS x) : Chk (kindN x) (takeS x u n) n (restC (x :: l) u) (restC (x :: l) (u + n)) := by
  rw [rest_split h]
  rcases kinds x hx with ⟨h1, h2, h3⟩ | ⟨h1, h2, h3, h4⟩ | ⟨h1, h2, h3, h4⟩
  · refine .inl ⟨h1, ?_⟩
    rw [h2, List.drop_replicate, List.take_replicate, Nat.min_eq_left (by omega)]
  · have e : takeS x u n = x.d.extract u (u + n) := by unfold takeS; rw [if_pos h1]
    refine .inr (.inl ⟨h1, ?_, ?_⟩)
    · rw [e, bL_ext, List.length_take, List.length_drop, bL_len]; omega
    · rw [e, bL_ext, h2, ← List.map_drop, ← List.map_take]
  · have e : takeS x u n = x.p.extract u (u + n) := by unfold takeS; rw [if_neg (by omega), if_pos h1]
    refine .inr (.inr ⟨h1, ?_, ?_⟩)
    · rw [e, bL_ext, List.length_take, List.length_drop, bL_len]; omega
    · rw [e, bL_ext, h2, ← List.map_drop, ← List.map_take]
/-- What a cursor's kind tells. -/
theorem kind_rest {l : List Sp} {u : Nat} (h : CuV l u) : (kindC l = 0 ∧ l = [] ∧ restC l u = []) ∨ (kindC l = 1 ∧ 0 < leftC u l ∧ ∃ r, restC l u = .K :: r) ∨ (kindC l = 2 ∧ 0 < leftC u l ∧ ∃ c r, restC l u = .D c :: r) ∨ (kindC l = 3 ∧ 0 < leftC u l ∧ ∃ c r, restC l u = .P c :: r) := by
  cases l with
  | nil => rw [h.nil rfl]; exact .inl ⟨rfl, rfl, rfl⟩
  | cons x l =>
    have hlt := h.lt x l rfl
    have hc := chk_of (l := l) (h.ok x (by simp)) (u := u) (n := 1) (by omega)
    have hl : 0 < leftC u (x :: l) := by show 0 < szS x - u; omega
    right
    rcases hc with ⟨h1, h2⟩ | ⟨h1, h2, h3⟩ | ⟨h1, h2, h3⟩
    · exact .inl ⟨h1, hl, _, h2⟩
    · obtain ⟨c, hc⟩ := List.length_eq_one_iff.1 h2
      rw [hc] at h3
      exact .inr (.inl ⟨h1, hl, _, _, h3⟩)
    · obtain ⟨c, hc⟩ := List.length_eq_one_iff.1 h2
      rw [hc] at h3
      exact .inr (.inr ⟨h1, hl, _, _, h3⟩)
/-- How far a cursor has to go. -/
def muC (W : World) (C : Nat) : Nat :=
  match W.cell? ⟨C, 0, none⟩, W.cell? ⟨C, 1, none⟩ with
  | some (.slice _ n _), some (.int _ u) => n * 1000000 - u.toNat
  | _, _ => 0
theorem mu_of {w0 W : World} {C : Nat} {o : Option Addr} {c : Nat} {l : List Sp} {u : Nat} (h : CuB w0 W C o c l u) : muC W C = l.length * 1000000 - u := by
  have c0 := h.1.cell 0
  have c1 := h.1.cell 1
  simp only [List.getElem?_toArray, List.getElem?_cons_zero, List.getElem?_cons_succ] at c0 c1
  unfold muC
  rw [c0, c1]
  simp
/-- What a take does: bytes, the cursor, how far it has to go. -/
def TakeA (w0 W' : World) (C : Nat) (l : List Sp) (u n : Nat) (s : ByteArray) : Prop :=
  ∃ o' c' l' u', CuB w0 W' C o' c' l' u' ∧ CuV l' u' ∧ Chk (kindC l) s n (restC l u) (restC l' u') ∧ (0 < n → l'.length * 1000000 - u' < l.length * 1000000 - u)
theorem cu_takeA {w0 W : World} {C : Nat} {o : Option Addr} {c : Nat} {l : List Sp} {u n : Nat} (h : CuB w0 W C o c l u) (hv : CuV l u) (hne : l ≠ []) (hn : n ≤ leftC u l) :
    Calls Tryd.prog 68 #[.pointer (some ⟨C, 0, none⟩), .int .i64 n] W fun e W' => ∃ s, e = .returned (.string s) ∧ KpC C W W' ∧ TakeA w0 W' C l u n s := by
  cases l with
  | nil => exact absurd rfl hne
  | cons x l =>
    have hx := hv.ok x (by simp)
    have hlt := hv.lt x l rfl
    have hn' : u + n ≤ szS x := by have : n ≤ szS x - u := hn; omega
    have hlen := hv.len
    simp only [List.length_cons] at hlen
    have hsz : szS x ≤ 196608 := by unfold szS; obtain ⟨_, _, _, _, _⟩ := hx; omega
    refine (cu_take h hx.1 (fun y hy => (hv.ok y (by simp [hy])).2) hx.2 hn' (by omega)).mono ?_
    rintro e W' ⟨rfl, hK, o', c', hC⟩
    refine ⟨_, rfl, hK, ?_⟩
    by_cases he : u + n = szS x
    · rw [if_pos he] at hC
      refine ⟨o', c', l, 0, hC, ⟨fun y hy => hv.ok y (by simp [hy]), fun _ => rfl, fun y r e => ?_, by omega⟩, ?_, fun _ => ?_⟩
      · subst e
        rcases kinds y (hv.ok y (by simp)) with hk | hk | hk
        · exact hk.2.2
        · exact hk.2.2.2
        · exact hk.2.2.2
      · have := chk_of (l := l) hx hn'
        rw [he, rest_next] at this
        exact this
      · simp only [List.length_cons]; omega
    · rw [if_neg he] at hC
      refine ⟨o', c', x :: l, u + n, hC, ⟨hv.ok, (fun e => by cases e), fun y r e => ?_, by simpa using hlen⟩, chk_of (l := l) hx hn', fun h0 => ?_⟩
      · cases e; omega
      · simp only [List.length_cons]; omega

theorem comp_D (c : UInt8) (x y : List Atm) : compA (.D c :: x) y = (compA x y).map (.D c :: ·) := by rw [compA]
theorem comp_P (c : UInt8) (x y : List Atm) (hx : ∀ (c : UInt8) (z : List Atm), x = .D c :: z → False) : compA x (.P c :: y) = (compA x y).map (.P c :: ·) := compA.eq_2 x c y hx
theorem map_app {A : Type} (a : A) (b : List A) (o : Option (List A)) : (o.map (b ++ ·)).map (a :: ·) = o.map ((a :: b) ++ ·) := by cases o <;> rfl
theorem comp_Ds (ds : List UInt8) (x y : List Atm) : compA (ds.map .D ++ x) y = (compA x y).map (ds.map .D ++ ·) := by
  induction ds with
  | nil => cases h : compA x y <;> simp [h]
  | cons c ds ih => rw [List.map_cons, List.cons_append, comp_D, ih, map_app]
theorem comp_Ps (ps : List UInt8) (x y : List Atm) (hx : ∀ (c : UInt8) (z : List Atm), x = .D c :: z → False) : compA x (ps.map .P ++ y) = (compA x y).map (ps.map .P ++ ·) := by
  induction ps with
  | nil => cases h : compA x y <;> simp [h]
  | cons c ps ih => rw [List.map_cons, List.cons_append, comp_P _ _ _ hx, ih, map_app]
theorem comp_KK (n : Nat) (x y : List Atm) : compA (List.replicate n .K ++ x) (List.replicate n .K ++ y) = (compA x y).map (List.replicate n .K ++ ·) := by
  induction n with
  | zero => cases h : compA x y <;> simp [h]
  | succ n ih => rw [List.replicate_succ, List.cons_append, List.cons_append, compA, ih, map_app]
theorem comp_KD (ds : List UInt8) (x y : List Atm) : compA (List.replicate ds.length .K ++ x) (ds.map .D ++ y) = (compA x y).map (ds.map .D ++ ·) := by
  induction ds with
  | nil => cases h : compA x y <;> simp [h]
  | cons c ds ih => rw [List.map_cons, List.length_cons, List.replicate_succ, List.cons_append, List.cons_append, compA, ih, map_app]
theorem comp_PK (ps : List UInt8) (x y : List Atm) : compA (ps.map .P ++ x) (List.replicate ps.length .K ++ y) = (compA x y).map (ps.map .P ++ ·) := by
  induction ps with
  | nil => cases h : compA x y <;> simp [h]
  | cons c ps ih => rw [List.map_cons, List.length_cons, List.replicate_succ, List.cons_append, List.cons_append, compA, ih, map_app]
theorem comp_PD : ∀ (ps ds : List UInt8) (x y : List Atm), ps.length = ds.length → compA (ps.map .P ++ x) (ds.map .D ++ y) = if ps = ds then compA x y else none
  | [], [], x, y, _ => by simp
  | [], d :: ds, _, _, h => by simp at h
  | c :: ps, [], _, _, h => by simp at h
  | c :: ps, d :: ds, x, y, h => by
    rw [List.map_cons, List.map_cons, List.cons_append, List.cons_append, compA, comp_PD ps ds x y (by simpa using h)]
    by_cases e : c = d
    · subst e; simp
    · simp [e]
end Go.Proofs.YtjccoiephdopkaaDoor
