/- Stage 27: changes byte by byte: what a change makes of a text; the maker as a machine on single bytes. -/
import Derived.Test.YtjccoiephdopkaaDoorHm
namespace Go.Proofs.YtjccoiephdopkaaDoor
set_option linter.unusedVariables false
set_option linter.unusedSimpArgs false
open Go Go.RowKit Go.Shelf
set_option maxRecDepth 100000

/-- One byte of a change: kept, dropped, put. -/
inductive Atm where
  | K : Atm
  | D : UInt8 → Atm
  | P : UInt8 → Atm
deriving DecidableEq

def bL (s : ByteArray) : List UInt8 := s.data.toList
def atS (x : Sp) : List Atm := List.replicate x.k.toNat .K ++ (bL x.p).map .P ++ (bL x.d).map .D
def atL (l : List Sp) : List Atm := l.flatMap atS
/-- How many bytes it is of. -/
def inA : List Atm → Nat
  | [] => 0
  | .P _ :: l => inA l
  | .K :: l => inA l + 1
  | .D _ :: l => inA l + 1
/-- How many bytes it makes. -/
def outA : List Atm → Nat
  | [] => 0
  | .P _ :: l => outA l + 1
  | .K :: l => outA l + 1
  | .D _ :: l => outA l
/-- What it makes of a text, and what is left of that. -/
def runA : List Atm → List UInt8 → Option (List UInt8 × List UInt8)
  | [], s => some ([], s)
  | .P c :: l, s => (runA l s).map fun r => (c :: r.1, r.2)
  | .K :: l, c :: s => (runA l s).map fun r => (c :: r.1, r.2)
  | .D d :: l, c :: s => if c = d then runA l s else none
  | .K :: _, [] => none
  | .D _ :: _, [] => none
theorem bL_len (s : ByteArray) : (bL s).length = s.size := by simp [bL]
theorem bL_app (s t : ByteArray) : bL (s ++ t) = bL s ++ bL t := by simp [bL]
theorem bL_emp : bL .empty = [] := rfl
theorem bL_nil {s : ByteArray} (h : s.size = 0) : bL s = [] := List.length_eq_zero_iff.1 ((bL_len s).trans h)
theorem bL_inj {s t : ByteArray} (h : bL s = bL t) : s = t := by
  apply ByteArray.ext; apply Array.ext'; exact h
theorem runA_append (A B : List Atm) (s : List UInt8) : runA (A ++ B) s = (runA A s).bind fun r => (runA B r.2).map fun q => (r.1 ++ q.1, q.2) := by
  induction A generalizing s with
  | nil => simp [runA]
  | cons a A ih =>
    rw [List.cons_append]
    cases a with
    | P c =>
      simp only [runA, ih]
      cases runA A s with
      | none => rfl
      | some r => simp only [Option.bind_some, Option.map_some]; cases runA B r.2 <;> rfl
    | K =>
      cases s with
      | nil => rfl
      | cons c s =>
        simp only [runA, ih]
        cases runA A s with
        | none => rfl
        | some r => simp only [Option.bind_some, Option.map_some]; cases runA B r.2 <;> rfl
    | D d =>
      cases s with
      | nil => rfl
      | cons c s =>
        simp only [runA]
        split
        · exact ih s
        · rfl
theorem inA_append (A B : List Atm) : inA (A ++ B) = inA A + inA B := by
  induction A with
  | nil => simp [inA]
  | cons a A ih => cases a <;> simp only [List.cons_append, inA, ih] <;> omega
theorem outA_append (A B : List Atm) : outA (A ++ B) = outA A + outA B := by
  induction A with
  | nil => simp [outA]
  | cons a A ih => cases a <;> simp only [List.cons_append, outA, ih] <;> omega
theorem run_len {A : List Atm} {s t r : List UInt8} (h : runA A s = some (t, r)) : s.length = inA A + r.length ∧ t.length = outA A := by
  induction A generalizing s t r with
  | nil => simp only [runA, Option.some.injEq, Prod.mk.injEq] at h; obtain ⟨rfl, rfl⟩ := h; simp [inA, outA]
  | cons a A ih =>
    cases a with
    | P c =>
      simp only [runA, Option.map_eq_some_iff] at h
      obtain ⟨q, hq, e⟩ := h
      cases e
      have := ih hq
      simp only [inA, outA, List.length_cons]; omega
    | K =>
      cases s with
      | nil => cases h
      | cons c s =>
        simp only [runA, Option.map_eq_some_iff] at h
        obtain ⟨q, hq, e⟩ := h
        cases e
        have := ih hq
        simp only [inA, outA, List.length_cons]; omega
    | D d =>
      cases s with
      | nil => cases h
      | cons c s =>
        simp only [runA] at h
        split at h
        · have := ih h
          simp only [inA, outA, List.length_cons]; omega
        · cases h
/-- Two changes do the same to every text. -/
structure EqA (A B : List Atm) : Prop where
  run : ∀ s, runA A s = runA B s
  inn : inA A = inA B
  out : outA A = outA B
  len : A.length = B.length
theorem EqA.refl (A : List Atm) : EqA A A := ⟨fun _ => rfl, rfl, rfl, rfl⟩
theorem EqA.trans {A B C : List Atm} (h : EqA A B) (g : EqA B C) : EqA A C := ⟨fun s => (h.run s).trans (g.run s), h.inn.trans g.inn, h.out.trans g.out, h.len.trans g.len⟩
theorem EqA.app {A B C D : List Atm} (h : EqA A B) (g : EqA C D) : EqA (A ++ C) (B ++ D) := by
  refine ⟨fun s => ?_, by rw [inA_append, inA_append, h.inn, g.inn], by rw [outA_append, outA_append, h.out, g.out], by rw [List.length_append, List.length_append, h.len, g.len]⟩
  rw [runA_append, runA_append, h.run]
  congr 1
  funext r
  rw [g.run]
theorem swap_one (c : UInt8) (l : List UInt8) : EqA (l.map Atm.D ++ [.P c]) (.P c :: l.map .D) := by
  induction l with
  | nil => exact EqA.refl _
  | cons d l ih =>
    refine ⟨fun s => ?_, ?_, ?_, ?_⟩
    · cases s with
      | nil => rfl
      | cons b s =>
        simp only [List.map_cons, List.cons_append, runA]
        split
        · rw [ih.run]; rfl
        · rfl
    · have := ih.inn; simp only [List.map_cons, List.cons_append, inA] at this ⊢; omega
    · have := ih.out; simp only [List.map_cons, List.cons_append, outA] at this ⊢; omega
    · simp

/-- One byte more for the maker. -/
def fd (m : Mk) : Atm → Mk
  | .K => keepM 1 m
  | .P c => putsM ⟨#[c]⟩ m
  | .D c => dropsM ⟨#[c]⟩ m
def fdL (A : List Atm) (m : Mk) : Mk := A.foldl fd m
def mk0 : Mk := ⟨[], 0, .empty, .empty⟩
/-- The one form. -/
def nfA (A : List Atm) : List Sp := endM (fdL A mk0)
theorem fdL_app (A B : List Atm) (m : Mk) : fdL (A ++ B) m = fdL B (fdL A m) := List.foldl_append
theorem fdL_nil (m : Mk) : fdL [] m = m := rfl
theorem ba_app_empty (s : ByteArray) : s ++ .empty = s := by apply bL_inj; rw [bL_app, bL_emp, List.append_nil]
theorem keep_zero (m : Mk) : keepM 0 m = m := rfl
theorem keepM_yes {n : Nat} {m : Mk} (hn : 0 < n) (h : 0 < m.put.size + m.drop.size) : keepM n m = ⟨(gapM m).out, (gapM m).kept + n, .empty, .empty⟩ := by unfold keepM; rw [if_pos ⟨hn, h⟩]; rfl
theorem keepM_no {n : Nat} {m : Mk} (h : ¬ 0 < m.put.size + m.drop.size) : keepM n m = ⟨m.out, m.kept + n, m.put, m.drop⟩ := by unfold keepM; rw [if_neg (fun e => h e.2)]
theorem keep_fd (n : Nat) (m : Mk) : keepM n m = fdL (List.replicate n .K) m := by
  induction n generalizing m with
  | zero =>
    show keepM 0 m = m
    rfl
  | succ n ih =>
    rw [List.replicate_succ]
    show _ = fdL _ (keepM 1 m)
    rw [← ih]
    by_cases h : 0 < m.put.size + m.drop.size
    · rw [keepM_yes (Nat.succ_pos n) h, keepM_yes (by omega) h, keepM_no (by simp [emp_size])]
      simp only [Mk.mk.injEq, true_and, and_true]; omega
    · rw [keepM_no h, keepM_no h, keepM_no (by exact h)]
      simp only [Mk.mk.injEq, true_and, and_true]; omega
theorem one_pos (c : UInt8) (l : List UInt8) : 0 < (ByteArray.mk ⟨c :: l⟩).size := Nat.succ_pos _
theorem putsM_one (c : UInt8) (m : Mk) : putsM ⟨#[c]⟩ m = ⟨(rowM m).out, 0, m.put ++ ⟨#[c]⟩, m.drop⟩ := by unfold putsM; rw [if_pos (one_pos c [])]; rfl
theorem dropsM_one (c : UInt8) (m : Mk) : dropsM ⟨#[c]⟩ m = ⟨(rowM m).out, 0, m.put, m.drop ++ ⟨#[c]⟩⟩ := by unfold dropsM; rw [if_pos (one_pos c [])]; rfl
theorem row_zero {m : Mk} (h : m.kept = 0) : rowM m = m := by
  obtain ⟨o, k, p, d⟩ := m
  cases h
  unfold rowM; simp
theorem puts_fd (s : ByteArray) (m : Mk) : putsM s m = fdL ((bL s).map .P) m := by
  obtain ⟨⟨l⟩⟩ := s
  induction l generalizing m with
  | nil =>
    show putsM .empty m = m
    unfold putsM; rw [if_neg (by decide)]
    obtain ⟨o, k, p, d⟩ := m
    simp only [Mk.mk.injEq, true_and, and_true]
    exact ba_app_empty p
  | cons c l ih =>
    show _ = fdL ((bL ⟨⟨l⟩⟩).map .P) (putsM ⟨#[c]⟩ m)
    rw [← ih]
    have e1 : putsM ⟨#[c]⟩ m = ⟨(rowM m).out, 0, m.put ++ ⟨#[c]⟩, m.drop⟩ := putsM_one c m
    rw [e1]
    unfold putsM
    rw [if_pos (show 0 < (ByteArray.mk ⟨c :: l⟩ : ByteArray).size from Nat.succ_pos _)]
    have e2 : (if 0 < (ByteArray.mk ⟨l⟩).size then rowM ⟨(rowM m).out, 0, m.put ++ ⟨#[c]⟩, m.drop⟩ else ⟨(rowM m).out, 0, m.put ++ ⟨#[c]⟩, m.drop⟩) = ⟨(rowM m).out, 0, m.put ++ ⟨#[c]⟩, m.drop⟩ := by
      split
      · exact row_zero rfl
      · rfl
    simp only [e2]
    show Mk.mk _ _ _ _ = Mk.mk _ _ _ _
    simp only [Mk.mk.injEq, true_and, and_true]
    refine ⟨rfl, ?_, rfl⟩
    apply bL_inj
    rw [bL_app, bL_app, bL_app]
    show bL m.put ++ c :: l = bL m.put ++ [c] ++ l
    simp
theorem drops_fd (s : ByteArray) (m : Mk) : dropsM s m = fdL ((bL s).map .D) m := by
  obtain ⟨⟨l⟩⟩ := s
  induction l generalizing m with
  | nil =>
    show dropsM .empty m = m
    unfold dropsM; rw [if_neg (by decide)]
    obtain ⟨o, k, p, d⟩ := m
    simp only [Mk.mk.injEq, true_and, and_true]
    exact ba_app_empty d
  | cons c l ih =>
    show _ = fdL ((bL ⟨⟨l⟩⟩).map .D) (dropsM ⟨#[c]⟩ m)
    rw [← ih]
    have e1 : dropsM ⟨#[c]⟩ m = ⟨(rowM m).out, 0, m.put, m.drop ++ ⟨#[c]⟩⟩ := dropsM_one c m
    rw [e1]
    unfold dropsM
    rw [if_pos (show 0 < (ByteArray.mk ⟨c :: l⟩ : ByteArray).size from Nat.succ_pos _)]
    have e2 : (if 0 < (ByteArray.mk ⟨l⟩).size then rowM ⟨(rowM m).out, 0, m.put, m.drop ++ ⟨#[c]⟩⟩ else ⟨(rowM m).out, 0, m.put, m.drop ++ ⟨#[c]⟩⟩) = ⟨(rowM m).out, 0, m.put, m.drop ++ ⟨#[c]⟩⟩ := by
      split
      · exact row_zero rfl
      · rfl
    simp only [e2]
    show Mk.mk _ _ _ _ = Mk.mk _ _ _ _
    simp only [Mk.mk.injEq, true_and, and_true]
    refine ⟨rfl, rfl, ?_⟩
    apply bL_inj
    rw [bL_app, bL_app, bL_app]
    show bL m.drop ++ c :: l = bL m.drop ++ [c] ++ l
    simp
theorem step_fd (m : Mk) (x : Sp) : stepM m x = fdL (atS x) m := by
  unfold stepM atS
  rw [fdL_app, fdL_app, ← keep_fd, ← puts_fd, ← drops_fd]
theorem plain_fd (l : List Sp) : plainM l = nfA (atL l) := by
  unfold plainM nfA
  congr 1
  have key : ∀ (l : List Sp) (m : Mk), l.foldl stepM m = fdL (atL l) m := by
    intro l
    induction l with
    | nil => intro m; rfl
    | cons x l ih => intro m; rw [List.foldl_cons, ih, step_fd, ← fdL_app]; rfl
  exact key l _

/-- What a maker has been told. -/
def denM (m : Mk) : List Atm := atL m.out ++ List.replicate m.kept .K ++ (bL m.put).map .P ++ (bL m.drop).map .D
structure OkM (m : Mk) : Prop where
  alt : 0 < m.kept → m.put.size = 0 ∧ m.drop.size = 0
  nz : ∀ x ∈ m.out, kindN x ≠ 0
theorem OkM.new : OkM mk0 := ⟨fun h => absurd h (by decide), fun x h => by cases h⟩
theorem atL_app (l k : List Sp) : atL (l ++ k) = atL l ++ atL k := List.flatMap_append
theorem atL_put (p : ByteArray) : atL (if 0 < p.size then [⟨0, .empty, p⟩] else []) = (bL p).map .P := by
  split
  · simp [atL, atS, bL_emp]
  · rw [bL_nil (by omega)]; rfl
theorem atL_drop (p : ByteArray) : atL (if 0 < p.size then [⟨0, p, .empty⟩] else []) = (bL p).map .D := by
  split
  · simp [atL, atS, bL_emp]
  · rw [bL_nil (by omega)]; rfl
theorem atL_keep (n : Nat) : atL (if 0 < n then [⟨n, .empty, .empty⟩] else []) = List.replicate n .K := by
  split
  · simp [atL, atS, bL_emp]
  · rw [show n = 0 by omega]; rfl
theorem kind_put {p : ByteArray} {x : Sp} (h : x ∈ (if 0 < p.size then [(⟨0, .empty, p⟩ : Sp)] else [])) : kindN x ≠ 0 := by
  split at h
  · simp only [List.mem_singleton] at h; subst h; unfold kindN; rw [if_neg (by simp), if_neg (by simp [emp_size]), if_pos ⟨rfl, emp_size, by simp only; omega⟩]; decide
  · cases h
theorem kind_drop {p : ByteArray} {x : Sp} (h : x ∈ (if 0 < p.size then [(⟨0, p, .empty⟩ : Sp)] else [])) : kindN x ≠ 0 := by
  split at h
  · simp only [List.mem_singleton] at h; subst h; unfold kindN; rw [if_neg (by simp), if_pos ⟨rfl, by simp only; omega, emp_size⟩]; decide
  · cases h
theorem kind_keep {n : Nat} {x : Sp} (h : x ∈ (if 0 < n then [(⟨n, .empty, .empty⟩ : Sp)] else [])) : kindN x ≠ 0 := by
  split at h
  · simp only [List.mem_singleton] at h; subst h; unfold kindN; rw [if_pos ⟨by simp only; omega, emp_size, emp_size⟩]; decide
  · cases h
theorem OkM.gap {m : Mk} (h : OkM m) : OkM (gapM m) := by
  refine ⟨fun _ => ⟨rfl, rfl⟩, fun x hx => ?_⟩
  simp only [gapM, List.mem_append] at hx
  rcases hx with (hx | hx) | hx
  · exact h.nz x hx
  · exact kind_put hx
  · exact kind_drop hx
theorem OkM.row {m : Mk} (h : OkM m) : OkM (rowM m) := by
  refine ⟨fun hk => absurd hk (Nat.lt_irrefl 0), fun x hx => ?_⟩
  simp only [rowM, List.mem_append] at hx
  rcases hx with hx | hx
  · exact h.nz x hx
  · exact kind_keep hx
theorem den_gap {m : Mk} (hk : m.kept = 0) : denM (gapM m) = denM m := by
  unfold denM gapM
  simp only [atL_app, atL_put, atL_drop, hk, bL_emp, List.map_nil, List.replicate_zero, List.append_nil]
theorem den_row (m : Mk) : denM (rowM m) = denM m := by
  unfold denM rowM
  simp only [atL_app, atL_keep, List.replicate_zero, List.append_nil]
theorem den_feed {m : Mk} (h : OkM m) (a : Atm) : OkM (fd m a) ∧ EqA (denM (fd m a)) (denM m ++ [a]) := by
  cases a with
  | K =>
    show OkM (keepM 1 m) ∧ EqA (denM (keepM 1 m)) _
    by_cases h0 : 0 < m.put.size + m.drop.size
    · have hk : m.kept = 0 := by
        by_cases hk : 0 < m.kept
        · have := h.alt hk; omega
        · omega
      rw [keepM_yes (by decide) h0]
      refine ⟨⟨fun _ => ⟨rfl, rfl⟩, h.gap.nz⟩, ?_⟩
      rw [← den_gap hk]
      unfold denM
      have e1 : (gapM m).put = .empty := rfl
      have e2 : (gapM m).drop = .empty := rfl
      have e3 : (gapM m).kept = 0 := hk
      simp only [e1, e2, e3, bL_emp, List.map_nil, List.append_nil, List.replicate_zero]
      exact EqA.refl _
    · rw [keepM_no h0]
      have e1 : bL m.put = [] := bL_nil (by omega)
      have e2 : bL m.drop = [] := bL_nil (by omega)
      refine ⟨⟨fun _ => ⟨by show m.put.size = 0; omega, by show m.drop.size = 0; omega⟩, h.nz⟩, ?_⟩
      unfold denM
      simp only [e1, e2, List.map_nil, List.append_nil]
      rw [List.append_assoc, List.replicate_succ']
      exact EqA.refl _
  | P c =>
    have e1 : putsM ⟨#[c]⟩ m = ⟨(rowM m).out, 0, m.put ++ ⟨#[c]⟩, m.drop⟩ := putsM_one c m
    show OkM (putsM ⟨#[c]⟩ m) ∧ EqA (denM (putsM ⟨#[c]⟩ m)) _
    rw [e1]
    refine ⟨⟨fun hk => absurd hk (Nat.lt_irrefl 0), h.row.nz⟩, ?_⟩
    rw [← den_row m]
    unfold denM
    have e2 : bL (m.put ++ ⟨#[c]⟩) = bL m.put ++ [c] := by rw [bL_app]; rfl
    have e3 : (rowM m).kept = 0 := rfl
    have e4 : (rowM m).put = m.put := rfl
    have e5 : (rowM m).drop = m.drop := rfl
    simp only [e2, e3, e4, e5, List.map_append, List.replicate_zero, List.append_nil, List.append_assoc, List.map_cons, List.map_nil]
    refine EqA.app (EqA.refl _) (EqA.app (EqA.refl _) ?_)
    have h1 := swap_one c (bL m.drop)
    exact ⟨fun s => (h1.run s).symm, h1.inn.symm, h1.out.symm, h1.len.symm⟩
  | D c =>
    have e1 : dropsM ⟨#[c]⟩ m = ⟨(rowM m).out, 0, m.put, m.drop ++ ⟨#[c]⟩⟩ := dropsM_one c m
    show OkM (dropsM ⟨#[c]⟩ m) ∧ EqA (denM (dropsM ⟨#[c]⟩ m)) _
    rw [e1]
    refine ⟨⟨fun hk => absurd hk (Nat.lt_irrefl 0), h.row.nz⟩, ?_⟩
    rw [← den_row m]
    unfold denM
    have e2 : bL (m.drop ++ ⟨#[c]⟩) = bL m.drop ++ [c] := by rw [bL_app]; rfl
    have e3 : (rowM m).kept = 0 := rfl
    have e4 : (rowM m).put = m.put := rfl
    have e5 : (rowM m).drop = m.drop := rfl
    simp only [e2, e3, e4, e5, List.map_append, List.replicate_zero, List.append_nil, List.append_assoc, List.map_cons, List.map_nil]
    exact EqA.refl _
theorem den_fdL (A : List Atm) {m : Mk} (h : OkM m) : OkM (fdL A m) ∧ EqA (denM (fdL A m)) (denM m ++ A) := by
  induction A generalizing m with
  | nil => exact ⟨h, by rw [List.append_nil]; exact EqA.refl _⟩
  | cons a A ih =>
    obtain ⟨h1, h2⟩ := den_feed h a
    obtain ⟨h3, h4⟩ := ih h1
    refine ⟨h3, h4.trans ?_⟩
    have := h2.app (EqA.refl A)
    rwa [List.append_assoc] at this
theorem den_end {m : Mk} (h : OkM m) : atL (endM m) = denM m ∧ ∀ x ∈ endM m, kindN x ≠ 0 := by
  refine ⟨?_, (h.gap.row).nz⟩
  unfold endM
  have e : denM (rowM (gapM m)) = atL (rowM (gapM m)).out := by
    unfold denM
    have e1 : (rowM (gapM m)).put = .empty := rfl
    have e2 : (rowM (gapM m)).drop = .empty := rfl
    have e3 : (rowM (gapM m)).kept = 0 := rfl
    simp only [e1, e2, e3, bL_emp, List.map_nil, List.append_nil, List.replicate_zero]
  rw [← e, den_row]
  by_cases hk : 0 < m.kept
  · obtain ⟨h1, h2⟩ := h.alt hk
    unfold denM gapM
    simp only [atL_app, atL_put, atL_drop, bL_nil h1, bL_nil h2, bL_emp, List.map_nil, List.append_nil]
  · exact den_gap (by omega)
/-- The one form does what the change does. -/
theorem nf_eq (A : List Atm) : EqA (atL (nfA A)) A ∧ ∀ x ∈ nfA A, kindN x ≠ 0 := by
  obtain ⟨h1, h2⟩ := den_fdL A OkM.new
  obtain ⟨h3, h4⟩ := den_end h1
  refine ⟨?_, h4⟩
  unfold nfA
  rw [h3]
  exact h2
end Go.Proofs.YtjccoiephdopkaaDoor
