/- Several texts in one. -/
import Derived.Test.YtjccoiephdopkaaZ16
import Derived.Test.YtjccoiephdopkaaZ08
import Derived.Test.YtjccoiephdopkaaZ13
/- Stage 27: where a change's rows begin and end. -/
namespace Go.Proofs.Ytjccoiephdopkaa
set_option linter.unusedVariables false
set_option linter.unusedSimpArgs false
open Go Go.RowKit Go.Shelf
set_option maxRecDepth 100000

def oK (n : Nat) : List Sp := if 0 < n then [⟨n, .empty, .empty⟩] else []
def oP (x : ByteArray) : List Sp := if 0 < x.size then [⟨0, .empty, x⟩] else []
def oD (x : ByteArray) : List Sp := if 0 < x.size then [⟨0, x, .empty⟩] else []
theorem nf_make (p M : Nat) (x y : ByteArray) : nfA (List.replicate p .K ++ (bL x).map .P ++ (bL y).map .D ++ List.replicate M .K) = endM (keepM M (dropsM y (putsM x (keepM p mk0)))) := by
  unfold nfA
  rw [fdL_app, fdL_app, fdL_app, ← keep_fd, ← puts_fd, ← drops_fd, ← keep_fd]
theorem emp_of {x : ByteArray} (h : ¬ 0 < x.size) : x = .empty := by apply bL_inj; rw [bL_nil (by omega)]; rfl
theorem emp_app2 (s : ByteArray) : ByteArray.empty ++ s = s := by apply bL_inj; rw [bL_app, bL_emp, List.nil_append]
theorem nf_shape (p M : Nat) (x y : ByteArray) : nfA (List.replicate p .K ++ (bL x).map .P ++ (bL y).map .D ++ List.replicate M .K) = if 0 < x.size ∨ 0 < y.size then oK p ++ oP x ++ oD y ++ oK M else oK (p + M) := by
  rw [nf_make]
  have e0 : keepM p mk0 = ⟨[], p, .empty, .empty⟩ := by rw [keepM_no (by decide)]; simp [mk0]
  rw [e0]
  have z : ByteArray.empty.size = 0 := rfl
  by_cases hx : 0 < x.size
  · have e1 : putsM x ⟨[], p, .empty, .empty⟩ = ⟨oK p, 0, x, .empty⟩ := by
      unfold putsM; rw [if_pos hx]; simp [rowM, oK, emp_app2]
    rw [e1, if_pos (.inl hx)]
    have e2 : dropsM y ⟨oK p, 0, x, .empty⟩ = ⟨oK p, 0, x, y⟩ := by
      unfold dropsM
      by_cases hy : 0 < y.size
      · rw [if_pos hy]; simp [rowM, emp_app2]
      · rw [if_neg hy]; simp [emp_app2]
    rw [e2]
    by_cases hM : 0 < M
    · rw [keepM_yes hM (by show 0 < x.size + y.size; omega)]
      simp [endM, gapM, rowM, oK, oP, oD, z, hM]
    · obtain rfl : M = 0 := by omega
      rw [keep_zero]
      simp [endM, gapM, rowM, oK, oP, oD, z]
  · obtain rfl := emp_of hx
    have e1 : putsM .empty ⟨[], p, .empty, .empty⟩ = ⟨[], p, .empty, .empty⟩ := by
      unfold putsM; rw [if_neg hx]; simp [emp_app2]
    rw [e1]
    by_cases hy : 0 < y.size
    · have e2 : dropsM y ⟨[], p, .empty, .empty⟩ = ⟨oK p, 0, .empty, y⟩ := by
        unfold dropsM; rw [if_pos hy]; simp [rowM, oK, emp_app2]
      rw [e2, if_pos (.inr hy)]
      by_cases hM : 0 < M
      · rw [keepM_yes hM (by show 0 < ByteArray.empty.size + y.size; omega)]
        simp [endM, gapM, rowM, oK, oP, oD, z, hM]
      · obtain rfl : M = 0 := by omega
        rw [keep_zero]
        simp [endM, gapM, rowM, oK, oP, oD, z]
    · obtain rfl := emp_of hy
      have e2 : dropsM .empty ⟨[], p, .empty, .empty⟩ = ⟨[], p, .empty, .empty⟩ := by
        unfold dropsM; rw [if_neg hy]; simp [emp_app2]
      rw [e2, keepM_no (by show ¬ 0 < ByteArray.empty.size + ByteArray.empty.size; decide), if_neg (by omega)]
      simp [endM, gapM, rowM, oK, z]

/-- How much a change's rows take in or give out. -/
def szF (b : Bool) (l : List Sp) : Nat := if b = true then inA (atL l) else outA (atL l)
theorem szF_app (b : Bool) (l k : List Sp) : szF b (l ++ k) = szF b l + szF b k := by
  unfold szF
  rw [atL_app]
  cases b
  · simpa using outA_append _ _
  · simpa using inA_append _ _
theorem szF_nil (b : Bool) : szF b [] = 0 := by cases b <;> rfl
/-- Every row of it begins and ends where P holds. -/
def PreS (b : Bool) (P : Nat → Prop) (l : List Sp) (a : Nat) : Prop := ∀ k, k ≤ l.length → P (a + szF b (l.take k))
theorem preS_app {b : Bool} {P : Nat → Prop} {l k : List Sp} {a : Nat} (h : PreS b P l a) (g : PreS b P k (a + szF b l)) : PreS b P (l ++ k) a := by
  intro n hn
  rw [List.length_append] at hn
  rw [List.take_append, szF_app, ← Nat.add_assoc]
  rcases Nat.lt_or_ge n l.length with hl | hl
  · have := h n (by omega)
    rw [show n - l.length = 0 by omega, List.take_zero, szF_nil, Nat.add_zero]
    exact this
  · rw [List.take_of_length_le hl]
    exact g (n - l.length) (by omega)
theorem preS_nil {b : Bool} {P : Nat → Prop} {a : Nat} (h : P a) : PreS b P [] a := fun k hk => by
  rw [List.take_nil, szF_nil]; exact h
theorem preS_one {b : Bool} {P : Nat → Prop} {x : Sp} {a : Nat} (h : P a) (g : P (a + szF b [x])) : PreS b P [x] a := fun k hk => by
  match k, hk with
  | 0, _ => rw [List.take_zero, szF_nil]; exact h
  | 1, _ => exact g
theorem at_one (x : Sp) : atL [x] = atS x := by simp [atL]
theorem inA_rep (n : Nat) : inA (List.replicate n .K) = n ∧ outA (List.replicate n .K) = n := by
  induction n with
  | zero => exact ⟨rfl, rfl⟩
  | succ n ih =>
    rw [List.replicate_succ]
    exact ⟨by show inA (List.replicate n .K) + 1 = _; omega, by show outA (List.replicate n .K) + 1 = _; omega⟩
theorem inA_P (l : List UInt8) : inA (l.map .P) = 0 ∧ outA (l.map .P) = l.length := by
  induction l with
  | nil => exact ⟨rfl, rfl⟩
  | cons c l ih => exact ⟨ih.1, by show outA (l.map .P) + 1 = _; rw [ih.2]; rfl⟩
theorem inA_D (l : List UInt8) : inA (l.map .D) = l.length ∧ outA (l.map .D) = 0 := by
  induction l with
  | nil => exact ⟨rfl, rfl⟩
  | cons c l ih => exact ⟨by show inA (l.map .D) + 1 = _; rw [ih.1]; rfl, ih.2⟩
theorem sz_step (x : Sp) : szF true [x] = x.k.toNat + x.d.size ∧ szF false [x] = x.k.toNat + x.p.size := by
  have e : atL [x] = atS x := at_one x
  have i := inA_rep x.k.toNat
  have j := inA_P (bL x.p)
  have k := inA_D (bL x.d)
  rw [bL_len] at j k
  constructor
  · show inA (atL [x]) = _
    rw [e]; unfold atS; rw [inA_append, inA_append, i.1, j.1, k.1]; omega
  · show outA (atL [x]) = _
    rw [e]; unfold atS; rw [outA_append, outA_append, i.2, j.2, k.2]; omega
theorem preS_oK {b : Bool} {P : Nat → Prop} {n a : Nat} (h : P a) (g : P (a + n)) : PreS b P (oK n) a ∧ szF b (oK n) = n := by
  unfold oK
  by_cases hn : 0 < n
  · rw [if_pos hn]
    have z := sz_step ⟨n, .empty, .empty⟩
    have e : szF b [(⟨n, .empty, .empty⟩ : Sp)] = n := by
      cases b
      · rw [z.2]; simp
      · rw [z.1]; simp
    exact ⟨preS_one h (by rw [e]; exact g), e⟩
  · obtain rfl : n = 0 := by omega
    rw [if_neg hn]
    exact ⟨preS_nil h, szF_nil b⟩
theorem preS_oP {b : Bool} {P : Nat → Prop} {x : ByteArray} {a : Nat} (h : P a) (g : P (a + if b = true then 0 else x.size)) : PreS b P (oP x) a ∧ szF b (oP x) = if b = true then 0 else x.size := by
  unfold oP
  by_cases hn : 0 < x.size
  · rw [if_pos hn]
    have z := sz_step ⟨0, .empty, x⟩
    have e : szF b [(⟨0, .empty, x⟩ : Sp)] = if b = true then 0 else x.size := by
      cases b
      · rw [z.2]; simp
      · rw [z.1]; simp
    exact ⟨preS_one h (by rw [e]; exact g), e⟩
  · rw [if_neg hn]
    have : x.size = 0 := by omega
    exact ⟨preS_nil h, by rw [szF_nil, this]; simp⟩
theorem preS_oD {b : Bool} {P : Nat → Prop} {x : ByteArray} {a : Nat} (h : P a) (g : P (a + if b = true then x.size else 0)) : PreS b P (oD x) a ∧ szF b (oD x) = if b = true then x.size else 0 := by
  unfold oD
  by_cases hn : 0 < x.size
  · rw [if_pos hn]
    have z := sz_step ⟨0, x, .empty⟩
    have e : szF b [(⟨0, x, .empty⟩ : Sp)] = if b = true then x.size else 0 := by
      cases b
      · rw [z.2]; simp
      · rw [z.1]; simp
    exact ⟨preS_one h (by rw [e]; exact g), e⟩
  · rw [if_neg hn]
    have : x.size = 0 := by omega
    exact ⟨preS_nil h, by rw [szF_nil, this]; simp⟩
/-- The rows of what is made begin and end at 0, p, the tail's begin and the end. -/
theorem nf_pre (b : Bool) (P : Nat → Prop) (p M : Nat) (x y : ByteArray) (h0 : P 0) (h1 : P p) (h2 : P (p + if b = true then y.size else x.size)) (h3 : P (p + (if b = true then y.size else x.size) + M)) :
    PreS b P (nfA (List.replicate p .K ++ (bL x).map .P ++ (bL y).map .D ++ List.replicate M .K)) 0 := by
  rw [nf_shape]
  split
  · have a1 := preS_oK (b := b) (P := P) (n := p) (a := 0) h0 (by rw [Nat.zero_add]; exact h1)
    have a2 := preS_oP (b := b) (P := P) (x := x) (a := p) h1 (by cases b <;> simp_all)
    have a3 := preS_oD (b := b) (P := P) (x := y) (a := p + if b = true then 0 else x.size) (by cases b <;> simp_all) (by cases b <;> simp_all)
    have a4 := preS_oK (b := b) (P := P) (n := M) (a := p + if b = true then y.size else x.size) h2 h3
    refine preS_app (preS_app (preS_app a1.1 ?_) ?_) ?_
    · rw [a1.2, Nat.zero_add]; exact a2.1
    · rw [szF_app, a1.2, a2.2, Nat.zero_add]; exact a3.1
    · rw [szF_app, szF_app, a1.2, a2.2, a3.2, Nat.zero_add]
      have e : p + (if b = true then 0 else x.size) + (if b = true then y.size else 0) = p + if b = true then y.size else x.size := by cases b <;> simp
      rw [e]; exact a4.1
  · rename_i hn
    have e1 : x.size = 0 := by omega
    have e2 : y.size = 0 := by omega
    refine (preS_oK (b := b) (P := P) (n := p + M) (a := 0) h0 ?_).1
    rw [e1, e2] at h3
    rw [Nat.zero_add]
    cases b <;> simpa using h3
end Go.Proofs.Ytjccoiephdopkaa

/- Stage 27: the law's edge and cuts. -/
namespace Go.Proofs.Ytjccoiephdopkaa
set_option linter.unusedVariables false
set_option linter.unusedSimpArgs false
open Go Go.RowKit Go.Shelf
set_option maxRecDepth 100000

/-- A place where a piece begins, or the end. -/
def EdB (s : ByteArray) (a : Nat) : Prop := a ∈ posns s ∨ a = s.size
theorem edB_eg {s : ByteArray} {i q : Nat} (h : Eg s i q) : EdB s q := by
  by_cases hl : i < (posns s).length
  · exact .inl (List.mem_of_getElem? ((eg_at h).1 hl).1)
  · exact .inr ((eg_at h).2 hl)
def EdR (s : ByteArray) (w : World) (it a : Nat) (wr : World) : Prop :=
  ∃ (pre : List Nat) (pos : Nat), posns s = pre ++ posG s pos ∧ a ∉ pre ∧ wr.heap[it]? = some (.stringIter s pos) ∧ Below w.heap.size w wr

set_option maxHeartbeats 2000000 in
theorem edge_any (s : ByteArray) (a : Nat) (hs : s.size ≤ 65536) (ha : EdB s a) (w : World) :
    Calls Try.prog 20 #[.string s, .int .i64 a] w fun e w' => e = .returned (.bool true) ∧ Below w.heap.size w w' := by
  have HA := Lib.hid ha
  clear ha
  go_enter Try.func20, Try.ntmps20
  go_wp2
  go_loopw [5] (fun v wr => EdR s w w.heap.size a wr) (fun _ wr => s.size - wr.iterPos w.heap.size)
  case atStart => exact ⟨[], 0, by simp [posns_G], by simp, World.iter_heap w s 0, (Below.refl _ _).alloc (Nat.le_refl _) _⟩
  case round =>
    obtain ⟨pre, pos, hpp, hno, hit, hB⟩ := hrel
    by_cases hps : pos < s.size
    · have hnx : ∀ ty, (Instr.next (.pointer (some ⟨w.heap.size, 0, none⟩)) true ty).run Try.prog wr = _ := fun ty => Lib.run_next_any_at wr w.heap.size s pos ty hit hps
      rw [dec_eq s pos hps] at hnx
      have hit1 := Lib.iterAt_heap wr w.heap.size s pos (pos + wd s pos) hit
      have hB1 : Below w.heap.size w (wr.iterAt w.heap.size s (pos + wd s pos)) := Lib.below_iterAt hB (Nat.le_refl _) s _
      have hmeas : s.size - (pos + wd s pos) < s.size - wr.iterPos w.heap.size := by
        have := wd_pos s pos
        simp only [World.iterPos, hit]; omega
      have hpp2 : posns s = (pre ++ [pos]) ++ posG s (pos + wd s pos) := by rw [hpp, posG_cons s pos hps]; simp
      obtain ⟨P, hP⟩ : ∃ P, wr.iterAt w.heap.size s (pos + wd s pos) = P := ⟨_, rfl⟩
      rw [hP] at hnx hit1 hB1
      have HM := Lib.hid (And.intro hmeas (And.intro hpp2 (And.intro hit1 (And.intro hB1 hno))))
      clear hP hpp hpp2 hmeas hit hB hB1 hno hit1
      by_cases he : pos = a
      · have e1 : ((pos : Int) == (a : Int)) = true := by rw [he]; exact beq_self_eq_true _
        clear he
        go_wp2
        go_ret
        exact ⟨rfl, HM.out.2.2.2.1⟩
      · have e1 : ((pos : Int) == (a : Int)) = false := by rw [beq_eq_false_iff_ne]; omega
        have HE := Lib.hid he
        clear he
        go_wp2
        go_roundw
        case rel => exact ⟨_, _, HM.out.2.1, by simp only [List.mem_append, List.mem_singleton, not_or]; exact ⟨HM.out.2.2.2.2, fun e => HE.out e.symm⟩, HM.out.2.2.1, HM.out.2.2.2.1⟩
        case measure => simp only [World.iterPos, HM.out.2.2.1]; exact HM.out.1
    · have hnx : ∀ ty, (Instr.next (.pointer (some ⟨w.heap.size, 0, none⟩)) true ty).run Try.prog wr = _ := fun ty => Lib.run_next_end_at wr w.heap.size s pos ty hit hps
      have hend : a = s.size := by
        rcases HA.out with h | h
        · rw [hpp, posG_end s pos (by omega), List.append_nil] at h
          exact absurd h hno
        · exact h
      have e1 : ((a : Int) == (s.size : Int)) = true := by rw [hend]; exact beq_self_eq_true _
      have HB := Lib.hid hB
      clear hend hpp hno hB hit
      go_wp2
      go_ret
      exact ⟨rfl, HB.out⟩

def CutR (w : World) (b : Bool) (l : List Sp) (v1 v2 : Value) (wr : World) : Prop :=
  ∃ k : Nat, v2 = .int .i64 k ∧ k ≤ l.length ∧ v1 = .int .i64 (szF b (l.take k) : Nat) ∧ Below w.heap.size w wr
theorem sz_take (b : Bool) {l : List Sp} {k : Nat} {x : Sp} (hx : l[k]? = some x) : szF b (l.take (k + 1)) = szF b (l.take k) + szF b [x] := by
  rw [List.take_add_one, hx, szF_app]; rfl
theorem sz_mono (b : Bool) (l : List Sp) (k : Nat) : szF b (l.take k) ≤ szF b l := by
  have : szF b (l.take k ++ l.drop k) = szF b (l.take k) + szF b (l.drop k) := szF_app ..
  rw [List.take_append_drop] at this
  omega
end Go.Proofs.Ytjccoiephdopkaa

/- Stage 27: Whole: where bytes go; whole pieces alone: mathematics. -/
namespace Go.Proofs.Ytjccoiephdopkaa
set_option linter.unusedVariables false
set_option linter.unusedSimpArgs false
open Go Go.RowKit Go.Shelf
set_option maxRecDepth 100000

/-- Where each byte of the text has gone. -/
def gsA : List Atm → Nat → List (Option Nat)
  | [], _ => []
  | .P _ :: A, t => gsA A (t + 1)
  | .K :: A, t => some t :: gsA A (t + 1)
  | .D _ :: A, t => none :: gsA A t
theorem gsA_len : ∀ (A : List Atm) (t : Nat), (gsA A t).length = inA A
  | [], _ => rfl
  | .P _ :: A, t => gsA_len A (t + 1)
  | .K :: A, t => by simp only [gsA, inA, List.length_cons, gsA_len A]
  | .D _ :: A, t => by simp only [gsA, inA, List.length_cons, gsA_len A]
theorem gsA_app : ∀ (A B : List Atm) (t : Nat), gsA (A ++ B) t = gsA A t ++ gsA B (t + outA A)
  | [], _, _ => rfl
  | .P _ :: A, B, t => by
    rw [List.cons_append, gsA, gsA, gsA_app A B, outA, Nat.add_assoc, Nat.add_comm 1]
  | .K :: A, B, t => by
    rw [List.cons_append, gsA, gsA, gsA_app A B, outA, List.cons_append, Nat.add_assoc, Nat.add_comm 1]
  | .D _ :: A, B, t => by
    rw [List.cons_append, gsA, gsA, gsA_app A B, outA, List.cons_append]
theorem gsA_ge : ∀ (A : List Atm) (t i g : Nat), (gsA A t)[i]? = some (some g) → t ≤ g ∧ g < t + outA A
  | [], _, _, _, h => by cases h
  | .P _ :: A, t, i, g, h => by have := gsA_ge A (t + 1) i g h; simp only [outA]; omega
  | .K :: A, t, 0, g, h => by cases h; simp only [outA]; omega
  | .K :: A, t, i + 1, g, h => by have := gsA_ge A (t + 1) i g h; simp only [outA]; omega
  | .D _ :: A, t, 0, g, h => by cases h
  | .D _ :: A, t, i + 1, g, h => by have := gsA_ge A t i g h; simp only [outA]; omega
theorem gsA_mono : ∀ (A : List Atm) (t i j g h : Nat), i < j → (gsA A t)[i]? = some (some g) → (gsA A t)[j]? = some (some h) → g < h
  | [], _, _, _, _, _, _, h, _ => by cases h
  | .P _ :: A, t, i, j, g, h, hij, h1, h2 => gsA_mono A (t + 1) i j g h hij h1 h2
  | .K :: A, t, 0, j + 1, g, h, hij, h1, h2 => by cases h1; have := gsA_ge A (t + 1) j h h2; omega
  | .K :: A, t, i + 1, j + 1, g, h, hij, h1, h2 => gsA_mono A (t + 1) i j g h (by omega) h1 h2
  | .D _ :: A, t, 0, j + 1, g, h, hij, h1, h2 => by cases h1
  | .D _ :: A, t, i + 1, j + 1, g, h, hij, h1, h2 => gsA_mono A t i j g h (by omega) h1 h2
theorem gsA_rep : ∀ (n : Nat) (A : List Atm) (t : Nat), gsA (List.replicate n .K ++ A) t = gsA (List.replicate n .K) t ++ gsA A (t + n) := by
  intro n A t
  rw [gsA_app, (in_rep_K n).2]
theorem gsA_K : ∀ (n t q : Nat), q < n → (gsA (List.replicate n .K) t)[q]? = some (some (t + q))
  | 0, _, _, h => by omega
  | n + 1, t, 0, _ => rfl
  | n + 1, t, q + 1, h => by
    rw [List.replicate_succ, gsA, List.getElem?_cons_succ, gsA_K n (t + 1) q (by omega)]
    congr 2; omega
/-- What a byte that is kept is, in both. -/
theorem gsA_run : ∀ (A : List Atm) (s t r : List UInt8) (t0 p g : Nat), runA A s = some (t, r) → (gsA A t0)[p]? = some (some g) → s[p]? = t[g - t0]? ∧ g - t0 < t.length ∧ p < s.length
  | [], _, _, _, _, _, _, _, h => by cases h
  | .P c :: A, s, t, r, t0, p, g, hr, h => by
    obtain ⟨t', rfl, h2⟩ := run_P hr
    obtain ⟨h3, h4, h5⟩ := gsA_run A s t' r (t0 + 1) p g h2 h
    have h6 := (gsA_ge A (t0 + 1) p g h).1
    rw [show g - t0 = (g - (t0 + 1)) + 1 by omega, List.getElem?_cons_succ, List.length_cons]
    exact ⟨h3, by omega, h5⟩
  | .K :: A, s, t, r, t0, 0, g, hr, h => by
    obtain ⟨c, s', t', rfl, rfl, h2⟩ := run_K hr
    cases h
    rw [Nat.sub_self]
    simp
  | .K :: A, s, t, r, t0, p + 1, g, hr, h => by
    obtain ⟨c, s', t', rfl, rfl, h2⟩ := run_K hr
    obtain ⟨h3, h4, h5⟩ := gsA_run A s' t' r (t0 + 1) p g h2 h
    have h6 := (gsA_ge A (t0 + 1) p g h).1
    rw [show g - t0 = (g - (t0 + 1)) + 1 by omega, List.getElem?_cons_succ, List.getElem?_cons_succ, List.length_cons, List.length_cons]
    exact ⟨h3, by omega, by omega⟩
  | .D d :: A, s, t, r, t0, 0, g, hr, h => by cases h
  | .D d :: A, s, t, r, t0, p + 1, g, hr, h => by
    obtain ⟨s', rfl, h2⟩ := run_D hr
    obtain ⟨h3, h4, h5⟩ := gsA_run A s' t r t0 p g h2 h
    rw [List.getElem?_cons_succ, List.length_cons]
    exact ⟨h3, h4, by omega⟩
/-- Where whole bytes have gone, side by side. -/
def rgt (gs : List (Option Nat)) (p w : Nat) : Option Nat :=
  match gs[p]? with
  | some (some g) => if ∀ q, q < w → gs[p + q]? = some (some (g + q)) then some g else none
  | _ => none
theorem rgt_some {gs : List (Option Nat)} {p w g : Nat} (hw : 0 < w) : rgt gs p w = some g ↔ ∀ q, q < w → gs[p + q]? = some (some (g + q)) := by
  unfold rgt
  constructor
  · intro h
    split at h
    · rename_i g0 e
      split at h
      · rename_i hq; cases h; exact hq
      · cases h
    · cases h
  · intro h
    have h0 := h 0 hw
    rw [Nat.add_zero, Nat.add_zero] at h0
    rw [h0]
    exact if_pos h
/-- Where a piece has gone, if it is kept whole and is a piece there. -/
def tkW (s t : ByteArray) (gs : List (Option Nat)) (p : Nat) : Option Nat :=
  match rgt gs p (wd s p) with
  | some g => if g ∈ posns t ∧ wd t g = wd s p then some g else none
  | none => none
theorem tkW_some {s t : ByteArray} {gs : List (Option Nat)} {p g : Nat} : tkW s t gs p = some g ↔ (∀ q, q < wd s p → gs[p + q]? = some (some (g + q))) ∧ g ∈ posns t ∧ wd t g = wd s p := by
  have hw := wd_pos s p
  unfold tkW
  constructor
  · intro h
    split at h
    · rename_i g0 e
      split at h
      · rename_i hq; cases h; exact ⟨(rgt_some hw).1 e, hq⟩
      · cases h
    · cases h
  · rintro ⟨h1, h2⟩
    rw [(rgt_some hw).2 h1]
    exact if_pos h2
structure WS where
  A : List Atm
  a : Nat
  b : Nat
def stepW (s t : ByteArray) (gs : List (Option Nat)) (x : WS) (p : Nat) : WS :=
  match tkW s t gs p with
  | some g => ⟨x.A ++ (bL (t.extract x.b g)).map .P ++ (bL (s.extract x.a p)).map .D ++ List.replicate (wd s p) .K, p + wd s p, g + wd s p⟩
  | none => x
theorem stepW_yes {s t : ByteArray} {gs : List (Option Nat)} {x : WS} {p g : Nat} (h : tkW s t gs p = some g) : stepW s t gs x p = ⟨x.A ++ (bL (t.extract x.b g)).map .P ++ (bL (s.extract x.a p)).map .D ++ List.replicate (wd s p) .K, p + wd s p, g + wd s p⟩ := by unfold stepW; rw [h]
theorem stepW_no {s t : ByteArray} {gs : List (Option Nat)} {x : WS} {p : Nat} (h : tkW s t gs p = none) : stepW s t gs x p = x := by unfold stepW; rw [h]
/-- The pieces ahead of a place. -/
def upT (s : ByteArray) (c : Nat) : List Nat := (posns s).filter fun p => decide (p < c)
theorem upT_same {s : ByteArray} {c d : Nat} (h : c ≤ d) (hn : ∀ p ∈ posns s, c ≤ p → ¬ p < d) : upT s d = upT s c := by
  unfold upT
  apply List.filter_congr
  intro p hp
  by_cases h1 : p < c
  · rw [decide_eq_true h1, decide_eq_true (by omega)]
  · rw [decide_eq_false h1, decide_eq_false (hn p hp (by omega))]
theorem upT_zero (s : ByteArray) : upT s 0 = [] := by
  unfold upT
  rw [List.filter_eq_nil_iff]
  intro p _
  simp
theorem upT_all (s : ByteArray) : upT s s.size = posns s := by
  unfold upT
  rw [List.filter_eq_self]
  intro p hp
  exact decide_eq_true (posG_ge s 0 p hp).2
theorem upT_step {s : ByteArray} {p : Nat} (hp : p ∈ posns s) : upT s (p + wd s p) = upT s p ++ [p] := by
  have hw := wd_pos s p
  obtain ⟨pre, post, e⟩ := List.append_of_mem hp
  have hs : (posns s).Pairwise (· < ·) := posG_sorted s 0
  unfold upT
  have hap := posG_apart s 0
  have hmem : ∀ q ∈ post, q ∈ posns s := fun q hq => by rw [e]; simp [hq]
  rw [e] at hs ⊢
  rw [List.pairwise_append] at hs
  obtain ⟨h1, h2, h3⟩ := hs
  have h4 : ∀ q ∈ post, p < q := fun q hq => (List.pairwise_cons.1 h2).1 q hq
  rw [List.filter_append, List.filter_append, List.filter_cons, List.filter_cons, if_pos (by simp; omega), if_neg (by simp)]
  have a1 : pre.filter (fun q => decide (q < p + wd s p)) = pre := by
    rw [List.filter_eq_self]; intro q hq
    have := h3 q hq p (by simp)
    exact decide_eq_true (by omega)
  have a2 : pre.filter (fun q => decide (q < p)) = pre := by
    rw [List.filter_eq_self]; intro q hq
    exact decide_eq_true (h3 q hq p (by simp))
  have a3 : post.filter (fun q => decide (q < p + wd s p)) = [] := by
    rw [List.filter_eq_nil_iff]; intro q hq
    have h5 := h4 q hq
    have := hap p hp q (hmem q hq) h5
    simp; omega
  have a4 : post.filter (fun q => decide (q < p)) = [] := by
    rw [List.filter_eq_nil_iff]; intro q hq
    have h5 := h4 q hq
    simp; omega
  rw [a1, a2, a3, a4, List.append_nil]
def upW (s t : ByteArray) (gs : List (Option Nat)) (c : Nat) : WS := (upT s c).foldl (stepW s t gs) ⟨[], 0, 0⟩
theorem upW_step {s t : ByteArray} {gs : List (Option Nat)} {p : Nat} (hp : p ∈ posns s) : upW s t gs (p + wd s p) = stepW s t gs (upW s t gs p) p := by
  unfold upW; rw [upT_step hp, List.foldl_append]; rfl
theorem upW_same {s t : ByteArray} {gs : List (Option Nat)} {c d : Nat} (h : c ≤ d) (hn : ∀ p ∈ posns s, c ≤ p → ¬ p < d) : upW s t gs d = upW s t gs c := by unfold upW; rw [upT_same h hn]
theorem upW_zero (s t : ByteArray) (gs : List (Option Nat)) : upW s t gs 0 = ⟨[], 0, 0⟩ := by unfold upW; rw [upT_zero]; rfl
/-- The pieces of a row that is dropped are none that are kept. -/
theorem upW_skip {s t : ByteArray} {gs : List (Option Nat)} {c d : Nat} (h : c ≤ d) (hn : ∀ p ∈ posns s, c ≤ p → p < d → tkW s t gs p = none) : upW s t gs d = upW s t gs c := by
  unfold upW
  have key : ∃ l, upT s d = upT s c ++ l ∧ ∀ p ∈ l, tkW s t gs p = none := by
    refine ⟨(posns s).filter fun p => decide (c ≤ p ∧ p < d), ?_, fun p hp => ?_⟩
    · unfold upT
      have hs : (posns s).Pairwise (· < ·) := posG_sorted s 0
      clear hn
      generalize posns s = PL at hs ⊢
      induction PL with
      | nil => rfl
      | cons x l ih =>
        have h1 := (List.pairwise_cons.1 hs).1
        have h2 := ih (List.Pairwise.of_cons hs)
        rw [List.filter_cons, List.filter_cons, List.filter_cons]
        by_cases a : x < c
        · rw [if_pos (by simp; omega), if_pos (by simp; omega), if_neg (by simp; omega), h2]; rfl
        · have e : l.filter (fun p => decide (p < c)) = [] := by
            rw [List.filter_eq_nil_iff]; intro q hq; have := h1 q hq; simp; omega
          by_cases b : x < d
          · rw [if_pos (by simp; omega), if_neg (by simp; omega), if_pos (by simp; omega), h2, e]; rfl
          · rw [if_neg (by simp; omega), if_neg (by simp; omega), if_neg (by simp; omega), h2]
    · rw [List.mem_filter] at hp
      have := of_decide_eq_true hp.2
      exact hn p hp.1 this.1 this.2
  obtain ⟨l, e, hl⟩ := key
  rw [e, List.foldl_append]
  clear e
  generalize List.foldl (stepW s t gs) ⟨[], 0, 0⟩ (upT s c) = x
  induction l generalizing x with
  | nil => rfl
  | cons p l ih =>
    rw [List.foldl_cons, stepW_no (hl p (by simp))]
    exact ih (fun q hq => hl q (by simp [hq])) x
def finW (s t : ByteArray) (x : WS) : List Atm := x.A ++ (bL (t.extract x.b t.size)).map .P ++ (bL (s.extract x.a s.size)).map .D
/-- The change that keeps whole pieces alone. -/
def whA (s t : ByteArray) (gs : List (Option Nat)) : List Atm := finW s t (upW s t gs s.size)
/-- What is known of where bytes have gone. -/
structure GsK (s t : ByteArray) (gs : List (Option Nat)) : Prop where
  len : gs.length = s.size
  same : ∀ (p g : Nat), gs[p]? = some (some g) → (bL s)[p]? = (bL t)[g]? ∧ g < t.size
  mono : ∀ (p q g h : Nat), p < q → gs[p]? = some (some g) → gs[q]? = some (some h) → g < h
theorem GsK.of {s t : ByteArray} {A : List Atm} (h : runA A (bL s) = some (bL t, [])) : GsK s t (gsA A 0) := by
  have h1 := run_len h
  rw [bL_len, bL_len] at h1
  refine ⟨by rw [gsA_len, h1.1, List.length_nil, Nat.add_zero], fun p g hg => ?_, fun p q g h' hpq h2 h3 => gsA_mono A 0 p q g h' hpq h2 h3⟩
  have := gsA_run A _ _ _ 0 p g h hg
  rw [Nat.sub_zero, bL_len] at this
  exact ⟨this.1, this.2.1⟩
/-- How far a maker has come, on one side. -/
def curM (b : Bool) (m : Mk) : Nat := szF b m.out + m.kept + if b = true then m.drop.size else m.put.size
def PIn (b : Bool) (P : Nat → Prop) (m : Mk) : Prop := PreS b P m.out 0 ∧ P (curM b m)
theorem szF_oK (b : Bool) (n : Nat) : szF b (oK n) = n := (preS_oK (P := fun _ => True) (a := 0) trivial trivial).2
theorem row_oK (m : Mk) : rowM m = ⟨m.out ++ oK m.kept, 0, m.put, m.drop⟩ := rfl
theorem gap_oP (m : Mk) : gapM m = ⟨m.out ++ oP m.put ++ oD m.drop, m.kept, .empty, .empty⟩ := rfl
theorem preS_end {b : Bool} {P : Nat → Prop} {l : List Sp} (h : PreS b P l 0) : P (szF b l) := by
  have := h l.length (Nat.le_refl _)
  rwa [List.take_length, Nat.zero_add] at this
theorem pin_row {b : Bool} {P : Nat → Prop} {m : Mk} (h : PIn b P m) (ho : OkM m) : PIn b P (rowM m) ∧ curM b (rowM m) = curM b m := by
  obtain ⟨h1, h2⟩ := h
  have e : curM b (rowM m) = curM b m := by
    unfold curM
    rw [row_oK]
    simp only [szF_app, szF_oK, Nat.add_zero]
  refine ⟨⟨?_, by rw [e]; exact h2⟩, e⟩
  rw [row_oK]
  refine preS_app h1 ?_
  rw [Nat.zero_add]
  refine (preS_oK (preS_end h1) ?_).1
  by_cases hk : 0 < m.kept
  · obtain ⟨a1, a2⟩ := ho.alt hk
    unfold curM at h2
    rw [a1, a2] at h2
    simpa using h2
  · rw [show m.kept = 0 by omega, Nat.add_zero]; exact preS_end h1
theorem pin_gap {b : Bool} {P : Nat → Prop} {m : Mk} (h : PIn b P m) (hk : m.kept = 0) : PIn b P (gapM m) ∧ curM b (gapM m) = curM b m := by
  obtain ⟨h1, h2⟩ := h
  unfold curM at h2
  rw [hk, Nat.add_zero] at h2
  have hP := preS_end h1
  have a1 := preS_oP (b := b) (P := P) (x := m.put) (a := szF b m.out) hP (by cases b <;> simp_all)
  have a2 := preS_oD (b := b) (P := P) (x := m.drop) (a := szF b m.out + if b = true then 0 else m.put.size) (by cases b <;> simp_all) (by cases b <;> simp_all)
  have e : curM b (gapM m) = curM b m := by
    unfold curM
    rw [gap_oP]
    simp only [szF_app, a1.2, a2.2, hk, emp_size]
    cases b <;> simp
  refine ⟨⟨?_, ?_⟩, e⟩
  · rw [gap_oP]
    refine preS_app (preS_app h1 ?_) ?_
    · rw [Nat.zero_add]; exact a1.1
    · rw [Nat.zero_add, szF_app, a1.2]; exact a2.1
  · rw [e]; unfold curM; rw [hk, Nat.add_zero]; exact h2
theorem pin_puts {b : Bool} {P : Nat → Prop} {m : Mk} (h : PIn b P m) (ho : OkM m) (x : ByteArray) (g : P (curM b m + if b = true then 0 else x.size)) : PIn b P (putsM x m) ∧ curM b (putsM x m) = curM b m + if b = true then 0 else x.size := by
  have key : ∀ m' : Mk, PreS b P m'.out 0 → curM b m' = curM b m → PIn b P ⟨m'.out, m'.kept, m'.put ++ x, m'.drop⟩ ∧ curM b ⟨m'.out, m'.kept, m'.put ++ x, m'.drop⟩ = curM b m + if b = true then 0 else x.size := by
    intro m' h1 h2
    have e : curM b ⟨m'.out, m'.kept, m'.put ++ x, m'.drop⟩ = curM b m + if b = true then 0 else x.size := by
      rw [← h2]
      unfold curM
      cases b
      · simp [ByteArray.size_append]; omega
      · simp
    exact ⟨⟨h1, by rw [e]; exact g⟩, e⟩
  unfold putsM
  split
  · obtain ⟨h1, h2⟩ := pin_row h ho
    exact key _ h1.1 h2
  · exact key m h.1 rfl
theorem pin_drops {b : Bool} {P : Nat → Prop} {m : Mk} (h : PIn b P m) (ho : OkM m) (x : ByteArray) (g : P (curM b m + if b = true then x.size else 0)) : PIn b P (dropsM x m) ∧ curM b (dropsM x m) = curM b m + if b = true then x.size else 0 := by
  have key : ∀ m' : Mk, PreS b P m'.out 0 → curM b m' = curM b m → PIn b P ⟨m'.out, m'.kept, m'.put, m'.drop ++ x⟩ ∧ curM b ⟨m'.out, m'.kept, m'.put, m'.drop ++ x⟩ = curM b m + if b = true then x.size else 0 := by
    intro m' h1 h2
    have e : curM b ⟨m'.out, m'.kept, m'.put, m'.drop ++ x⟩ = curM b m + if b = true then x.size else 0 := by
      rw [← h2]
      unfold curM
      cases b
      · simp
      · simp [ByteArray.size_append]; omega
    exact ⟨⟨h1, by rw [e]; exact g⟩, e⟩
  unfold dropsM
  split
  · obtain ⟨h1, h2⟩ := pin_row h ho
    exact key _ h1.1 h2
  · exact key m h.1 rfl
theorem pin_keep {b : Bool} {P : Nat → Prop} {m : Mk} (h : PIn b P m) (ho : OkM m) (n : Nat) (g : P (curM b m + n)) : PIn b P (keepM n m) ∧ curM b (keepM n m) = curM b m + n := by
  have key : ∀ m' : Mk, PreS b P m'.out 0 → curM b m' = curM b m → PIn b P ⟨m'.out, m'.kept + n, m'.put, m'.drop⟩ ∧ curM b ⟨m'.out, m'.kept + n, m'.put, m'.drop⟩ = curM b m + n := by
    intro m' h1 h2
    have e : curM b ⟨m'.out, m'.kept + n, m'.put, m'.drop⟩ = curM b m + n := by
      rw [← h2]
      unfold curM
      simp only; omega
    exact ⟨⟨h1, by rw [e]; exact g⟩, e⟩
  unfold keepM
  simp only
  split
  · rename_i hc
    have hk : m.kept = 0 := by
      by_cases hk : 0 < m.kept
      · have := ho.alt hk; omega
      · omega
    obtain ⟨h1, h2⟩ := pin_gap h hk
    exact key _ h1.1 h2
  · exact key m h.1 rfl
theorem pin_end {b : Bool} {P : Nat → Prop} {m : Mk} (h : PIn b P m) (ho : OkM m) : PreS b P (endM m) 0 := by
  unfold endM
  by_cases hk : m.kept = 0
  · obtain ⟨h1, h2⟩ := pin_gap h hk
    exact (pin_row h1 ho.gap).1.1
  · obtain ⟨a1, a2⟩ := ho.alt (by omega)
    have e : gapM m = ⟨m.out, m.kept, .empty, .empty⟩ := by
      rw [gap_oP]; unfold oP oD; rw [if_neg (by omega), if_neg (by omega)]; simp
    have h3 : PIn b P (gapM m) := by
      rw [e]
      refine ⟨h.1, ?_⟩
      have := h.2
      unfold curM at this ⊢
      rw [a1, a2] at this
      simpa [emp_size] using this
    exact (pin_row h3 ho.gap).1.1
end Go.Proofs.Ytjccoiephdopkaa
