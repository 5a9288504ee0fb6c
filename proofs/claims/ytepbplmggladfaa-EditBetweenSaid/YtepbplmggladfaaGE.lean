/- Several texts in one. -/
import Derived.Test.YtepbplmggladfaaGN
import Derived.Test.YtepbplmggladfaaJm
import Derived.Test.YtepbplmggladfaaNd
import Derived.Test.YtepbplmggladfaaHs
/- Stage 27: where a change's rows begin and end. -/
namespace Go.Proofs.Ytepbplmggladfaa
set_option linter.unusedVariables false
set_option linter.unusedSimpArgs false
open Go Go.RowKit Go.Shelf
set_option maxRecDepth 100000

def oK (n : Nat) : List Sp := if 0 < n then [⟨n, .empty, .empty⟩] else []
def oP (x : ByteArray) : List Sp := if 0 < x.size then [⟨0, .empty, x⟩] else []
def oD (x : ByteArray) : List Sp := if 0 < x.size then [⟨0, x, .empty⟩] else []
theorem nf_make (p M : Nat) (x y : ByteArray) : nfA (List.replicate p .K ++ (bL x).map .P ++ (bL y).map .D ++ List.replicate M .K) = endM (keepM M (dropsM y (putsM x (keepM p mk0)))) := by
  unfold nfA
  rw [fdL_app, fdL_app, fdL_app, ← keep_fd, ← puts_fd, ← drops_fd, ← keep_fd]
theorem emp_of {x : ByteArray} (h : ¬ 0 < x.size) : x = .empty := by apply bL_inj; rw [bL_nil (by omega)]; rfl
theorem emp_app2 (s : ByteArray) : ByteArray.empty ++ s = s := by apply bL_inj; rw [bL_app, bL_emp, List.nil_append]
theorem nf_shape (p M : Nat) (x y : ByteArray) : nfA (List.replicate p .K ++ (bL x).map .P ++ (bL y).map .D ++ List.replicate M .K) = if 0 < x.size ∨ 0 < y.size then oK p ++ oP x ++ oD y ++ oK M else oK (p + M) := by
  rw [nf_make]
  have e0 : keepM p mk0 = ⟨[], p, .empty, .empty⟩ := by rw [keepM_no (by decide)]; simp [mk0]
  rw [e0]
  have z : ByteArray.empty.size = 0 := rfl
  by_cases hx : 0 < x.size
  · have e1 : putsM x ⟨[], p, .empty, .empty⟩ = ⟨oK p, 0, x, .empty⟩ := by
      unfold putsM; rw [if_pos hx]; simp [rowM, oK, emp_app2]
    rw [e1, if_pos (.inl hx)]
    have e2 : dropsM y ⟨oK p, 0, x, .empty⟩ = ⟨oK p, 0, x, y⟩ := by
      unfold dropsM
      by_cases hy : 0 < y.size
      · rw [if_pos hy]; simp [rowM, emp_app2]
      · rw [if_neg hy]; simp [emp_app2]
    rw [e2]
    by_cases hM : 0 < M
    · rw [keepM_yes hM (by show 0 < x.size + y.size; omega)]
      simp [endM, gapM, rowM, oK, oP, oD, z, hM]
    · obtain rfl : M = 0 := by omega
      rw [keep_zero]
      simp [endM, gapM, rowM, oK, oP, oD, z]
  · obtain rfl := emp_of hx
    have e1 : putsM .empty ⟨[], p, .empty, .empty⟩ = ⟨[], p, .empty, .empty⟩ := by
      unfold putsM; rw [if_neg hx]; simp [emp_app2]
    rw [e1]
    by_cases hy : 0 < y.size
    · have e2 : dropsM y ⟨[], p, .empty, .empty⟩ = ⟨oK p, 0, .empty, y⟩ := by
        unfold dropsM; rw [if_pos hy]; simp [rowM, oK, emp_app2]
      rw [e2, if_pos (.inr hy)]
      by_cases hM : 0 < M
      · rw [keepM_yes hM (by show 0 < ByteArray.empty.size + y.size; omega)]
        simp [endM, gapM, rowM, oK, oP, oD, z, hM]
      · obtain rfl : M = 0 := by omega
        rw [keep_zero]
        simp [endM, gapM, rowM, oK, oP, oD, z]
    · obtain rfl := emp_of hy
      have e2 : dropsM .empty ⟨[], p, .empty, .empty⟩ = ⟨[], p, .empty, .empty⟩ := by
        unfold dropsM; rw [if_neg hy]; simp [emp_app2]
      rw [e2, keepM_no (by show ¬ 0 < ByteArray.empty.size + ByteArray.empty.size; decide), if_neg (by omega)]
      simp [endM, gapM, rowM, oK, z]

/-- How much a change's rows take in or give out. -/
def szF (b : Bool) (l : List Sp) : Nat := if b = true then inA (atL l) else outA (atL l)
theorem szF_app (b : Bool) (l k : List Sp) : szF b (l ++ k) = szF b l + szF b k := by
  unfold szF
  rw [atL_app]
  cases b
  · simpa using outA_append _ _
  · simpa using inA_append _ _
theorem szF_nil (b : Bool) : szF b [] = 0 := by cases b <;> rfl
/-- Every row of it begins and ends where P holds. -/
def PreS (b : Bool) (P : Nat → Prop) (l : List Sp) (a : Nat) : Prop := ∀ k, k ≤ l.length → P (a + szF b (l.take k))
theorem preS_app {b : Bool} {P : Nat → Prop} {l k : List Sp} {a : Nat} (h : PreS b P l a) (g : PreS b P k (a + szF b l)) : PreS b P (l ++ k) a := by
  intro n hn
  rw [List.length_append] at hn
  rw [List.take_append, szF_app, ← Nat.add_assoc]
  rcases Nat.lt_or_ge n l.length with hl | hl
  · have := h n (by omega)
    rw [show n - l.length = 0 by omega, List.take_zero, szF_nil, Nat.add_zero]
    exact this
  · rw [List.take_of_length_le hl]
    exact g (n - l.length) (by omega)
theorem preS_nil {b : Bool} {P : Nat → Prop} {a : Nat} (h : P a) : PreS b P [] a := fun k hk => by
  rw [List.take_nil, szF_nil]; exact h
theorem preS_one {b : Bool} {P : Nat → Prop} {x : Sp} {a : Nat} (h : P a) (g : P (a + szF b [x])) : PreS b P [x] a := fun k hk => by
  match k, hk with
  | 0, _ => rw [List.take_zero, szF_nil]; exact h
  | 1, _ => exact g
theorem at_one (x : Sp) : atL [x] = atS x := by simp [atL]
theorem inA_rep (n : Nat) : inA (List.replicate n .K) = n ∧ outA (List.replicate n .K) = n := by
  induction n with
  | zero => exact ⟨rfl, rfl⟩
  | succ n ih =>
    rw [List.replicate_succ]
    exact ⟨by show inA (List.replicate n .K) + 1 = _; omega, by show outA (List.replicate n .K) + 1 = _; omega⟩
theorem inA_P (l : List UInt8) : inA (l.map .P) = 0 ∧ outA (l.map .P) = l.length := by
  induction l with
  | nil => exact ⟨rfl, rfl⟩
  | cons c l ih => exact ⟨ih.1, by show outA (l.map .P) + 1 = _; rw [ih.2]; rfl⟩
theorem inA_D (l : List UInt8) : inA (l.map .D) = l.length ∧ outA (l.map .D) = 0 := by
  induction l with
  | nil => exact ⟨rfl, rfl⟩
  | cons c l ih => exact ⟨by show inA (l.map .D) + 1 = _; rw [ih.1]; rfl, ih.2⟩
theorem sz_step (x : Sp) : szF true [x] = x.k.toNat + x.d.size ∧ szF false [x] = x.k.toNat + x.p.size := by
  have e : atL [x] = atS x := at_one x
  have i := inA_rep x.k.toNat
  have j := inA_P (bL x.p)
  have k := inA_D (bL x.d)
  rw [bL_len] at j k
  constructor
  · show inA (atL [x]) = _
    rw [e]; unfold atS; rw [inA_append, inA_append, i.1, j.1, k.1]; omega
  · show outA (atL [x]) = _
    rw [e]; unfold atS; rw [outA_append, outA_append, i.2, j.2, k.2]; omega
theorem preS_oK {b : Bool} {P : Nat → Prop} {n a : Nat} (h : P a) (g : P (a + n)) : PreS b P (oK n) a ∧ szF b (oK n) = n := by
  unfold oK
  by_cases hn : 0 < n
  · rw [if_pos hn]
    have z := sz_step ⟨n, .empty, .empty⟩
    have e : szF b [(⟨n, .empty, .empty⟩ : Sp)] = n := by
      cases b
      · rw [z.2]; simp
      · rw [z.1]; simp
    exact ⟨preS_one h (by rw [e]; exact g), e⟩
  · obtain rfl : n = 0 := by omega
    rw [if_neg hn]
    exact ⟨preS_nil h, szF_nil b⟩
theorem preS_oP {b : Bool} {P : Nat → Prop} {x : ByteArray} {a : Nat} (h : P a) (g : P (a + if b = true then 0 else x.size)) : PreS b P (oP x) a ∧ szF b (oP x) = if b = true then 0 else x.size := by
  unfold oP
  by_cases hn : 0 < x.size
  · rw [if_pos hn]
    have z := sz_step ⟨0, .empty, x⟩
    have e : szF b [(⟨0, .empty, x⟩ : Sp)] = if b = true then 0 else x.size := by
      cases b
      · rw [z.2]; simp
      · rw [z.1]; simp
    exact ⟨preS_one h (by rw [e]; exact g), e⟩
  · rw [if_neg hn]
    have : x.size = 0 := by omega
    exact ⟨preS_nil h, by rw [szF_nil, this]; simp⟩
theorem preS_oD {b : Bool} {P : Nat → Prop} {x : ByteArray} {a : Nat} (h : P a) (g : P (a + if b = true then x.size else 0)) : PreS b P (oD x) a ∧ szF b (oD x) = if b = true then x.size else 0 := by
  unfold oD
  by_cases hn : 0 < x.size
  · rw [if_pos hn]
    have z := sz_step ⟨0, x, .empty⟩
    have e : szF b [(⟨0, x, .empty⟩ : Sp)] = if b = true then x.size else 0 := by
      cases b
      · rw [z.2]; simp
      · rw [z.1]; simp
    exact ⟨preS_one h (by rw [e]; exact g), e⟩
  · rw [if_neg hn]
    have : x.size = 0 := by omega
    exact ⟨preS_nil h, by rw [szF_nil, this]; simp⟩
/-- The rows of what is made begin and end at 0, p, the tail's begin and the end. -/
theorem nf_pre (b : Bool) (P : Nat → Prop) (p M : Nat) (x y : ByteArray) (h0 : P 0) (h1 : P p) (h2 : P (p + if b = true then y.size else x.size)) (h3 : P (p + (if b = true then y.size else x.size) + M)) :
    PreS b P (nfA (List.replicate p .K ++ (bL x).map .P ++ (bL y).map .D ++ List.replicate M .K)) 0 := by
  rw [nf_shape]
  split
  · have a1 := preS_oK (b := b) (P := P) (n := p) (a := 0) h0 (by rw [Nat.zero_add]; exact h1)
    have a2 := preS_oP (b := b) (P := P) (x := x) (a := p) h1 (by cases b <;> simp_all)
    have a3 := preS_oD (b := b) (P := P) (x := y) (a := p + if b = true then 0 else x.size) (by cases b <;> simp_all) (by cases b <;> simp_all)
    have a4 := preS_oK (b := b) (P := P) (n := M) (a := p + if b = true then y.size else x.size) h2 h3
    refine preS_app (preS_app (preS_app a1.1 ?_) ?_) ?_
    · rw [a1.2, Nat.zero_add]; exact a2.1
    · rw [szF_app, a1.2, a2.2, Nat.zero_add]; exact a3.1
    · rw [szF_app, szF_app, a1.2, a2.2, a3.2, Nat.zero_add]
      have e : p + (if b = true then 0 else x.size) + (if b = true then y.size else 0) = p + if b = true then y.size else x.size := by cases b <;> simp
      rw [e]; exact a4.1
  · rename_i hn
    have e1 : x.size = 0 := by omega
    have e2 : y.size = 0 := by omega
    refine (preS_oK (b := b) (P := P) (n := p + M) (a := 0) h0 ?_).1
    rw [e1, e2] at h3
    rw [Nat.zero_add]
    cases b <;> simpa using h3
end Go.Proofs.Ytepbplmggladfaa

/- Stage 27: the law's edge and cuts. -/
namespace Go.Proofs.Ytepbplmggladfaa
set_option linter.unusedVariables false
set_option linter.unusedSimpArgs false
open Go Go.RowKit Go.Shelf
set_option maxRecDepth 100000

/-- A place where a piece begins, or the end. -/
def EdB (s : ByteArray) (a : Nat) : Prop := a ∈ posns s ∨ a = s.size
theorem edB_eg {s : ByteArray} {i q : Nat} (h : Eg s i q) : EdB s q := by
  by_cases hl : i < (posns s).length
  · exact .inl (List.mem_of_getElem? ((eg_at h).1 hl).1)
  · exact .inr ((eg_at h).2 hl)
def EdR (s : ByteArray) (w : World) (it a : Nat) (wr : World) : Prop :=
  ∃ (pre : List Nat) (pos : Nat), posns s = pre ++ posG s pos ∧ a ∉ pre ∧ wr.heap[it]? = some (.stringIter s pos) ∧ Below w.heap.size w wr

set_option maxHeartbeats 2000000 in
theorem edge_any (s : ByteArray) (a : Nat) (hs : s.size ≤ 65536) (ha : EdB s a) (w : World) :
    Calls Try.prog 24 #[.string s, .int .i64 a] w fun e w' => e = .returned (.bool true) ∧ Below w.heap.size w w' := by
  have HA := Lib.hid ha
  clear ha
  go_enter Try.func24, Try.ntmps24
  go_wp2
  go_loopw [5] (fun v wr => EdR s w w.heap.size a wr) (fun _ wr => s.size - wr.iterPos w.heap.size)
  case atStart => exact ⟨[], 0, by simp [posns_G], by simp, World.iter_heap w s 0, (Below.refl _ _).alloc (Nat.le_refl _) _⟩
  case round =>
    obtain ⟨pre, pos, hpp, hno, hit, hB⟩ := hrel
    by_cases hps : pos < s.size
    · have hnx : ∀ ty, (Instr.next (.pointer (some ⟨w.heap.size, 0, none⟩)) true ty).run Try.prog wr = _ := fun ty => Lib.run_next_any_at wr w.heap.size s pos ty hit hps
      rw [dec_eq s pos hps] at hnx
      have hit1 := Lib.iterAt_heap wr w.heap.size s pos (pos + wd s pos) hit
      have hB1 : Below w.heap.size w (wr.iterAt w.heap.size s (pos + wd s pos)) := Lib.below_iterAt hB (Nat.le_refl _) s _
      have hmeas : s.size - (pos + wd s pos) < s.size - wr.iterPos w.heap.size := by
        have := wd_pos s pos
        simp only [World.iterPos, hit]; omega
      have hpp2 : posns s = (pre ++ [pos]) ++ posG s (pos + wd s pos) := by rw [hpp, posG_cons s pos hps]; simp
      obtain ⟨P, hP⟩ : ∃ P, wr.iterAt w.heap.size s (pos + wd s pos) = P := ⟨_, rfl⟩
      rw [hP] at hnx hit1 hB1
      have HM := Lib.hid (And.intro hmeas (And.intro hpp2 (And.intro hit1 (And.intro hB1 hno))))
      clear hP hpp hpp2 hmeas hit hB hB1 hno hit1
      by_cases he : pos = a
      · have e1 : ((pos : Int) == (a : Int)) = true := by rw [he]; exact beq_self_eq_true _
        clear he
        go_wp2
        go_ret
        exact ⟨rfl, HM.out.2.2.2.1⟩
      · have e1 : ((pos : Int) == (a : Int)) = false := by rw [beq_eq_false_iff_ne]; omega
        have HE := Lib.hid he
        clear he
        go_wp2
        go_roundw
        case rel => exact ⟨_, _, HM.out.2.1, by simp only [List.mem_append, List.mem_singleton, not_or]; exact ⟨HM.out.2.2.2.2, fun e => HE.out e.symm⟩, HM.out.2.2.1, HM.out.2.2.2.1⟩
        case measure => simp only [World.iterPos, HM.out.2.2.1]; exact HM.out.1
    · have hnx : ∀ ty, (Instr.next (.pointer (some ⟨w.heap.size, 0, none⟩)) true ty).run Try.prog wr = _ := fun ty => Lib.run_next_end_at wr w.heap.size s pos ty hit hps
      have hend : a = s.size := by
        rcases HA.out with h | h
        · rw [hpp, posG_end s pos (by omega), List.append_nil] at h
          exact absurd h hno
        · exact h
      have e1 : ((a : Int) == (s.size : Int)) = true := by rw [hend]; exact beq_self_eq_true _
      have HB := Lib.hid hB
      clear hend hpp hno hB hit
      go_wp2
      go_ret
      exact ⟨rfl, HB.out⟩

def CutR (w : World) (b : Bool) (l : List Sp) (v1 v2 : Value) (wr : World) : Prop :=
  ∃ k : Nat, v2 = .int .i64 k ∧ k ≤ l.length ∧ v1 = .int .i64 (szF b (l.take k) : Nat) ∧ Below w.heap.size w wr
theorem sz_take (b : Bool) {l : List Sp} {k : Nat} {x : Sp} (hx : l[k]? = some x) : szF b (l.take (k + 1)) = szF b (l.take k) + szF b [x] := by
  rw [List.take_add_one, hx, szF_app]; rfl
theorem sz_mono (b : Bool) (l : List Sp) (k : Nat) : szF b (l.take k) ≤ szF b l := by
  have : szF b (l.take k ++ l.drop k) = szF b (l.take k) + szF b (l.drop k) := szF_app ..
  rw [List.take_append_drop] at this
  omega
set_option maxHeartbeats 4000000 in
theorem cuts_any (s : ByteArray) (l : List Sp) (o : Option Addr) (c : Nat) (b : Bool) (hn : l.length ≤ 9223372036854775807) (hs : s.size ≤ 65536) (ho : OkS l) (hk0 : ∀ x ∈ l, 0 ≤ x.k) (hp : PreS b (EdB s) l 0) (hz : szF b l = s.size) (w : World) (hr : RowAt w encS 3 o l) :
    Calls Try.prog 13 #[.string s, .slice o l.length c, .bool b] w fun e w' => e = .returned (.bool true) ∧ Below w.heap.size w w' := by
  have HR := Lib.hid (And.intro hr (And.intro ho hp))
  have HZ := Lib.hid hz
  clear hr ho hp hz
  cases b with
  | true =>
    go_enter Try.func13, Try.ntmps13
    go_wp2
    go_loopw [7, 8] (fun v1 v2 wr => CutR w true l v1 v2 wr) (fun _ v2 _ => l.length - (intOf v2).toNat)
    case atStart => exact ⟨0, rfl, Nat.zero_le _, by rw [List.take_zero, szF_nil]; rfl, Below.refl _ _⟩
    case round =>
      obtain ⟨k, rfl, hk, rfl, hB⟩ := hrel
      by_cases hlt : k < l.length
      · obtain ⟨x, hx⟩ : ∃ x, l[k]? = some x := ⟨_, List.getElem?_eq_getElem hlt⟩
        obtain ⟨g, off, rfl, hc⟩ := HR.out.1.below encS_len (by decide) hB k x hx
        obtain ⟨q0, q1, q2⟩ := get3 (l := l) hc
        have h1 := sz_take true hx
        have h2 := sz_mono true l (k + 1)
        rw [HZ.out] at h2
        have h3 := (sz_step x).1
        obtain ⟨z1, z2, z3, z4⟩ := HR.out.2.1 x (List.mem_of_getElem? hx)
        have z0 := hk0 x (List.mem_of_getElem? hx)
        have h4 := HR.out.2.2 (k + 1) (by omega)
        rw [Nat.zero_add] at h4
        obtain ⟨A, hA⟩ : ∃ A, szF true (l.take k) = A := ⟨_, rfl⟩
        obtain ⟨A2, hA2⟩ : ∃ A, szF true (l.take (k + 1)) = A := ⟨_, rfl⟩
        rw [hA2] at h1 h2 h4
        rw [hA] at h1 ⊢
        obtain ⟨kk, d, p⟩ := x
        simp only at h3 z0 z1 z2 q0 q1 q2 z3 z4
        have cE := edge_any s A2 hs h4
        have j1 : IntKind.i64.wrap ((A : Int) + kk) = (A : Int) + kk := IntWalk.i64_in _ (by omega)
        have j2 : IntKind.i64.wrap ((A : Int) + kk + (d.size : Int)) = (A2 : Int) := by rw [IntWalk.i64_in _ (by omega)]; omega
        have j3 : decide ((s.size : Int) < (A2 : Int)) = false := decide_eq_false (by omega)
        have j4 : ¬ s.size < A2 := by omega
        have j5 : decide (s.size < A2) = false := decide_eq_false (by omega)
        have HX := Lib.hid (And.intro hA2 hB)
        clear h1 h2 h3 h4 hA hA2 z0 z1 z2 z3 z4 hc hx q2 hB
        go_wp2_with (fail)
        refine (cE _).mono ?_
        rintro e V ⟨rfl, hb⟩
        have HV := Lib.hid (HX.out.2.trans (hb.mono HX.out.2.size))
        clear hb cE
        go_wp2
        go_roundw
        case rel => exact ⟨k + 1, by go_num, by omega, by rw [HX.out.1], HV.out⟩
        case measure => simp [intOf]; omega
      · have hk2 : k = l.length := by omega
        have e0 : szF true (l.take k) = s.size := by rw [hk2, List.take_length]; exact HZ.out
        rw [e0]
        have e1 : ((s.size : Int) == (s.size : Int)) = true := beq_self_eq_true _
        have HB := Lib.hid hB
        clear e0 hB hk2
        go_wp2
        go_ret
        exact ⟨rfl, HB.out⟩
  | false =>
    go_enter Try.func13, Try.ntmps13
    go_wp2
    go_loopw [7, 8] (fun v1 v2 wr => CutR w false l v1 v2 wr) (fun _ v2 _ => l.length - (intOf v2).toNat)
    case atStart => exact ⟨0, rfl, Nat.zero_le _, by rw [List.take_zero, szF_nil]; rfl, Below.refl _ _⟩
    case round =>
      obtain ⟨k, rfl, hk, rfl, hB⟩ := hrel
      by_cases hlt : k < l.length
      · obtain ⟨x, hx⟩ : ∃ x, l[k]? = some x := ⟨_, List.getElem?_eq_getElem hlt⟩
        obtain ⟨g, off, rfl, hc⟩ := HR.out.1.below encS_len (by decide) hB k x hx
        obtain ⟨q0, q1, q2⟩ := get3 (l := l) hc
        have h1 := sz_take false hx
        have h2 := sz_mono false l (k + 1)
        rw [HZ.out] at h2
        have h3 := (sz_step x).2
        obtain ⟨z1, z2, z3, z4⟩ := HR.out.2.1 x (List.mem_of_getElem? hx)
        have z0 := hk0 x (List.mem_of_getElem? hx)
        have h4 := HR.out.2.2 (k + 1) (by omega)
        rw [Nat.zero_add] at h4
        obtain ⟨A, hA⟩ : ∃ A, szF false (l.take k) = A := ⟨_, rfl⟩
        obtain ⟨A2, hA2⟩ : ∃ A, szF false (l.take (k + 1)) = A := ⟨_, rfl⟩
        rw [hA2] at h1 h2 h4
        rw [hA] at h1 ⊢
        obtain ⟨kk, d, p⟩ := x
        simp only at h3 z0 z1 z2 q0 q1 q2 z3 z4
        have cE := edge_any s A2 hs h4
        have j1 : IntKind.i64.wrap ((A : Int) + kk) = (A : Int) + kk := IntWalk.i64_in _ (by omega)
        have j2 : IntKind.i64.wrap ((A : Int) + kk + (p.size : Int)) = (A2 : Int) := by rw [IntWalk.i64_in _ (by omega)]; omega
        have j3 : decide ((s.size : Int) < (A2 : Int)) = false := decide_eq_false (by omega)
        have j4 : ¬ s.size < A2 := by omega
        have j5 : decide (s.size < A2) = false := decide_eq_false (by omega)
        have HX := Lib.hid (And.intro hA2 hB)
        clear h1 h2 h3 h4 hA hA2 z0 z1 z2 z3 z4 hc hx q1 hB
        go_wp2_with (fail)
        refine (cE _).mono ?_
        rintro e V ⟨rfl, hb⟩
        have HV := Lib.hid (HX.out.2.trans (hb.mono HX.out.2.size))
        clear hb cE
        go_wp2
        go_roundw
        case rel => exact ⟨k + 1, by go_num, by omega, by rw [HX.out.1], HV.out⟩
        case measure => simp [intOf]; omega
      · have hk2 : k = l.length := by omega
        have e0 : szF false (l.take k) = s.size := by rw [hk2, List.take_length]; exact HZ.out
        rw [e0]
        have e1 : ((s.size : Int) == (s.size : Int)) = true := beq_self_eq_true _
        have HB := Lib.hid hB
        clear e0 hB hk2
        go_wp2
        go_ret
        exact ⟨rfl, HB.out⟩
end Go.Proofs.Ytepbplmggladfaa

/- Stage 27: the law EditBetween. -/
namespace Go.Proofs.Ytepbplmggladfaa
set_option linter.unusedVariables false
set_option linter.unusedSimpArgs false
open Go Go.RowKit Go.Shelf
set_option maxRecDepth 100000

theorem runK_rep : ∀ (a r : List UInt8), runA (List.replicate a.length .K) (a ++ r) = some (a, r)
  | [], r => rfl
  | c :: a, r => by
    show (runA (List.replicate a.length .K) (a ++ r)).map (fun q => (c :: q.1, q.2)) = _
    rw [runK_rep a r]; rfl
theorem runP_map : ∀ (a r : List UInt8), runA (a.map .P) r = some (a, r)
  | [], r => by cases r <;> rfl
  | c :: a, r => by
    show (runA (a.map .P) r).map (fun q => (c :: q.1, q.2)) = _
    rw [runP_map a r]; rfl
theorem runD_map : ∀ (a r : List UInt8), runA (a.map .D) (a ++ r) = some ([], r)
  | [], r => by cases r <;> rfl
  | c :: a, r => by
    show (if c = c then runA (a.map .D) (a ++ r) else none) = _
    rw [if_pos rfl, runD_map a r]
theorem run_bn (h x y m : List UInt8) : runA (List.replicate h.length .K ++ x.map .P ++ y.map .D ++ List.replicate m.length .K) (h ++ (y ++ m)) = some (h ++ (x ++ m), []) := by
  have e1 := runK_rep h (y ++ m)
  have e2 := runP_map x (y ++ m)
  have e3 := runD_map y m
  have e4 := runK_rep m []
  rw [List.append_nil] at e4
  rw [runA_append, runA_append, runA_append, e1]
  simp [e2, e3, e4]
/-- Three pieces of a text. -/
theorem bL_three (s : ByteArray) {a b : Nat} (h1 : a ≤ b) (h2 : b ≤ s.size) : bL s = bL (s.extract 0 a) ++ (bL (s.extract a b) ++ bL (s.extract b s.size)) := by
  rw [← bL_app, ← bL_app, ext_cat s (a := a) h1 h2 (Nat.le_refl _), ext_cat s (Nat.zero_le _) (by omega) (Nat.le_refl _)]
  simp
theorem bn_run {s t : ByteArray} {p M : Nat} (h : BnK s t p M) : runA (bnA s t p M) (bL s) = some (bL t, []) := by
  obtain ⟨l1, l2⟩ := bnk_le h
  obtain ⟨n, hk, hst, hM⟩ := h
  obtain ⟨b1, b2, b3, b4, b5⟩ := bk_fact (s.extract p s.size) (t.extract p t.size) _ _ _ _ (eg_end _) (eg_end _)
  rw [hM, tl_size, tl_size] at b3
  rw [tail_ext s p _ _ (by omega), tail_ext t p _ _ (by omega), show p + (s.size - p - M) = s.size - M by omega, show p + (t.size - p - M) = t.size - M by omega, show p + (s.size - p) = s.size by omega, show p + (t.size - p) = t.size by omega] at b3
  have e1 := bL_three s (a := p) (b := s.size - M) (by omega) (by omega)
  have e2 := bL_three t (a := p) (b := t.size - M) (by omega) (by omega)
  rw [← lk_ext hk, ← b3] at e2
  have hr := run_bn (bL (s.extract 0 p)) (bL (t.extract p (t.size - M))) (bL (s.extract p (s.size - M))) (bL (s.extract (s.size - M) s.size))
  rw [← e1, ← e2, bL_len, bL_len, size_head s p (by omega), ByteArray.size_extract, show min s.size s.size - (s.size - M) = M by omega] at hr
  exact hr
theorem bn_pre {s t : ByteArray} {p M : Nat} (h : BnK s t p M) : PreS true (EdB s) (nfA (bnA s t p M)) 0 ∧ PreS false (EdB t) (nfA (bnA s t p M)) 0 := by
  obtain ⟨l1, l2⟩ := bnk_le h
  obtain ⟨n, hk, hst, hM⟩ := h
  obtain ⟨b1, b2, b3, ⟨i, b4⟩, ⟨j, b5⟩⟩ := bk_fact (s.extract p s.size) (t.extract p t.size) _ _ _ _ (eg_end _) (eg_end _)
  rw [hM, tl_size] at b4 b5
  obtain ⟨k1, k2, k3, k4⟩ := lk_tail hk
  have tl : ∀ (u : ByteArray) (i q : Nat), p ≤ u.size → Eg (u.extract p u.size) i q → (∀ i, (posns u)[n + i]? = ((posns (u.extract p u.size))[i]?).map (p + ·)) → EdB u (p + q) := by
    intro u i q hp hE hx
    rcases edB_eg hE with g | g
    · obtain ⟨i', hi'⟩ := List.getElem?_of_mem g
      have := hx i'
      rw [hi'] at this
      exact .inl (List.mem_of_getElem? this)
    · rw [tl_size] at g
      exact .inr (by omega)
  have z0 : ∀ u : ByteArray, EdB u 0 := fun u => by
    rcases Nat.eq_zero_or_pos u.size with g | g
    · exact .inr g.symm
    · exact .inl (by rw [posns_G, posG_cons u 0 g]; exact List.mem_cons_self ..)
  have e1 : (s.extract p (s.size - M)).size = s.size - M - p := by rw [ByteArray.size_extract]; omega
  have e2 : (t.extract p (t.size - M)).size = t.size - M - p := by rw [ByteArray.size_extract]; omega
  have hs := tl s i _ hk.1 b4 k3
  have ht := tl t j _ hk.2.1 b5 k4
  refine ⟨nf_pre true (EdB s) p M _ _ (z0 s) (edB_eg (lk_eg hk)) ?_ ?_, nf_pre false (EdB t) p M _ _ (z0 t) ?_ ?_ ?_⟩
  · rw [if_pos rfl, e1, show p + (s.size - M - p) = p + (s.size - p - M) by omega]; exact hs
  · rw [if_pos rfl, e1]; exact .inr (by omega)
  · have := tl t 0 0 hk.2.1 ⟨Nat.zero_le _, Nat.zero_le _, rfl⟩ k4
    exact this
  · rw [if_neg (by decide), e2, show p + (t.size - M - p) = p + (t.size - p - M) by omega]; exact ht
  · rw [if_neg (by decide), e2]; exact .inr (by omega)
set_option maxHeartbeats 8000000 in
theorem sameB_any (l : List Sp) (o1 o2 : Option Addr) (c1 c2 : Nat) (hn : l.length ≤ 9223372036854775807) (w : World) (h1 : RowAt w encS 3 o1 l) (h2 : RowAt w encS 3 o2 l) :
    Calls Try.prog 10 #[.slice o1 l.length c1, .slice o2 l.length c2] w fun e w' => e = .returned (.bool true) ∧ Below w.heap.size w w' := by
  have HR := Lib.hid (And.intro h1 h2)
  clear h1 h2
  have e0 : ((l.length : Int) == (l.length : Int)) = true := beq_self_eq_true _
  go_enter Try.func10, Try.ntmps10
  go_wp2
  go_loopw [5] (fun i W => ∃ (k : Nat), i = .int .i64 k ∧ k ≤ l.length ∧ Below w.heap.size w W) (fun i _ => l.length - (intOf i).toNat)
  case atStart => exact ⟨0, rfl, by omega, Below.refl _ _⟩
  case round =>
    obtain ⟨k, rfl, hk, hB⟩ := hrel
    by_cases hlt : k < l.length
    · obtain ⟨x, hx⟩ : ∃ x, l[k]? = some x := ⟨_, List.getElem?_eq_getElem hlt⟩
      obtain ⟨g, off, rfl, hc⟩ := HR.out.1.below encS_len (by decide) hB k x hx
      obtain ⟨q0, q1, q2⟩ := get3 (l := l) hc
      obtain ⟨g', off', rfl, hc'⟩ := HR.out.2.below encS_len (by decide) hB k x hx
      obtain ⟨r0, r1, r2⟩ := get3 (l := l) hc'
      obtain ⟨xk, xd, xp⟩ := x
      simp only at q0 q1 q2 r0 r1 r2
      have ek : (xk == xk) = true := beq_self_eq_true _
      have ed : (xd.toList == xd.toList) = true := beq_self_eq_true _
      have ep : (xp.toList == xp.toList) = true := beq_self_eq_true _
      have hkl : (k : Int) < (l.length : Int) := by omega
      have j5 : IntKind.i64.wrap ((k : Int) + 1) = ((k + 1 : Nat) : Int) := by rw [IntWalk.i64_in _ (by omega)]; omega
      have HB := Lib.hid hB
      clear hB hc hc' hx
      go_wp2
      go_quiet (fail)
      generalize hU : World.drewN wr _ = U
      have HU := Lib.hid (HB.out.trans ((hU ▸ below_drewN _ _ : Below wr.heap.size wr U).mono HB.out.size))
      clear hU q0 q1 q2 r0 r1 r2
      go_wp2
      go_roundw
      case rel => exact ⟨k + 1, by go_num, by omega, HU.out⟩
      case measure => simp [intOf] <;> omega
    · obtain rfl : k = l.length := by omega
      have HB := Lib.hid hB
      clear hB
      go_wp2
      go_ret
      exact ⟨rfl, HB.out⟩

set_option maxHeartbeats 4000000 in
theorem between_law (s t : ByteArray) (w : World) :
    Calls Try.prog 4 #[.string s, .string t] w fun e w' => e = .returned (.bool true) ∧ Below w.heap.size w w' := by
  go_enter Try.func4, Try.ntmps4
  go_wp2_with (fail)
  refine (live_any _).mono ?_
  rintro e W1 ⟨rfl, hB1⟩
  have H1 := Lib.hid hB1
  clear hB1
  by_cases h1 : 5000 < s.size
  · have d1 : decide ((5000 : Int) < (s.size : Int)) = true := decide_eq_true (by omega)
    go_wp2
    go_ret
    exact ⟨rfl, H1.out⟩
  · have d1 : decide ((5000 : Int) < (s.size : Int)) = false := decide_eq_false (by omega)
    by_cases h2 : 5000 < t.size
    · have d2 : decide ((5000 : Int) < (t.size : Int)) = true := decide_eq_true (by omega)
      go_wp2
      go_ret
      exact ⟨rfl, H1.out⟩
    · have d2 : decide ((5000 : Int) < (t.size : Int)) = false := decide_eq_false (by omega)
      have cB := between_any s t (by omega) (by omega)
      have cD := betweenD_any s t (by omega) (by omega)
      go_wp2_with (fail)
      refine (cB _).mono ?_
      rintro e W2 ⟨p, M, v, hK, rfl, hr, hB2⟩
      clear cB
      obtain ⟨o, c, rfl, _⟩ := own_slice hr
      have hq : RowAt W2 encS 3 o (nfA (bnA s t p M)) := RowAt.of_own encS_len hr rfl
      have hrun := bn_run hK
      obtain ⟨a1, a2, a3⟩ := appF_nf hrun (by omega) (by rw [bL_len]; omega)
      rw [bL_len] at a3
      obtain ⟨n1, n2, n3⟩ := nf_ok (A := bnA s t p M) (by omega) (by omega)
      obtain ⟨p1, p2⟩ := bn_pre hK
      obtain ⟨g1, g2⟩ := nf_eq (bnA s t p M)
      have z1 : szF true (nfA (bnA s t p M)) = s.size := g1.inn.trans a2
      have z2 : szF false (nfA (bnA s t p M)) = t.size := g1.out.trans a3
      rw [bL_mk] at a1
      have HK := Lib.hid hK
      obtain ⟨L, hL⟩ : ∃ L, nfA (bnA s t p M) = L := ⟨_, rfl⟩
      rw [hL] at hq a1 n2 n3 p1 p2 g2 z1 z2 ⊢
      have hk0 : ∀ x ∈ L, 0 ≤ x.k := fun x hx => kind_pos (g2 x hx)
      have H2 := Lib.hid (H1.out.trans (hB2.mono H1.out.size))
      have HQ := Lib.hid (And.intro hq (And.intro a1 (And.intro n2 (And.intro p1 (And.intro p2 (And.intro z1 (And.intro z2 hk0)))))))
      have HL := Lib.hid hL
      clear hB2 hr hq a1 a2 a3 n1 n2 p1 p2 z1 z2 hk0 hK hrun hL g1 g2
      go_wp2_with (fail)
      refine (cD _).mono ?_
      rintro e W3 ⟨p', M', v', hK', rfl, hr', hB3⟩
      obtain ⟨rfl, rfl⟩ := bnk_one HK.out hK'
      obtain ⟨o', c', rfl, _⟩ := own_slice hr'
      have hq' : RowAt W3 encS 3 o' (nfA (bnA s t p M)) := RowAt.of_own encS_len hr' rfl
      rw [HL.out] at hq' ⊢
      have hq3 := HQ.out.1.below encS_len (by decide) hB3
      have cS := sameB_any L o o' c c' (by omega) W3 hq3 hq'
      have H3 := Lib.hid (And.intro (H2.out.trans (hB3.mono H2.out.size)) hq3)
      clear hB3 hq3 hq' hr' hK' cD
      go_wp2_with (fail)
      refine cS.mono ?_
      rintro e W4 ⟨rfl, hB4⟩
      have hq4 := H3.out.2.below encS_len (by decide) hB4
      have cA := apply_any s L o c (by omega) (by omega) HQ.out.2.2.1 W4 hq4
      rw [HQ.out.2.1] at cA
      have H4 := Lib.hid (And.intro (H3.out.1.trans (hB4.mono H3.out.1.size)) hq4)
      have e1 : (t.toList == t.toList) = true := beq_self_eq_true _
      clear hB4 hq4 cS
      go_wp2_with (fail)
      refine cA.mono ?_
      rintro e W5 ⟨rfl, hB5⟩
      have hq5 := H4.out.2.below encS_len (by decide) hB5
      have c1 := cuts_any s L o c true (by omega) (by omega) HQ.out.2.2.1 HQ.out.2.2.2.2.2.2.2 HQ.out.2.2.2.1 HQ.out.2.2.2.2.2.1 W5 hq5
      have H5 := Lib.hid (And.intro (H4.out.1.trans (hB5.mono H4.out.1.size)) hq5)
      clear hB5 hq5 cA
      go_wp2_with (fail)
      refine c1.mono ?_
      rintro e W6 ⟨rfl, hB6⟩
      have hq6 := H5.out.2.below encS_len (by decide) hB6
      have c2 := cuts_any t L o c false (by omega) (by omega) HQ.out.2.2.1 HQ.out.2.2.2.2.2.2.2 HQ.out.2.2.2.2.1 HQ.out.2.2.2.2.2.2.1 W6 hq6
      have H6 := Lib.hid (H5.out.1.trans (hB6.mono H5.out.1.size))
      clear hB6 hq6 c1
      go_wp2_with (fail)
      refine c2.mono ?_
      rintro e W7 ⟨rfl, hB7⟩
      have H7 := Lib.hid (H6.out.trans (hB7.mono H6.out.size))
      clear hB7 c2
      go_wp2
      go_ret
      exact ⟨rfl, H7.out⟩
end Go.Proofs.Ytepbplmggladfaa
