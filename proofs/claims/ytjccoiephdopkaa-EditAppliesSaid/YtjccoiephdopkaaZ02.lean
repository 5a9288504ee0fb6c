/- Several texts in one. -/
import Derived.Test.YtjccoiephdopkaaK0
import Derived.Laws.AppendOwnNone
import Derived.Lib.Hide
import Derived.StillTailTactics
import Derived.Lib.AppendStr
import Derived.Lib.ConvBytes
import Derived.Laws.IdiomStrings
import Derived.Laws.BytesArg
/- Stage 27: rows of structs (as stage 16 has them), appending. -/
namespace Go.Proofs.Ytjccoiephdopkaa
set_option linter.unusedVariables false
set_option linter.unusedSimpArgs false
open Go Go.RowKit Go.Shelf
set_option maxRecDepth 100000

section
variable {α : Type} {enc : α → List Value} {k : Nat}
theorem fl_len (hk : ∀ x, (enc x).length = k) (l : List α) : (l.flatMap enc).length = l.length * k := by
  induction l with
  | nil => simp
  | cons x l ih => simp only [List.flatMap_cons, List.length_append, List.length_cons, hk, ih, Nat.succ_mul]; omega
theorem fl_get (hk : ∀ x, (enc x).length = k) {l : List α} {i j : Nat} {x : α} (h : l[i]? = some x) (hj : j < k) : (l.flatMap enc)[i * k + j]? = (enc x)[j]? := by
  induction l generalizing i with
  | nil => simp at h
  | cons y l ih =>
    rw [List.flatMap_cons]
    cases i with
    | zero =>
      simp at h; subst h
      rw [List.getElem?_append_left (by rw [hk]; omega)]; simp
    | succ i =>
      have h' := ih (i := i) (by simpa using h)
      rw [List.getElem?_append_right (by rw [hk, Nat.succ_mul]; omega), hk]
      rw [show (i + 1) * k + j - k = i * k + j by rw [Nat.succ_mul]; omega]
      exact h'
/-- A list of structs lies from an address on. -/
def RowAt (w : World) (enc : α → List Value) (k : Nat) (o : Option Addr) (l : List α) : Prop := ∀ i x, l[i]? = some x → ∃ g off, o = some ⟨g, off, none⟩ ∧ ∀ j, j < k → w.cell? ⟨g, off + i * k + j, none⟩ = (enc x)[j]?
theorem RowAt.below (hk : ∀ x, (enc x).length = k) (hk0 : 0 < k) {w w' : World} {o : Option Addr} {l : List α} (h : RowAt w enc k o l) (hb : Below w.heap.size w w') : RowAt w' enc k o l := by
  intro i x hi
  obtain ⟨g, off, ho, hc⟩ := h i x hi
  have h0 := hc 0 hk0
  rw [List.getElem?_eq_getElem (by rw [hk]; exact hk0)] at h0
  have hg := lt_cell h0
  exact ⟨g, off, ho, fun j hj => by rw [hb.cell (p := ⟨g, off + i * k + j, none⟩) hg]; exact hc j hj⟩
theorem RowAt.lt (hk : ∀ x, (enc x).length = k) (hk0 : 0 < k) {w : World} {g off : Nat} {l : List α} (h : RowAt w enc k (some ⟨g, off, none⟩) l) (hl : l ≠ []) : g < w.heap.size := by
  obtain ⟨x, r, rfl⟩ := List.exists_cons_of_ne_nil hl
  obtain ⟨g', off', ho, hc⟩ := h 0 x rfl
  cases ho
  have h0 := hc 0 hk0
  rw [List.getElem?_eq_getElem (by rw [hk]; exact hk0)] at h0
  exact lt_cell h0
theorem RowAt.of_own (hk : ∀ x, (enc x).length = k) {w : World} {base n cap : Nat} {e : TypeId} {o : Option Addr} {l : List α} (h : w.ownsRow base e k (.slice o n cap) n (l.flatMap enc)) (hn : l.length = n) : RowAt w enc k o l := by
  intro i x hi
  have hl : i < l.length := (List.getElem?_eq_some_iff.1 hi).1
  obtain ⟨o', cap', e', ho⟩ := own_slice h
  obtain ⟨g, hg⟩ := ho (by omega)
  cases e'
  subst hg
  refine ⟨g, 0, rfl, fun j hj => ?_⟩
  have hb : i * k + j < n * k := by
    have : (i + 1) * k ≤ n * k := Nat.mul_le_mul_right _ (by omega)
    rw [Nat.succ_mul] at this; omega
  rw [Nat.zero_add]
  exact (h.cellAt _ hb).trans (fl_get hk hi hj)
theorem RowAt.nil {w : World} : RowAt w enc k none ([] : List α) := fun i x h => by simp at h
theorem fl_set (hk : ∀ x, (enc x).length = k) {l : List α} {i j : Nat} {x y : α} {v : Value} (h : l[i]? = some x) (hj : j < k) (hy : enc y = (enc x).set j v) : (l.flatMap enc).set (i * k + j) v = (l.set i y).flatMap enc := by
  induction l generalizing i with
  | nil => simp at h
  | cons z l ih =>
    cases i with
    | zero =>
      simp at h; subst h
      rw [List.flatMap_cons, List.set_cons_zero, List.flatMap_cons, hy, List.set_append_left _ _ (by rw [hk]; omega)]
      simp
    | succ i =>
      have h' := ih (i := i) (by simpa using h)
      rw [List.set_cons_succ, List.flatMap_cons, List.flatMap_cons, List.set_append_right _ _ (by rw [hk, Nat.succ_mul]; omega), hk]
      rw [show (i + 1) * k + j - k = i * k + j by rw [Nat.succ_mul]; omega, h']
end
theorem take_nextL {α : Type} {l : List α} {k : Nat} {p : α} (h : l[k]? = some p) : l.take (k + 1) = l.take k ++ [p] := by
  rw [List.take_add_one, h]; rfl
theorem below_of_grown {w w1 : World} (h : w.grownBy w1 none) : Below w.heap.size w w1 := (Below.refl _ _).grown h (Nat.le_refl _) (fun r e => by cases e)

theorem own_base {w : World} {b b' : Nat} {e : TypeId} {sz n : Nat} {v : Value} {xs : List Value} (h : w.ownsRow b e sz v n xs) (hb : b' ≤ b) : w.ownsRow b' e sz v n xs := by
  refine ⟨h.1, h.2.imp id ?_⟩
  rintro ⟨g, cap, cur, rfl, hg, rest⟩
  exact ⟨g, cap, cur, rfl, Nat.le_trans hb hg, rest⟩
theorem own_low {W : World} {b base : Nat} {e : TypeId} {sz n : Nat} {v : Value} {xs : List Value} (h : W.ownsRow base e sz v n xs) (hb : b < base) (o : Nat) (u : Value) : (W.setCell ⟨b, o, none⟩ u).ownsRow base e sz v n xs :=
  h.kept (grownBy_setCell W b o u) (.inr (fun e1 => by have := h.lt b e1; omega))
theorem own_setK {W : World} {base g n c o : Nat} {e : TypeId} {sz : Nat} {xs : List Value} (h : W.ownsRow base e sz (.slice (some ⟨g, 0, none⟩) n c) n xs) (ho : o < n * sz) (v : Value) : (W.setCell ⟨g, o, none⟩ v).ownsRow base e sz (.slice (some ⟨g, 0, none⟩) n c) n (xs.set o v) := by
  refine ⟨by rw [List.length_set]; exact h.1, .inr ?_⟩
  rcases h.2 with ⟨e, _⟩ | ⟨g', c', cur, e, hb, hg, h1, h2, h3, h4⟩
  · cases e
  · simp only [Value.slice.injEq, Option.some.injEq, Addr.mk.injEq, and_true, true_and] at e
    obtain ⟨rfl, rfl⟩ := e
    refine ⟨g, c, cur.setIfInBounds o v, rfl, hb, Blk.set hg o v, h1, h2, by rw [Array.size_setIfInBounds]; exact h3, ?_⟩
    rw [Array.toList_setIfInBounds, List.take_set, h4]
theorem own_freeK {w : World} {base n g c sz : Nat} {e : TypeId} {xs : List Value} (h : w.ownsRow base e sz (.slice (some ⟨g, 0, none⟩) n c) n xs) (o : Nat) : w.frozen? ⟨g, o, none⟩ = false := by
  rcases h.2 with ⟨e, _⟩ | ⟨g', c', cur, e, _, hg, _⟩
  · cases e
  · simp only [Value.slice.injEq, Option.some.injEq, Addr.mk.injEq, and_true, true_and] at e
    obtain ⟨rfl, rfl⟩ := e
    simp [World.frozen?, hg]

/-- 'append' as one operation of a region. -/
theorem opwp_append {P : Program} {o : Oper} {K : Act → World → Prop} {Q : Exit → Act → World → Prop} {a : Act} {w : World} (s x : Operand) (t : TypeId)
    (ho : o.op = .call { callee := .builtin .append, args := #[s, x], argTypes := #[t, t] })
    (base : Nat) (e : TypeId) (i : TypeInfo) (z : Value) (size bytes : Nat) (ht : P.underlying t = some (.slice e)) (hi : P.info? e = some i) (hz : i.zero = some z)
    (hsize : i.size = size) (hby : i.bytes = bytes) (hzs : z.cells.size = size) (hsz : 0 < size)
    (v : Value) (n : Nat) (xs : List Value) (hs : a.eval s = v) (hown : w.ownsRow base e size v n xs)
    (ad : Addr) (m c : Nat) (news : List Value) (hx : a.eval x = .slice (some ad) m c) (hl : news.length = m * size) (hnews : ∀ j u, news[j]? = some u → w.cell? (ad.add j) = some u) (h1 : ∀ u ∈ news, u.oneCell' = true)
    (h63 : n + m ≤ maxLen) (hbytes : (n + m) * bytes ≤ 140737488355328) (hbase : base ≤ w.heap.size)
    (h : ∀ v' w', w'.ownsRow base e size v' (n + m) (xs ++ news) → w.grownBy w' v.ownBlock → K (a.put o.dst v') w') : o.wp P a w K Q := by
  obtain ⟨v', w', hr, h2, h3, _, _⟩ := run_append_own_at (P := P) w base t o.type e i z size bytes ht hi hz hsize hby hzs hsz v n xs hown ad m c news hl hnews h1 h63 hbytes hbase
  unfold Oper.wp execOp
  simp only [ho, resolve, invoke, builtin, Sem.run_bind, Sem.run_pure, Result.andThen_ok, List.map_toArray, List.map_cons, List.map_nil, hs, hx, hr]
  exact h v' w' h2 h3
end Go.Proofs.Ytjccoiephdopkaa

/- Stage 27: steps, and the mathematics of EditMoves. -/
namespace Go.Proofs.Ytjccoiephdopkaa
set_option linter.unusedVariables false
set_option linter.unusedSimpArgs false
open Go Go.RowKit Go.Shelf
set_option maxRecDepth 100000

/-- A step. -/
structure Sp where
  k : Int
  d : ByteArray
  p : ByteArray
def encS (x : Sp) : List Value := [.int .i64 x.k, .string x.d, .string x.p]
theorem encS_len (x : Sp) : (encS x).length = 3 := rfl
/-- What a step does. -/
def kindN (x : Sp) : Nat :=
  if 0 < x.k ∧ x.d.size = 0 ∧ x.p.size = 0 then 1 else if x.k = 0 ∧ x.d.size ≠ 0 ∧ x.p.size = 0 then 2 else if x.k = 0 ∧ x.d.size = 0 ∧ x.p.size ≠ 0 then 3 else 0
/-- How many bytes a change is of, and makes; none where it may not be. -/
def sizeG : List Sp → Nat → Nat → Option (Nat × Nat)
  | [], f, t => some (f, t)
  | x :: l, f, t => if kindN x = 0 ∨ 65536 < x.k then none else if 65536 < f + x.k.toNat + x.d.size ∨ 65536 < t + x.k.toNat + x.p.size then none else sizeG l (f + x.k.toNat + x.d.size) (t + x.k.toNat + x.p.size)
theorem str_e (s : ByteArray) : (s.toList == []) = decide (s.size = 0) := by
  have h : s.toList.length = s.size := by rw [ByteArray.toList_eq, Array.length_toList]; rfl
  rw [Bool.eq_iff_iff, beq_iff_eq, decide_eq_true_iff, ← h]
  cases s.toList <;> simp
theorem emp_or (s : ByteArray) : s = .empty ∨ (s.size ≠ 0 ∧ (s.toList == []) = false ∧ s.toList.isEmpty = false ∧ (s.toList = []) = False) := by
  by_cases h : s.size = 0
  · left
    apply ByteArray.ext; apply Array.ext'
    have : s.data.size = 0 := h
    rw [Array.eq_empty_of_size_eq_zero this]; rfl
  · right
    have h1 := str_e s
    rw [decide_eq_false h] at h1
    have h2 : s.toList ≠ [] := fun e => by rw [e] at h1; simp at h1
    exact ⟨h, h1, by cases hs : s.toList <;> simp_all, eq_false h2⟩
end Go.Proofs.Ytjccoiephdopkaa

/- Stage 27: bytes of one's own (as stage 5 has them). -/
namespace Go.Proofs.Ytjccoiephdopkaa
set_option linter.unusedVariables false
set_option linter.unusedSimpArgs false
open Go Go.RowKit Go.Shelf
set_option maxRecDepth 100000

theorem infoU8 : (Try.prog.info? 5).map (fun i => (i.zero, i.size, i.bytes)) = some (some (.int .u8 0), 1, 1) := by kernel_rfl
theorem conv_own {w : World} {base n : Nat} {v : Value} {s : ByteArray} (hn : s.size = n) (h : w.ownsRow base 5 1 v n (Lib.strCells s)) : (convert 41 9 v).run Try.prog w = .ok (.string s) w := by
  have hs : s = ⟨s.data.toList.toArray⟩ := by simp
  rcases h.2 with ⟨rfl, rfl⟩ | ⟨g, cap, cur, rfl, _⟩
  · have : s = ByteArray.empty := by
      have : s.data = #[] := Array.eq_empty_of_size_eq_zero hn
      rw [hs, this]; rfl
    rw [this]
    exact run_convert_bytes_nil w 41 5 Try.underlying41 Try.underlying5 0 0 9 Try.underlying9
  · have hl : s.data.toList.length = n := by rw [Array.length_toList]; exact hn
    have := run_convert_bytes_back (P := Try.prog) w 41 9 5 ⟨g, 0, none⟩ cap s.data.toList Try.underlying41 Try.underlying5 Try.underlying9
      (fun j hj => h.cells (g := g) rfl j _ (by simp only [Lib.strCells, List.getElem?_map, List.getElem?_eq_getElem hj]; rfl))
    rw [hl] at this
    rw [this]
/-- make([]byte, n): a row of zeros of one's own. -/
theorem make_bytes (w : World) (n : Nat) (h : n ≤ 140737488355328) : (Instr.makeSlice 41 (.int .i64 (n : Int)) (.int .i64 (n : Int))).run Try.prog w = .ok (.slice (some ⟨w.heap.size, 0, none⟩) n n) (w.alloc (.cells (madeCells #[.int .u8 0] n) 5)) := by
  obtain ⟨i0, hi, hz0, hz1, hz2⟩ := info_parts infoU8
  have := run_make (P := Try.prog) w 41 5 i0 (.int .u8 0) Try.underlying41 hi hz0 .i64 .i64 n n (by omega) (by omega) (by rw [hz2]; omega) (by omega)
  rw [hz1, show (Value.int .u8 0).cells = #[.int .u8 0] from rfl] at this
  simpa using this
end Go.Proofs.Ytjccoiephdopkaa

/- Stage 27: kind, Sizes. -/
namespace Go.Proofs.Ytjccoiephdopkaa
set_option linter.unusedVariables false
set_option linter.unusedSimpArgs false
open Go Go.RowKit Go.Shelf
set_option maxRecDepth 100000

theorem kind_any (x : Sp) (w : World) : Calls Try.prog 36 #[.agg #[.int .i64 x.k, .string x.d, .string x.p]] w fun e w' => e = .returned (.int .i64 (kindN x)) ∧ Below w.heap.size w w' := by
  obtain ⟨k, d, p⟩ := x
  have hB := (Below.refl w.heap.size w).alloc (Nat.le_refl _) (.cells #[.int .i64 k, .string d, .string p] 29)
  rcases Int.lt_trichotomy k 0 with h0 | h0 | h0
  all_goals (rcases emp_or d with rfl | ⟨d0, d1, d2, d3⟩)
  all_goals (rcases emp_or p with rfl | ⟨p0, p1, p2, p3⟩)
  all_goals (
    have HB := Lib.hid hB
    clear hB
    have e1 : decide ((0 : Int) < k) = decide (0 < k) := rfl
    first
      | (have k1 : ¬ 0 < k := by omega
         have k2 : (k == 0) = false := by rw [beq_eq_false_iff_ne]; omega
         have k3 : ¬ k = 0 := by omega
         go_enter Try.func36, Try.ntmps36
         go_wp2
         go_ret
         exact ⟨by unfold kindN; simp [*] <;> (split <;> omega), HB.out⟩)
      | (subst h0
         go_enter Try.func36, Try.ntmps36
         go_wp2
         go_ret
         exact ⟨by unfold kindN; simp [*] <;> (split <;> omega), HB.out⟩)
      | (have k2 : (k == 0) = false := by rw [beq_eq_false_iff_ne]; omega
         have k3 : ¬ k = 0 := by omega
         go_enter Try.func36, Try.ntmps36
         go_wp2
         go_ret
         exact ⟨by unfold kindN; simp [*] <;> (split <;> omega), HB.out⟩))

/-- Steps as they may come in. -/
def OkS (l : List Sp) : Prop := ∀ x ∈ l, x.d.size ≤ 140737488355328 ∧ x.p.size ≤ 140737488355328 ∧ x.k ≤ 9223372036854775807 ∧ -9223372036854775808 ≤ x.k
def szV : Option (Nat × Nat) → Value
  | none => .tuple #[.int .i64 0, .int .i64 0, .int .i64 2]
  | some (f, t) => .tuple #[.int .i64 f, .int .i64 t, .int .i64 0]
theorem get3 {w : World} {l : List Sp} {i : Nat} {x : Sp} {g off : Nat} (hc : ∀ j, j < 3 → w.cell? ⟨g, off + i * 3 + j, none⟩ = (encS x)[j]?) : w.cell? ⟨g, off + i * 3, none⟩ = some (.int .i64 x.k) ∧ w.cell? ⟨g, off + i * 3 + 1, none⟩ = some (.string x.d) ∧ w.cell? ⟨g, off + i * 3 + 2, none⟩ = some (.string x.p) :=
  ⟨hc 0 (by decide), hc 1 (by decide), hc 2 (by decide)⟩
theorem kind_pos {x : Sp} (h : kindN x ≠ 0) : 0 ≤ x.k := by
  unfold kindN at h
  split at h
  · omega
  · split at h
    · omega
    · split at h
      · omega
      · exact absurd rfl h
theorem below_drewN (w : World) (k : Nat) : Below w.heap.size w (w.drewN k) := ⟨rfl, rfl, rfl, Nat.le_refl _, fun _ _ => rfl⟩
end Go.Proofs.Ytjccoiephdopkaa

/- Stage 27: mathematics: where a place goes, by the steps, by the one form. -/
namespace Go.Proofs.Ytjccoiephdopkaa
set_option linter.unusedVariables false
set_option linter.unusedSimpArgs false
open Go Go.RowKit Go.Shelf
set_option maxRecDepth 100000

/-- What a put at a place counts. -/
def cnt (a : Nat) (bh : Bool) (g s : Nat) : Nat := if g < a ∨ (g = a ∧ bh = true) then s else 0
/-- One step, place by place: place, gap, how many. -/
structure Mv where
  pl : Nat
  gp : Nat
  n : Nat
def mvG (a : Nat) (bh : Bool) (m : Mv) (x : Sp) : Mv := ⟨m.pl + x.k.toNat + x.d.size, if 0 < x.k then m.pl + x.k.toNat else m.gp, m.n + cnt a bh m.gp x.p.size + min x.k.toNat (a - m.pl)⟩
def mvP (a : Nat) (bh : Bool) (m : Nat × Nat) (x : Sp) : Nat × Nat := (m.1 + x.k.toNat + x.d.size, m.2 + cnt a bh m.1 x.p.size + min x.k.toNat (a - m.1))
/-- What a maker holds. -/
structure Mk where
  out : List Sp
  kept : Nat
  put : ByteArray
  drop : ByteArray
def gapM (m : Mk) : Mk := ⟨m.out ++ (if 0 < m.put.size then [⟨0, .empty, m.put⟩] else []) ++ (if 0 < m.drop.size then [⟨0, m.drop, .empty⟩] else []), m.kept, .empty, .empty⟩
def rowM (m : Mk) : Mk := ⟨m.out ++ (if 0 < m.kept then [⟨m.kept, .empty, .empty⟩] else []), 0, m.put, m.drop⟩
def keepM (n : Nat) (m : Mk) : Mk := let m' := if 0 < n ∧ 0 < m.put.size + m.drop.size then gapM m else m; ⟨m'.out, m'.kept + n, m'.put, m'.drop⟩
def putsM (s : ByteArray) (m : Mk) : Mk := let m' := if 0 < s.size then rowM m else m; ⟨m'.out, m'.kept, m'.put ++ s, m'.drop⟩
def dropsM (s : ByteArray) (m : Mk) : Mk := let m' := if 0 < s.size then rowM m else m; ⟨m'.out, m'.kept, m'.put, m'.drop ++ s⟩
def stepM (m : Mk) (x : Sp) : Mk := dropsM x.d (putsM x.p (keepM x.k.toNat m))
def endM (m : Mk) : List Sp := (rowM (gapM m)).out
def plainM (l : List Sp) : List Sp := endM (l.foldl stepM ⟨[], 0, .empty, .empty⟩)

def InvM (a : Nat) (bh : Bool) (m : Mk) (v : Mv) : Prop :=
  ∃ P T, m.out.foldl (mvP a bh) (0, 0) = (P, T) ∧ v.pl = P + m.kept + m.drop.size ∧ v.gp = P + m.kept ∧ v.n = T + min m.kept (a - P) + cnt a bh P m.put.size ∧ (0 < m.kept → m.put.size = 0 ∧ m.drop.size = 0)
theorem cnt_add (a : Nat) (bh : Bool) (g s t : Nat) : cnt a bh g (s + t) = cnt a bh g s + cnt a bh g t := by unfold cnt; split <;> omega
theorem cnt_zero (a : Nat) (bh : Bool) (g : Nat) : cnt a bh g 0 = 0 := by unfold cnt; split <;> rfl
theorem emp_size : ByteArray.empty.size = 0 := rfl
theorem gap_out (a : Nat) (bh : Bool) (m : Mk) (P T : Nat) (h : m.out.foldl (mvP a bh) (0, 0) = (P, T)) : (gapM m).out.foldl (mvP a bh) (0, 0) = (P + m.drop.size, T + cnt a bh P m.put.size) := by
  unfold gapM
  simp only [List.foldl_append, h]
  by_cases h1 : 0 < m.put.size <;> by_cases h2 : 0 < m.drop.size
  · simp [h1, h2, mvP, emp_size, cnt_zero]
  · have : m.drop.size = 0 := by omega
    simp [h1, mvP, this, emp_size]
  · have : m.put.size = 0 := by omega
    simp [h2, mvP, this, emp_size, cnt_zero]
  · have h3 : m.put.size = 0 := by omega
    have h4 : m.drop.size = 0 := by omega
    simp [h3, h4, cnt_zero]
theorem row_out (a : Nat) (bh : Bool) (m : Mk) (P T : Nat) (h : m.out.foldl (mvP a bh) (0, 0) = (P, T)) : (rowM m).out.foldl (mvP a bh) (0, 0) = (P + m.kept, T + min m.kept (a - P)) := by
  unfold rowM
  simp only [List.foldl_append, h]
  by_cases h1 : 0 < m.kept
  · simp [h1, mvP, emp_size, cnt_zero]
  · have : m.kept = 0 := by omega
    simp [this]
theorem inv_keep {a : Nat} {bh : Bool} {m : Mk} {v : Mv} (h : InvM a bh m v) (n : Nat) : InvM a bh (keepM n m) ⟨v.pl + n, if 0 < n then v.pl + n else v.gp, v.n + min n (a - v.pl)⟩ := by
  obtain ⟨P, T, h1, h2, h3, h4, h5⟩ := h
  unfold keepM
  by_cases hn : 0 < n ∧ 0 < m.put.size + m.drop.size
  · have hk : m.kept = 0 := by
      by_cases hk : 0 < m.kept
      · have := h5 hk; omega
      · omega
    simp only [if_pos hn]
    refine ⟨_, _, gap_out a bh m P T h1, ?_, ?_, ?_, ?_⟩
    · simp [gapM, emp_size]; omega
    · simp [gapM, hn.1]; omega
    · simp [gapM, emp_size, cnt_zero, hk, h4, h2]
    · simp [gapM, emp_size]
  · simp only [if_neg hn]
    refine ⟨P, T, h1, ?_, ?_, ?_, ?_⟩
    · simp; omega
    · show (if 0 < n then v.pl + n else v.gp) = P + (m.kept + n)
      by_cases h0 : 0 < n
      · rw [if_pos h0]; omega
      · rw [if_neg h0]; omega
    · show v.n + min n (a - v.pl) = T + min (m.kept + n) (a - P) + cnt a bh P m.put.size
      by_cases h0 : 0 < n
      · have : m.drop.size = 0 := by omega
        omega
      · omega
    · intro h6
      by_cases h0 : 0 < n
      · exact ⟨by show m.put.size = 0; omega, by show m.drop.size = 0; omega⟩
      · exact h5 (by have : 0 < m.kept + n := h6; omega)
theorem inv_puts {a : Nat} {bh : Bool} {m : Mk} {v : Mv} (h : InvM a bh m v) (s : ByteArray) : InvM a bh (putsM s m) ⟨v.pl, v.gp, v.n + cnt a bh v.gp s.size⟩ := by
  obtain ⟨P, T, h1, h2, h3, h4, h5⟩ := h
  unfold putsM
  by_cases hs : 0 < s.size
  · simp only [if_pos hs]
    refine ⟨_, _, row_out a bh m P T h1, ?_, ?_, ?_, ?_⟩
    · simp [rowM]; omega
    · simp [rowM]; omega
    · simp only [rowM, ByteArray.size_append, cnt_add, h3, h4]
      by_cases hk : 0 < m.kept
      · have := h5 hk
        rw [this.1, cnt_zero, cnt_zero]; omega
      · have : m.kept = 0 := by omega
        rw [this]; simp; omega
    · simp [rowM]
  · have hs0 : s.size = 0 := by omega
    simp only [if_neg hs]
    refine ⟨P, T, h1, h2, h3, ?_, ?_⟩
    · simp only [ByteArray.size_append, hs0, cnt_zero, Nat.add_zero]; exact h4
    · simp only [ByteArray.size_append, hs0, Nat.add_zero]; exact h5
theorem inv_drops {a : Nat} {bh : Bool} {m : Mk} {v : Mv} (h : InvM a bh m v) (s : ByteArray) : InvM a bh (dropsM s m) ⟨v.pl + s.size, v.gp, v.n⟩ := by
  obtain ⟨P, T, h1, h2, h3, h4, h5⟩ := h
  unfold dropsM
  by_cases hs : 0 < s.size
  · simp only [if_pos hs]
    refine ⟨_, _, row_out a bh m P T h1, ?_, ?_, ?_, ?_⟩
    · simp [rowM, ByteArray.size_append]; omega
    · simp [rowM]; omega
    · simp only [rowM]
      by_cases hk : 0 < m.kept
      · have := h5 hk
        rw [this.1, cnt_zero] at h4 ⊢; omega
      · have : m.kept = 0 := by omega
        rw [this] at h4 ⊢; simpa using h4
    · simp [rowM]
  · have hs0 : s.size = 0 := by omega
    simp only [if_neg hs]
    refine ⟨P, T, h1, ?_, h3, h4, ?_⟩
    · simp only [ByteArray.size_append, hs0, Nat.add_zero]; exact h2
    · simp only [ByteArray.size_append, hs0, Nat.add_zero]; exact h5
theorem inv_step {a : Nat} {bh : Bool} {m : Mk} {v : Mv} (h : InvM a bh m v) (x : Sp) (hx : kindN x ≠ 0) : InvM a bh (stepM m x) (mvG a bh v x) := by
  have h1 : InvM a bh (stepM m x) ⟨v.pl + x.k.toNat + x.d.size, if 0 < x.k.toNat then v.pl + x.k.toNat else v.gp, v.n + min x.k.toNat (a - v.pl) + cnt a bh (if 0 < x.k.toNat then v.pl + x.k.toNat else v.gp) x.p.size⟩ := inv_drops (inv_puts (inv_keep h x.k.toNat) x.p) x.d
  have hk := kind_pos hx
  have e2 : v.n + min x.k.toNat (a - v.pl) + cnt a bh (if 0 < x.k.toNat then v.pl + x.k.toNat else v.gp) x.p.size = v.n + cnt a bh v.gp x.p.size + min x.k.toNat (a - v.pl) := by
    by_cases h0 : 0 < x.k
    · have hp : x.p.size = 0 := by
        unfold kindN at hx
        split at hx
        · omega
        · split at hx
          · omega
          · split at hx
            · omega
            · exact absurd rfl hx
      rw [hp, cnt_zero, cnt_zero]; omega
    · rw [if_neg (by omega)]; omega
  have e1 : (if 0 < x.k.toNat then v.pl + x.k.toNat else v.gp) = (if 0 < x.k then v.pl + x.k.toNat else v.gp) := by
    by_cases h0 : 0 < x.k
    · rw [if_pos (by omega), if_pos h0]
    · rw [if_neg (by omega), if_neg h0]
  rw [e2, e1] at h1
  exact h1
theorem end_out {a : Nat} {bh : Bool} {m : Mk} {v : Mv} (h : InvM a bh m v) : ((endM m).foldl (mvP a bh) (0, 0)).2 = v.n := by
  obtain ⟨P, T, h1, h2, h3, h4, h5⟩ := h
  unfold endM
  rw [row_out a bh (gapM m) _ _ (gap_out a bh m P T h1)]
  simp only [gapM]
  by_cases hk : 0 < m.kept
  · have := h5 hk
    rw [this.2, Nat.add_zero]; omega
  · have : m.kept = 0 := by omega
    rw [this] at h4 ⊢; simp at h4 ⊢; omega
theorem fold_inv {a : Nat} {bh : Bool} : ∀ (l : List Sp) (m : Mk) (v : Mv), InvM a bh m v → (∀ x ∈ l, kindN x ≠ 0) → InvM a bh (l.foldl stepM m) (l.foldl (mvG a bh) v)
  | [], m, v, h, _ => h
  | x :: l, m, v, h, hx => by
    rw [List.foldl_cons, List.foldl_cons]
    exact fold_inv l _ _ (inv_step h x (hx x (by simp))) (fun y hy => hx y (by simp [hy]))
/-- The one form moves places as the steps themselves. -/
theorem plain_moves (a : Nat) (bh : Bool) (l : List Sp) (hx : ∀ x ∈ l, kindN x ≠ 0) : ((plainM l).foldl (mvP a bh) (0, 0)).2 = (l.foldl (mvG a bh) ⟨0, 0, 0⟩).n :=
  end_out (fold_inv l _ _ ⟨0, 0, rfl, rfl, rfl, by simp [cnt_zero, emp_size], by simp⟩ hx)
end Go.Proofs.Ytjccoiephdopkaa

/- Stage 27: changes byte by byte: what a change makes of a text; the maker as a machine on single bytes. -/
namespace Go.Proofs.Ytjccoiephdopkaa
set_option linter.unusedVariables false
set_option linter.unusedSimpArgs false
open Go Go.RowKit Go.Shelf
set_option maxRecDepth 100000

/-- One byte of a change: kept, dropped, put. -/
inductive Atm where
  | K : Atm
  | D : UInt8 → Atm
  | P : UInt8 → Atm
deriving DecidableEq

def bL (s : ByteArray) : List UInt8 := s.data.toList
def atS (x : Sp) : List Atm := List.replicate x.k.toNat .K ++ (bL x.p).map .P ++ (bL x.d).map .D
def atL (l : List Sp) : List Atm := l.flatMap atS
/-- How many bytes it is of. -/
def inA : List Atm → Nat
  | [] => 0
  | .P _ :: l => inA l
  | .K :: l => inA l + 1
  | .D _ :: l => inA l + 1
/-- How many bytes it makes. -/
def outA : List Atm → Nat
  | [] => 0
  | .P _ :: l => outA l + 1
  | .K :: l => outA l + 1
  | .D _ :: l => outA l
/-- What it makes of a text, and what is left of that. -/
def runA : List Atm → List UInt8 → Option (List UInt8 × List UInt8)
  | [], s => some ([], s)
  | .P c :: l, s => (runA l s).map fun r => (c :: r.1, r.2)
  | .K :: l, c :: s => (runA l s).map fun r => (c :: r.1, r.2)
  | .D d :: l, c :: s => if c = d then runA l s else none
  | .K :: _, [] => none
  | .D _ :: _, [] => none
theorem bL_len (s : ByteArray) : (bL s).length = s.size := by simp [bL]
theorem bL_app (s t : ByteArray) : bL (s ++ t) = bL s ++ bL t := by simp [bL]
theorem bL_emp : bL .empty = [] := rfl
theorem bL_nil {s : ByteArray} (h : s.size = 0) : bL s = [] := List.length_eq_zero_iff.1 ((bL_len s).trans h)
theorem bL_inj {s t : ByteArray} (h : bL s = bL t) : s = t := by
  apply ByteArray.ext; apply Array.ext'; exact h
theorem runA_append (A B : List Atm) (s : List UInt8) : runA (A ++ B) s = (runA A s).bind fun r => (runA B r.2).map fun q => (r.1 ++ q.1, q.2) := by
  induction A generalizing s with
  | nil => simp [runA]
  | cons a A ih =>
    rw [List.cons_append]
    cases a with
    | P c =>
      simp only [runA, ih]
      cases runA A s with
      | none => rfl
      | some r => simp only [Option.bind_some, Option.map_some]; cases runA B r.2 <;> rfl
    | K =>
      cases s with
      | nil => rfl
      | cons c s =>
        simp only [runA, ih]
        cases runA A s with
        | none => rfl
        | some r => simp only [Option.bind_some, Option.map_some]; cases runA B r.2 <;> rfl
    | D d =>
      cases s with
      | nil => rfl
      | cons c s =>
        simp only [runA]
        split
        · exact ih s
        · rfl
theorem inA_append (A B : List Atm) : inA (A ++ B) = inA A + inA B := by
  induction A with
  | nil => simp [inA]
  | cons a A ih => cases a <;> simp only [List.cons_append, inA, ih] <;> omega
theorem outA_append (A B : List Atm) : outA (A ++ B) = outA A + outA B := by
  induction A with
  | nil => simp [outA]
  | cons a A ih => cases a <;> simp only [List.cons_append, outA, ih] <;> omega
theorem run_len {A : List Atm} {s t r : List UInt8} (h : runA A s = some (t, r)) : s.length = inA A + r.length ∧ t.length = outA A := by
  induction A generalizing s t r with
  | nil => simp only [runA, Option.some.injEq, Prod.mk.injEq] at h; obtain ⟨rfl, rfl⟩ := h; simp [inA, outA]
  | cons a A ih =>
    cases a with
    | P c =>
      simp only [runA, Option.map_eq_some_iff] at h
      obtain ⟨q, hq, e⟩ := h
      cases e
      have := ih hq
      simp only [inA, outA, List.length_cons]; omega
    | K =>
      cases s with
      | nil => cases h
      | cons c s =>
        simp only [runA, Option.map_eq_some_iff] at h
        obtain ⟨q, hq, e⟩ := h
        cases e
        have := ih hq
        simp only [inA, outA, List.length_cons]; omega
    | D d =>
      cases s with
      | nil => cases h
      | cons c s =>
        simp only [runA] at h
        split at h
        · have := ih h
          simp only [inA, outA, List.length_cons]; omega
        · cases h
/-- Two changes do the same to every text. -/
structure EqA (A B : List Atm) : Prop where
  run : ∀ s, runA A s = runA B s
  inn : inA A = inA B
  out : outA A = outA B
  len : A.length = B.length
theorem EqA.refl (A : List Atm) : EqA A A := ⟨fun _ => rfl, rfl, rfl, rfl⟩
theorem EqA.trans {A B C : List Atm} (h : EqA A B) (g : EqA B C) : EqA A C := ⟨fun s => (h.run s).trans (g.run s), h.inn.trans g.inn, h.out.trans g.out, h.len.trans g.len⟩
theorem EqA.app {A B C D : List Atm} (h : EqA A B) (g : EqA C D) : EqA (A ++ C) (B ++ D) := by
  refine ⟨fun s => ?_, by rw [inA_append, inA_append, h.inn, g.inn], by rw [outA_append, outA_append, h.out, g.out], by rw [List.length_append, List.length_append, h.len, g.len]⟩
  rw [runA_append, runA_append, h.run]
  congr 1
  funext r
  rw [g.run]
theorem swap_one (c : UInt8) (l : List UInt8) : EqA (l.map Atm.D ++ [.P c]) (.P c :: l.map .D) := by
  induction l with
  | nil => exact EqA.refl _
  | cons d l ih =>
    refine ⟨fun s => ?_, ?_, ?_, ?_⟩
    · cases s with
      | nil => rfl
      | cons b s =>
        simp only [List.map_cons, List.cons_append, runA]
        split
        · rw [ih.run]; rfl
        · rfl
    · have := ih.inn; simp only [List.map_cons, List.cons_append, inA] at this ⊢; omega
    · have := ih.out; simp only [List.map_cons, List.cons_append, outA] at this ⊢; omega
    · simp

/-- One byte more for the maker. -/
def fd (m : Mk) : Atm → Mk
  | .K => keepM 1 m
  | .P c => putsM ⟨#[c]⟩ m
  | .D c => dropsM ⟨#[c]⟩ m
def fdL (A : List Atm) (m : Mk) : Mk := A.foldl fd m
def mk0 : Mk := ⟨[], 0, .empty, .empty⟩
/-- The one form. -/
def nfA (A : List Atm) : List Sp := endM (fdL A mk0)
theorem fdL_app (A B : List Atm) (m : Mk) : fdL (A ++ B) m = fdL B (fdL A m) := List.foldl_append
theorem fdL_nil (m : Mk) : fdL [] m = m := rfl
theorem ba_app_empty (s : ByteArray) : s ++ .empty = s := by apply bL_inj; rw [bL_app, bL_emp, List.append_nil]
theorem keep_zero (m : Mk) : keepM 0 m = m := rfl
theorem keepM_yes {n : Nat} {m : Mk} (hn : 0 < n) (h : 0 < m.put.size + m.drop.size) : keepM n m = ⟨(gapM m).out, (gapM m).kept + n, .empty, .empty⟩ := by unfold keepM; rw [if_pos ⟨hn, h⟩]; rfl
theorem keepM_no {n : Nat} {m : Mk} (h : ¬ 0 < m.put.size + m.drop.size) : keepM n m = ⟨m.out, m.kept + n, m.put, m.drop⟩ := by unfold keepM; rw [if_neg (fun e => h e.2)]
theorem keep_fd (n : Nat) (m : Mk) : keepM n m = fdL (List.replicate n .K) m := by
  induction n generalizing m with
  | zero =>
    show keepM 0 m = m
    rfl
  | succ n ih =>
    rw [List.replicate_succ]
    show _ = fdL _ (keepM 1 m)
    rw [← ih]
    by_cases h : 0 < m.put.size + m.drop.size
    · rw [keepM_yes (Nat.succ_pos n) h, keepM_yes (by omega) h, keepM_no (by simp [emp_size])]
      simp only [Mk.mk.injEq, true_and, and_true]; omega
    · rw [keepM_no h, keepM_no h, keepM_no (by exact h)]
      simp only [Mk.mk.injEq, true_and, and_true]; omega
theorem one_pos (c : UInt8) (l : List UInt8) : 0 < (ByteArray.mk ⟨c :: l⟩).size := Nat.succ_pos _
theorem putsM_one (c : UInt8) (m : Mk) : putsM ⟨#[c]⟩ m = ⟨(rowM m).out, 0, m.put ++ ⟨#[c]⟩, m.drop⟩ := by unfold putsM; rw [if_pos (one_pos c [])]; rfl
theorem dropsM_one (c : UInt8) (m : Mk) : dropsM ⟨#[c]⟩ m = ⟨(rowM m).out, 0, m.put, m.drop ++ ⟨#[c]⟩⟩ := by unfold dropsM; rw [if_pos (one_pos c [])]; rfl
theorem row_zero {m : Mk} (h : m.kept = 0) : rowM m = m := by
  obtain ⟨o, k, p, d⟩ := m
  cases h
  unfold rowM; simp
theorem puts_fd (s : ByteArray) (m : Mk) : putsM s m = fdL ((bL s).map .P) m := by
  obtain ⟨⟨l⟩⟩ := s
  induction l generalizing m with
  | nil =>
    show putsM .empty m = m
    unfold putsM; rw [if_neg (by decide)]
    obtain ⟨o, k, p, d⟩ := m
    simp only [Mk.mk.injEq, true_and, and_true]
    exact ba_app_empty p
  | cons c l ih =>
    show _ = fdL ((bL ⟨⟨l⟩⟩).map .P) (putsM ⟨#[c]⟩ m)
    rw [← ih]
    have e1 : putsM ⟨#[c]⟩ m = ⟨(rowM m).out, 0, m.put ++ ⟨#[c]⟩, m.drop⟩ := putsM_one c m
    rw [e1]
    unfold putsM
    rw [if_pos (show 0 < (ByteArray.mk ⟨c :: l⟩ : ByteArray).size from Nat.succ_pos _)]
    have e2 : (if 0 < (ByteArray.mk ⟨l⟩).size then rowM ⟨(rowM m).out, 0, m.put ++ ⟨#[c]⟩, m.drop⟩ else ⟨(rowM m).out, 0, m.put ++ ⟨#[c]⟩, m.drop⟩) = ⟨(rowM m).out, 0, m.put ++ ⟨#[c]⟩, m.drop⟩ := by
      split
      · exact row_zero rfl
      · rfl
    simp only [e2]
    show Mk.mk _ _ _ _ = Mk.mk _ _ _ _
    simp only [Mk.mk.injEq, true_and, and_true]
    refine ⟨rfl, ?_, rfl⟩
    apply bL_inj
    rw [bL_app, bL_app, bL_app]
    show bL m.put ++ c :: l = bL m.put ++ [c] ++ l
    simp
theorem drops_fd (s : ByteArray) (m : Mk) : dropsM s m = fdL ((bL s).map .D) m := by
  obtain ⟨⟨l⟩⟩ := s
  induction l generalizing m with
  | nil =>
    show dropsM .empty m = m
    unfold dropsM; rw [if_neg (by decide)]
    obtain ⟨o, k, p, d⟩ := m
    simp only [Mk.mk.injEq, true_and, and_true]
    exact ba_app_empty d
  | cons c l ih =>
    show _ = fdL ((bL ⟨⟨l⟩⟩).map .D) (dropsM ⟨#[c]⟩ m)
    rw [← ih]
    have e1 : dropsM ⟨#[c]⟩ m = ⟨(rowM m).out, 0, m.put, m.drop ++ ⟨#[c]⟩⟩ := dropsM_one c m
    rw [e1]
    unfold dropsM
    rw [if_pos (show 0 < (ByteArray.mk ⟨c :: l⟩ : ByteArray).size from Nat.succ_pos _)]
    have e2 : (if 0 < (ByteArray.mk ⟨l⟩).size then rowM ⟨(rowM m).out, 0, m.put, m.drop ++ ⟨#[c]⟩⟩ else ⟨(rowM m).out, 0, m.put, m.drop ++ ⟨#[c]⟩⟩) = ⟨(rowM m).out, 0, m.put, m.drop ++ ⟨#[c]⟩⟩ := by
      split
      · exact row_zero rfl
      · rfl
    simp only [e2]
    show Mk.mk _ _ _ _ = Mk.mk _ _ _ _
    simp only [Mk.mk.injEq, true_and, and_true]
    refine ⟨rfl, rfl, ?_⟩
    apply bL_inj
    rw [bL_app, bL_app, bL_app]
    show bL m.drop ++ c :: l = bL m.drop ++ [c] ++ l
    simp
theorem step_fd (m : Mk) (x : Sp) : stepM m x = fdL (atS x) m := by
  unfold stepM atS
  rw [fdL_app, fdL_app, ← keep_fd, ← puts_fd, ← drops_fd]
theorem plain_fd (l : List Sp) : plainM l = nfA (atL l) := by
  unfold plainM nfA
  congr 1
  have key : ∀ (l : List Sp) (m : Mk), l.foldl stepM m = fdL (atL l) m := by
    intro l
    induction l with
    | nil => intro m; rfl
    | cons x l ih => intro m; rw [List.foldl_cons, ih, step_fd, ← fdL_app]; rfl
  exact key l _

/-- What a maker has been told. -/
def denM (m : Mk) : List Atm := atL m.out ++ List.replicate m.kept .K ++ (bL m.put).map .P ++ (bL m.drop).map .D
structure OkM (m : Mk) : Prop where
  alt : 0 < m.kept → m.put.size = 0 ∧ m.drop.size = 0
  nz : ∀ x ∈ m.out, kindN x ≠ 0
theorem OkM.new : OkM mk0 := ⟨fun h => absurd h (by decide), fun x h => by cases h⟩
theorem atL_app (l k : List Sp) : atL (l ++ k) = atL l ++ atL k := List.flatMap_append
theorem atL_put (p : ByteArray) : atL (if 0 < p.size then [⟨0, .empty, p⟩] else []) = (bL p).map .P := by
  split
  · simp [atL, atS, bL_emp]
  · rw [bL_nil (by omega)]; rfl
theorem atL_drop (p : ByteArray) : atL (if 0 < p.size then [⟨0, p, .empty⟩] else []) = (bL p).map .D := by
  split
  · simp [atL, atS, bL_emp]
  · rw [bL_nil (by omega)]; rfl
theorem atL_keep (n : Nat) : atL (if 0 < n then [⟨n, .empty, .empty⟩] else []) = List.replicate n .K := by
  split
  · simp [atL, atS, bL_emp]
  · rw [show n = 0 by omega]; rfl
theorem kind_put {p : ByteArray} {x : Sp} (h : x ∈ (if 0 < p.size then [(⟨0, .empty, p⟩ : Sp)] else [])) : kindN x ≠ 0 := by
  split at h
  · simp only [List.mem_singleton] at h; subst h; unfold kindN; rw [if_neg (by simp), if_neg (by simp [emp_size]), if_pos ⟨rfl, emp_size, by simp only; omega⟩]; decide
  · cases h
theorem kind_drop {p : ByteArray} {x : Sp} (h : x ∈ (if 0 < p.size then [(⟨0, p, .empty⟩ : Sp)] else [])) : kindN x ≠ 0 := by
  split at h
  · simp only [List.mem_singleton] at h; subst h; unfold kindN; rw [if_neg (by simp), if_pos ⟨rfl, by simp only; omega, emp_size⟩]; decide
  · cases h
theorem kind_keep {n : Nat} {x : Sp} (h : x ∈ (if 0 < n then [(⟨n, .empty, .empty⟩ : Sp)] else [])) : kindN x ≠ 0 := by
  split at h
  · simp only [List.mem_singleton] at h; subst h; unfold kindN; rw [if_pos ⟨by simp only; omega, emp_size, emp_size⟩]; decide
  · cases h
theorem OkM.gap {m : Mk} (h : OkM m) : OkM (gapM m) := by
  refine ⟨fun _ => ⟨rfl, rfl⟩, fun x hx => ?_⟩
  simp only [gapM, List.mem_append] at hx
  rcases hx with (hx | hx) | hx
  · exact h.nz x hx
  · exact kind_put hx
  · exact kind_drop hx
theorem OkM.row {m : Mk} (h : OkM m) : OkM (rowM m) := by
  refine ⟨fun hk => absurd hk (Nat.lt_irrefl 0), fun x hx => ?_⟩
  simp only [rowM, List.mem_append] at hx
  rcases hx with hx | hx
  · exact h.nz x hx
  · exact kind_keep hx
theorem den_gap {m : Mk} (hk : m.kept = 0) : denM (gapM m) = denM m := by
  unfold denM gapM
  simp only [atL_app, atL_put, atL_drop, hk, bL_emp, List.map_nil, List.replicate_zero, List.append_nil]
theorem den_row (m : Mk) : denM (rowM m) = denM m := by
  unfold denM rowM
  simp only [atL_app, atL_keep, List.replicate_zero, List.append_nil]
theorem den_feed {m : Mk} (h : OkM m) (a : Atm) : OkM (fd m a) ∧ EqA (denM (fd m a)) (denM m ++ [a]) := by
  cases a with
  | K =>
    show OkM (keepM 1 m) ∧ EqA (denM (keepM 1 m)) _
    by_cases h0 : 0 < m.put.size + m.drop.size
    · have hk : m.kept = 0 := by
        by_cases hk : 0 < m.kept
        · have := h.alt hk; omega
        · omega
      rw [keepM_yes (by decide) h0]
      refine ⟨⟨fun _ => ⟨rfl, rfl⟩, h.gap.nz⟩, ?_⟩
      rw [← den_gap hk]
      unfold denM
      have e1 : (gapM m).put = .empty := rfl
      have e2 : (gapM m).drop = .empty := rfl
      have e3 : (gapM m).kept = 0 := hk
      simp only [e1, e2, e3, bL_emp, List.map_nil, List.append_nil, List.replicate_zero]
      exact EqA.refl _
    · rw [keepM_no h0]
      have e1 : bL m.put = [] := bL_nil (by omega)
      have e2 : bL m.drop = [] := bL_nil (by omega)
      refine ⟨⟨fun _ => ⟨by show m.put.size = 0; omega, by show m.drop.size = 0; omega⟩, h.nz⟩, ?_⟩
      unfold denM
      simp only [e1, e2, List.map_nil, List.append_nil]
      rw [List.append_assoc, List.replicate_succ']
      exact EqA.refl _
  | P c =>
    have e1 : putsM ⟨#[c]⟩ m = ⟨(rowM m).out, 0, m.put ++ ⟨#[c]⟩, m.drop⟩ := putsM_one c m
    show OkM (putsM ⟨#[c]⟩ m) ∧ EqA (denM (putsM ⟨#[c]⟩ m)) _
    rw [e1]
    refine ⟨⟨fun hk => absurd hk (Nat.lt_irrefl 0), h.row.nz⟩, ?_⟩
    rw [← den_row m]
    unfold denM
    have e2 : bL (m.put ++ ⟨#[c]⟩) = bL m.put ++ [c] := by rw [bL_app]; rfl
    have e3 : (rowM m).kept = 0 := rfl
    have e4 : (rowM m).put = m.put := rfl
    have e5 : (rowM m).drop = m.drop := rfl
    simp only [e2, e3, e4, e5, List.map_append, List.replicate_zero, List.append_nil, List.append_assoc, List.map_cons, List.map_nil]
    refine EqA.app (EqA.refl _) (EqA.app (EqA.refl _) ?_)
    have h1 := swap_one c (bL m.drop)
    exact ⟨fun s => (h1.run s).symm, h1.inn.symm, h1.out.symm, h1.len.symm⟩
  | D c =>
    have e1 : dropsM ⟨#[c]⟩ m = ⟨(rowM m).out, 0, m.put, m.drop ++ ⟨#[c]⟩⟩ := dropsM_one c m
    show OkM (dropsM ⟨#[c]⟩ m) ∧ EqA (denM (dropsM ⟨#[c]⟩ m)) _
    rw [e1]
    refine ⟨⟨fun hk => absurd hk (Nat.lt_irrefl 0), h.row.nz⟩, ?_⟩
    rw [← den_row m]
    unfold denM
    have e2 : bL (m.drop ++ ⟨#[c]⟩) = bL m.drop ++ [c] := by rw [bL_app]; rfl
    have e3 : (rowM m).kept = 0 := rfl
    have e4 : (rowM m).put = m.put := rfl
    have e5 : (rowM m).drop = m.drop := rfl
    simp only [e2, e3, e4, e5, List.map_append, List.replicate_zero, List.append_nil, List.append_assoc, List.map_cons, List.map_nil]
    exact EqA.refl _
theorem den_fdL (A : List Atm) {m : Mk} (h : OkM m) : OkM (fdL A m) ∧ EqA (denM (fdL A m)) (denM m ++ A) := by
  induction A generalizing m with
  | nil => exact ⟨h, by rw [List.append_nil]; exact EqA.refl _⟩
  | cons a A ih =>
    obtain ⟨h1, h2⟩ := den_feed h a
    obtain ⟨h3, h4⟩ := ih h1
    refine ⟨h3, h4.trans ?_⟩
    have := h2.app (EqA.refl A)
    rwa [List.append_assoc] at this
theorem den_end {m : Mk} (h : OkM m) : atL (endM m) = denM m ∧ ∀ x ∈ endM m, kindN x ≠ 0 := by
  refine ⟨?_, (h.gap.row).nz⟩
  unfold endM
  have e : denM (rowM (gapM m)) = atL (rowM (gapM m)).out := by
    unfold denM
    have e1 : (rowM (gapM m)).put = .empty := rfl
    have e2 : (rowM (gapM m)).drop = .empty := rfl
    have e3 : (rowM (gapM m)).kept = 0 := rfl
    simp only [e1, e2, e3, bL_emp, List.map_nil, List.append_nil, List.replicate_zero]
  rw [← e, den_row]
  by_cases hk : 0 < m.kept
  · obtain ⟨h1, h2⟩ := h.alt hk
    unfold denM gapM
    simp only [atL_app, atL_put, atL_drop, bL_nil h1, bL_nil h2, bL_emp, List.map_nil, List.append_nil]
  · exact den_gap (by omega)
/-- The one form does what the change does. -/
theorem nf_eq (A : List Atm) : EqA (atL (nfA A)) A ∧ ∀ x ∈ nfA A, kindN x ≠ 0 := by
  obtain ⟨h1, h2⟩ := den_fdL A OkM.new
  obtain ⟨h3, h4⟩ := den_end h1
  refine ⟨?_, h4⟩
  unfold nfA
  rw [h3]
  exact h2
end Go.Proofs.Ytjccoiephdopkaa
