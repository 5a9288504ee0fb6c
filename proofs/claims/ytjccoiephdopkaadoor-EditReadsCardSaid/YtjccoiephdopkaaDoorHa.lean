/- Stage 27: rows of structs (as stage 16 has them), appending. -/
import Derived.Test.YtjccoiephdopkaaDoorK0
import Derived.Laws.AppendOwnNone
import Derived.Lib.Hide
import Derived.StillTailTactics
namespace Go.Proofs.YtjccoiephdopkaaDoor
set_option linter.unusedVariables false
set_option linter.unusedSimpArgs false
open Go Go.RowKit Go.Shelf
set_option maxRecDepth 100000

section
variable {α : Type} {enc : α → List Value} {k : Nat}
theorem fl_len (hk : ∀ x, (enc x).length = k) (l : List α) : (l.flatMap enc).length = l.length * k := by
  induction l with
  | nil => simp
  | cons x l ih => simp only [List.flatMap_cons, List.length_append, List.length_cons, hk, ih, Nat.succ_mul]; omega
theorem fl_get (hk : ∀ x, (enc x).length = k) {l : List α} {i j : Nat} {x : α} (h : l[i]? = some x) (hj : j < k) : (l.flatMap enc)[i * k + j]? = (enc x)[j]? := by
  induction l generalizing i with
  | nil => simp at h
  | cons y l ih =>
    rw [List.flatMap_cons]
    cases i with
    | zero =>
      simp at h; subst h
      rw [List.getElem?_append_left (by rw [hk]; omega)]; simp
    | succ i =>
      have h' := ih (i := i) (by simpa using h)
      rw [List.getElem?_append_right (by rw [hk, Nat.succ_mul]; omega), hk]
      rw [show (i + 1) * k + j - k = i * k + j by rw [Nat.succ_mul]; omega]
      exact h'
/-- A list of structs lies from an address on. -/
def RowAt (w : World) (enc : α → List Value) (k : Nat) (o : Option Addr) (l : List α) : Prop := ∀ i x, l[i]? = some x → ∃ g off, o = some ⟨g, off, none⟩ ∧ ∀ j, j < k → w.cell? ⟨g, off + i * k + j, none⟩ = (enc x)[j]?
theorem RowAt.below (hk : ∀ x, (enc x).length = k) (hk0 : 0 < k) {w w' : World} {o : Option Addr} {l : List α} (h : RowAt w enc k o l) (hb : Below w.heap.size w w') : RowAt w' enc k o l := by
  intro i x hi
  obtain ⟨g, off, ho, hc⟩ := h i x hi
  have h0 := hc 0 hk0
  rw [List.getElem?_eq_getElem (by rw [hk]; exact hk0)] at h0
  have hg := lt_cell h0
  exact ⟨g, off, ho, fun j hj => by rw [hb.cell (p := ⟨g, off + i * k + j, none⟩) hg]; exact hc j hj⟩
theorem RowAt.lt (hk : ∀ x, (enc x).length = k) (hk0 : 0 < k) {w : World} {g off : Nat} {l : List α} (h : RowAt w enc k (some ⟨g, off, none⟩) l) (hl : l ≠ []) : g < w.heap.size := by
  obtain ⟨x, r, rfl⟩ := List.exists_cons_of_ne_nil hl
  obtain ⟨g', off', ho, hc⟩ := h 0 x rfl
  cases ho
  have h0 := hc 0 hk0
  rw [List.getElem?_eq_getElem (by rw [hk]; exact hk0)] at h0
  exact lt_cell h0
theorem RowAt.of_own (hk : ∀ x, (enc x).length = k) {w : World} {base n cap : Nat} {e : TypeId} {o : Option Addr} {l : List α} (h : w.ownsRow base e k (.slice o n cap) n (l.flatMap enc)) (hn : l.length = n) : RowAt w enc k o l := by
  intro i x hi
  have hl : i < l.length := (List.getElem?_eq_some_iff.1 hi).1
  obtain ⟨o', cap', e', ho⟩ := own_slice h
  obtain ⟨g, hg⟩ := ho (by omega)
  cases e'
  subst hg
  refine ⟨g, 0, rfl, fun j hj => ?_⟩
  have hb : i * k + j < n * k := by
    have : (i + 1) * k ≤ n * k := Nat.mul_le_mul_right _ (by omega)
    rw [Nat.succ_mul] at this; omega
  rw [Nat.zero_add]
  exact (h.cellAt _ hb).trans (fl_get hk hi hj)
theorem RowAt.nil {w : World} : RowAt w enc k none ([] : List α) := fun i x h => by simp at h
theorem fl_set (hk : ∀ x, (enc x).length = k) {l : List α} {i j : Nat} {x y : α} {v : Value} (h : l[i]? = some x) (hj : j < k) (hy : enc y = (enc x).set j v) : (l.flatMap enc).set (i * k + j) v = (l.set i y).flatMap enc := by
  induction l generalizing i with
  | nil => simp at h
  | cons z l ih =>
    cases i with
    | zero =>
      simp at h; subst h
      rw [List.flatMap_cons, List.set_cons_zero, List.flatMap_cons, hy, List.set_append_left _ _ (by rw [hk]; omega)]
      simp
    | succ i =>
      have h' := ih (i := i) (by simpa using h)
      rw [List.set_cons_succ, List.flatMap_cons, List.flatMap_cons, List.set_append_right _ _ (by rw [hk, Nat.succ_mul]; omega), hk]
      rw [show (i + 1) * k + j - k = i * k + j by rw [Nat.succ_mul]; omega, h']
end
theorem take_nextL {α : Type} {l : List α} {k : Nat} {p : α} (h : l[k]? = some p) : l.take (k + 1) = l.take k ++ [p] := by
  rw [List.take_add_one, h]; rfl
theorem below_of_grown {w w1 : World} (h : w.grownBy w1 none) : Below w.heap.size w w1 := (Below.refl _ _).grown h (Nat.le_refl _) (fun r e => by cases e)

theorem own_base {w : World} {b b' : Nat} {e : TypeId} {sz n : Nat} {v : Value} {xs : List Value} (h : w.ownsRow b e sz v n xs) (hb : b' ≤ b) : w.ownsRow b' e sz v n xs := by
  refine ⟨h.1, h.2.imp id ?_⟩
  rintro ⟨g, cap, cur, rfl, hg, rest⟩
  exact ⟨g, cap, cur, rfl, Nat.le_trans hb hg, rest⟩
theorem own_low {W : World} {b base : Nat} {e : TypeId} {sz n : Nat} {v : Value} {xs : List Value} (h : W.ownsRow base e sz v n xs) (hb : b < base) (o : Nat) (u : Value) : (W.setCell ⟨b, o, none⟩ u).ownsRow base e sz v n xs :=
  h.kept (grownBy_setCell W b o u) (.inr (fun e1 => by have := h.lt b e1; omega))
theorem own_setK {W : World} {base g n c o : Nat} {e : TypeId} {sz : Nat} {xs : List Value} (h : W.ownsRow base e sz (.slice (some ⟨g, 0, none⟩) n c) n xs) (ho : o < n * sz) (v : Value) : (W.setCell ⟨g, o, none⟩ v).ownsRow base e sz (.slice (some ⟨g, 0, none⟩) n c) n (xs.set o v) := by
  refine ⟨by rw [List.length_set]; exact h.1, .inr ?_⟩
  rcases h.2 with ⟨e, _⟩ | ⟨g', c', cur, e, hb, hg, h1, h2, h3, h4⟩
  · cases e
  · simp only [Value.slice.injEq, Option.some.injEq, Addr.mk.injEq, and_true, true_and] at e
    obtain ⟨rfl, rfl⟩ := e
    refine ⟨g, c, cur.setIfInBounds o v, rfl, hb, Blk.set hg o v, h1, h2, by rw [Array.size_setIfInBounds]; exact h3, ?_⟩
    rw [Array.toList_setIfInBounds, List.take_set, h4]
theorem own_freeK {w : World} {base n g c sz : Nat} {e : TypeId} {xs : List Value} (h : w.ownsRow base e sz (.slice (some ⟨g, 0, none⟩) n c) n xs) (o : Nat) : w.frozen? ⟨g, o, none⟩ = false := by
  rcases h.2 with ⟨e, _⟩ | ⟨g', c', cur, e, _, hg, _⟩
  · cases e
  · simp only [Value.slice.injEq, Option.some.injEq, Addr.mk.injEq, and_true, true_and] at e
    obtain ⟨rfl, rfl⟩ := e
    simp [World.frozen?, hg]

/-- 'append' as one operation of a region. -/
theorem opwp_append {P : Program} {o : Oper} {K : Act → World → Prop} {Q : Exit → Act → World → Prop} {a : Act} {w : World} (s x : Operand) (t : TypeId)
    (ho : o.op = .call { callee := .builtin .append, args := #[s, x], argTypes := #[t, t] })
    (base : Nat) (e : TypeId) (i : TypeInfo) (z : Value) (size bytes : Nat) (ht : P.underlying t = some (.slice e)) (hi : P.info? e = some i) (hz : i.zero = some z)
    (hsize : i.size = size) (hby : i.bytes = bytes) (hzs : z.cells.size = size) (hsz : 0 < size)
    (v : Value) (n : Nat) (xs : List Value) (hs : a.eval s = v) (hown : w.ownsRow base e size v n xs)
    (ad : Addr) (m c : Nat) (news : List Value) (hx : a.eval x = .slice (some ad) m c) (hl : news.length = m * size) (hnews : ∀ j u, news[j]? = some u → w.cell? (ad.add j) = some u) (h1 : ∀ u ∈ news, u.oneCell' = true)
    (h63 : n + m ≤ maxLen) (hbytes : (n + m) * bytes ≤ 140737488355328) (hbase : base ≤ w.heap.size)
    (h : ∀ v' w', w'.ownsRow base e size v' (n + m) (xs ++ news) → w.grownBy w' v.ownBlock → K (a.put o.dst v') w') : o.wp P a w K Q := by
  obtain ⟨v', w', hr, h2, h3, _, _⟩ := run_append_own_at (P := P) w base t o.type e i z size bytes ht hi hz hsize hby hzs hsz v n xs hown ad m c news hl hnews h1 h63 hbytes hbase
  unfold Oper.wp execOp
  simp only [ho, resolve, invoke, builtin, Sem.run_bind, Sem.run_pure, Result.andThen_ok, List.map_toArray, List.map_cons, List.map_nil, hs, hx, hr]
  exact h v' w' h2 h3
end Go.Proofs.YtjccoiephdopkaaDoor
