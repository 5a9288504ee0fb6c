/- Stage 16: schemes: how they lie in memory, and the mathematics of Check, Read, Print. -/
import Derived.Test.YtdcmkiggnmajgaaK0
import Derived.Test.YtdcmkiggnmajgaaPc
import Derived.Laws.AppendOwnNone
import Derived.Lib.Hide
namespace Go.Proofs.Ytdcmkiggnmajgaa
set_option linter.unusedVariables false
set_option linter.unusedSimpArgs false
open Go Go.RowKit Go.Shelf
set_option maxRecDepth 100000

section
variable {α : Type} {enc : α → List Value} {k : Nat}
theorem fl_len (hk : ∀ x, (enc x).length = k) (l : List α) : (l.flatMap enc).length = l.length * k := by
  induction l with
  | nil => simp
  | cons x l ih => simp only [List.flatMap_cons, List.length_append, List.length_cons, hk, ih, Nat.succ_mul]; omega
theorem fl_get (hk : ∀ x, (enc x).length = k) {l : List α} {i j : Nat} {x : α} (h : l[i]? = some x) (hj : j < k) : (l.flatMap enc)[i * k + j]? = (enc x)[j]? := by
  induction l generalizing i with
  | nil => simp at h
  | cons y l ih =>
    rw [List.flatMap_cons]
    cases i with
    | zero =>
      simp at h; subst h
      rw [List.getElem?_append_left (by rw [hk]; omega)]; simp
    | succ i =>
      have h' := ih (i := i) (by simpa using h)
      rw [List.getElem?_append_right (by rw [hk, Nat.succ_mul]; omega), hk]
      rw [show (i + 1) * k + j - k = i * k + j by rw [Nat.succ_mul]; omega]
      exact h'
/-- A list of structs lies from an address on. -/
def RowAt (w : World) (enc : α → List Value) (k : Nat) (o : Option Addr) (l : List α) : Prop := ∀ i x, l[i]? = some x → ∃ g off, o = some ⟨g, off, none⟩ ∧ ∀ j, j < k → w.cell? ⟨g, off + i * k + j, none⟩ = (enc x)[j]?
theorem RowAt.below (hk : ∀ x, (enc x).length = k) (hk0 : 0 < k) {w w' : World} {o : Option Addr} {l : List α} (h : RowAt w enc k o l) (hb : Below w.heap.size w w') : RowAt w' enc k o l := by
  intro i x hi
  obtain ⟨g, off, ho, hc⟩ := h i x hi
  have h0 := hc 0 hk0
  rw [List.getElem?_eq_getElem (by rw [hk]; exact hk0)] at h0
  have hg := lt_cell h0
  exact ⟨g, off, ho, fun j hj => by rw [hb.cell (p := ⟨g, off + i * k + j, none⟩) hg]; exact hc j hj⟩
theorem RowAt.lt (hk : ∀ x, (enc x).length = k) (hk0 : 0 < k) {w : World} {g off : Nat} {l : List α} (h : RowAt w enc k (some ⟨g, off, none⟩) l) (hl : l ≠ []) : g < w.heap.size := by
  obtain ⟨x, r, rfl⟩ := List.exists_cons_of_ne_nil hl
  obtain ⟨g', off', ho, hc⟩ := h 0 x rfl
  cases ho
  have h0 := hc 0 hk0
  rw [List.getElem?_eq_getElem (by rw [hk]; exact hk0)] at h0
  exact lt_cell h0
theorem RowAt.of_own (hk : ∀ x, (enc x).length = k) {w : World} {base n cap : Nat} {e : TypeId} {o : Option Addr} {l : List α} (h : w.ownsRow base e k (.slice o n cap) n (l.flatMap enc)) (hn : l.length = n) : RowAt w enc k o l := by
  intro i x hi
  have hl : i < l.length := (List.getElem?_eq_some_iff.1 hi).1
  obtain ⟨o', cap', e', ho⟩ := own_slice h
  obtain ⟨g, hg⟩ := ho (by omega)
  cases e'
  subst hg
  refine ⟨g, 0, rfl, fun j hj => ?_⟩
  have hb : i * k + j < n * k := by
    have : (i + 1) * k ≤ n * k := Nat.mul_le_mul_right _ (by omega)
    rw [Nat.succ_mul] at this; omega
  rw [Nat.zero_add]
  exact (h.cellAt _ hb).trans (fl_get hk hi hj)
theorem RowAt.nil {w : World} : RowAt w enc k none ([] : List α) := fun i x h => by simp at h
theorem fl_set (hk : ∀ x, (enc x).length = k) {l : List α} {i j : Nat} {x y : α} {v : Value} (h : l[i]? = some x) (hj : j < k) (hy : enc y = (enc x).set j v) : (l.flatMap enc).set (i * k + j) v = (l.set i y).flatMap enc := by
  induction l generalizing i with
  | nil => simp at h
  | cons z l ih =>
    cases i with
    | zero =>
      simp at h; subst h
      rw [List.flatMap_cons, List.set_cons_zero, List.flatMap_cons, hy, List.set_append_left _ _ (by rw [hk]; omega)]
      simp
    | succ i =>
      have h' := ih (i := i) (by simpa using h)
      rw [List.set_cons_succ, List.flatMap_cons, List.flatMap_cons, List.set_append_right _ _ (by rw [hk, Nat.succ_mul]; omega), hk]
      rw [show (i + 1) * k + j - k = i * k + j by rw [Nat.succ_mul]; omega, h']
end
theorem take_nextL {α : Type} {l : List α} {k : Nat} {p : α} (h : l[k]? = some p) : l.take (k + 1) = l.take k ++ [p] := by
  rw [List.take_add_one, h]; rfl
theorem below_of_grown {w w1 : World} (h : w.grownBy w1 none) : Below w.heap.size w w1 := (Below.refl _ _).grown h (Nat.le_refl _) (fun r e => by cases e)

/-- A line of a scheme. -/
structure Rh where
  c : Int
  r : Int
deriving DecidableEq, Inhabited
structure Sc where
  L : List Rh
  S : List Int
deriving DecidableEq, Inhabited
def encR (x : Rh) : List Value := [.int .i64 x.c, .int .i64 x.r]
def encI (x : Int) : List Value := [.int .i64 x]
theorem encR_len (x : Rh) : (encR x).length = 2 := rfl
theorem encI_len (x : Int) : (encI x).length = 1 := rfl

/-- A slice that came in: nil, or with room. -/
def NForm (o : Option Addr) (n cap : Nat) : Prop := (o = none ∧ cap = 0 ∧ n = 0) ∨ ∃ a, o = some a ∧ n ≤ cap ∧ cap ≤ 9223372036854775807

def okR (x : Rh) : Bool := !(decide (x.c < -1) || decide (25 ≤ x.c) || decide (x.r < 0) || decide (9 < x.r) || (decide (x.c < 0) && decide (0 < x.r)))
def stB : Int → List Int → Bool
  | left, [] => decide (left = 0)
  | left, n :: r => !(decide (n < 1) || decide (left < n)) && stB (left - n) r
def mayB (s : Sc) : Bool := decide (s.L.length ≤ 512) && s.L.all okR && stB s.L.length s.S

theorem okR_iff (x : Rh) : okR x = true ↔ -1 ≤ x.c ∧ x.c < 25 ∧ 0 ≤ x.r ∧ x.r ≤ 9 ∧ (x.c < 0 → x.r = 0) := by
  unfold okR
  simp; omega

/-- The class of a letter. -/
def clsL (c : Nat) : Int := if c = 120 then -1 else if c = 121 ∨ c = 122 then (c : Int) - 98 else (c : Int) - 97
def low (c : Nat) : Nat := if 65 ≤ c ∧ c ≤ 90 then c + 32 else c
def isLet (c : Nat) : Bool := (decide (97 ≤ c) && decide (c ≤ 122)) || (decide (65 ≤ c) && decide (c ≤ 90) && !decide (c = 88))

structure St where
  L : List Rh
  S : List Int
  g : Bool
  a : Bool
def errR (st : St) (c : Nat) : Int :=
  if st.g then (if 49 ≤ c ∧ c ≤ 57 then 0 else 160)
  else if c = 32 ∧ st.a = false then 0
  else if isLet c then (if st.L.length = 512 then 3 else 0) else 160
def setLast (L : List Rh) (v : Int) : List Rh := L.set (L.length - 1) ⟨(L.getLast?.getD default).c, v⟩
def bump (S : List Int) : List Int := S.set (S.length - 1) (S.getLast?.getD 0 + 1)
def nextR (st : St) (c : Nat) : St :=
  if st.g then { st with L := setLast st.L ((c : Int) - 48), g := false }
  else if c = 32 then { st with a := true }
  else { L := st.L ++ [⟨clsL (low c), 0⟩], S := if st.a then st.S ++ [1] else bump st.S, g := decide (c ≤ 90), a := false }
def runR (s : ByteArray) : Nat → Nat → St → Sc × Int × Int
  | 0, i, st => if st.g || (st.a && !decide (i = 0)) then (⟨[], []⟩, 160, i) else (⟨st.L, st.S⟩, 0, 0)
  | n + 1, i, st => if errR st (bt s i) = 0 then runR s n (i + 1) (nextR st (bt s i)) else (⟨[], []⟩, errR st (bt s i), i)
def readR (s : ByteArray) : Sc × Int × Int := if 65536 < s.size then (⟨[], []⟩, 3, 65536) else runR s s.size 0 ⟨[], [], false, true⟩

/-- What the state of a reader is like. -/
def StOK (st : St) : Prop := st.L.length ≤ 512 ∧ (st.g = true → st.L ≠ []) ∧ (st.a = false → st.S ≠ []) ∧ st.S.length ≤ st.L.length ∧ ∀ x ∈ st.S, 0 ≤ x ∧ x ≤ st.L.length
theorem StOK.start : StOK ⟨[], [], false, true⟩ := ⟨by simp, by simp, by simp, by simp, by simp⟩
theorem setLast_len (L : List Rh) (v : Int) : (setLast L v).length = L.length := by simp [setLast]
theorem bump_len (S : List Int) : (bump S).length = S.length := by simp [bump]
theorem bump_mem {S : List Int} {n : Int} (hn : 0 ≤ n) (h : ∀ x ∈ S, 0 ≤ x ∧ x ≤ n) : ∀ x ∈ bump S, 0 ≤ x ∧ x ≤ n + 1 := by
  intro x hx
  unfold bump at hx
  rcases List.mem_or_eq_of_mem_set hx with h1 | h1
  · have := h x h1; omega
  · subst h1
    cases hg : S.getLast? with
    | none => simp; omega
    | some y =>
      have := h y (List.mem_of_getLast? hg)
      simp; omega
theorem StOK.next {st : St} (h : StOK st) {c : Nat} (he : errR st c = 0) : StOK (nextR st c) := by
  obtain ⟨h1, h2, h3, h5, h4⟩ := h
  unfold nextR
  by_cases hg : st.g = true
  · rw [if_pos hg]
    refine ⟨by simpa [setLast_len] using h1, by simp, h3, by simpa [setLast_len] using h5, ?_⟩
    simpa [setLast_len] using h4
  · rw [if_neg hg]
    by_cases hc : c = 32
    · rw [if_pos hc]
      exact ⟨h1, h2, by simp, h5, h4⟩
    · rw [if_neg hc]
      have hl : st.L.length ≠ 512 := by
        intro hl
        unfold errR at he
        rw [if_neg hg, if_neg (fun h => hc h.1), hl] at he
        cases hi : isLet c <;> rw [hi] at he <;> simp at he
      refine ⟨by simp; omega, by simp, ?_, ?_, ?_⟩
      · intro _
        cases ha : st.a with
        | true => simp
        | false => simp only [Bool.false_eq_true, if_false]; intro hb; exact h3 ha (List.eq_nil_of_length_eq_zero (by rw [← bump_len, hb]; rfl))
      · cases st.a <;> simp [bump_len] <;> omega
      · cases ha : st.a with
        | true =>
          simp only [if_true, List.length_append, List.length_cons, List.length_nil]
          intro x hx
          rcases List.mem_append.1 hx with hx | hx
          · have := h4 x hx; omega
          · simp at hx; omega
        | false =>
          simp only [Bool.false_eq_true, if_false, List.length_append, List.length_cons, List.length_nil]
          intro x hx
          have := bump_mem (by omega) h4 x hx
          omega
theorem run_ok {s : ByteArray} {i : Nat} {st : St} (h : i < s.size) (he : errR st (bt s i) = 0) : runR s (s.size - i) i st = runR s (s.size - (i + 1)) (i + 1) (nextR st (bt s i)) := by
  rw [show s.size - i = (s.size - (i + 1)) + 1 by omega]
  show (if errR st (bt s i) = 0 then _ else _) = _
  rw [if_pos he]
theorem run_no {s : ByteArray} {i : Nat} {st : St} (h : i < s.size) (he : errR st (bt s i) ≠ 0) : runR s (s.size - i) i st = ((⟨[], []⟩ : Sc), errR st (bt s i), (i : Int)) := by
  rw [show s.size - i = (s.size - (i + 1)) + 1 by omega]
  show (if errR st (bt s i) = 0 then _ else _) = _
  rw [if_neg he]

/-- A rune of one byte, and what else there may be. -/
theorem rn_small (s : ByteArray) (i : Nat) (h : bt s i < 128) : Utf8.decode s i = (bt s i, 1) := by
  rw [dec_def, if_pos h]
theorem rn_great (s : ByteArray) (i : Nat) (h : 128 ≤ bt s i) : 128 ≤ (Utf8.decode s i).1 ∧ (Utf8.decode s i).1 ≤ 1114111 := by
  have hb := bt_lt s i
  rw [dec_def, if_neg (by omega)]
  split
  · split <;> (constructor <;> dsimp only <;> omega)
  · split
    · split
      · next h1 =>
        rw [Bool.and_eq_true, valid_iff, decide_eq_true_iff] at h1
        constructor <;> dsimp only <;> omega
      · constructor <;> dsimp only <;> omega
    · split
      · split
        · next h1 =>
          rw [Bool.and_eq_true, valid_iff, decide_eq_true_iff] at h1
          constructor <;> dsimp only <;> omega
        · constructor <;> dsimp only <;> omega
      · constructor <;> dsimp only <;> omega
theorem dec_wide (s : ByteArray) (i : Nat) (h : i < s.size) : 1 ≤ (Utf8.decode s i).2 ∧ i + (Utf8.decode s i).2 ≤ s.size := by
  rw [dec_eq s i h]
  exact ⟨wd_pos s i, wd_fits s i h⟩
end Go.Proofs.Ytdcmkiggnmajgaa
