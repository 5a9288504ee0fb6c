/- Stage 31: notes, the order of moments, sorted lists: mathematics. -/
import Derived.Test.YtdlbopaefkbmhaaFl
import Derived.Sort.Statements
import Derived.Lib.Small
namespace Go.Proofs.Ytdlbopaefkbmhaa
set_option linter.unusedVariables false
set_option linter.unusedSimpArgs false
open Go

structure Nt where
  line : Int
  beat : Int
  word : Int
  strong : Bool
  at' : Nat
  long : Nat
deriving Inhabited
def encN (x : Nt) : List Value := [.int .i64 x.line, .int .i64 x.beat, .int .i64 x.word, .bool x.strong, .float .f64 x.at', .float .f64 x.long]
structure Sg where
  v : Int
  k : Int
  n : Nt
deriving Inhabited
def encS (x : Sg) : List Value := [.int .i64 x.v, .int .i64 x.k, .int .i64 x.n.line, .int .i64 x.n.beat, .int .i64 x.n.word, .bool x.n.strong, .float .f64 x.n.at', .float .f64 x.n.long]

def flt (a b : Nat) : Bool := ford a b == some .lt
def fgt (a b : Nat) : Bool := ford a b == some .gt
def feq (a b : Nat) : Bool := ford a b == some .eq
def late (x : Nat) : Int := if fnan x then 1 else 0
/-- chant.moments. -/
def cmF (a b : Nat) : Int := if flt a b then -1 else if fgt a b then 1 else if feq a b then 0 else late a - late b
/-- A moment's place: NaN behind all. -/
def mk (a : Nat) : Int := if fnan a then 2 ^ KB + 1 else fkey a

theorem signed_bd {z : Nat} {s m e} (h : rd z = .number s m e) : -2 ^ KB < Ieee.signed s m (e + 1074).toNat ∧ Ieee.signed s m (e + 1074).toNat < 2 ^ KB := by
    obtain ⟨h1, h2, h3⟩ := rd_place h
    have h4 : (e + 1074).toNat ≤ KM := by rw [km_eq]; omega
    have h5 : m <<< (e + 1074).toNat < 2 ^ KB := by
      rw [Nat.shiftLeft_eq]
      have q1 : m * 2 ^ (e + 1074).toNat ≤ m * 2 ^ KM := Nat.mul_le_mul_left _ (Nat.pow_le_pow_right (by decide) h4)
      have q2 : m * 2 ^ KM < 2 ^ 53 * 2 ^ KM := Nat.mul_lt_mul_of_pos_right (by omega) (Nat.two_pow_pos _)
      have q3 : 2 ^ 53 * 2 ^ KM ≤ 2 ^ KB := by rw [← Nat.pow_add]; exact Nat.pow_le_pow_right (by decide) kb_le
      exact Nat.lt_of_le_of_lt q1 (Nat.lt_of_lt_of_le q2 q3)
    have h6 : ((m <<< (e + 1074).toNat : Nat) : Int) < 2 ^ KB := by
      have h := Int.ofNat_lt.2 h5
      rwa [Int.natCast_pow] at h
    have h7 : (0 : Int) ≤ (m <<< (e + 1074).toNat : Nat) := Int.natCast_nonneg _
    unfold Ieee.signed
    generalize ((m <<< (e + 1074).toNat : Nat) : Int) = q at h6 h7
    generalize (2 : Int) ^ KB = p at h6
    cases s <;> simp <;> omega
theorem fkey_le (x : Nat) : fkey x ≤ 2 ^ KB := by
  have hp : (0 : Int) < 2 ^ KB := Int.pow_pos (by decide)
  unfold fkey
  cases e : rd x with
  | number s m i => exact Int.le_of_lt (signed_bd e).2
  | infinity s => cases s <;> simp <;> generalize (2 : Int) ^ KB = p at * <;> omega
  | nan => exact Int.le_of_lt hp

theorem ford_cases (a b : Nat) : (ford a b = none ∧ (fnan a = true ∨ fnan b = true)) ∨ (fnan a = false ∧ fnan b = false ∧ ((fkey a < fkey b ∧ ford a b = some .lt) ∨ (fkey a = fkey b ∧ ford a b = some .eq) ∨ (fkey b < fkey a ∧ ford a b = some .gt))) := by
  cases ha : fnan a with
  | true => exact .inl ⟨ford_none.2 (.inl ha), .inl rfl⟩
  | false =>
    cases hb : fnan b with
    | true => exact .inl ⟨ford_none.2 (.inr hb), .inr rfl⟩
    | false =>
      refine .inr ⟨rfl, rfl, ?_⟩
      rw [ford_some ha hb]
      rcases Int.lt_trichotomy (fkey a) (fkey b) with h | h | h
      · exact .inl ⟨h, by rw [Int.compare_eq_lt.2 h]⟩
      · exact .inr (.inl ⟨h, by rw [h]; simp⟩)
      · exact .inr (.inr ⟨h, by rw [Int.compare_eq_gt.2 h]⟩)

theorem cmF_lt (a b : Nat) : (cmF a b < 0 ↔ mk a < mk b) ∧ (cmF a b = 0 ↔ mk a = mk b) := by
  have la := fkey_le a
  have lb := fkey_le b
  unfold cmF flt fgt feq mk late
  generalize hp : (2 : Int) ^ KB = p at *
  rcases ford_cases a b with ⟨h, h'⟩ | ⟨ha, hb, ⟨h, e⟩ | ⟨h, e⟩ | ⟨h, e⟩⟩
  · rw [h]
    cases ha : fnan a <;> cases hb : fnan b <;> simp [ha, hb] at h' ⊢ <;> omega
  · rw [e, ha, hb]; simp; omega
  · rw [e, ha, hb]; simp [h]
  · rw [e, ha, hb]; simp; omega
theorem cmF_gt (a b : Nat) : 0 < cmF a b ↔ mk b < mk a := by
  have h := cmF_lt a b
  constructor
  · intro h1
    rcases Int.lt_trichotomy (mk a) (mk b) with h2 | h2 | h2
    · have := h.1.2 h2; omega
    · have := h.2.2 h2; omega
    · exact h2
  · intro h1
    rcases Int.lt_trichotomy (cmF a b) 0 with h2 | h2 | h2
    · have := h.1.1 h2; omega
    · have := h.2.1 h2; omega
    · exact h2

/-- cmp.Or of three. -/
def or3 (a b c : Int) : Int := if a ≠ 0 then a else if b ≠ 0 then b else c
/-- chant.inOrder. -/
def cmS (x y : Sg) : Int := or3 (cmF x.n.at' y.n.at') (Lib.compareInt x.v y.v) (Lib.compareInt x.k y.k)
/-- The order of voices' notes. -/
def ltS (x y : Sg) : Prop := mk x.n.at' < mk y.n.at' ∨ mk x.n.at' = mk y.n.at' ∧ (x.v < y.v ∨ x.v = y.v ∧ x.k < y.k)
theorem cmp_lt (a b : Int) : (Lib.compareInt a b < 0 ↔ a < b) ∧ (Lib.compareInt a b = 0 ↔ a = b) := by
  unfold Lib.compareInt
  by_cases h1 : a < b
  · simp [h1]; omega
  · by_cases h2 : a > b <;> simp [h1, h2] <;> omega
theorem cmS_lt (x y : Sg) : cmS x y < 0 ↔ ltS x y := by
  have h1 := cmF_lt x.n.at' y.n.at'
  have h2 := cmp_lt x.v y.v
  have h3 := cmp_lt x.k y.k
  unfold cmS or3 ltS
  generalize cmF x.n.at' y.n.at' = a at *
  generalize Lib.compareInt x.v y.v = b at *
  generalize Lib.compareInt x.k y.k = c at *
  by_cases ha : a = 0
  · have := h1.2.1 ha
    by_cases hb : b = 0
    · have := h2.2.1 hb
      simp only [ha, hb, ne_eq, not_true_eq_false, if_false]
      rw [h3.1]; omega
    · simp only [ha, hb, ne_eq, not_true_eq_false, not_false_eq_true, if_false, if_true]
      rw [h2.1]
      have : x.v ≠ y.v := fun e => hb (h2.2.2 e)
      omega
  · simp only [ha, ne_eq, not_false_eq_true, if_true]
    rw [h1.1]
    have : mk x.n.at' ≠ mk y.n.at' := fun e => ha (h1.2.2 e)
    omega
instance (x y : Sg) : Decidable (ltS x y) := by unfold ltS; exact inferInstance
end Go.Proofs.Ytdlbopaefkbmhaa
