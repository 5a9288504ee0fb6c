/- Floats: what an operation answers, a NaN's bits by the tape; orders as numbers. -/
import Derived.Laws.FloatArith
import Derived.Laws.Cover2
import Derived.Deep.Draws
namespace Go.Proofs.Ytdlbopaefkbmhaa
set_option linter.unusedVariables false
set_option linter.unusedSimpArgs false
open Go

abbrev F64 : Ieee.Format := FloatKind.f64.format
def rd (x : Nat) : Ieee.Datum := F64.read x
def fnan (x : Nat) : Bool := (rd x).isNaN
def finB (x : Nat) : Bool := match rd x with | .number .. => true | _ => false

/-- How many draws. -/
def fnd (op : BinOp) (x y : Nat) : Nat := if (floatBits op .f64 x y).isSome then 0 else 1
/-- The answer's bits. -/
def fres (op : BinOp) (x y : Nat) (w : World) : Nat := match floatBits op .f64 x y with | some r => r | none => (Question.nanBits .f64 x y).cut (w.tape w.drawn (.nanBits .f64 x y))

section
variable {P : Program} (w : World)
theorem run_float_any (op : BinOp) (ho : op = .add ∨ op = .sub ∨ op = .mul ∨ op = .quo) (t : TypeId) (x y : Nat) : (binOp op t (.float .f64 x) (.float .f64 y)).run P w = .ok (.float .f64 (fres op x y w)) (w.drewN (fnd op x y)) := by
  cases h : floatBits op .f64 x y with
  | some r =>
    have := run_float_arith (P := P) w op t .f64 x y r h
    rw [this]
    simp [fres, fnd, h, World.drewN_zero]
  | none =>
    have h' := h
    unfold floatBits at h'
    rcases ho with rfl | rfl | rfl | rfl <;> simp only at h' <;> simp [binOp, Op.floatArith, h', choose, Sem.run, fres, fnd, h, Question.forced, World.drewN] <;> rfl
@[go_sem] theorem run_float_add (t : TypeId) (x y : Nat) : (binOp .add t (.float .f64 x) (.float .f64 y)).run P w = .ok (.float .f64 (fres .add x y w)) (w.drewN (fnd .add x y)) := run_float_any w _ (.inl rfl) t x y
@[go_sem] theorem run_float_sub (t : TypeId) (x y : Nat) : (binOp .sub t (.float .f64 x) (.float .f64 y)).run P w = .ok (.float .f64 (fres .sub x y w)) (w.drewN (fnd .sub x y)) := run_float_any w _ (.inr (.inl rfl)) t x y
@[go_sem] theorem run_float_mul (t : TypeId) (x y : Nat) : (binOp .mul t (.float .f64 x) (.float .f64 y)).run P w = .ok (.float .f64 (fres .mul x y w)) (w.drewN (fnd .mul x y)) := run_float_any w _ (.inr (.inr (.inl rfl))) t x y
@[go_sem] theorem run_float_quo (t : TypeId) (x y : Nat) : (binOp .quo t (.float .f64 x) (.float .f64 y)).run P w = .ok (.float .f64 (fres .quo x y w)) (w.drewN (fnd .quo x y)) := run_float_any w _ (.inr (.inr (.inr rfl))) t x y
end

theorem sign_eq : F64.signWeight = 9223372036854775808 := by decide
theorem inf_eq : F64.infRung = 9218868437227405312 := by decide
theorem bin_eq : F64.binade = 4503599627370496 := by decide
/-- What the tape gives for a NaN is one. -/
theorem cut_nan (x y t : Nat) : fnan ((Question.nanBits .f64 x y).cut t) = true := by
  have h : ∃ k b, (Question.nanBits .f64 x y).cut t = b * 9223372036854775808 + (9218868437227405312 + 1 + k) ∧ k < 4503599627370495 := ⟨t / 2 % (2 ^ 52 - 1), t % 2, by simp only [Question.cut]; omega, Nat.mod_lt _ (by decide)⟩
  obtain ⟨k, b, h, hk⟩ := h
  rw [h]
  unfold fnan rd Ieee.Format.read
  rw [sign_eq, inf_eq, bin_eq]
  have h1 : (b * 9223372036854775808 + (9218868437227405312 + 1 + k)) % 9223372036854775808 = 9218868437227405312 + 1 + k := by omega
  rw [h1]
  dsimp only
  rw [if_neg (by omega), if_neg (by omega), if_neg (by omega)]
  rfl

/-- What an operation may answer. -/
def FIs (op : BinOp) (x y r : Nat) : Prop := match floatBits op .f64 x y with | some q => r = q | none => fnan r = true
theorem fres_is (op : BinOp) (x y : Nat) (w : World) : FIs op x y (fres op x y w) := by
  unfold FIs fres
  cases floatBits op .f64 x y with
  | some r => rfl
  | none => exact cut_nan ..

/-- One float, or both NaN. -/
def FSame (x y : Nat) : Prop := x = y ∨ fnan x = true ∧ fnan y = true
theorem FSame.refl (x : Nat) : FSame x x := .inl rfl
theorem FSame.symm {x y : Nat} (h : FSame x y) : FSame y x := h.elim (fun h => .inl h.symm) fun h => .inr ⟨h.2, h.1⟩
theorem FSame.trans {x y z : Nat} (h : FSame x y) (h' : FSame y z) : FSame x z := by
  rcases h with rfl | ⟨a, b⟩
  · exact h'
  · rcases h' with rfl | ⟨c, d⟩
    · exact .inr ⟨a, b⟩
    · exact .inr ⟨a, d⟩

theorem rd_nan {x : Nat} (h : fnan x = true) : ∃ s t, rd x = .nan s t := by
  unfold fnan at h
  cases e : rd x with
  | nan s t => exact ⟨s, t, rfl⟩
  | number => rw [e] at h; cases h
  | infinity => rw [e] at h; cases h

theorem bits_nan_l {op : BinOp} {x y : Nat} (h : fnan x = true) : floatBits op .f64 x y = none := by
  obtain ⟨s, t, e⟩ := rd_nan h
  have e' : FloatKind.f64.format.read x = .nan s t := e
  cases op <;> simp only [floatBits] <;> first | rfl | skip
  · simp [Ieee.Format.add, e', Ieee.Datum.sum]
  · simp [Ieee.Format.sub, e', Ieee.Datum.sum]
  · simp [Ieee.Format.mul, e', Ieee.Datum.product]
  · simp [Ieee.Format.div, e', Ieee.Datum.quotient]
theorem bits_nan_r {op : BinOp} {x y : Nat} (h : fnan y = true) : floatBits op .f64 x y = none := by
  obtain ⟨s, t, e⟩ := rd_nan h
  have e' : FloatKind.f64.format.read y = .nan s t := e
  cases op <;> simp only [floatBits] <;> first | rfl | skip
  · cases hx : FloatKind.f64.format.read x <;> simp [Ieee.Format.add, e', hx, Ieee.Datum.sum]
  · cases hx : FloatKind.f64.format.read x <;> simp [Ieee.Format.sub, e', hx, Ieee.Datum.sum, Ieee.Datum.opposite]
  · cases hx : FloatKind.f64.format.read x <;> simp [Ieee.Format.mul, e', hx, Ieee.Datum.product]
  · cases hx : FloatKind.f64.format.read x <;> simp [Ieee.Format.div, e', hx, Ieee.Datum.quotient]
/-- Of what is the same comes what is the same. -/
theorem FIs.same {op : BinOp} {x y x' y' r r' : Nat} (hx : FSame x x') (hy : FSame y y') (h : FIs op x y r) (h' : FIs op x' y' r') : FSame r r' := by
  have key : (floatBits op .f64 x y = none ∧ floatBits op .f64 x' y' = none) ∨ (x = x' ∧ y = y') := by
    rcases hx with rfl | ⟨a, b⟩
    · rcases hy with rfl | ⟨a, b⟩
      · exact .inr ⟨rfl, rfl⟩
      · exact .inl ⟨bits_nan_r a, bits_nan_r b⟩
    · exact .inl ⟨bits_nan_l a, bits_nan_l b⟩
  unfold FIs at h h'
  rcases key with ⟨a, b⟩ | ⟨rfl, rfl⟩
  · rw [a] at h; rw [b] at h'; exact .inr ⟨h, h'⟩
  · cases e : floatBits op .f64 x y with
    | some q => rw [e] at h h'; exact .inl (h.trans h'.symm)
    | none => rw [e] at h h'; exact .inr ⟨h, h'⟩

/-- The order. -/
def ford (x y : Nat) : Option Ordering := F64.order x y
/-- Beyond all exponents. -/
def KB : Nat := 3000
def KM : Nat := 2045
theorem kb_le : 53 + KM ≤ KB := by decide
theorem km_eq : KM = 2045 := rfl
/-- A float's place among all. -/
def fkey (x : Nat) : Int := match rd x with | .number s m e => Ieee.signed s m (e + 1074).toNat | .infinity s => if s then -2 ^ KB else 2 ^ KB | .nan .. => 0
theorem ford_none {x y : Nat} : ford x y = none ↔ fnan x = true ∨ fnan y = true := by
  unfold ford fnan Ieee.Format.order
  show Ieee.Datum.order (rd x) (rd y) = none ↔ _
  cases rd x <;> cases rd y <;> simp [Ieee.Datum.order, Ieee.Datum.isNaN]

theorem rd_place {x : Nat} {s m e} (h : rd x = .number s m e) : -1074 ≤ e ∧ e ≤ 971 ∧ m < 9007199254740992 := by
  unfold rd Ieee.Format.read at h
  rw [sign_eq, inf_eq, bin_eq] at h
  have hl : F64.leastPlace = -1074 := by decide
  rw [hl] at h
  dsimp only at h
  generalize hr : x % 9223372036854775808 = r at h
  split at h
  · cases h; omega
  · split at h
    · rename_i h1 h2
      cases h
      have : r / 4503599627370496 < 2047 := by omega
      have := Nat.mod_lt r (show 0 < 4503599627370496 by decide)
      refine ⟨?_, ?_, ?_⟩ <;> omega
    · split at h <;> cases h

theorem signed_mul (s : Bool) (m k l : Nat) : Ieee.signed s m (k + l) = Ieee.signed s m k * 2 ^ l := by
  unfold Ieee.signed
  rw [Nat.shiftLeft_eq, Nat.shiftLeft_eq, Nat.pow_add]
  cases s <;> simp [Int.neg_mul, Int.mul_assoc] <;> push_cast <;> simp [Int.mul_assoc]
theorem compare_mul (a b : Int) (l : Nat) : compare (a * 2 ^ l) (b * 2 ^ l) = compare a b := by
  have hp : (0 : Int) < 2 ^ l := Int.pow_pos (by decide)
  rcases Int.lt_trichotomy a b with h | rfl | h
  · rw [Int.compare_eq_lt.2 h, Int.compare_eq_lt.2 (Int.mul_lt_mul_of_pos_right h hp)]
  · simp
  · rw [Int.compare_eq_gt.2 h, Int.compare_eq_gt.2 (Int.mul_lt_mul_of_pos_right h hp)]
theorem ford_some {x y : Nat} (hx : fnan x = false) (hy : fnan y = false) : ford x y = some (compare (fkey x) (fkey y)) := by
  have big : ∀ {z : Nat} {s m e}, rd z = .number s m e → -2 ^ KB < Ieee.signed s m (e + 1074).toNat ∧ Ieee.signed s m (e + 1074).toNat < 2 ^ KB := by
    intro z s m e h
    obtain ⟨h1, h2, h3⟩ := rd_place h
    have h4 : (e + 1074).toNat ≤ KM := by rw [km_eq]; omega
    have h5 : m <<< (e + 1074).toNat < 2 ^ KB := by
      rw [Nat.shiftLeft_eq]
      have q1 : m * 2 ^ (e + 1074).toNat ≤ m * 2 ^ KM := Nat.mul_le_mul_left _ (Nat.pow_le_pow_right (by decide) h4)
      have q2 : m * 2 ^ KM < 2 ^ 53 * 2 ^ KM := Nat.mul_lt_mul_of_pos_right (by omega) (Nat.two_pow_pos _)
      have q3 : 2 ^ 53 * 2 ^ KM ≤ 2 ^ KB := by rw [← Nat.pow_add]; exact Nat.pow_le_pow_right (by decide) kb_le
      exact Nat.lt_of_le_of_lt q1 (Nat.lt_of_lt_of_le q2 q3)
    have h6 : ((m <<< (e + 1074).toNat : Nat) : Int) < 2 ^ KB := by
      have h := Int.ofNat_lt.2 h5
      rwa [Int.natCast_pow] at h
    have h7 : (0 : Int) ≤ (m <<< (e + 1074).toNat : Nat) := Int.natCast_nonneg _
    unfold Ieee.signed
    generalize ((m <<< (e + 1074).toNat : Nat) : Int) = q at h6 h7
    generalize (2 : Int) ^ KB = p at h6
    cases s <;> simp <;> omega
  unfold ford Ieee.Format.order
  show Ieee.Datum.order (rd x) (rd y) = _
  unfold fkey
  unfold fnan at hx hy
  cases ex : rd x with
  | nan => rw [ex] at hx; cases hx
  | infinity s =>
    cases ey : rd y with
    | nan => rw [ey] at hy; cases hy
    | infinity t =>
      have hp : (0 : Int) < 2 ^ KB := Int.pow_pos (by decide)
      generalize (2 : Int) ^ KB = p at hp
      cases s <;> cases t <;> simp only [Ieee.Datum.order, Bool.toNat_true, Bool.toNat_false, if_true, if_false, Bool.false_eq_true, reduceIte]
      · simp
      · rw [Int.compare_eq_gt.2 (by omega)]; rfl
      · rw [Int.compare_eq_lt.2 (by omega)]; rfl
      · simp
    | number t n j =>
      obtain ⟨a, b⟩ := big ey
      simp only [Ieee.Datum.order]
      generalize (2 : Int) ^ KB = p at a b
      cases s <;> simp only [if_true, if_false, Bool.false_eq_true, reduceIte]
      · rw [Int.compare_eq_gt.2 (by omega)]
      · rw [Int.compare_eq_lt.2 (by omega)]
  | number s m i =>
    cases ey : rd y with
    | nan => rw [ey] at hy; cases hy
    | infinity t =>
      obtain ⟨a, b⟩ := big ex
      simp only [Ieee.Datum.order]
      generalize (2 : Int) ^ KB = p at a b
      cases t <;> simp only [if_true, if_false, Bool.false_eq_true, reduceIte]
      · rw [Int.compare_eq_lt.2 (by omega)]
      · rw [Int.compare_eq_gt.2 (by omega)]
    | number t n j =>
      obtain ⟨a1, a2, _⟩ := rd_place ex
      obtain ⟨b1, b2, _⟩ := rd_place ey
      simp only [Ieee.Datum.order]
      have e1 : (i + 1074).toNat = (i - min i j).toNat + (min i j + 1074).toNat := by omega
      have e2 : (j + 1074).toNat = (j - min i j).toNat + (min i j + 1074).toNat := by omega
      rw [e1, e2, signed_mul, signed_mul, compare_mul]
end Go.Proofs.Ytdlbopaefkbmhaa
