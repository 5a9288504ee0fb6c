/- Stage 27: what a reader of a change's text makes of it (mathematics). -/
import Derived.Test.YtjccoiephdopkaaDoorQo1
import Derived.Test.YtjccoiephdopkaaDoorFm
namespace Go.Proofs.YtjccoiephdopkaaDoor
set_option linter.unusedVariables false
set_option linter.unusedSimpArgs false
open Go Go.RowKit Go.Shelf
set_option maxRecDepth 100000

theorem lkN_lt {s : ByteArray} {p c : Nat} (h : lkN s p = c) (hc : c ≠ 0) : p < s.size := by
  unfold lkN at h
  by_cases hp : p < s.size
  · exact hp
  · rw [if_neg hp] at h; omega
theorem lkN_256 (s : ByteArray) (p : Nat) : lkN s p < 256 := by
  unfold lkN
  split
  · exact UInt8.toNat_lt _
  · omega
/-- What a digit to the base 16 is worth. -/
def hxV (c : Nat) : Option Nat := if 48 ≤ c ∧ c ≤ 57 then some (c - 48) else if 97 ≤ c ∧ c ≤ 102 then some (c - 87) else none
theorem hxV_lt {c d : Nat} (h : hxV c = some d) : d < 16 ∧ c ≠ 0 := by
  unfold hxV at h
  split at h
  · cases h; omega
  · split at h
    · cases h; omega
    · cases h
/-- At most k digits to the base 16 from p on, behind n: what they tell, and where they end. -/
def hxS (s : ByteArray) : Nat → Nat → Nat → Nat × Nat
  | 0, p, n => (n, p)
  | k + 1, p, n => match hxV (lkN s p) with
    | none => (n, p)
    | some d => hxS s k (p + 1) (16 * n + d)
theorem hxS_some {s : ByteArray} {k p n d : Nat} (h : hxV (lkN s p) = some d) : hxS s (k + 1) p n = hxS s k (p + 1) (16 * n + d) := by
  rw [hxS, h]
theorem hxS_none {s : ByteArray} {k p n : Nat} (h : hxV (lkN s p) = none) : hxS s k p n = (n, p) := by
  cases k with
  | zero => rfl
  | succ k => rw [hxS, h]
theorem hxS_pos (s : ByteArray) : ∀ k p n, p ≤ s.size → p ≤ (hxS s k p n).2 ∧ (hxS s k p n).2 ≤ p + k ∧ (hxS s k p n).2 ≤ s.size := by
  intro k
  induction k with
  | zero => intro p n h; exact ⟨Nat.le_refl _, Nat.le_refl _, h⟩
  | succ k ih =>
    intro p n h
    rcases hv : hxV (lkN s p) with _ | d
    · rw [hxS_none hv]; exact ⟨Nat.le_refl _, by simp, h⟩
    · rw [hxS_some hv]
      have := lkN_lt (s := s) (p := p) rfl (hxV_lt hv).2
      have := ih (p + 1) (16 * n + d) (by omega)
      omega
theorem hxS_val (s : ByteArray) : ∀ k p n m, n < 16 ^ m → (hxS s k p n).1 < 16 ^ (m + k) := by
  intro k
  induction k with
  | zero => intro p n m h; exact h
  | succ k ih =>
    intro p n m h
    rcases hv : hxV (lkN s p) with _ | d
    · rw [hxS_none hv]
      exact Nat.lt_of_lt_of_le h (Nat.pow_le_pow_right (by decide) (by omega))
    · rw [hxS_some hv]
      have hd := (hxV_lt hv).1
      have e := Nat.pow_succ (n := 16) (m := m)
      have := ih (p + 1) (16 * n + d) (m + 1) (by rw [Nat.succ_eq_add_one] at e; omega)
      have e2 : m + 1 + k = m + (k + 1) := by omega
      rw [e2] at this; exact this
/-- Behind a backslash, at p: the bytes and where they end; none, and where it goes wrong. -/
def escS (s : ByteArray) (p : Nat) : Option (List UInt8) × Nat :=
  if lkN s p = 34 ∨ lkN s p = 92 then (some [UInt8.ofNat (lkN s p)], p + 1)
  else if lkN s p = 120 then (if (hxS s 2 (p + 1) 0).2 = p + 3 then (some [UInt8.ofNat (hxS s 2 (p + 1) 0).1], p + 3) else (none, (hxS s 2 (p + 1) 0).2))
  else if lkN s p = 123 then (if (hxS s 6 (p + 1) 0).2 = p + 1 ∨ lkN s (hxS s 6 (p + 1) 0).2 ≠ 125 then (none, (hxS s 6 (p + 1) 0).2) else (some (Utf8.encode ((hxS s 6 (p + 1) 0).1 : Nat)).data.toList, (hxS s 6 (p + 1) 0).2 + 1))
  else (none, p)
theorem enc_len (r : Int) : (Utf8.encode r).data.toList.length ≤ 4 := by
  rw [enc_nums]
  unfold strOfNums encL
  repeat' split
  all_goals simp
theorem escS_pos {s : ByteArray} {p q : Nat} {o : Option (List UInt8)} (hp : p ≤ s.size) (h : escS s p = (o, q)) : p ≤ q ∧ q ≤ s.size ∧ ∀ b, o = some b → p < q ∧ b.length + p ≤ q + 1 := by
  have h2 := hxS_pos s 2 (p + 1) 0
  have h6 := hxS_pos s 6 (p + 1) 0
  unfold escS at h
  split at h
  · next hc =>
    have : p < s.size := by rcases hc with hc | hc <;> exact lkN_lt hc (by decide)
    cases h
    refine ⟨by omega, by omega, fun b hb => ?_⟩
    cases hb
    exact ⟨by omega, by simp; omega⟩
  · split at h
    · next hc =>
      have hl : p < s.size := lkN_lt hc (by decide)
      have h2 := h2 (by omega)
      split at h
      · next hq =>
        cases h
        refine ⟨by omega, by omega, fun b hb => ?_⟩
        cases hb
        exact ⟨by omega, by simp; omega⟩
      · cases h
        exact ⟨by omega, by omega, fun b hb => by cases hb⟩
    · split at h
      · next hc =>
        have hl : p < s.size := lkN_lt hc (by decide)
        have h6 := h6 (by omega)
        split at h
        · cases h
          exact ⟨by omega, by omega, fun b hb => by cases hb⟩
        · next hq =>
          have h1 : (hxS s 6 (p + 1) 0).2 ≠ p + 1 := fun e => hq (.inl e)
          have h3 : lkN s (hxS s 6 (p + 1) 0).2 = 125 := Decidable.byContradiction fun e => hq (.inr e)
          have h4 := lkN_lt h3 (by decide)
          have hq0 := (Prod.mk.inj h).2
          have ho := (Prod.mk.inj h).1
          refine ⟨by omega, by omega, fun b hb => ?_⟩
          rw [← ho] at hb
          rw [← Option.some.inj hb]
          have := enc_len ((hxS s 6 (p + 1) 0).1 : Nat)
          exact ⟨by omega, by omega⟩
      · cases h
        exact ⟨by omega, by omega, fun b hb => by cases hb⟩
/-- Inside quotes, at p, behind what is read: what is read then, and where its quote stands; none, and where it goes wrong. -/
def bodyS (s : ByteArray) (p : Nat) (out : List UInt8) : Option (List UInt8) × Nat :=
  if lkN s p = 34 then (some out, p)
  else if h9 : lkN s p = 92 then
    match escS s (p + 1) with
    | (none, q) => (none, q)
    | (some b, q) => if h : p < q then bodyS s q (out ++ b) else (none, q)
  else if h3 : 32 ≤ lkN s p ∧ lkN s p ≤ 126 then bodyS s (p + 1) (out ++ [UInt8.ofNat (lkN s p)])
  else (none, p)
termination_by s.size - p
decreasing_by
  · have := lkN_lt h9 (by decide); omega
  · have := lkN_lt (s := s) (p := p) rfl (by omega); omega
theorem bodyS_end {s : ByteArray} {p : Nat} {out : List UInt8} (h : lkN s p = 34) : bodyS s p out = (some out, p) := by
  rw [bodyS, if_pos h]
theorem bodyS_bad {s : ByteArray} {p q : Nat} {out : List UInt8} (h : lkN s p = 92) (he : escS s (p + 1) = (none, q)) : bodyS s p out = (none, q) := by
  rw [bodyS, if_neg (by omega), dif_pos h, he]
theorem bodyS_esc {s : ByteArray} {p q : Nat} {out b : List UInt8} (h : lkN s p = 92) (he : escS s (p + 1) = (some b, q)) : bodyS s p out = bodyS s q (out ++ b) := by
  have h1 := (escS_pos (lkN_lt h (by decide)) he).2.2 b rfl
  rw [bodyS, if_neg (by omega), dif_pos h, he]
  show (if h : p < q then _ else _) = _
  rw [dif_pos (by omega)]
theorem bodyS_one {s : ByteArray} {p : Nat} {out : List UInt8} (h3 : 32 ≤ lkN s p ∧ lkN s p ≤ 126) (h : lkN s p ≠ 34) (h9 : lkN s p ≠ 92) : bodyS s p out = bodyS s (p + 1) (out ++ [UInt8.ofNat (lkN s p)]) := by
  rw [bodyS, if_neg h, dif_neg h9, dif_pos h3]
theorem bodyS_no {s : ByteArray} {p : Nat} {out : List UInt8} (h3 : ¬ (32 ≤ lkN s p ∧ lkN s p ≤ 126)) : bodyS s p out = (none, p) := by
  rw [bodyS, if_neg (by omega), dif_neg (by omega), dif_neg h3]
/-- A text in quotes, whose first stands at p. -/
def quotedS (s : ByteArray) (p : Nat) : Option ByteArray × Nat :=
  if lkN s p = 34 then
    match bodyS s (p + 1) [] with
    | (none, q) => (none, q)
    | (some out, q) => if out = [] ∨ quoB ⟨out.toArray⟩ ≠ s.extract p (q + 1) then (none, p) else (some ⟨out.toArray⟩, q + 1)
  else (none, p)
/-- Figures from p on, behind v: what they tell, and where they end. -/
def figS (s : ByteArray) (p v : Nat) : Nat × Nat :=
  if h : 48 ≤ lkN s p ∧ lkN s p ≤ 57 then figS s (p + 1) (10 * v + (lkN s p - 48)) else (v, p)
termination_by s.size - p
decreasing_by have := lkN_lt (s := s) (p := p) rfl (by omega); omega
theorem figS_go {s : ByteArray} {p v : Nat} (h : 48 ≤ lkN s p ∧ lkN s p ≤ 57) : figS s p v = figS s (p + 1) (10 * v + (lkN s p - 48)) := by rw [figS, dif_pos h]
theorem figS_end {s : ByteArray} {p v : Nat} (h : ¬ (48 ≤ lkN s p ∧ lkN s p ≤ 57)) : figS s p v = (v, p) := by rw [figS, dif_neg h]
theorem figS_pos (s : ByteArray) : ∀ k p v, s.size - p ≤ k → p ≤ s.size → p ≤ (figS s p v).2 ∧ (figS s p v).2 ≤ s.size ∧ v ≤ (figS s p v).1 := by
  intro k
  induction k with
  | zero =>
    intro p v hk hp
    by_cases h : 48 ≤ lkN s p ∧ lkN s p ≤ 57
    · have := lkN_lt (s := s) (p := p) rfl (by omega); omega
    · rw [figS_end h]; exact ⟨Nat.le_refl _, hp, Nat.le_refl _⟩
  | succ k ih =>
    intro p v hk hp
    by_cases h : 48 ≤ lkN s p ∧ lkN s p ≤ 57
    · have := lkN_lt (s := s) (p := p) rfl (by omega)
      rw [figS_go h]
      have := ih (p + 1) (10 * v + (lkN s p - 48)) (by omega) (by omega)
      omega
    · rw [figS_end h]; exact ⟨Nat.le_refl _, hp, Nat.le_refl _⟩
/-- A number at p: none, where none stands there. -/
def numS (s : ByteArray) (p : Nat) : Option Nat × Nat :=
  if 49 ≤ lkN s p ∧ lkN s p ≤ 57 then (some (figS s p 0).1, (figS s p 0).2) else (none, p)
/-- A number at p, as far as it fits behind steps of f bytes that make t. -/
def numT (s : ByteArray) (p f t : Nat) : Option Nat × Nat :=
  match numS s p with
  | (none, q) => (none, q)
  | (some n, q) => if 65536 < f + n ∨ 65536 < t + n then (none, p) else (some n, q)
/-- A text in quotes at p, as far as it fits. -/
def quoT (s : ByteArray) (p f t : Nat) (d : Bool) : Option ByteArray × Nat :=
  match quotedS s p with
  | (none, q) => (none, q)
  | (some b, q) => if 65536 < f + (if d = true then b.size else 0) ∨ 65536 < t + (if d = true then 0 else b.size) then (none, p) else (some b, q)
/-- A step at p, behind steps of f bytes that make t. -/
def stS (s : ByteArray) (p f t : Nat) : Option Sp × Nat :=
  if lkN s p = 61 then
    match numT s (p + 1) f t with
    | (none, q) => (none, q)
    | (some n, q) => (some ⟨n, .empty, .empty⟩, q)
  else if lkN s p = 45 then
    match quoT s (p + 1) f t true with
    | (none, q) => (none, q)
    | (some b, q) => (some ⟨0, b, .empty⟩, q)
  else if lkN s p = 43 then
    match quoT s (p + 1) f t false with
    | (none, q) => (none, q)
    | (some b, q) => (some ⟨0, .empty, b⟩, q)
  else (none, p)
/-- The steps from p on, behind l. -/
def rdS (s : ByteArray) (p : Nat) (l : List Sp) (f t : Nat) : Option (List Sp) × Nat :=
  if hp : p < s.size then
    if l ≠ [] ∧ lkN s p ≠ 32 then (none, p) else
      match stS s (if l = [] then p else p + 1) f t with
      | (none, q) => (none, q)
      | (some x, q) => if h : p < q then rdS s q (l ++ [x]) (f + x.k.toNat + x.d.size) (t + x.k.toNat + x.p.size) else (none, q)
  else (some l, p)
termination_by s.size - p
decreasing_by omega
end Go.Proofs.YtjccoiephdopkaaDoor
