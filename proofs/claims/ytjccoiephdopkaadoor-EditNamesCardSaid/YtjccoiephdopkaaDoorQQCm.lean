/- Two texts, piece by piece. -/
import Derived.Test.YtjccoiephdopkaaDoorQQRefB
namespace Go.Proofs.YtjccoiephdopkaaDoor.SQ
set_option linter.unusedVariables false
set_option linter.unusedSimpArgs false
open Go Go.RowKit
set_option maxRecDepth 100000

/-- A piece's place in the order of pieces. -/
def wt (s : ByteArray) (i : Nat) : Nat := if bk s i = true then 16777216 + bt s i else rn s i
theorem wt_bk {s : ByteArray} {i : Nat} (h : bk s i = true) : wt s i = 16777216 + bt s i := by unfold wt; rw [if_pos h]
theorem wt_wh {s : ByteArray} {i : Nat} (h : bk s i = false) : wt s i = rn s i := by unfold wt; rw [if_neg (by rw [h]; simp)]
theorem wt_lt (s : ByteArray) (i : Nat) (hi : i < s.size) : wt s i < 33554432 := by
  cases h : bk s i with
  | true => rw [wt_bk h]; have := bt_lt s i; omega
  | false => rw [wt_wh h]; have := rn_lt s i hi; omega

theorem one_byte (s : ByteArray) (i : Nat) (hi : i < s.size) : s.extract i (i + 1) = strOfNums [(bt s i : Int)] := ext_nums s 1 i (by omega)

theorem form_same (a b : ByteArray) (p : Nat) (ha : p < a.size) (hb : p < b.size) (hw : wd a p = wd b p) (he : a.extract p (p + wd a p) = b.extract p (p + wd a p)) (hk : bk a p = false) : bk b p = false ∧ rn a p = rn b p := by
  have h0 := (bk_not a p).1 hk
  obtain ⟨e1, e2, e3⟩ := enc_of_form a p ha h0
  have hwd : wd a p = lenN a p := by unfold wd; rw [if_neg h0]
  have h4 := lenN_le a p
  obtain ⟨_, f2, f3⟩ := form_of_enc b p (lenN a p) (rn a p) (by omega) h4 (by have := wd_fits b p hb; omega) e1 e2 (by rw [e3, ← hwd, he])
  exact ⟨(bk_not b p).2 (by omega), by omega⟩

/-- Two pieces at one place are the same just if their places in the order are. -/
theorem same_iff (a b : ByteArray) (p : Nat) (ha : p < a.size) (hb : p < b.size) : (wd a p = wd b p ∧ a.extract p (p + wd a p) = b.extract p (p + wd a p)) ↔ wt a p = wt b p := by
  constructor
  · rintro ⟨hw, he⟩
    cases hka : bk a p with
    | false =>
      obtain ⟨h1, h2⟩ := form_same a b p ha hb hw he hka
      rw [wt_wh hka, wt_wh h1, h2]
    | true =>
      cases hkb : bk b p with
      | false =>
        obtain ⟨h1, h2⟩ := form_same b a p hb ha hw.symm (by rw [← hw]; exact he.symm) hkb
        rw [hka] at h1; cases h1
      | true =>
        have h1 := (bk_rn a p hka).2
        rw [h1, one_byte a p ha, one_byte b p hb] at he
        have := str_inj _ _ (by intro x hx; simp at hx; have := bt_lt a p; omega) (by intro x hx; simp at hx; have := bt_lt b p; omega) he
        simp at this
        rw [wt_bk hka, wt_bk hkb]; omega
  · intro h
    cases hka : bk a p with
    | false =>
      cases hkb : bk b p with
      | false =>
        rw [wt_wh hka, wt_wh hkb] at h
        have w1 := wid_rn a p ha hka
        have w2 := wid_rn b p hb hkb
        rw [h] at w1
        have hw : wd a p = wd b p := by omega
        have n1 := (bk_not a p).1 hka
        have n2 := (bk_not b p).1 hkb
        have d1 : wd a p = lenN a p := by unfold wd; rw [if_neg n1]
        have d2 : wd b p = lenN b p := by unfold wd; rw [if_neg n2]
        have e1 := (enc_of_form a p ha n1).2.2
        have e2 := (enc_of_form b p hb n2).2.2
        refine ⟨hw, ?_⟩
        rw [← d1, h] at e1
        rw [← d2, ← hw] at e2
        exact e1.symm.trans e2
      | true =>
        rw [wt_wh hka, wt_bk hkb] at h
        have := rn_lt a p ha; omega
    | true =>
      cases hkb : bk b p with
      | false =>
        rw [wt_bk hka, wt_wh hkb] at h
        have := rn_lt b p hb; omega
      | true =>
        rw [wt_bk hka, wt_bk hkb] at h
        have h1 := (bk_rn a p hka).2
        have h2 := (bk_rn b p hkb).2
        refine ⟨by omega, ?_⟩
        rw [h1, one_byte a p ha, one_byte b p hb, show bt a p = bt b p by omega]

/-- The first n pieces of both are the same; p is where they end. -/
def Lk (a b : ByteArray) (p n : Nat) : Prop := p ≤ a.size ∧ p ≤ b.size ∧ ∃ pre : List Nat, pre.length = n ∧ posns a = pre ++ posG a p ∧ posns b = pre ++ posG b p ∧ ∀ i ∈ pre, i < a.size ∧ i < b.size ∧ wt a i = wt b i
/-- And no more. -/
def St (a b : ByteArray) (p : Nat) : Prop := ¬ (p < a.size ∧ p < b.size ∧ wt a p = wt b p)

theorem lk_0 (a b : ByteArray) : Lk a b 0 0 := ⟨Nat.zero_le _, Nat.zero_le _, [], rfl, rfl, rfl, fun i hi => by cases hi⟩
theorem lk_next {a b : ByteArray} {p n : Nat} (h : Lk a b p n) (ha : p < a.size) (hb : p < b.size) (hw : wt a p = wt b p) : Lk a b (p + wd a p) (n + 1) := by
  obtain ⟨_, _, pre, h1, h2, h3, h4⟩ := h
  have hs := ((same_iff a b p ha hb).2 hw).1
  refine ⟨wd_fits a p ha, by rw [hs]; exact wd_fits b p hb, pre ++ [p], by simp [h1], ?_, ?_, fun i hi => ?_⟩
  · rw [h2, posG_cons a p ha]; simp
  · rw [h3, posG_cons b p hb, hs]; simp
  · rcases List.mem_append.1 hi with h | h
    · exact h4 i h
    · rw [List.mem_singleton.1 h]; exact ⟨ha, hb, hw⟩

theorem posG_nil_iff (s : ByteArray) (p : Nat) : posG s p = [] ↔ s.size ≤ p := by
  constructor
  · intro h
    rcases Nat.lt_or_ge p s.size with h' | h'
    · rw [posG_cons s p h'] at h; cases h
    · exact h'
  · exact posG_end s p

theorem lk_lenA {a b : ByteArray} {p n : Nat} (h : Lk a b p n) : n ≤ (posns a).length ∧ (n = (posns a).length ↔ p = a.size) ∧ (p < a.size → (posns a)[n]? = some p) := by
  obtain ⟨hp, _, pre, h1, h2, _, _⟩ := h
  rw [h2, List.length_append, h1]
  refine ⟨by omega, ⟨fun h => ?_, fun h => ?_⟩, fun h => ?_⟩
  · have := (posG_nil_iff a p).1 (List.eq_nil_of_length_eq_zero (by omega)); omega
  · rw [(posG_nil_iff a p).2 (by omega)]; rfl
  · rw [List.getElem?_append_right (by omega), h1, Nat.sub_self, posG_cons a p h]; rfl
theorem lk_lenB {a b : ByteArray} {p n : Nat} (h : Lk a b p n) : n ≤ (posns b).length ∧ (n = (posns b).length ↔ p = b.size) ∧ (p < b.size → (posns b)[n]? = some p) := by
  obtain ⟨_, hp, pre, h1, _, h2, _⟩ := h
  rw [h2, List.length_append, h1]
  refine ⟨by omega, ⟨fun h => ?_, fun h => ?_⟩, fun h => ?_⟩
  · have := (posG_nil_iff b p).1 (List.eq_nil_of_length_eq_zero (by omega)); omega
  · rw [(posG_nil_iff b p).2 (by omega)]; rfl
  · rw [List.getElem?_append_right (by omega), h1, Nat.sub_self, posG_cons b p h]; rfl

theorem lk_le {a b : ByteArray} {p n q m : Nat} (h : Lk a b p n) (hs : St a b p) (k : Lk a b q m) : m ≤ n := by
  rcases Nat.lt_or_ge n m with hlt | hge
  · exfalso
    obtain ⟨hpa, hpb, pre, h1, h2, h3, h4⟩ := h
    obtain ⟨_, _, qre, k1, k2, k3, k4⟩ := k
    have e1 : (posns a)[n]? = qre[n]? := by rw [k2, List.getElem?_append_left (by omega)]
    have e2 : (posns b)[n]? = qre[n]? := by rw [k3, List.getElem?_append_left (by omega)]
    obtain ⟨x, hx⟩ : ∃ x, qre[n]? = some x := ⟨_, List.getElem?_eq_getElem (by omega)⟩
    rw [h2, List.getElem?_append_right (by omega), h1, Nat.sub_self, hx] at e1
    have hp : p < a.size := by
      rcases Nat.lt_or_ge p a.size with h | h
      · exact h
      · rw [posG_end a p h] at e1; cases e1
    rw [posG_cons a p hp] at e1
    have hpx : p = x := Option.some.inj e1
    have := k4 x (List.mem_of_getElem? hx)
    rw [← hpx] at this
    exact hs this
  · exact hge

theorem lk_one {a b : ByteArray} {p n q m : Nat} (h : Lk a b p n) (hs : St a b p) (k : Lk a b q m) (ks : St a b q) : p = q ∧ n = m := by
  have hn : n = m := Nat.le_antisymm (lk_le k ks h) (lk_le h hs k)
  subst hn
  refine ⟨?_, rfl⟩
  have h1 := lk_lenA h
  have k1 := lk_lenA k
  by_cases hp : p < a.size
  · have := h1.2.2 hp
    by_cases hq : q < a.size
    · rw [k1.2.2 hq] at this; exact (Option.some.inj this).symm
    · have := h1.2.1.1 (k1.2.1.2 (by have := k.1; omega)); omega
  · have hpe : p = a.size := by have := h.1; omega
    have := k1.2.1.1 (h1.2.1.2 hpe); omega

/-- The order of two texts that are the same up to p. -/
def cmpZ (a b : ByteArray) (p : Nat) : Int := if p = a.size ∧ p = b.size then 0 else if p = a.size ∨ (p < b.size ∧ wt a p < wt b p) then -1 else 1
end Go.Proofs.YtjccoiephdopkaaDoor.SQ
