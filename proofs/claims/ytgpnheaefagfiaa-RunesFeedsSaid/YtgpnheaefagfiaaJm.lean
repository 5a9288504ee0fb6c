/- Where two texts meet; what lacks for a form. Plain facts. -/
import Derived.Test.YtgpnheaefagfiaaArM
namespace Go.Proofs.Ytgpnheaefagfiaa
set_option linter.unusedVariables false
set_option linter.unusedSimpArgs false
open Go

/-- A form that reaches over a place stands in either text, where both have its bytes. -/
theorem form_win (S T : ByteArray) (far q m : Nat) (hb : ∀ j, j < T.size → bt T j = bt S (j + far)) (hq : q < T.size) (hqS : q + far < S.size) (hm2 : 2 ≤ m) (hm : m ≤ 4)
    (hf : q + m ≤ T.size ↔ q + far + m ≤ S.size) : lenN T q = m ↔ lenN S (q + far) = m := by
  have key : isF T q m = true ↔ isF S (q + far) m = true := by
    rcases (show m = 2 ∨ m = 3 ∨ m = 4 by omega) with rfl | rfl | rfl
    · rw [isF2, isF2]
      constructor
      · intro h
        have h0 := hb q hq
        have h1 := hb (q + 1) (by omega)
        rw [show q + 1 + far = q + far + 1 by omega] at h1
        omega
      · intro h
        have hT : q + 2 ≤ T.size := hf.2 (by omega)
        have h0 := hb q hq
        have h1 := hb (q + 1) (by omega)
        rw [show q + 1 + far = q + far + 1 by omega] at h1
        omega
    · rw [isF3, isF3]
      constructor
      · rintro ⟨a, b, c, d, e, f, g, i, k, l⟩
        have h0 := hb q hq
        have h1 := hb (q + 1) (by omega)
        have h2 := hb (q + 2) (by omega)
        rw [show q + 1 + far = q + far + 1 by omega] at h1
        rw [show q + 2 + far = q + far + 2 by omega] at h2
        refine ⟨?_, ?_, ?_, ?_, ?_, ?_, ?_, ?_, ?_, ?_⟩ <;> omega
      · rintro ⟨a, b, c, d, e, f, g, i, k, l⟩
        have hT : q + 3 ≤ T.size := hf.2 (by omega)
        have h0 := hb q hq
        have h1 := hb (q + 1) (by omega)
        have h2 := hb (q + 2) (by omega)
        rw [show q + 1 + far = q + far + 1 by omega] at h1
        rw [show q + 2 + far = q + far + 2 by omega] at h2
        refine ⟨?_, ?_, ?_, ?_, ?_, ?_, ?_, ?_, ?_, ?_⟩ <;> omega
    · rw [isF4, isF4]
      constructor
      · rintro ⟨a, b, c, d, e, f, g, i, f2, g2, i2, k, l⟩
        have h0 := hb q hq
        have h1 := hb (q + 1) (by omega)
        have h2 := hb (q + 2) (by omega)
        have h3 := hb (q + 3) (by omega)
        rw [show q + 1 + far = q + far + 1 by omega] at h1
        rw [show q + 2 + far = q + far + 2 by omega] at h2
        rw [show q + 3 + far = q + far + 3 by omega] at h3
        refine ⟨?_, ?_, ?_, ?_, ?_, ?_, ?_, ?_, ?_, ?_, ?_, ?_, ?_⟩ <;> omega
      · rintro ⟨a, b, c, d, e, f, g, i, f2, g2, i2, k, l⟩
        have hT : q + 4 ≤ T.size := hf.2 (by omega)
        have h0 := hb q hq
        have h1 := hb (q + 1) (by omega)
        have h2 := hb (q + 2) (by omega)
        have h3 := hb (q + 3) (by omega)
        rw [show q + 1 + far = q + far + 1 by omega] at h1
        rw [show q + 2 + far = q + far + 2 by omega] at h2
        rw [show q + 3 + far = q + far + 3 by omega] at h3
        refine ⟨?_, ?_, ?_, ?_, ?_, ?_, ?_, ?_, ?_, ?_, ?_, ?_, ?_⟩ <;> omega
  have sT := five T q hq
  have sS := five S (q + far) hqS
  have fw : ∀ (X : ByteArray) (i : Nat), i < X.size → (isF X i m = true ↔ lenN X i = m) := by
    intro X i hi
    constructor
    · intro h
      rcases (show m = 2 ∨ m = 3 ∨ m = 4 by omega) with rfl | rfl | rfl
      · exact lenN_of_2 X i h
      · exact lenN_of_3 X i h
      · exact lenN_of_4 X i h
    · intro h
      rcases five X i hi with ⟨hF, hl, _⟩ | ⟨hF, hl, _⟩ | ⟨hF, hl, _⟩ | ⟨hF, hl, _⟩ | ⟨hl, _⟩
      · omega
      · rw [show m = 2 by omega]; exact hF
      · rw [show m = 3 by omega]; exact hF
      · rw [show m = 4 by omega]; exact hF
      · omega
  rw [← fw T q hq, ← fw S (q + far) hqS]
  exact key

/-- Does a piece of s reach over n? -/
def Over (s : ByteArray) (n p : Nat) : Prop := p ∈ posns s ∧ p < n ∧ n < p + wd s p
theorem over_one {s : ByteArray} {n p q : Nat} (h : Over s n p) (k : Over s n q) : p = q := by
  rcases Nat.lt_trichotomy p q with hlt | heq | hgt
  · have := posG_apart s 0 p h.1 q k.1 hlt; have := h.2.2; have := k.2.1; omega
  · exact heq
  · have := posG_apart s 0 q k.1 p h.1 hgt; have := k.2.2; have := h.2.1; omega
theorem over_form {s : ByteArray} {n p : Nat} (h : Over s n p) : lenN s p = wd s p ∧ 2 ≤ wd s p ∧ wd s p ≤ 4 ∧ p < s.size := by
  have h4 := wd_le s p
  have h1 := h.2.1
  have h2 := h.2.2
  refine ⟨?_, by omega, h4, (posG_ge s 0 p h.1).2⟩
  unfold wd at h2 ⊢
  by_cases hz : lenN s p = 0
  · rw [if_pos hz] at h2; omega
  · rw [if_neg hz]

/-- The seam is seen in a window of three bytes either way. -/
theorem seam_win (S T : ByteArray) (A tl far : Nat) (hA : A ≤ S.size) (hfar : far + tl = A) (htl : tl ≤ A) (ht3 : tl = 3 ∨ far = 0) (htT : tl ≤ T.size) (hTS : T.size + far ≤ S.size) (hT3 : tl + 3 ≤ T.size ∨ T.size + far = S.size)
    (hb : ∀ j, j < T.size → bt T j = bt S (j + far)) (F G : Nat) (h : InB T tl F G) :
    (F = G ∧ ∀ p, ¬ Over S A p) ∨ (F < G ∧ Over S A (F + far) ∧ wd S (F + far) = G - F) := by
  rcases h with ⟨hm, rfl, rfl⟩ | ⟨hm, p, hp, h1, h2, rfl, rfl⟩
  · left
    refine ⟨rfl, fun p hO => ?_⟩
    obtain ⟨hl, hw2, hw4, hpS⟩ := over_form hO
    have hp1 := hO.2.1
    have hp2 := hO.2.2
    have hfit := wd_fits S p hpS
    have hpf : far ≤ p := by omega
    have hq : p - far + far = p := by omega
    have hqT : p - far < T.size := by omega
    have := (form_win S T far (p - far) (wd S p) hb hqT (by rw [hq]; exact hpS) hw2 hw4 (by rw [hq]; omega)).2 (by rw [hq]; exact hl)
    have hpos := form_pos T (p - far) hqT (by omega)
    have hwT : wd T (p - far) = wd S p := by
      unfold wd at *
      rw [if_neg (by omega)]
      exact this
    have hin := wd_fits T (p - far) hqT
    rcases (mem_ends T _).1 hm with hm | hm
    · have := posG_apart T 0 _ hpos _ hm (by omega); omega
    · omega
  · right
    have hO : Over T tl F := ⟨hp, h1, h2⟩
    obtain ⟨hl, hw2, hw4, hpT⟩ := over_form hO
    have hfit := wd_fits T F hpT
    have := (form_win S T far F (wd T F) hb hpT (by omega) hw2 hw4 (by omega)).1 hl
    have hpos := form_pos S (F + far) (by omega) (by omega)
    have hwS : wd S (F + far) = wd T F := by
      have h0 : lenN S (F + far) ≠ 0 := by omega
      unfold wd
      rw [if_neg h0, this]
      rfl
    exact ⟨by omega, ⟨hpos, by omega, by omega⟩, by omega⟩

/-- What a beginning of a form lacks. -/
def lackN (b : ByteArray) : Nat := if b.size < whN (bt b 0) ∧ fitN b 0 = b.size then whN (bt b 0) - b.size else 0
theorem lackN_le (b : ByteArray) : lackN b ≤ 4 := by unfold lackN; have := whN_le (bt b 0); split <;> omega

/-- How long a form is that begins so, by its first byte alone. -/
def n0 (c : Nat) : Nat := if 240 ≤ c then 4 else if 224 ≤ c then 3 else if 192 ≤ c then 2 else 0
theorem n0_cases (c : Nat) : (240 ≤ c ∧ n0 c = 4) ∨ (224 ≤ c ∧ c < 240 ∧ n0 c = 3) ∨ (192 ≤ c ∧ c < 224 ∧ n0 c = 2) ∨ (c < 192 ∧ n0 c = 0) := by
  unfold n0; (repeat' split) <;> omega

theorem isF_wh (x : ByteArray) (m : Nat) (h : isF x 0 m = true) (h2 : 2 ≤ m) : whN (bt x 0) = m := by
  match m, h, h2 with
  | 2, h, _ => rw [isF2] at h; exact whN_2 h.1 h.2.1
  | 3, h, _ => rw [isF3] at h; exact whN_3 h.1 h.2.1
  | 4, h, _ => rw [isF4] at h; exact whN_4 h.1 h.2.1
  | m + 5, h, _ => simp [isF] at h

theorem fit_b1 (b : ByteArray) (h : b.size = 1) (hw : 1 ≤ whN (bt b 0)) : fitN b 0 = 1 := by
  unfold fitN; rw [h, show min (whN (bt b 0)) (1 - 0) = 1 by omega, fit1]
theorem fit_b2 (b : ByteArray) (h : b.size = 2) (hw : 2 ≤ whN (bt b 0)) : fitN b 0 = 2 ↔ okB (bt b 0) (bt b 1) 1 = true := by
  unfold fitN; rw [h, show min (whN (bt b 0)) (2 - 0) = 2 by omega, fit2]
  cases okB (bt b 0) (bt b (0 + 1)) 1 <;> simp_all
theorem fit_b3 (b : ByteArray) (h : b.size = 3) (hw : 3 ≤ whN (bt b 0)) : fitN b 0 = 3 ↔ (okB (bt b 0) (bt b 1) 1 = true ∧ okB (bt b 0) (bt b 2) 2 = true) := by
  unfold fitN; rw [h, show min (whN (bt b 0)) (3 - 0) = 3 by omega, fit3]
  simp only [Nat.zero_add]
  cases okB (bt b 0) (bt b 1) 1 <;> cases okB (bt b 0) (bt b 2) 2 <;> simp

theorem wh_inv {c m : Nat} (h : whN c = m) (h2 : 2 ≤ m) : (m = 2 ∧ 194 ≤ c ∧ c ≤ 223) ∨ (m = 3 ∧ 224 ≤ c ∧ c ≤ 239) ∨ (m = 4 ∧ 240 ≤ c ∧ c ≤ 244) := by
  unfold whN at h; split at h
  · omega
  · split at h
    · omega
    · split at h
      · omega
      · split at h <;> omega

/-- Filled up, some text is a form just if its beginning is one of a form. -/
theorem fill_yes (b x : ByteArray) (c m : Nat) (hb : 1 ≤ b.size) (hbm : b.size < m) (hx : x.size = m) (h4 : m ≤ 4) (h1 : ∀ j, j < b.size → bt x j = bt b j) (h : lenN x 0 = m) : lackN b = m - b.size := by
  have hF : isF x 0 m = true := by
    rcases five x 0 (by omega) with ⟨hF, hl, _⟩ | ⟨hF, hl, _⟩ | ⟨hF, hl, _⟩ | ⟨hF, hl, _⟩ | ⟨hl, _⟩
    · omega
    · rw [show m = 2 by omega]; exact hF
    · rw [show m = 3 by omega]; exact hF
    · rw [show m = 4 by omega]; exact hF
    · omega
  have hw := isF_wh x m hF (by omega)
  rw [h1 0 (by omega)] at hw
  have hfit : fitN b 0 = b.size := by
    rcases (show b.size = 1 ∨ b.size = 2 ∨ b.size = 3 by omega) with hz | hz | hz
    · rw [hz]; exact fit_b1 b hz (by omega)
    · rw [hz]
      refine (fit_b2 b hz (by omega)).2 ((okB_iff _ _ _).2 ?_)
      have e0 := h1 0 (by omega)
      have e1 := h1 1 (by omega)
      rcases (show m = 3 ∨ m = 4 by omega) with rfl | rfl
      · rw [isF3] at hF; simp only [Nat.zero_add] at hF; rw [e0, e1] at hF; omega
      · rw [isF4] at hF; simp only [Nat.zero_add] at hF; rw [e0, e1] at hF; omega
    · rw [hz]
      have e0 := h1 0 (by omega)
      have e1 := h1 1 (by omega)
      have e2 := h1 2 (by omega)
      obtain rfl : m = 4 := by omega
      rw [isF4] at hF; simp only [Nat.zero_add] at hF; rw [e0, e1, e2] at hF
      refine (fit_b3 b hz (by omega)).2 ⟨(okB_iff _ _ _).2 ?_, (okB_iff _ _ _).2 ?_⟩
      · omega
      · omega
  unfold lackN
  rw [if_pos ⟨by omega, hfit⟩, hw]

theorem fill_no (b x y : ByteArray) (m : Nat) (hb : 1 ≤ b.size) (hbm : b.size < m) (hm : m = n0 (bt b 0)) (hx : x.size = m) (hy : y.size = m)
    (h1 : ∀ j, j < b.size → bt x j = bt b j) (h2 : ∀ j, j < b.size → bt y j = bt b j) (h3 : ∀ j, b.size ≤ j → j < m → bt x j = 128) (h4 : ∀ j, b.size ≤ j → j < m → bt y j = 191)
    (hX : lenN x 0 ≠ m) (hY : lenN y 0 ≠ m) : lackN b = 0 := by
  have hc := n0_cases (bt b 0)
  unfold lackN
  rw [if_neg]
  rintro ⟨hlt, hfit⟩
  have hwm : whN (bt b 0) = m := by
    have hw := whN_le (bt b 0)
    rcases wh_inv (c := bt b 0) rfl (by omega) with ⟨e, _, _⟩ | ⟨e, _, _⟩ | ⟨e, _, _⟩ <;> omega
  have hb0 := wh_inv hwm (by omega)
  have x0 := h1 0 (by omega)
  have y0 := h2 0 (by omega)
  rcases (show b.size = 1 ∨ b.size = 2 ∨ b.size = 3 by omega) with hz | hz | hz
  · rcases hb0 with ⟨rfl, l, u⟩ | ⟨rfl, l, u⟩ | ⟨rfl, l, u⟩
    · have x1 := h3 1 (by omega) (by omega)
      exact hX (lenN_of_2 x 0 ((isF2 x 0).2 (by simp only [Nat.zero_add]; omega)))
    · have x1 := h3 1 (by omega) (by omega)
      have x2 := h3 2 (by omega) (by omega)
      have y1 := h4 1 (by omega) (by omega)
      have y2 := h4 2 (by omega) (by omega)
      by_cases h224 : bt b 0 = 224
      · exact hY (lenN_of_3 y 0 ((isF3 y 0).2 (by simp only [Nat.zero_add]; refine ⟨?_, ?_, ?_, ?_, ?_, ?_, ?_, ?_, ?_, ?_⟩ <;> omega)))
      · exact hX (lenN_of_3 x 0 ((isF3 x 0).2 (by simp only [Nat.zero_add]; refine ⟨?_, ?_, ?_, ?_, ?_, ?_, ?_, ?_, ?_, ?_⟩ <;> omega)))
    · have x1 := h3 1 (by omega) (by omega)
      have x2 := h3 2 (by omega) (by omega)
      have x3 := h3 3 (by omega) (by omega)
      have y1 := h4 1 (by omega) (by omega)
      have y2 := h4 2 (by omega) (by omega)
      have y3 := h4 3 (by omega) (by omega)
      by_cases h240 : bt b 0 = 240
      · exact hY (lenN_of_4 y 0 ((isF4 y 0).2 (by simp only [Nat.zero_add]; refine ⟨?_, ?_, ?_, ?_, ?_, ?_, ?_, ?_, ?_, ?_, ?_, ?_, ?_⟩ <;> omega)))
      · exact hX (lenN_of_4 x 0 ((isF4 x 0).2 (by simp only [Nat.zero_add]; refine ⟨?_, ?_, ?_, ?_, ?_, ?_, ?_, ?_, ?_, ?_, ?_, ?_, ?_⟩ <;> omega)))
  · have hok := (okB_iff _ _ _).1 ((fit_b2 b hz (by omega)).1 (by omega))
    have x1 := h1 1 (by omega)
    rcases hb0 with ⟨rfl, l, u⟩ | ⟨rfl, l, u⟩ | ⟨rfl, l, u⟩
    · omega
    · have x2 := h3 2 (by omega) (by omega)
      exact hX (lenN_of_3 x 0 ((isF3 x 0).2 (by simp only [Nat.zero_add]; refine ⟨?_, ?_, ?_, ?_, ?_, ?_, ?_, ?_, ?_, ?_⟩ <;> omega)))
    · have x2 := h3 2 (by omega) (by omega)
      have x3 := h3 3 (by omega) (by omega)
      exact hX (lenN_of_4 x 0 ((isF4 x 0).2 (by simp only [Nat.zero_add]; refine ⟨?_, ?_, ?_, ?_, ?_, ?_, ?_, ?_, ?_, ?_, ?_, ?_, ?_⟩ <;> omega)))
  · obtain ⟨ok1, ok2⟩ := (fit_b3 b hz (by omega)).1 (by omega)
    have hk1 := (okB_iff _ _ _).1 ok1
    have hk2 := (okB_iff _ _ _).1 ok2
    have x1 := h1 1 (by omega)
    have x2 := h1 2 (by omega)
    rcases hb0 with ⟨rfl, l, u⟩ | ⟨rfl, l, u⟩ | ⟨rfl, l, u⟩
    · omega
    · omega
    · have x3 := h3 3 (by omega) (by omega)
      exact hX (lenN_of_4 x 0 ((isF4 x 0).2 (by simp only [Nat.zero_add]; refine ⟨?_, ?_, ?_, ?_, ?_, ?_, ?_, ?_, ?_, ?_, ?_, ?_, ?_⟩ <;> omega)))

theorem lack_short (b : ByteArray) (hb : 1 ≤ b.size) (h : n0 (bt b 0) ≤ b.size) : lackN b = 0 := by
  unfold lackN
  rw [if_neg]
  rintro ⟨hlt, _⟩
  have hc := n0_cases (bt b 0)
  have : whN (bt b 0) ≤ n0 (bt b 0) ∨ whN (bt b 0) ≤ 1 := by
    unfold whN; (repeat' split) <;> omega
  rcases this with h' | h'
  · omega
  · omega
end Go.Proofs.Ytgpnheaefagfiaa
