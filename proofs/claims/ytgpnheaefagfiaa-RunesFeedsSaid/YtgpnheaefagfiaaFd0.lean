/- Texts that come in by parts: what is told of a part stands in the whole. Plain facts. -/
import Derived.Test.YtgpnheaefagfiaaLj
import Derived.Test.YtgpnheaefagfiaaTl
namespace Go.Proofs.Ytgpnheaefagfiaa
set_option linter.unusedVariables false
set_option linter.unusedSimpArgs false
open Go

/- A text's head. -/
theorem hd_isF (s : ByteArray) (n i m : Nat) (hn : n ≤ s.size) (hm : i + m ≤ n) (h1 : 1 ≤ m) (h : isF s i m = true) : isF (s.extract 0 n) i m = true := by
  have hz := size_head s n hn
  match m, h, hm, h1 with
  | 1, h, hm, _ => rw [isF1] at h ⊢; rw [bt_head s n i hn (by omega)]; exact h
  | 2, h, hm, _ => rw [isF2] at h; rw [isF2, hz]; obtain ⟨a, b, c, d, e⟩ := h; rw [bt_head s n i hn (by omega), bt_head s n (i + 1) hn (by omega)]; exact ⟨a, b, by omega, d, e⟩
  | 3, h, hm, _ =>
    rw [isF3] at h; rw [isF3, hz]
    obtain ⟨a, b, c, d, e, f, g, j, k, l⟩ := h
    rw [bt_head s n i hn (by omega), bt_head s n (i + 1) hn (by omega), bt_head s n (i + 2) hn (by omega)]
    exact ⟨a, b, by omega, d, e, by omega, g, j, k, l⟩
  | 4, h, hm, _ =>
    rw [isF4] at h; rw [isF4, hz]
    obtain ⟨a, b, c, d, e, f, g, j, f2, g2, j2, k, l⟩ := h
    rw [bt_head s n i hn (by omega), bt_head s n (i + 1) hn (by omega), bt_head s n (i + 2) hn (by omega), bt_head s n (i + 3) hn (by omega)]
    exact ⟨a, b, by omega, d, e, by omega, g, j, by omega, g2, j2, k, l⟩
  | m + 5, h, _, _ => simp [isF] at h
theorem hd_len (s : ByteArray) (n i : Nat) (hn : n ≤ s.size) (hi : i < n) (hm : i + wd s i ≤ n) : lenN (s.extract 0 n) i = lenN s i := by
  have hz := size_head s n hn
  by_cases h0 : lenN s i = 0
  · by_cases h1 : lenN (s.extract 0 n) i = 0
    · rw [h0, h1]
    · exact ((head_form s n i hn hi h1).1).symm
  · have hw : wd s i = lenN s i := by unfold wd; rw [if_neg h0]
    rw [hw] at hm
    rcases five s i (by omega) with ⟨hF, hl, _⟩ | ⟨hF, hl, _⟩ | ⟨hF, hl, _⟩ | ⟨hF, hl, _⟩ | ⟨hl, _⟩
    · rw [hl] at hm ⊢; exact lenN_of_1 _ _ (by omega) (hd_isF s n i 1 hn hm (by omega) hF)
    · rw [hl] at hm ⊢; exact lenN_of_2 _ _ (hd_isF s n i 2 hn hm (by omega) hF)
    · rw [hl] at hm ⊢; exact lenN_of_3 _ _ (hd_isF s n i 3 hn hm (by omega) hF)
    · rw [hl] at hm ⊢; exact lenN_of_4 _ _ (hd_isF s n i 4 hn hm (by omega) hF)
    · exact absurd hl h0
theorem hd_wd (s : ByteArray) (n i : Nat) (hn : n ≤ s.size) (hi : i < n) (hm : i + wd s i ≤ n) : wd (s.extract 0 n) i = wd s i := by
  unfold wd; rw [hd_len s n i hn hi hm]
theorem hd_bk (s : ByteArray) (n i : Nat) (hn : n ≤ s.size) (hi : i < n) (hm : i + wd s i ≤ n) : bk (s.extract 0 n) i = bk s i := by
  unfold bk; rw [hd_len s n i hn hi hm]
theorem hd_rn (s : ByteArray) (n i : Nat) (hn : n ≤ s.size) (hi : i < n) (hm : i + wd s i ≤ n) : rn (s.extract 0 n) i = rn s i := by
  have hl := hd_len s n i hn hi hm
  by_cases h0 : lenN s i = 0
  · rw [show rn (s.extract 0 n) i = 65533 by unfold rn; rw [hl, if_pos h0], show rn s i = 65533 by unfold rn; rw [if_pos h0]]
  · exact ((head_form s n i hn hi (by rw [hl]; exact h0)).2).symm

theorem ext_bytes {X Y : ByteArray} (hz : X.size = Y.size) (h : ∀ i (h1 : i < X.size) (h2 : i < Y.size), X[i] = Y[i]) : X = Y := ByteArray.ext_getElem hz h
theorem ext_tail (S : ByteArray) (a i j : Nat) (h : a + j ≤ S.size) : (S.extract a S.size).extract i j = S.extract (a + i) (a + j) := by
  rw [ByteArray.extract_extract, Nat.min_eq_left h]
theorem ext_head (S : ByteArray) (b i j : Nat) (h : j ≤ b) : (S.extract 0 b).extract i j = S.extract i j := by
  rw [ByteArray.extract_extract, Nat.zero_add, Nat.zero_add, Nat.min_eq_left h]
theorem mid_eq (S : ByteArray) (a b : Nat) (hb : b ≤ S.size) : S.extract a b = (S.extract 0 b).extract a (S.extract 0 b).size := by
  rw [size_head S b hb, ext_head S b a b (Nat.le_refl _)]

/- A part of a text, whose end is no piece's inside. -/
theorem md_wd (S : ByteArray) (a b i : Nat) (hb : b ≤ S.size) (hi : a + i < b) (hm : a + i + wd S (a + i) ≤ b) : wd (S.extract a b) i = wd S (a + i) := by
  rw [mid_eq S a b hb, tl_wd, hd_wd S b (a + i) hb hi hm]
theorem md_rn (S : ByteArray) (a b i : Nat) (hb : b ≤ S.size) (hi : a + i < b) (hm : a + i + wd S (a + i) ≤ b) : rn (S.extract a b) i = rn S (a + i) := by
  rw [mid_eq S a b hb, tl_rn, hd_rn S b (a + i) hb hi hm]
theorem md_bk (S : ByteArray) (a b i : Nat) (hb : b ≤ S.size) (hi : a + i < b) (hm : a + i + wd S (a + i) ≤ b) : bk (S.extract a b) i = bk S (a + i) := by
  rw [mid_eq S a b hb, tl_bk, hd_bk S b (a + i) hb hi hm]

/-- No piece of s reaches over a. -/
def NoOv (s : ByteArray) (a : Nat) : Prop := ∀ p ∈ posns s, p < a → p + wd s p ≤ a
theorem noOv_end (s : ByteArray) : NoOv s s.size := fun p hp _ => wd_fits s p (posG_ge s 0 p hp).2

theorem split_G (s : ByteArray) (a : Nat) (ha : a ≤ s.size) : ∀ i, i ≤ a → (∀ p ∈ posG s i, p < a → p + wd s p ≤ a) → ∃ pre, posG s i = pre ++ posG s a ∧ ∀ p ∈ pre, p < a := by
  apply posG_ind s
  · intro i hi h1 _
    obtain rfl : i = a := by omega
    exact ⟨[], rfl, by simp⟩
  · intro i hi ih h1 h
    by_cases e : i = a
    · subst e; exact ⟨[], rfl, by simp⟩
    · have h2 := h i (by rw [posG_cons s i hi]; simp) (by omega)
      obtain ⟨pre, hp, hl⟩ := ih h2 (fun p hp => h p (by rw [posG_cons s i hi]; simp [hp]))
      refine ⟨i :: pre, by rw [posG_cons s i hi, hp]; simp, ?_⟩
      intro p hp
      rcases List.mem_cons.1 hp with rfl | hp
      · omega
      · exact hl p hp
theorem split_at {s : ByteArray} {a : Nat} (ha : a ≤ s.size) (h : NoOv s a) : ∃ pre, posns s = pre ++ posG s a ∧ ∀ p ∈ pre, p < a := split_G s a ha 0 (Nat.zero_le _) h

theorem mid_G (S : ByteArray) (a b : Nat) (hab : a ≤ b) (hb : b ≤ S.size) : ∀ i, i ≤ b - a → (∀ p ∈ posG S (a + i), p < b → p + wd S p ≤ b) →
    posG S (a + i) = (posG (S.extract a b) i).map (a + ·) ++ posG S b ∧ ∀ p ∈ posG (S.extract a b) i, a + p < b ∧ a + p + wd S (a + p) ≤ b := by
  have hz : (S.extract a b).size = b - a := by rw [ByteArray.size_extract]; omega
  apply posG_ind (S.extract a b)
  · intro i hi h1 _
    obtain rfl : i = b - a := by omega
    rw [posG_end _ _ hi, show a + (b - a) = b by omega]
    exact ⟨by simp, by simp⟩
  · intro i hi ih h1 h
    rw [hz] at hi
    have hlt : a + i < S.size := by omega
    have h2 := h (a + i) (by rw [posG_cons S (a + i) hlt]; simp) (by omega)
    have hw := md_wd S a b i hb (by omega) h2
    rw [hw] at ih
    obtain ⟨e, hl⟩ := ih (by omega) (fun p hp => h p (by rw [posG_cons S (a + i) hlt, Nat.add_assoc]; simp [hp]))
    constructor
    · rw [posG_cons S (a + i) hlt, posG_cons (S.extract a b) i (by omega), hw, Nat.add_assoc, e]
      simp
    · intro p hp
      rw [posG_cons (S.extract a b) i (by omega), hw] at hp
      rcases List.mem_cons.1 hp with rfl | hp
      · exact ⟨by omega, h2⟩
      · exact hl p hp

/-- What is told of a text from a up to b. -/
def tellL (S : ByteArray) (a b : Nat) : List Nat := (posns S).filter fun p => decide (a ≤ p ∧ p < b)
theorem tellL_eq {S : ByteArray} {a b : Nat} (hab : a ≤ b) (hb : b ≤ S.size) (ha : NoOv S a) (hB : NoOv S b) :
    tellL S a b = (posns (S.extract a b)).map (a + ·) ∧ ∀ p ∈ posns (S.extract a b), a + p < b ∧ a + p + wd S (a + p) ≤ b := by
  obtain ⟨pre, hp, hl⟩ := split_at (by omega) ha
  have h2 : ∀ p ∈ posG S (a + 0), p < b → p + wd S p ≤ b := fun p hq => hB p (by rw [hp]; exact List.mem_append_right _ hq)
  obtain ⟨e, hm⟩ := mid_G S a b hab hb 0 (Nat.zero_le _) h2
  refine ⟨?_, hm⟩
  unfold tellL
  rw [hp, show posG S a = posG S (a + 0) from rfl, e, List.filter_append, List.filter_append]
  rw [List.filter_eq_nil_iff.2 (fun p hq => by have := hl p hq; simp; omega)]
  rw [List.filter_eq_self.2 (fun p hq => by
    obtain ⟨q, hq', rfl⟩ := List.mem_map.1 hq
    have := (hm q hq').1
    simp; omega)]
  rw [List.filter_eq_nil_iff.2 (fun p hq => by have := (posG_ge S b p hq).1; simp; omega)]
  simp [posns_G]

/-- Pieces of a part, told as those of the whole. -/
def pcz (a : Nat) (s : ByteArray) (l : List Nat) : List Value := l.flatMap fun (i : Nat) => [.int .i64 (a + i : Nat), .int .i64 (wd s i : Nat), .int .i32 (rn s i : Nat), .bool (bk s i)]
theorem pcz_snoc (a : Nat) (s : ByteArray) (l : List Nat) (i : Nat) : pcz a s (l ++ [i]) = pcz a s l ++ [.int .i64 (a + i : Nat), .int .i64 (wd s i : Nat), .int .i32 (rn s i : Nat), .bool (bk s i)] := by simp [pcz]
theorem pcz_len (a : Nat) (s : ByteArray) (l : List Nat) : (pcz a s l).length = l.length * 4 := by
  induction l with
  | nil => rfl
  | cons x l ih => simp only [pcz, List.flatMap_cons, List.length_append, List.length_cons, List.length_nil] at ih ⊢; omega
theorem pcz_map (S : ByteArray) (a b : Nat) (hb : b ≤ S.size) : ∀ l : List Nat, (∀ p ∈ l, a + p < b ∧ a + p + wd S (a + p) ≤ b) → pcs S (l.map (a + ·)) = pcz a (S.extract a b) l := by
  intro l
  induction l with
  | nil => intro _; rfl
  | cons x l ih =>
    intro h
    have hx := h x (by simp)
    have e := ih (fun p hp => h p (by simp [hp]))
    simp only [pcs, pcz, List.map_cons, List.flatMap_cons] at e ⊢
    rw [e, md_wd S a b x hb hx.1 hx.2, md_rn S a b x hb hx.1 hx.2, md_bk S a b x hb hx.1 hx.2]
theorem told_same {S : ByteArray} {a b : Nat} (hab : a ≤ b) (hb : b ≤ S.size) (ha : NoOv S a) (hB : NoOv S b) :
    (tellL S a b).length = (posns (S.extract a b)).length ∧ pcs S (tellL S a b) = pcz a (S.extract a b) (posns (S.extract a b)) := by
  obtain ⟨e, hm⟩ := tellL_eq hab hb ha hB
  exact ⟨by rw [e]; simp, by rw [e]; exact pcz_map S a b hb _ hm⟩

/-- The bytes at q, k of them, begin a form or are one. -/
def Grip (S : ByteArray) (q k : Nat) : Prop := k ≤ whN (bt S q) ∧ ∀ j, 1 ≤ j → j < k → okB (bt S q) (bt S (q + j)) j = true
theorem fit_grip (S : ByteArray) (q k : Nat) (hk : S.size - q = k) (h1 : 1 ≤ k) (h4 : k ≤ 4) (h : Grip S q k) : fitN S q = k := by
  unfold fitN
  rw [hk, Nat.min_eq_right h.1]
  have o1 := h.2 1
  have o2 := h.2 2
  have o3 := h.2 3
  rcases (show k = 1 ∨ k = 2 ∨ k = 3 ∨ k = 4 by omega) with rfl | rfl | rfl | rfl
  · exact fit1 S q
  · rw [fit2, if_pos (o1 (by omega) (by omega))]
  · rw [fit3, if_pos (o1 (by omega) (by omega)), if_pos (o2 (by omega) (by omega))]
  · rw [fit4, if_pos (o1 (by omega) (by omega)), if_pos (o2 (by omega) (by omega)), if_pos (o3 (by omega) (by omega))]
theorem grip_fit (S : ByteArray) (q k : Nat) (hk : S.size - q = k) (h1 : 1 ≤ k) (h3 : k ≤ 3) (hw : k < whN (bt S q)) (h : fitN S q = k) : Grip S q k := by
  unfold fitN at h
  rw [hk, Nat.min_eq_right (by omega)] at h
  refine ⟨by omega, fun j j1 j2 => ?_⟩
  rcases (show k = 1 ∨ k = 2 ∨ k = 3 by omega) with rfl | rfl | rfl
  · omega
  · rw [fit2] at h
    obtain rfl : j = 1 := by omega
    by_cases o : okB (bt S q) (bt S (q + 1)) 1 = true
    · exact o
    · rw [if_neg o] at h; omega
  · rw [fit3] at h
    by_cases o : okB (bt S q) (bt S (q + 1)) 1 = true
    · rw [if_pos o] at h
      by_cases o2 : okB (bt S q) (bt S (q + 2)) 2 = true
      · rcases (show j = 1 ∨ j = 2 by omega) with rfl | rfl
        · exact o
        · exact o2
      · rw [if_neg o2] at h; omega
    · rw [if_neg o] at h; omega
theorem form_grip (s : ByteArray) (p : Nat) (hp : p < s.size) (h : 2 ≤ wd s p) : Grip s p (wd s p) := by
  rcases five s p hp with ⟨hF, hl, _⟩ | ⟨hF, hl, _⟩ | ⟨hF, hl, _⟩ | ⟨hF, hl, _⟩ | ⟨hl, _⟩
  · rw [wd, if_neg (by omega)] at h; omega
  · rw [wd, if_neg (by omega), hl]; rw [isF2] at hF
    refine ⟨by rw [whN_2 hF.1 hF.2.1]; exact Nat.le_refl _, fun j j1 j2 => ?_⟩
    obtain rfl : j = 1 := by omega
    rw [okB_iff]; omega
  · rw [wd, if_neg (by omega), hl]; rw [isF3] at hF
    refine ⟨by rw [whN_3 hF.1 hF.2.1]; exact Nat.le_refl _, fun j j1 j2 => ?_⟩
    rw [okB_iff]
    rcases (show j = 1 ∨ j = 2 by omega) with rfl | rfl <;> omega
  · rw [wd, if_neg (by omega), hl]; rw [isF4] at hF
    refine ⟨by rw [whN_4 hF.1 hF.2.1]; exact Nat.le_refl _, fun j j1 j2 => ?_⟩
    rw [okB_iff]
    rcases (show j = 1 ∨ j = 2 ∨ j = 3 by omega) with rfl | rfl | rfl <;> omega
  · rw [wd, if_pos hl] at h; omega

/-- What a Feed keeps: of the text so far, up to A, all is told but the beginning of a form at its end. -/
def FedTo (S : ByteArray) (A a : Nat) : Prop := A ≤ S.size ∧ a ≤ A ∧ A - a = opN (S.extract 0 A)
theorem opN_pos {s : ByteArray} {m : Nat} (h1 : 1 ≤ m) (h3 : m ≤ 3) (hs : m ≤ s.size) (h : opB s m) : opN s ≠ 0 := by
  unfold opN
  rcases (show m = 1 ∨ m = 2 ∨ m = 3 by omega) with rfl | rfl | rfl
  · rw [if_pos ⟨hs, h⟩]; omega
  · split
    · omega
    · rw [if_pos ⟨hs, h⟩]; omega
  · split
    · omega
    · split
      · omega
      · rw [if_pos ⟨hs, h⟩]; omega
theorem lead_big {b n : Nat} (h1 : 1 ≤ n) (h : n < whN b) : 194 ≤ b := by
  unfold whN at h
  split at h
  · omega
  · split at h
    · omega
    · split at h
      · omega
      · split at h <;> omega
theorem no_over {S : ByteArray} {A a q k : Nat} (hf : FedTo S A a) (hq : q < a) (h4 : k ≤ 4) (hk : a < q + k) (hS : q + k ≤ S.size) (h : Grip S q k) : False := by
  obtain ⟨hA, ha, ho⟩ := hf
  have hz := size_head S A hA
  rcases opN_cases (S.extract 0 A) with h0 | ⟨h1, h3, h5, hw, _⟩
  · rw [h0] at ho
    obtain rfl : a = A := by omega
    refine opN_pos (s := S.extract 0 a) (m := a - q) (by omega) (by omega) (by omega) ?_ h0
    have e : (S.extract 0 a).size - (a - q) = q := by omega
    unfold opB
    rw [e, bt_head S a q hA hq]
    refine ⟨by have := h.1; omega, fit_grip _ q (a - q) (by omega) (by omega) (by omega) ⟨by rw [bt_head S a q hA hq]; have := h.1; omega, fun j j1 j2 => ?_⟩⟩
    rw [bt_head S a q hA hq, bt_head S a (q + j) hA (by omega)]
    exact h.2 j j1 (by omega)
  · rw [hz, ← ho, show A - (A - a) = a by omega, bt_head S A a hA (by omega)] at hw
    have hb := lead_big (by omega) hw
    have hc := h.2 (a - q) (by omega) (by omega)
    rw [show q + (a - q) = a by omega, okB_iff] at hc
    omega
theorem fed_noOv {S : ByteArray} {A a : Nat} (hf : FedTo S A a) : NoOv S a := by
  intro p hp hlt
  by_cases h : p + wd S p ≤ a
  · exact h
  · have hps := (posG_ge S 0 p hp).2
    exact (no_over hf hlt (wd_le S p) (by omega) (wd_fits S p hps) (form_grip S p hps (by omega))).elim

theorem fed_open {S : ByteArray} {A a : Nat} (hf : FedTo S A a) : opN (S.extract a S.size) = opN S := by
  have hz := tl_size S a
  have ha : a ≤ S.size := Nat.le_trans hf.2.1 hf.1
  have key : ∀ m, 1 ≤ m → m ≤ 3 → ((m ≤ (S.extract a S.size).size ∧ opB (S.extract a S.size) m) ↔ (m ≤ S.size ∧ opB S m)) := by
    intro m h1 h3
    by_cases hm : m ≤ S.size - a
    · have e : a + ((S.extract a S.size).size - m) = S.size - m := by omega
      have ef : fitN (S.extract a S.size) ((S.extract a S.size).size - m) = fitN S (S.size - m) := by
        unfold fitN
        rw [tl_fit, tl_bt, e, show (S.extract a S.size).size - ((S.extract a S.size).size - m) = S.size - (S.size - m) by omega]
      unfold opB
      rw [ef, tl_bt, e]
      constructor
      · intro h; exact ⟨by omega, h.2⟩
      · intro h; exact ⟨by omega, h.2⟩
    · constructor
      · intro h; omega
      · rintro ⟨hs, hw, hft⟩
        exfalso
        by_cases hlt : a < S.size
        · exact no_over hf (q := S.size - m) (k := m) (by omega) (by omega) (by omega) (by omega) (grip_fit S _ m (by omega) h1 h3 hw hft)
        · have eA : A = S.size := by have := hf.1; have := hf.2.1; omega
          have ho := hf.2.2
          rw [eA, show S.extract 0 S.size = S by simp] at ho
          exact opN_pos h1 h3 hs ⟨hw, hft⟩ (by omega)
  unfold opN
  simp only [propext (key 1 (by omega) (by omega)), propext (key 2 (by omega) (by omega)), propext (key 3 (by omega) (by omega))]

theorem fed_all (S : ByteArray) : FedTo S S.size (S.size - opN S) := by
  refine ⟨Nat.le_refl _, by omega, ?_⟩
  rw [show S.extract 0 S.size = S by simp]
  rcases opN_cases S with h | ⟨h1, h3, h5, _⟩ <;> omega
theorem fed_le {S : ByteArray} {A a : Nat} (hf : FedTo S A a) : a ≤ S.size - opN S := by
  have h := fed_open hf
  have hz := tl_size S a
  have ha : a ≤ S.size := Nat.le_trans hf.2.1 hf.1
  rcases opN_cases (S.extract a S.size) with h0 | ⟨h1, h3, h5, _⟩ <;> omega
theorem fed_app (X s : ByteArray) (a : Nat) (h : FedTo X X.size a) : FedTo (X ++ s) X.size a := by
  refine ⟨by rw [ByteArray.size_append]; omega, h.2.1, ?_⟩
  have e : (X ++ s).extract 0 X.size = X.extract 0 X.size := by
    rw [ByteArray.extract_append]; simp
  rw [e]
  exact h.2.2
theorem fed_text (X s : ByteArray) (a : Nat) (h : a ≤ X.size) : X.extract a X.size ++ s = (X ++ s).extract a (X ++ s).size := by
  rw [ByteArray.extract_append, ByteArray.size_append, show a - X.size = 0 by omega, show X.size + s.size - X.size = s.size by omega]
  congr 1
  · apply ext_bytes
    · simp only [ByteArray.size_extract]; omega
    · intro i h1 h2; simp [ByteArray.getElem_extract]
  · simp

/-- What a Put tells, and what it keeps: of the text so far X, up to a told, and a part s more. -/
theorem put_same (X s : ByteArray) (a : Nat) (h : FedTo X X.size a) (S : ByteArray) (hS : X ++ s = S) (b : Nat) (hb : S.size - opN S = b) :
    X.extract a X.size ++ s = S.extract a S.size ∧ opN (S.extract a S.size) = S.size - b ∧ a ≤ b ∧ b ≤ S.size ∧ S.size ≤ b + 3 ∧ FedTo S S.size b
      ∧ (tellL S a b).length = (posns (S.extract a b)).length ∧ pcs S (tellL S a b) = pcz a (S.extract a b) (posns (S.extract a b)) := by
  have hf := fed_app X s a h
  rw [hS] at hf
  have ht := fed_text X s a h.2.1
  rw [hS] at ht
  have hb2 := fed_all S
  have hle := fed_le hf
  rw [hb] at hb2 hle
  have ho := opN_cases S
  have h5 : b ≤ S.size := by omega
  have hT := told_same hle h5 (fed_noOv hf) (fed_noOv hb2)
  exact ⟨ht, by rw [fed_open hf]; omega, hle, h5, by omega, hb2, hT⟩
/-- What End tells. -/
theorem end_same (X : ByteArray) (a : Nat) (h : FedTo X X.size a) :
    (tellL X a X.size).length = (posns (X.extract a X.size)).length ∧ pcs X (tellL X a X.size) = pcz a (X.extract a X.size) (posns (X.extract a X.size)) :=
  told_same h.2.1 (Nat.le_refl _) (fed_noOv h) (noOv_end X)
end Go.Proofs.Ytgpnheaefagfiaa
