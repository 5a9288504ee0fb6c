/- Several texts in one. -/
import Derived.Test.YtjccoiephdopkaaZ14
import Derived.Test.YtjccoiephdopkaaZ15
import Derived.Deep.RegionHeld3
import Derived.BigQuiet
import Derived.Deep.QuietTactic
import Derived.Handy
import Derived.Test.YtjccoiephdopkaaZ06
import Derived.Test.YtjccoiephdopkaaZ07
/- Stage 27: pieces of two texts, from the end on. -/
namespace Go.Proofs.Ytjccoiephdopkaa
set_option linter.unusedVariables false
set_option linter.unusedSimpArgs false
open Go Go.RowKit
set_option maxRecDepth 100000

theorem G_split (s : ByteArray) : ∀ (pre : List Nat) (a p : Nat) (rest : List Nat), posG s a = pre ++ p :: rest → a ≤ p ∧ p < s.size ∧ rest = posG s (p + wd s p)
  | [], a, p, rest, h => by
    rcases Nat.lt_or_ge a s.size with hl | hl
    · rw [posG_cons s a hl] at h
      injection h with h1 h2
      subst h1
      exact ⟨Nat.le_refl _, hl, h2.symm⟩
    · rw [posG_end s a hl] at h; cases h
  | x :: pre, a, p, rest, h => by
    rcases Nat.lt_or_ge a s.size with hl | hl
    · rw [posG_cons s a hl] at h
      injection h with h1 h2
      obtain ⟨g1, g2, g3⟩ := G_split s pre _ _ _ h2
      exact ⟨by omega, g2, g3⟩
    · rw [posG_end s a hl] at h; cases h
theorem posG_one {s : ByteArray} {a b : Nat} (ha : a ≤ s.size) (hb : b ≤ s.size) (h : posG s a = posG s b) : a = b := by
  rcases Nat.lt_or_ge a s.size with hl | hl
  · rcases Nat.lt_or_ge b s.size with gl | gl
    · rw [posG_cons s a hl, posG_cons s b gl] at h
      injection h
    · rw [posG_cons s a hl, posG_end s b gl] at h; cases h
  · rcases Nat.lt_or_ge b s.size with gl | gl
    · rw [posG_cons s b gl, posG_end s a hl] at h; cases h
    · omega

/-- The first i pieces end at q. -/
def Eg (s : ByteArray) (i q : Nat) : Prop := q ≤ s.size ∧ i ≤ (posns s).length ∧ (posns s).drop i = posG s q
theorem eg_end (s : ByteArray) : Eg s (posns s).length s.size := ⟨Nat.le_refl _, Nat.le_refl _, by rw [List.drop_length, posG_end s _ (Nat.le_refl _)]⟩
theorem eg_zero {s : ByteArray} {q : Nat} (h : Eg s 0 q) : q = 0 := by
  obtain ⟨h1, _, h3⟩ := h
  exact (posG_one (Nat.zero_le _) h1 h3).symm
theorem eg_prev {s : ByteArray} {i q : Nat} (h : Eg s (i + 1) q) : ∃ p, (posns s)[i]? = some p ∧ p < s.size ∧ p + wd s p = q ∧ Eg s i p := by
  obtain ⟨hq, hi, hd⟩ := h
  have hl : i < (posns s).length := by omega
  have e0 : (posns s).drop i = (posns s)[i] :: (posns s).drop (i + 1) := List.drop_eq_getElem_cons hl
  have e : posns s = (posns s).take i ++ (posns s)[i] :: (posns s).drop (i + 1) := by rw [← e0, List.take_append_drop]
  obtain ⟨_, g2, g3⟩ := G_split s _ 0 _ _ e
  refine ⟨(posns s)[i], List.getElem?_eq_getElem hl, g2, posG_one (wd_fits s _ g2) hq (g3.symm.trans hd), by omega, by omega, ?_⟩
  rw [e0, g3, ← posG_cons s _ g2]
theorem eg_at {s : ByteArray} {i q : Nat} (h : Eg s i q) : (i < (posns s).length → (posns s)[i]? = some q ∧ q < s.size) ∧ (¬ i < (posns s).length → q = s.size) := by
  obtain ⟨hq, hi, hd⟩ := h
  refine ⟨fun hl => ?_, fun hl => ?_⟩
  · have e0 : (posns s).drop i = (posns s)[i] :: (posns s).drop (i + 1) := List.drop_eq_getElem_cons hl
    rw [hd] at e0
    rcases Nat.lt_or_ge q s.size with gl | gl
    · rw [posG_cons s q gl] at e0
      injection e0 with e1
      exact ⟨by rw [List.getElem?_eq_getElem hl, e1], gl⟩
    · rw [posG_end s q gl] at e0; cases e0
  · rw [List.drop_eq_nil_of_le (by omega)] at hd
    exact posG_one hq (Nat.le_refl _) (by rw [← hd, posG_end s _ (Nat.le_refl _)])

/-- A head's pieces. -/
theorem hq_isF (s : ByteArray) (n i m : Nat) (hn : n ≤ s.size) (hm : i + m ≤ n) (h1 : 1 ≤ m) (h : isF s i m = true) : isF (s.extract 0 n) i m = true := by
  have hz := size_head s n hn
  match m, h, hm, h1 with
  | 1, h, hm, _ => rw [isF1] at h ⊢; rw [bt_head s n i hn (by omega)]; exact h
  | 2, h, hm, _ => rw [isF2] at h; rw [isF2, hz]; obtain ⟨a, b, c, d, e⟩ := h; rw [bt_head s n i hn (by omega), bt_head s n (i + 1) hn (by omega)]; exact ⟨a, b, by omega, d, e⟩
  | 3, h, hm, _ =>
    rw [isF3] at h; rw [isF3, hz]
    obtain ⟨a, b, c, d, e, f, g, j, k, l⟩ := h
    rw [bt_head s n i hn (by omega), bt_head s n (i + 1) hn (by omega), bt_head s n (i + 2) hn (by omega)]
    exact ⟨a, b, by omega, d, e, by omega, g, j, k, l⟩
  | 4, h, hm, _ =>
    rw [isF4] at h; rw [isF4, hz]
    obtain ⟨a, b, c, d, e, f, g, j, f2, g2, j2, k, l⟩ := h
    rw [bt_head s n i hn (by omega), bt_head s n (i + 1) hn (by omega), bt_head s n (i + 2) hn (by omega), bt_head s n (i + 3) hn (by omega)]
    exact ⟨a, b, by omega, d, e, by omega, g, j, by omega, g2, j2, k, l⟩
  | m + 5, h, _, _ => simp [isF] at h
theorem hq_len (s : ByteArray) (n i : Nat) (hn : n ≤ s.size) (hi : i < n) (hm : i + wd s i ≤ n) : lenN (s.extract 0 n) i = lenN s i := by
  have hz := size_head s n hn
  by_cases h0 : lenN s i = 0
  · by_cases h1 : lenN (s.extract 0 n) i = 0
    · rw [h0, h1]
    · exact ((head_form s n i hn hi h1).1).symm
  · have hw : wd s i = lenN s i := by unfold wd; rw [if_neg h0]
    rw [hw] at hm
    rcases five s i (by omega) with ⟨hF, hl, _⟩ | ⟨hF, hl, _⟩ | ⟨hF, hl, _⟩ | ⟨hF, hl, _⟩ | ⟨hl, _⟩
    · rw [hl] at hm ⊢; exact lenN_of_1 _ _ (by omega) (hq_isF s n i 1 hn hm (by omega) hF)
    · rw [hl] at hm ⊢; exact lenN_of_2 _ _ (hq_isF s n i 2 hn hm (by omega) hF)
    · rw [hl] at hm ⊢; exact lenN_of_3 _ _ (hq_isF s n i 3 hn hm (by omega) hF)
    · rw [hl] at hm ⊢; exact lenN_of_4 _ _ (hq_isF s n i 4 hn hm (by omega) hF)
    · exact absurd hl h0
theorem hq_wd (s : ByteArray) (n i : Nat) (hn : n ≤ s.size) (hi : i < n) (hm : i + wd s i ≤ n) : wd (s.extract 0 n) i = wd s i := by
  unfold wd; rw [hq_len s n i hn hi hm]
theorem hq_bk (s : ByteArray) (n i : Nat) (hn : n ≤ s.size) (hi : i < n) (hm : i + wd s i ≤ n) : bk (s.extract 0 n) i = bk s i := by
  unfold bk; rw [hq_len s n i hn hi hm]
theorem hq_rn (s : ByteArray) (n i : Nat) (hn : n ≤ s.size) (hi : i < n) (hm : i + wd s i ≤ n) : rn (s.extract 0 n) i = rn s i := by
  have hl := hq_len s n i hn hi hm
  by_cases h0 : lenN s i = 0
  · rw [show rn (s.extract 0 n) i = 65533 by unfold rn; rw [hl, if_pos h0], show rn s i = 65533 by unfold rn; rw [if_pos h0]]
  · exact ((head_form s n i hn hi (by rw [hl]; exact h0)).2).symm

theorem hq_posG (s : ByteArray) (q : Nat) (hq : q ≤ s.size) : ∀ (pre : List Nat) (a p : Nat) (rest : List Nat), posG s a = pre ++ p :: rest → p + wd s p = q → posG (s.extract 0 q) a = pre ++ [p]
  | [], a, p, rest, h, hp => by
    have hz := size_head s q hq
    have h1 := wd_pos s p
    have hl : a < s.size := by
      rcases Nat.lt_or_ge a s.size with hl | hl
      · exact hl
      · rw [posG_end s a hl] at h; cases h
    rw [posG_cons s a hl] at h
    injection h with h2 h3
    subst h2
    rw [posG_cons (s.extract 0 q) a (by omega), hq_wd s q a hq (by omega) (by omega), hp, posG_end (s.extract 0 q) q (by omega)]
    rfl
  | x :: pre, a, p, rest, h, hp => by
    have hz := size_head s q hq
    have h1 := wd_pos s p
    have hl : a < s.size := by
      rcases Nat.lt_or_ge a s.size with hl | hl
      · exact hl
      · rw [posG_end s a hl] at h; cases h
    rw [posG_cons s a hl] at h
    injection h with h2 h3
    have hg := (G_split s pre _ _ _ h3).1
    have h4 := wd_pos s a
    rw [posG_cons (s.extract 0 q) a (by omega), hq_wd s q a hq (by omega) (by omega), hq_posG s q hq pre _ p rest h3 hp, h2]
    rfl
/-- The last piece ahead of a boundary. -/
theorem before_eg {s : ByteArray} {i q p : Nat} (h : Eg s (i + 1) q) (hp : (posns s)[i]? = some p) : SQ.pcV (s.extract 0 q) (SQ.lp (s.extract 0 q)) = .agg #[.int .i64 (p : Nat), .int .i64 (wd s p : Nat), .int .i32 (rn s p : Nat), .bool (bk s p)] := by
  obtain ⟨p', e1, e2, e3, e4⟩ := eg_prev h
  rw [hp] at e1
  obtain rfl := Option.some.inj e1
  obtain ⟨hq, hi, hd⟩ := h
  have hl : i < (posns s).length := by omega
  have e0 : (posns s).drop i = (posns s)[i] :: (posns s).drop (i + 1) := List.drop_eq_getElem_cons hl
  have e5 : (posns s)[i] = p := by rw [List.getElem?_eq_getElem hl] at hp; exact Option.some.inj hp
  have e : posns s = (posns s).take i ++ p :: (posns s).drop (i + 1) := by rw [← e5, ← e0, List.take_append_drop]
  have g := hq_posG s q hq _ 0 p _ e e3
  have h1 := wd_pos s p
  rw [SQ.lp_eq (s.extract 0 q) _ p g]
  simp only [SQ.pcV, SQ.pcC, hq_wd s q p hq (by omega) (by omega), hq_rn s q p hq (by omega) (by omega), hq_bk s q p hq (by omega) (by omega)]

/-- Is the piece at p of s the one at q of t? -/
def smeB (s t : ByteArray) (p q : Nat) : Bool := decide (s.extract p (p + wd s p) = t.extract q (q + wd t q))
theorem smeB_yes {s t : ByteArray} {p q : Nat} : smeB s t p q = true ↔ s.extract p (p + wd s p) = t.extract q (q + wd t q) := by simp [smeB]
theorem smeB_no {s t : ByteArray} {p q : Nat} : smeB s t p q = false ↔ ¬ s.extract p (p + wd s p) = t.extract q (q + wd t q) := by simp [smeB]
theorem sm_wd {s t : ByteArray} {p q : Nat} (hp : p < s.size) (hq : q < t.size) (h : smeB s t p q = true) : wd s p = wd t q := by
  have h1 := congrArg ByteArray.size (smeB_yes.1 h)
  have h2 := wd_fits s p hp
  have h3 := wd_fits t q hq
  rw [ByteArray.size_extract, ByteArray.size_extract] at h1
  omega
/-- How many bytes the pieces have that are the same, from the i-th and the j-th one back. -/
def bkN (s t : ByteArray) : Nat → Nat → Nat
  | 0, _ => 0
  | _ + 1, 0 => 0
  | i + 1, j + 1 => if smeB s t ((posns s).getD i 0) ((posns t).getD j 0) = true then wd s ((posns s).getD i 0) + bkN s t i j else 0
theorem bk_0 (s t : ByteArray) (j : Nat) : bkN s t 0 j = 0 := by unfold bkN; rfl
theorem bk_z (s t : ByteArray) (i : Nat) : bkN s t i 0 = 0 := by cases i <;> rfl
theorem bk_yes {s t : ByteArray} {i j p q : Nat} (hp : (posns s)[i]? = some p) (hq : (posns t)[j]? = some q) (h : smeB s t p q = true) : bkN s t (i + 1) (j + 1) = wd s p + bkN s t i j := by
  have e1 : (posns s).getD i 0 = p := by rw [List.getD_eq_getElem?_getD, hp]; rfl
  have e2 : (posns t).getD j 0 = q := by rw [List.getD_eq_getElem?_getD, hq]; rfl
  show (if smeB s t ((posns s).getD i 0) ((posns t).getD j 0) = true then wd s ((posns s).getD i 0) + bkN s t i j else 0) = _
  rw [e1, e2, if_pos h]
theorem bk_no {s t : ByteArray} {i j p q : Nat} (hp : (posns s)[i]? = some p) (hq : (posns t)[j]? = some q) (h : smeB s t p q = false) : bkN s t (i + 1) (j + 1) = 0 := by
  have e1 : (posns s).getD i 0 = p := by rw [List.getD_eq_getElem?_getD, hp]; rfl
  have e2 : (posns t).getD j 0 = q := by rw [List.getD_eq_getElem?_getD, hq]; rfl
  show (if smeB s t ((posns s).getD i 0) ((posns t).getD j 0) = true then wd s ((posns s).getD i 0) + bkN s t i j else 0) = _
  rw [e1, e2, if_neg (by rw [h]; decide)]

theorem ext_cat (s : ByteArray) {a b c : Nat} (h1 : a ≤ b) (h2 : b ≤ c) (h3 : c ≤ s.size) : s.extract a b ++ s.extract b c = s.extract a c := by
  rw [ByteArray.extract_append_extract, Nat.min_eq_left h1, Nat.max_eq_right h2]

/-- What is the same at the end: its bytes, and that it begins at boundaries. -/
theorem bk_fact (s t : ByteArray) : ∀ (i j q r : Nat), Eg s i q → Eg t j r → bkN s t i j ≤ q ∧ bkN s t i j ≤ r ∧ s.extract (q - bkN s t i j) q = t.extract (r - bkN s t i j) r ∧ (∃ k, Eg s k (q - bkN s t i j)) ∧ ∃ k, Eg t k (r - bkN s t i j)
  | 0, j, q, r, h, g => by
    rw [bk_0]
    exact ⟨Nat.zero_le _, Nat.zero_le _, by simp, ⟨_, h⟩, ⟨_, g⟩⟩
  | i + 1, 0, q, r, h, g => by
    rw [bk_z]
    exact ⟨Nat.zero_le _, Nat.zero_le _, by simp, ⟨_, h⟩, ⟨_, g⟩⟩
  | i + 1, j + 1, q, r, h, g => by
    obtain ⟨p, e1, e2, e3, e4⟩ := eg_prev h
    obtain ⟨p', f1, f2, f3, f4⟩ := eg_prev g
    cases hs : smeB s t p p' with
    | false =>
      rw [bk_no e1 f1 hs]
      exact ⟨Nat.zero_le _, Nat.zero_le _, by simp, ⟨_, h⟩, ⟨_, g⟩⟩
    | true =>
      obtain ⟨a1, a2, a3, ⟨k, a4⟩, ⟨l, a5⟩⟩ := bk_fact s t i j p p' e4 f4
      have hw := sm_wd e2 f2 hs
      have hx := smeB_yes.1 hs
      have b1 := wd_fits s p e2
      have b2 := wd_fits t p' f2
      rw [bk_yes e1 f1 hs, show q - (wd s p + bkN s t i j) = p - bkN s t i j by omega, show r - (wd s p + bkN s t i j) = p' - bkN s t i j by omega]
      refine ⟨by omega, by omega, ?_, ⟨k, a4⟩, ⟨l, a5⟩⟩
      rw [← ext_cat s (b := p) (by omega) (by omega) (by omega), ← ext_cat t (b := p') (by omega) (by omega) (by omega), a3, ← e3, ← f3, hx]

/-- The same pieces at the head: the same bytes. -/
theorem lk_ext_go (s t : ByteArray) (p : Nat) (hps : p ≤ s.size) (hpt : p ≤ t.size) : ∀ (pre : List Nat) (a : Nat), posG s a = pre ++ posG s p → posG t a = pre ++ posG t p → a ≤ s.size → a ≤ t.size → (∀ i ∈ pre, i < s.size ∧ i < t.size ∧ SQ.wt s i = SQ.wt t i) → a ≤ p ∧ s.extract a p = t.extract a p
  | [], a, h, g, hs, ht, hw => by
    have := posG_one hs hps h
    subst this
    exact ⟨Nat.le_refl _, by simp⟩
  | x :: pre, a, h, g, hs, ht, hw => by
    obtain ⟨w1, w2, w3⟩ := hw x (List.mem_cons_self ..)
    have hls : a < s.size := by
      rcases Nat.lt_or_ge a s.size with hl | hl
      · exact hl
      · rw [posG_end s a hl] at h; cases h
    have hlt : a < t.size := by
      rcases Nat.lt_or_ge a t.size with hl | hl
      · exact hl
      · rw [posG_end t a hl] at g; cases g
    rw [posG_cons s a hls] at h
    rw [posG_cons t a hlt] at g
    injection h with h1 h2
    injection g with g1 g2
    subst h1
    obtain ⟨e1, e2⟩ := (SQ.same_iff s t a w1 w2).2 w3
    rw [← e1] at g2
    have b1 := wd_fits s a hls
    have b2 := wd_fits t a hlt
    obtain ⟨k1, k2⟩ := lk_ext_go s t p hps hpt pre (a + wd s a) h2 g2 b1 (by omega) (fun i hi => hw i (List.mem_cons_of_mem _ hi))
    refine ⟨by omega, ?_⟩
    rw [← ext_cat s (b := a + wd s a) (by omega) k1 hps, ← ext_cat t (b := a + wd s a) (by omega) k1 hpt, k2, e2]
theorem lk_ext {s t : ByteArray} {p n : Nat} (h : SQ.Lk s t p n) : s.extract 0 p = t.extract 0 p := by
  obtain ⟨h1, h2, pre, h3, h4, h5, h6⟩ := h
  exact (lk_ext_go s t p h1 h2 pre 0 h4 h5 (Nat.zero_le _) (Nat.zero_le _) h6).2

theorem posG_tail (T : ByteArray) (n : Nat) : ∀ j, posG T (n + j) = (posG (T.extract n T.size) j).map (n + ·) := by
  apply posG_ind (T.extract n T.size)
  · intro i hi
    rw [tl_size] at hi
    rw [posG_end _ i (by rw [tl_size]; exact hi), posG_end T (n + i) (by omega)]
    rfl
  · intro i hi ih
    have hz := tl_size T n
    rw [posG_cons _ i hi, posG_cons T (n + i) (by omega), List.map_cons, ← ih, tl_wd, Nat.add_assoc]
/-- The pieces behind the head. -/
theorem lk_tail {s t : ByteArray} {p n : Nat} (h : SQ.Lk s t p n) : (posns s).length = n + (posns (s.extract p s.size)).length ∧ (posns t).length = n + (posns (t.extract p t.size)).length ∧
    (∀ i, (posns s)[n + i]? = ((posns (s.extract p s.size))[i]?).map (p + ·)) ∧ ∀ i, (posns t)[n + i]? = ((posns (t.extract p t.size))[i]?).map (p + ·) := by
  obtain ⟨h1, h2, pre, h3, h4, h5, h6⟩ := h
  have e1 : posns s = pre ++ (posns (s.extract p s.size)).map (p + ·) := by rw [h4, ← Nat.add_zero p, posG_tail s p 0]; rfl
  have e2 : posns t = pre ++ (posns (t.extract p t.size)).map (p + ·) := by rw [h5, ← Nat.add_zero p, posG_tail t p 0]; rfl
  refine ⟨by rw [e1]; simp [h3], by rw [e2]; simp [h3], fun i => ?_, fun i => ?_⟩
  · rw [e1, List.getElem?_append_right (by omega), h3, Nat.add_sub_cancel_left, List.getElem?_map]
  · rw [e2, List.getElem?_append_right (by omega), h3, Nat.add_sub_cancel_left, List.getElem?_map]
theorem tail_ext (T : ByteArray) (n a b : Nat) (h : n + b ≤ T.size) : (T.extract n T.size).extract a b = T.extract (n + a) (n + b) := by
  rw [ByteArray.extract_extract, Nat.min_eq_left h]
theorem tail_sm {s t : ByteArray} {h p q : Nat} (hp : p < (s.extract h s.size).size) (hq : q < (t.extract h t.size).size) : smeB (s.extract h s.size) (t.extract h t.size) p q = smeB s t (h + p) (h + q) := by
  have h1 := wd_fits _ p hp
  have h2 := wd_fits _ q hq
  rw [tl_size] at h1 h2 hp hq
  rw [tl_wd] at h1 h2
  unfold smeB
  rw [tl_wd, tl_wd, tail_ext s h p _ (by omega), tail_ext t h q _ (by omega), Nat.add_assoc, Nat.add_assoc]
end Go.Proofs.Ytjccoiephdopkaa

/- What alike, Common and Compare answer. -/
namespace Go.Proofs.Ytjccoiephdopkaa.SQ
set_option linter.unusedVariables false
set_option linter.unusedSimpArgs false
open Go Go.RowKit
set_option maxRecDepth 100000

theorem field_piece1 (x0 x1 x2 : Int) (x3 : Bool) (w : World) : (Instr.field 69 (.agg #[.int .i64 x0, .int .i64 x1, .int .i32 x2, .bool x3]) 1).run Try.prog w = .ok (.int .i64 x1) w := by kernel_rfl

def AkPost (a b : ByteArray) (w : World) (e : Ending) (w' : World) : Prop :=
  ∃ p n : Nat, Lk a b p n ∧ St a b p ∧ e = .returned (.tuple #[.int .i64 p, .int .i64 n]) ∧ Below w.heap.size w w'
def AkRel (a b : ByteArray) (w : World) (v1 v2 : Value) (wr : World) : Prop :=
  ∃ p n : Nat, v1 = .int .i64 p ∧ v2 = .int .i64 n ∧ Lk a b p n ∧ Below w.heap.size w wr

end Go.Proofs.Ytjccoiephdopkaa.SQ

/- Stage 27: edit.alike: how many bytes the pieces have that are the same, from the end on. -/
namespace Go.Proofs.Ytjccoiephdopkaa
set_option linter.unusedVariables false
set_option linter.unusedSimpArgs false
open Go Go.RowKit Go.Shelf
set_option maxRecDepth 100000

theorem new4N (w : World) (a b c d : Value) (t : TypeId) : ∃ W, w.alloc (.cells #[a, b, c, d] t) = W ∧ W.heap.size = w.heap.size + 1 ∧ Below w.heap.size w W ∧ W.cell? ⟨w.heap.size, 0, none⟩ = some a ∧ W.cell? ⟨w.heap.size, 1, none⟩ = some b ∧ W.cell? ⟨w.heap.size, 2, none⟩ = some c ∧ W.cell? ⟨w.heap.size, 3, none⟩ = some d := by
  refine ⟨_, rfl, by simp, (Below.refl _ _).alloc (Nat.le_refl _) _, ?_⟩
  simp only [World.cell?, World.alloc_heap_new]
  exact ⟨rfl, rfl, rfl, rfl⟩

/-- So far n bytes are the same. -/
def AlR (s t : ByteArray) (M : Nat) (w : World) (v : Value) (wr : World) : Prop :=
  ∃ n i j q r : Nat, v = .int .i64 n ∧ Eg s i q ∧ Eg t j r ∧ q + n = s.size ∧ r + n = t.size ∧ M = n + bkN s t i j ∧ Below w.heap.size w wr

end Go.Proofs.Ytjccoiephdopkaa

/- Where a place stands: at a boundary, or within one form. Plain facts. -/
namespace Go.Proofs.Ytjccoiephdopkaa
set_option linter.unusedVariables false
set_option linter.unusedSimpArgs false
open Go

/-- The boundaries of a text. -/
def ends (s : ByteArray) : List Nat := posns s ++ [s.size]

theorem mem_ends (s : ByteArray) (i : Nat) : i ∈ ends s ↔ i ∈ posns s ∨ i = s.size := by simp [ends]

theorem posG_sorted (s : ByteArray) : ∀ i, (posG s i).Pairwise (· < ·) := by
  apply posG_ind s
  · intro i hi; rw [posG_end s i hi]; exact .nil
  · intro i hi ih
    rw [posG_cons s i hi]
    refine .cons (fun q hq => ?_) ih
    have := (posG_ge s _ q hq).1; have := wd_pos s i; omega

theorem ends_sorted (s : ByteArray) : (ends s).Pairwise (· < ·) := by
  unfold ends
  rw [List.pairwise_append]
  refine ⟨posG_sorted s 0, by simp, fun a ha b hb => ?_⟩
  simp at hb; rw [hb]; exact (posG_ge s 0 a ha).2

/-- F to T is the form within which i lies; i to i, if it lies within none. -/
def InB (s : ByteArray) (i F T : Nat) : Prop := (i ∈ ends s ∧ F = i ∧ T = i) ∨ (i ∉ ends s ∧ ∃ p ∈ posns s, p < i ∧ i < p + wd s p ∧ F = p ∧ T = p + wd s p)

theorem inB_in (s : ByteArray) (i n : Nat) (h1 : 1 ≤ n) (hn : n ≤ i) (hi : i ≤ s.size) (h : n < lenN s (i - n)) : InB s i (i - n) (i - n + lenN s (i - n)) := by
  have hp := form_pos s (i - n) (by omega) (by omega)
  have hw : wd s (i - n) = lenN s (i - n) := by rw [wd, if_neg (by omega)]
  refine .inr ⟨?_, i - n, hp, by omega, by omega, rfl, by rw [hw]⟩
  intro hm
  have hf := (lenN_fits s (i - n) (by omega)).1
  rcases (mem_ends s i).1 hm with hm | hm
  · have := posG_apart s 0 _ hp i hm (by omega); omega
  · omega

theorem inB_out (s : ByteArray) (i : Nat) (hi : i ≤ s.size) (h : ∀ m, 1 ≤ m → m ≤ 3 → m ≤ i → ¬ m < lenN s (i - m)) : InB s i i i := by
  refine .inl ⟨?_, rfl, rfl⟩
  rw [mem_ends]
  by_cases he : i = s.size
  · exact .inr he
  · obtain ⟨p, hp, h1, h2⟩ := posG_cover s 0 i (by omega) (by omega)
    by_cases e : p = i
    · exact .inl (by rw [← e]; exact hp)
    · exfalso
      have hw := wd_le s p
      have hl : wd s p = lenN s p := by
        unfold wd at h2 ⊢
        by_cases hz : lenN s p = 0
        · rw [if_pos hz] at h2; omega
        · rw [if_neg hz]
      have := h (i - p) (by omega) (by omega) (by omega)
      rw [show i - (i - p) = p by omega] at this
      omega

theorem inB_le (s : ByteArray) (i F T : Nat) (hi : i ≤ s.size) (h : InB s i F T) : F ≤ i ∧ i ≤ T ∧ T ≤ s.size := by
  rcases h with ⟨_, rfl, rfl⟩ | ⟨_, p, hp, h1, h2, rfl, rfl⟩
  · omega
  · have := wd_fits s F (posG_ge s 0 F hp).2; omega

theorem inB_eq (s : ByteArray) (i F T : Nat) (h : InB s i F T) : F = i ↔ i ∈ ends s := by
  rcases h with ⟨hm, rfl, rfl⟩ | ⟨hm, p, hp, h1, h2, rfl, rfl⟩
  · simp [hm]
  · simp only [hm, iff_false]; omega

/-- The last one that is not above i. -/
def frL (i : Nat) (l : List Nat) : Nat := l.foldl (fun o x => if x ≤ i then x else o) 0
/-- The first one that is not below i. -/
def toR (i : Nat) (l : List Nat) : Nat := l.foldr (fun x o => if i ≤ x then x else o) 0

theorem frL_snoc (i : Nat) (l : List Nat) (x : Nat) : frL i (l ++ [x]) = if x ≤ i then x else frL i l := by simp [frL]
theorem toR_cons (i : Nat) (l : List Nat) (x : Nat) : toR i (x :: l) = if i ≤ x then x else toR i l := rfl

theorem foldl_above (i : Nat) : ∀ (b : List Nat) (o : Nat), (∀ x ∈ b, i < x) → b.foldl (fun o x => if x ≤ i then x else o) o = o := by
  intro b
  induction b with
  | nil => intro o _; rfl
  | cons x b ih =>
    intro o h
    have := h x (by simp)
    simp only [List.foldl_cons]
    rw [if_neg (by omega)]
    exact ih o (fun y hy => h y (by simp [hy]))

theorem foldr_below (i : Nat) (o : Nat) : ∀ (a : List Nat), (∀ x ∈ a, x < i) → a.foldr (fun x o => if i ≤ x then x else o) o = o := by
  intro a
  induction a with
  | nil => intro _; rfl
  | cons x a ih =>
    intro h
    have := h x (by simp)
    simp only [List.foldr_cons]
    rw [if_neg (by omega)]
    exact ih (fun y hy => h y (by simp [hy]))

theorem frL_at {i F : Nat} {l : List Nat} (hs : l.Pairwise (· < ·)) (hF : F ∈ l) (h1 : F ≤ i) (h : ∀ x ∈ l, F < x → i < x) : frL i l = F := by
  obtain ⟨a, b, rfl⟩ := List.append_of_mem hF
  unfold frL
  rw [List.foldl_append, List.foldl_cons, if_pos h1]
  refine foldl_above i b F (fun x hx => h x (by simp [hx]) ?_)
  rw [List.pairwise_append] at hs
  exact (List.pairwise_cons.1 hs.2.1).1 x hx

theorem toR_at {i T : Nat} {l : List Nat} (hs : l.Pairwise (· < ·)) (hT : T ∈ l) (h1 : i ≤ T) (h : ∀ x ∈ l, x < T → x < i) : toR i l = T := by
  obtain ⟨a, b, rfl⟩ := List.append_of_mem hT
  unfold toR
  rw [List.foldr_append, List.foldr_cons, if_pos h1]
  refine foldr_below i T a (fun x hx => h x (by simp [hx]) ?_)
  rw [List.pairwise_append] at hs
  exact hs.2.2 x hx T (by simp)

theorem ends_apart (s : ByteArray) (p : Nat) (hp : p ∈ posns s) (x : Nat) (hx : x ∈ ends s) : x ≤ p ∨ p + wd s p ≤ x := by
  rcases (mem_ends s x).1 hx with hx | rfl
  · by_cases h : p < x
    · exact .inr (posG_apart s 0 p hp x hx h)
    · exact .inl (by omega)
  · exact .inr (wd_fits s p (posG_ge s 0 p hp).2)

theorem next_end (s : ByteArray) (p : Nat) (hp : p ∈ posns s) : p + wd s p ∈ ends s := by
  rw [mem_ends]
  have hlt := (posG_ge s 0 p hp).2
  have hf := wd_fits s p hlt
  by_cases he : p + wd s p = s.size
  · exact .inr he
  · left
    obtain ⟨q, hq, h1, h2⟩ := posG_cover s 0 (p + wd s p) (by omega) (by omega)
    have := wd_pos s p
    by_cases e : q = p + wd s p
    · rw [← e]; exact hq
    · rcases ends_apart s q hq p ((mem_ends s p).2 (.inl hp)) with h | h
      · rcases Nat.lt_or_ge p q with h3 | h3
        · have := posG_apart s 0 p hp q hq h3; omega
        · have : p = q := by omega
          subst this; omega
      · omega

theorem inB_fr (s : ByteArray) (i F T : Nat) (h : InB s i F T) : frL i (ends s) = F := by
  rcases h with ⟨hm, rfl, rfl⟩ | ⟨hm, p, hp, h1, h2, rfl, rfl⟩
  · exact frL_at (ends_sorted s) hm (Nat.le_refl _) (fun x _ hx => hx)
  · refine frL_at (ends_sorted s) ((mem_ends s _).2 (.inl hp)) (by omega) (fun x hx hlt => ?_)
    rcases ends_apart s F hp x hx with h | h <;> omega

theorem inB_to (s : ByteArray) (i F T : Nat) (h : InB s i F T) : toR i (ends s) = T := by
  rcases h with ⟨hm, rfl, rfl⟩ | ⟨hm, p, hp, h1, h2, rfl, rfl⟩
  · exact toR_at (ends_sorted s) hm (Nat.le_refl _) (fun x _ hx => hx)
  · refine toR_at (ends_sorted s) (next_end s F hp) (by omega) (fun x hx hlt => ?_)
    rcases ends_apart s F hp x hx with h | h <;> omega

end Go.Proofs.Ytjccoiephdopkaa

/- The boundaries of a text: what the document's Ends answers. -/
namespace Go.Proofs.Ytjccoiephdopkaa.SQ
set_option linter.unusedVariables false
set_option linter.unusedSimpArgs false
open Go Go.RowKit
set_option maxRecDepth 100000

/-- Numbers, as values. -/
def ints (l : List Nat) : List Value := l.map fun (i : Nat) => Value.int .i64 i
theorem ints_snoc (l : List Nat) (i : Nat) : ints (l ++ [i]) = ints l ++ [.int .i64 i] := by simp [ints]

theorem rows_apart {w : World} {b1 b2 : Nat} {e1 e2 : TypeId} {s1 s2 n1 n2 : Nat} {v1 v2 : Value} {x1 x2 : List Value} (h1 : w.ownsRow b1 e1 s1 v1 n1 x1) (h2 : w.ownsRow b2 e2 s2 v2 n2 x2) (he : e1 ≠ e2) : v1.ownBlock = none ∨ v1.ownBlock ≠ v2.ownBlock := by
  rcases h1.2 with ⟨rfl, _⟩ | ⟨g1, c1, cur1, rfl, _, hg1, _⟩
  · exact .inl rfl
  · rcases h2.2 with ⟨rfl, _⟩ | ⟨g2, c2, cur2, rfl, _, hg2, _⟩
    · right; simp [Value.ownBlock]
    · right
      simp only [Value.ownBlock, ne_eq, Option.some.injEq]
      intro e
      rw [e, hg2] at hg1
      cases hg1
      exact he rfl

theorem own_slice {w : World} {b : Nat} {e : TypeId} {sz n : Nat} {v : Value} {xs : List Value} (h : w.ownsRow b e sz v n xs) : ∃ o cap, v = .slice o n cap ∧ (0 < n → ∃ g, o = some ⟨g, 0, none⟩) := by
  rcases h.2 with ⟨rfl, rfl⟩ | ⟨g, cap, cur, rfl, _⟩
  · exact ⟨none, 0, rfl, fun h => by omega⟩
  · exact ⟨_, cap, rfl, fun _ => ⟨g, rfl⟩⟩

theorem cell_one_new2 (W : World) (o : Obj) (x : Value) (t : TypeId) : ∀ j u, [x][j]? = some u → ((W.alloc o).alloc (.cells #[x] t)).cell? ((⟨W.heap.size + 1, 0, none⟩ : Addr).add j) = some u := by
  have := World.alloc_heap_new (W.alloc o) (.cells #[x] t)
  rw [World.size_alloc] at this
  exact World.news_of_block (cs := #[x]) this

theorem infoI : (Try.prog.info? 3).map (fun i => (i.zero, i.size, i.bytes)) = some (some (.int .i64 0), 1, 8) := by kernel_rfl

/-- Piece number k of a list of pieces, where it lies. -/
theorem nth_cells {T : ByteArray} {l : List Nat} {base g cap n : Nat} {w : World} (h : w.ownsRow base 69 4 (.slice (some ⟨g, 0, none⟩) n cap) n (pcs T l)) (hn : l.length = n) (k : Nat) (hk : k < n) (p : Nat) (hp : l[k]? = some p) :
    w.cell? ⟨g, k * 4, none⟩ = some (.int .i64 p) ∧ w.cell? ⟨g, k * 4 + 1, none⟩ = some (.int .i64 (wd T p : Nat)) ∧
      w.cell? ⟨g, k * 4 + 2, none⟩ = some (.int .i32 (rn T p : Nat)) ∧ w.cell? ⟨g, k * 4 + 3, none⟩ = some (.bool (bk T p)) := by
  have hc := fun j (hj : j < n * 4) => h.cellAt j hj
  have hs : l = l.take k ++ p :: l.drop (k + 1) := by
    have h1 : k < l.length := by omega
    rw [List.getElem?_eq_getElem h1] at hp
    rw [← Option.some.inj hp, List.getElem_cons_drop, List.take_append_drop]
  have hpcs : pcs T l = pcs T (l.take k) ++ ([.int .i64 p, .int .i64 (wd T p : Nat), .int .i32 (rn T p : Nat), .bool (bk T p)] ++ pcs T (l.drop (k + 1))) := by
    conv => lhs; rw [hs]
    simp [pcs]
  have hl : (pcs T (l.take k)).length = k * 4 := by rw [pcs_len, List.length_take]; omega
  refine ⟨?_, ?_, ?_, ?_⟩
  · rw [hc _ (by omega), hpcs, List.getElem?_append_right (by omega), show k * 4 - (pcs T (l.take k)).length = 0 by omega]; rfl
  · rw [hc _ (by omega), hpcs, List.getElem?_append_right (by omega), show k * 4 + 1 - (pcs T (l.take k)).length = 1 by omega]; rfl
  · rw [hc _ (by omega), hpcs, List.getElem?_append_right (by omega), show k * 4 + 2 - (pcs T (l.take k)).length = 2 by omega]; rfl
  · rw [hc _ (by omega), hpcs, List.getElem?_append_right (by omega), show k * 4 + 3 - (pcs T (l.take k)).length = 3 by omega]; rfl

/-- Number k of a list of numbers, where it lies. -/
theorem nth_int {l : List Nat} {e : TypeId} {base g cap n : Nat} {w : World} (h : w.ownsRow base e 1 (.slice (some ⟨g, 0, none⟩) n cap) n (ints l)) (hn : l.length = n) (k : Nat) (hk : k < n) (p : Nat) (hp : l[k]? = some p) :
    w.cell? ⟨g, k, none⟩ = some (.int .i64 p) := by
  rw [h.cellAt k (by omega)]
  simp [ints, hp]

def EnPost (s : ByteArray) (w : World) (e : Ending) (w' : World) : Prop :=
  ∃ g cap, e = .returned (.slice (some ⟨g, 0, none⟩) (ends s).length cap) ∧ w'.ownsRow w.heap.size 3 1 (.slice (some ⟨g, 0, none⟩) (ends s).length cap) (ends s).length (ints (ends s)) ∧ Below w.heap.size w w'

def EnRel (s : ByteArray) (w : World) (pv : Value) (v i : Value) (wr : World) : Prop :=
  ∃ k : Nat, i = .int .i64 k ∧ k ≤ (posns s).length ∧ wr.ownsRow w.heap.size 3 1 v k (ints ((posns s).take k)) ∧ wr.ownsRow w.heap.size 69 4 pv (posns s).length (pcs s (posns s)) ∧ Below w.heap.size w wr

end Go.Proofs.Ytjccoiephdopkaa.SQ

/- Small facts on a block of cells that the call itself has made. -/
namespace Go.Proofs.Ytjccoiephdopkaa.SQ
set_option linter.unusedVariables false
set_option linter.unusedSimpArgs false
open Go Go.RowKit

/-- Block B holds the cells cs of type t, none of them frozen. -/
def Blk (W : World) (B : Nat) (cs : Array Value) (t : TypeId) : Prop := W.heap[B]? = some (.cells cs t (0, 0))

theorem Blk.lt {W : World} {B : Nat} {cs : Array Value} {t : TypeId} (h : Blk W B cs t) : B < W.heap.size := (Array.getElem?_eq_some_iff.1 h).1
theorem Blk.cell {W : World} {B : Nat} {cs : Array Value} {t : TypeId} (h : Blk W B cs t) (o : Nat) : W.cell? ⟨B, o, none⟩ = cs[o]? := by
  simp only [World.cell?, show W.heap[B]? = _ from h]; rfl
theorem Blk.frozen {W : World} {B : Nat} {cs : Array Value} {t : TypeId} (h : Blk W B cs t) (o : Nat) : W.frozen? ⟨B, o, none⟩ = false := by simp [World.frozen?, show W.heap[B]? = _ from h]
theorem Blk.new (W : World) (cs : Array Value) (t : TypeId) : Blk (W.alloc (.cells cs t)) W.heap.size cs t := World.alloc_heap_new W _
theorem Blk.kept {W W' : World} {row : Option Nat} {B : Nat} {cs : Array Value} {t : TypeId} (h : Blk W B cs t) (hg : W.grownBy W' row) (hne : some B ≠ row) : Blk W' B cs t := (hg.block B h.lt hne).trans h
theorem Blk.alloc {W : World} {B : Nat} {cs : Array Value} {t : TypeId} (h : Blk W B cs t) (o : Obj) : Blk (W.alloc o) B cs t := h.kept (World.grownBy_alloc W o none) (by simp)
theorem Blk.below {W W' : World} {B n : Nat} {cs : Array Value} {t : TypeId} (h : Blk W B cs t) (hb : Below n W W') (hn : B < n) : Blk W' B cs t := (hb.block B hn).trans h
theorem Blk.below' {W W' : World} {B : Nat} {cs : Array Value} {t : TypeId} (h : Blk W B cs t) (hb : Below W.heap.size W W') : Blk W' B cs t := h.below hb h.lt
theorem Blk.drew {W : World} {B : Nat} {cs : Array Value} {t : TypeId} (h : Blk W B cs t) : Blk W.drew B cs t := h

theorem Blk.set {W : World} {B : Nat} {cs : Array Value} {t : TypeId} (h : Blk W B cs t) (o : Nat) (v : Value) : Blk (W.setCell ⟨B, o, none⟩ v) B (cs.setIfInBounds o v) t := by
  obtain ⟨hlt, hk⟩ := Array.getElem?_eq_some_iff.1 h
  show (W.heap.modify B _)[B]? = _
  rw [Array.getElem?_eq_getElem (by rw [Array.size_modify]; exact hlt), Array.getElem_modify_self, hk]
  rfl
theorem grownBy_setCell (W : World) (b o : Nat) (v : Value) : W.grownBy (W.setCell ⟨b, o, none⟩ v) (some b) :=
  ⟨rfl, rfl, rfl, (by show W.heap.size ≤ (W.heap.modify _ _).size; rw [Array.size_modify]; exact Nat.le_refl _), fun k _ hk => Below.heap_setCell _ _ _ k (fun e => hk (by rw [e]))⟩
theorem Blk.other {W : World} {B B' : Nat} {cs : Array Value} {t : TypeId} (h : Blk W B cs t) (hne : B ≠ B') (o : Nat) (u : Value) : Blk (W.setCell ⟨B', o, none⟩ u) B cs t := h.kept (grownBy_setCell W B' o u) (fun e => hne (by cases e; rfl))
theorem Blk.not_row {W : World} {B : Nat} {cs : Array Value} {t e : TypeId} (h : Blk W B cs t) (hte : t ≠ e) {base size k : Nat} {v : Value} {xs : List Value} (hr : W.ownsRow base e size v k xs) : some B ≠ v.ownBlock := by
  rcases hr.2 with ⟨rfl, _⟩ | ⟨g, cap, cur, rfl, _, hgb, _⟩
  · simp [Value.ownBlock]
  · intro e'
    obtain rfl : B = g := by simpa [Value.ownBlock] using e'
    have := (show W.heap[B]? = _ from h).symm.trans hgb
    simp at this
    exact hte this.2
/-- A row of another type stands when a cell of B is written. -/
theorem row_other {W : World} {B : Nat} {cs : Array Value} {t e : TypeId} (h : Blk W B cs t) (hte : t ≠ e) {base size k : Nat} {v : Value} {xs : List Value} (hr : W.ownsRow base e size v k xs) (o : Nat) (u : Value) : (W.setCell ⟨B, o, none⟩ u).ownsRow base e size v k xs :=
  hr.kept (grownBy_setCell W B o u) (.inr (fun e1 => h.not_row hte hr e1.symm))
theorem drew_row {W : World} {base : Nat} {e : TypeId} {size k : Nat} {v : Value} {xs : List Value} (hr : W.ownsRow base e size v k xs) : W.drew.ownsRow base e size v k xs := hr
end Go.Proofs.Ytjccoiephdopkaa.SQ

/- What Nth and both Cut answer. -/
namespace Go.Proofs.Ytjccoiephdopkaa.SQ
set_option linter.unusedVariables false
set_option linter.unusedSimpArgs false
open Go Go.RowKit Go.Shelf
set_option maxRecDepth 100000
attribute [local go_sem] Oper.semAt_some

theorem blk_own {β : Type} (B : Nat) (t : TypeId) (f : β → Array Value) : Own (fun s W => Blk W B (f s) t) := fun s X Y row hs hg hrow =>
  hs.kept hg (fun e' => by
    obtain ⟨o, ho, hc⟩ := hrow B e'.symm
    rw [show X.heap[B]? = _ from hs] at ho; cases ho; cases hc)

def zP : Array Value := #[.int .i64 0, .int .i64 0, .int .i32 0, .bool false]
/-- The last place of a list. -/
def lstN {s : ByteArray} (l : List (Pos s)) : Nat := match l.getLast? with | some x => x.1 | none => 0
theorem lstN_snoc {s : ByteArray} (l : List (Pos s)) (x : Pos s) : lstN (l ++ [x]) = x.1 := by simp [lstN]

def nthR (s : ByteArray) (k : Nat) : Value := match (posns s)[k]? with
  | some p => .tuple #[.agg (pcC s p), .bool true]
  | none => .tuple #[.agg zP, .bool false]
theorem nthR_no {s : ByteArray} {k : Nat} (h : (posns s).length ≤ k) : nthR s k = .tuple #[.agg zP, .bool false] := by
  unfold nthR; rw [List.getElem?_eq_none h]
theorem nthR_yes {s : ByteArray} {k p : Nat} (h : (posns s)[k]? = some p) : nthR s k = .tuple #[.agg (pcC s p), .bool true] := by
  unfold nthR; rw [h]
theorem pre_nth {s : ByteArray} {pre : List (Pos s)} {k : Nat} (h : pre.map (·.1) <+: posns s) (hl : pre.length = k + 1) : (posns s)[k]? = some (lstN pre) := by
  obtain ⟨rest, hr⟩ := h
  have hne : pre ≠ [] := by rintro rfl; cases hl
  obtain ⟨l, x, rfl⟩ : ∃ l x, pre = l ++ [x] := ⟨pre.dropLast, pre.getLast hne, (List.dropLast_concat_getLast hne).symm⟩
  have : l.length = k := by simp at hl; exact hl
  rw [← hr, lstN_snoc, List.map_append, List.map_singleton, List.append_assoc, List.getElem?_append_right (by simp; omega)]
  simp [this]

/-- The text of the first n pieces ends here. -/
def cutN (s : ByteArray) (n : Int) : Nat := (ends s).getD (min n.toNat ((ends s).length - 1)) 0
theorem ends_len (s : ByteArray) : (ends s).length = (posns s).length + 1 := by simp [ends]
theorem cutN_low (s : ByteArray) (n : Int) (h : n ≤ 0) : cutN s n = 0 := by
  unfold cutN
  rw [show n.toNat = 0 by omega, Nat.zero_min]
  unfold ends
  by_cases h0 : 0 < s.size
  · rw [posns_G, posG_cons s 0 h0]; rfl
  · have hz : s.size = 0 := by omega
    rw [posns_G, posG_end s 0 (by omega)]; simp [hz]
theorem cutN_in (s : ByteArray) (n : Nat) (p : Nat) (h : (posns s)[n]? = some p) : cutN s n = p := by
  have hl : n < (posns s).length := by
    rcases Nat.lt_or_ge n (posns s).length with h' | h'
    · exact h'
    · rw [List.getElem?_eq_none h'] at h; cases h
  unfold cutN
  rw [ends_len, show min ((n : Int).toNat) ((posns s).length + 1 - 1) = n by omega, List.getD_eq_getElem?_getD]
  unfold ends
  rw [List.getElem?_append_left hl, h]; rfl
theorem cutN_out (s : ByteArray) (n : Nat) (h : (posns s).length ≤ n) : cutN s n = s.size := by
  unfold cutN
  rw [ends_len, show min ((n : Int).toNat) ((posns s).length + 1 - 1) = (posns s).length by omega, List.getD_eq_getElem?_getD]
  unfold ends
  rw [List.getElem?_append_right (Nat.le_refl _)]; simp
theorem ext_none (s : ByteArray) : s.extract 0 0 = ByteArray.empty := by
  apply ByteArray.ext; simp
theorem ext_full (s : ByteArray) : s.extract 0 s.size = s := by simp
theorem ext_over (s : ByteArray) : s.extract s.size s.size = ByteArray.empty := by
  apply ByteArray.ext; simp

theorem cutN_get (s : ByteArray) (n : Int) : (ends s)[min n.toNat (posns s).length]? = some (cutN s n) := by
  unfold cutN
  have h := ends_len s
  rw [h, show (posns s).length + 1 - 1 = (posns s).length by omega, List.getD_eq_getElem?_getD, List.getElem?_eq_getElem (by omega)]
  rfl
theorem cutN_le (s : ByteArray) (n : Int) : cutN s n ≤ s.size := by
  have h := List.mem_of_getElem? (cutN_get s n)
  rcases (mem_ends s _).1 h with h | h
  · have := (posG_ge s 0 _ h).2; omega
  · omega

end Go.Proofs.Ytjccoiephdopkaa.SQ

/- Stage 27: Between. -/
namespace Go.Proofs.Ytjccoiephdopkaa
set_option linter.unusedVariables false
set_option linter.unusedSimpArgs false
open Go Go.RowKit Go.Shelf
set_option maxRecDepth 100000

/-- One maker that has been told these bytes. -/
def Mk1 (w0 : World) (B b : Nat) (W : World) (A : List Atm) : Prop :=
  ∃ vo vp vd, MkB W B b vo vp vd (fdL A mk0) ∧ Below w0.heap.size w0 W ∧ w0.heap.size ≤ B
section
variable {w0 W X : World} {B b : Nat} {A : List Atm}
theorem Mk1.below (h : Mk1 w0 B b W A) (hb : Below W.heap.size W X) : Mk1 w0 B b X A := by
  obtain ⟨vo, vp, vd, h1, h2, h3⟩ := h
  exact ⟨_, _, _, h1.below hb, h2.trans (hb.mono h2.size), h3⟩
theorem mk1_keep (h : Mk1 w0 B b W A) (hA : A.length ≤ 1000000) (n : Nat) (hn : n ≤ 65536) :
    Calls Try.prog 26 #[.pointer (some ⟨B, 0, none⟩), .int .i64 n] W fun e W' => e = .returned (.tuple #[]) ∧ Mk1 w0 B b W' (A ++ List.replicate n .K) := by
  obtain ⟨vo, vp, vd, h1, h2, h3⟩ := h
  have hbd := fd_bd A
  refine (keep_any h1 n hn (by omega) (by omega) (by omega) (by omega)).mono ?_
  rintro e W' ⟨rfl, vo', vp', vd', g1, g2⟩
  rw [keep_fd, ← fdL_app] at g1
  exact ⟨rfl, _, _, _, g1, g2.below h1 h3 h2, h3⟩
theorem mk1_puts (h : Mk1 w0 B b W A) (hA : A.length ≤ 1000000) (s : ByteArray) (hs : s.size ≤ 1000000) :
    Calls Try.prog 28 #[.pointer (some ⟨B, 0, none⟩), .string s] W fun e W' => e = .returned (.tuple #[]) ∧ Mk1 w0 B b W' (A ++ (bL s).map .P) := by
  obtain ⟨vo, vp, vd, h1, h2, h3⟩ := h
  have hbd := fd_bd A
  refine (puts_any h1 s hs (by omega) (by omega)).mono ?_
  rintro e W' ⟨rfl, vo', vp', vd', g1, g2⟩
  rw [puts_fd, ← fdL_app] at g1
  exact ⟨rfl, _, _, _, g1, g2.below h1 h3 h2, h3⟩
theorem mk1_drops (h : Mk1 w0 B b W A) (hA : A.length ≤ 1000000) (s : ByteArray) (hs : s.size ≤ 1000000) :
    Calls Try.prog 27 #[.pointer (some ⟨B, 0, none⟩), .string s] W fun e W' => e = .returned (.tuple #[]) ∧ Mk1 w0 B b W' (A ++ (bL s).map .D) := by
  obtain ⟨vo, vp, vd, h1, h2, h3⟩ := h
  have hbd := fd_bd A
  refine (drops_any h1 s hs (by omega) (by omega)).mono ?_
  rintro e W' ⟨rfl, vo', vp', vd', g1, g2⟩
  rw [drops_fd, ← fdL_app] at g1
  exact ⟨rfl, _, _, _, g1, g2.below h1 h3 h2, h3⟩
theorem mk1_end (h : Mk1 w0 B b W A) (hA : A.length ≤ 1000000) :
    Calls Try.prog 29 #[.pointer (some ⟨B, 0, none⟩)] W fun e W' => ∃ v, e = .returned v ∧ W'.ownsRow b 29 3 v (nfA A).length ((nfA A).flatMap encS) ∧ Below w0.heap.size w0 W' := by
  obtain ⟨vo, vp, vd, h1, h2, h3⟩ := h
  have hbd := fd_bd A
  refine (end_any h1 (by omega) (by omega) (by omega)).mono ?_
  rintro e W' ⟨v, rfl, g1, g2⟩
  exact ⟨v, rfl, g1.ro, g2.below h1 h3 h2⟩
theorem mk1_new (h : Below w0.heap.size w0 W) : Mk1 w0 W.heap.size (W.heap.size + 1) (W.alloc (.cells #[.slice none 0 0, .int .i64 0, .slice none 0 0, .slice none 0 0] 61)) [] :=
  ⟨_, _, _, ⟨Blk.new W _ _, World.ownsRow_nil _ _ _ _, World.ownsRow_nil _ _ _ _, World.ownsRow_nil _ _ _ _, .inl rfl, by omega, by simp⟩, h.trans (((Below.refl W.heap.size W).alloc (Nat.le_refl _) _).mono h.size), h.size⟩
end

/-- From one text to another: the head is kept, what stands between is put and dropped, the tail is kept. -/
def bnA (s t : ByteArray) (p M : Nat) : List Atm :=
  List.replicate p .K ++ (bL (t.extract p (t.size - M))).map .P ++ (bL (s.extract p (s.size - M))).map .D ++ List.replicate M .K
/-- Where head and tail are the same. -/
def BnK (s t : ByteArray) (p M : Nat) : Prop :=
  ∃ n, SQ.Lk s t p n ∧ SQ.St s t p ∧ bkN (s.extract p s.size) (t.extract p t.size) (posns (s.extract p s.size)).length (posns (t.extract p t.size)).length = M
theorem cut_lk {s t : ByteArray} {p n : Nat} (h : SQ.Lk s t p n) : SQ.cutN s n = p := by
  obtain ⟨h1, h2, h3⟩ := SQ.lk_lenA h
  rcases Nat.lt_or_ge p s.size with hl | hl
  · exact SQ.cutN_in s n p (h3 hl)
  · have hp : p = s.size := Nat.le_antisymm h.1 hl
    rw [SQ.cutN_out s n (by have := h2.2 hp; omega), hp]
theorem bnk_le {s t : ByteArray} {p M : Nat} (h : BnK s t p M) : p + M ≤ s.size ∧ p + M ≤ t.size := by
  obtain ⟨n, h1, h2, rfl⟩ := h
  obtain ⟨a1, a2, _⟩ := bk_fact (s.extract p s.size) (t.extract p t.size) _ _ _ _ (eg_end _) (eg_end _)
  rw [tl_size] at a1 a2
  have := h1.1
  have := h1.2.1
  omega
theorem bnk_one {s t : ByteArray} {p M q N : Nat} (h : BnK s t p M) (g : BnK s t q N) : p = q ∧ M = N := by
  obtain ⟨n, h1, h2, h3⟩ := h
  obtain ⟨m, g1, g2, g3⟩ := g
  obtain ⟨rfl, _⟩ := SQ.lk_one h1 h2 g1 g2
  exact ⟨rfl, h3.symm.trans g3⟩
theorem bnA_len {s t : ByteArray} {p M : Nat} (h : BnK s t p M) : (bnA s t p M).length ≤ s.size + t.size := by
  have := bnk_le h
  unfold bnA
  simp only [List.length_append, List.length_replicate, List.length_map, bL_len, ByteArray.size_extract]
  omega

def BeP (s t : ByteArray) (w : World) (e : Ending) (w' : World) : Prop :=
  ∃ p M v, BnK s t p M ∧ e = .returned (.tuple #[v, .int .i64 0]) ∧ w'.ownsRow w.heap.size 29 3 v (nfA (bnA s t p M)).length ((nfA (bnA s t p M)).flatMap encS) ∧ Below w.heap.size w w'

end Go.Proofs.Ytjccoiephdopkaa
