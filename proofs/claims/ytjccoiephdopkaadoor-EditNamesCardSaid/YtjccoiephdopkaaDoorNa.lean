/- Stage 27: pieces of two texts, from the end on. -/
import Derived.Test.YtjccoiephdopkaaDoorQQBef
import Derived.Test.YtjccoiephdopkaaDoorQQCm
import Derived.Test.YtjccoiephdopkaaDoorTl
namespace Go.Proofs.YtjccoiephdopkaaDoor
set_option linter.unusedVariables false
set_option linter.unusedSimpArgs false
open Go Go.RowKit
set_option maxRecDepth 100000

theorem G_split (s : ByteArray) : ∀ (pre : List Nat) (a p : Nat) (rest : List Nat), posG s a = pre ++ p :: rest → a ≤ p ∧ p < s.size ∧ rest = posG s (p + wd s p)
  | [], a, p, rest, h => by
    rcases Nat.lt_or_ge a s.size with hl | hl
    · rw [posG_cons s a hl] at h
      injection h with h1 h2
      subst h1
      exact ⟨Nat.le_refl _, hl, h2.symm⟩
    · rw [posG_end s a hl] at h; cases h
  | x :: pre, a, p, rest, h => by
    rcases Nat.lt_or_ge a s.size with hl | hl
    · rw [posG_cons s a hl] at h
      injection h with h1 h2
      obtain ⟨g1, g2, g3⟩ := G_split s pre _ _ _ h2
      exact ⟨by omega, g2, g3⟩
    · rw [posG_end s a hl] at h; cases h
theorem posG_one {s : ByteArray} {a b : Nat} (ha : a ≤ s.size) (hb : b ≤ s.size) (h : posG s a = posG s b) : a = b := by
  rcases Nat.lt_or_ge a s.size with hl | hl
  · rcases Nat.lt_or_ge b s.size with gl | gl
    · rw [posG_cons s a hl, posG_cons s b gl] at h
      injection h
    · rw [posG_cons s a hl, posG_end s b gl] at h; cases h
  · rcases Nat.lt_or_ge b s.size with gl | gl
    · rw [posG_cons s b gl, posG_end s a hl] at h; cases h
    · omega

/-- The first i pieces end at q. -/
def Eg (s : ByteArray) (i q : Nat) : Prop := q ≤ s.size ∧ i ≤ (posns s).length ∧ (posns s).drop i = posG s q
theorem eg_end (s : ByteArray) : Eg s (posns s).length s.size := ⟨Nat.le_refl _, Nat.le_refl _, by rw [List.drop_length, posG_end s _ (Nat.le_refl _)]⟩
theorem eg_zero {s : ByteArray} {q : Nat} (h : Eg s 0 q) : q = 0 := by
  obtain ⟨h1, _, h3⟩ := h
  exact (posG_one (Nat.zero_le _) h1 h3).symm
theorem eg_prev {s : ByteArray} {i q : Nat} (h : Eg s (i + 1) q) : ∃ p, (posns s)[i]? = some p ∧ p < s.size ∧ p + wd s p = q ∧ Eg s i p := by
  obtain ⟨hq, hi, hd⟩ := h
  have hl : i < (posns s).length := by omega
  have e0 : (posns s).drop i = (posns s)[i] :: (posns s).drop (i + 1) := List.drop_eq_getElem_cons hl
  have e : posns s = (posns s).take i ++ (posns s)[i] :: (posns s).drop (i + 1) := by rw [← e0, List.take_append_drop]
  obtain ⟨_, g2, g3⟩ := G_split s _ 0 _ _ e
  refine ⟨(posns s)[i], List.getElem?_eq_getElem hl, g2, posG_one (wd_fits s _ g2) hq (g3.symm.trans hd), by omega, by omega, ?_⟩
  rw [e0, g3, ← posG_cons s _ g2]
theorem eg_at {s : ByteArray} {i q : Nat} (h : Eg s i q) : (i < (posns s).length → (posns s)[i]? = some q ∧ q < s.size) ∧ (¬ i < (posns s).length → q = s.size) := by
  obtain ⟨hq, hi, hd⟩ := h
  refine ⟨fun hl => ?_, fun hl => ?_⟩
  · have e0 : (posns s).drop i = (posns s)[i] :: (posns s).drop (i + 1) := List.drop_eq_getElem_cons hl
    rw [hd] at e0
    rcases Nat.lt_or_ge q s.size with gl | gl
    · rw [posG_cons s q gl] at e0
      injection e0 with e1
      exact ⟨by rw [List.getElem?_eq_getElem hl, e1], gl⟩
    · rw [posG_end s q gl] at e0; cases e0
  · rw [List.drop_eq_nil_of_le (by omega)] at hd
    exact posG_one hq (Nat.le_refl _) (by rw [← hd, posG_end s _ (Nat.le_refl _)])

/-- A head's pieces. -/
theorem hq_isF (s : ByteArray) (n i m : Nat) (hn : n ≤ s.size) (hm : i + m ≤ n) (h1 : 1 ≤ m) (h : isF s i m = true) : isF (s.extract 0 n) i m = true := by
  have hz := size_head s n hn
  match m, h, hm, h1 with
  | 1, h, hm, _ => rw [isF1] at h ⊢; rw [bt_head s n i hn (by omega)]; exact h
  | 2, h, hm, _ => rw [isF2] at h; rw [isF2, hz]; obtain ⟨a, b, c, d, e⟩ := h; rw [bt_head s n i hn (by omega), bt_head s n (i + 1) hn (by omega)]; exact ⟨a, b, by omega, d, e⟩
  | 3, h, hm, _ =>
    rw [isF3] at h; rw [isF3, hz]
    obtain ⟨a, b, c, d, e, f, g, j, k, l⟩ := h
    rw [bt_head s n i hn (by omega), bt_head s n (i + 1) hn (by omega), bt_head s n (i + 2) hn (by omega)]
    exact ⟨a, b, by omega, d, e, by omega, g, j, k, l⟩
  | 4, h, hm, _ =>
    rw [isF4] at h; rw [isF4, hz]
    obtain ⟨a, b, c, d, e, f, g, j, f2, g2, j2, k, l⟩ := h
    rw [bt_head s n i hn (by omega), bt_head s n (i + 1) hn (by omega), bt_head s n (i + 2) hn (by omega), bt_head s n (i + 3) hn (by omega)]
    exact ⟨a, b, by omega, d, e, by omega, g, j, by omega, g2, j2, k, l⟩
  | m + 5, h, _, _ => simp [isF] at h
theorem hq_len (s : ByteArray) (n i : Nat) (hn : n ≤ s.size) (hi : i < n) (hm : i + wd s i ≤ n) : lenN (s.extract 0 n) i = lenN s i := by
  have hz := size_head s n hn
  by_cases h0 : lenN s i = 0
  · by_cases h1 : lenN (s.extract 0 n) i = 0
    · rw [h0, h1]
    · exact ((head_form s n i hn hi h1).1).symm
  · have hw : wd s i = lenN s i := by unfold wd; rw [if_neg h0]
    rw [hw] at hm
    rcases five s i (by omega) with ⟨hF, hl, _⟩ | ⟨hF, hl, _⟩ | ⟨hF, hl, _⟩ | ⟨hF, hl, _⟩ | ⟨hl, _⟩
    · rw [hl] at hm ⊢; exact lenN_of_1 _ _ (by omega) (hq_isF s n i 1 hn hm (by omega) hF)
    · rw [hl] at hm ⊢; exact lenN_of_2 _ _ (hq_isF s n i 2 hn hm (by omega) hF)
    · rw [hl] at hm ⊢; exact lenN_of_3 _ _ (hq_isF s n i 3 hn hm (by omega) hF)
    · rw [hl] at hm ⊢; exact lenN_of_4 _ _ (hq_isF s n i 4 hn hm (by omega) hF)
    · exact absurd hl h0
theorem hq_wd (s : ByteArray) (n i : Nat) (hn : n ≤ s.size) (hi : i < n) (hm : i + wd s i ≤ n) : wd (s.extract 0 n) i = wd s i := by
  unfold wd; rw [hq_len s n i hn hi hm]
theorem hq_bk (s : ByteArray) (n i : Nat) (hn : n ≤ s.size) (hi : i < n) (hm : i + wd s i ≤ n) : bk (s.extract 0 n) i = bk s i := by
  unfold bk; rw [hq_len s n i hn hi hm]
theorem hq_rn (s : ByteArray) (n i : Nat) (hn : n ≤ s.size) (hi : i < n) (hm : i + wd s i ≤ n) : rn (s.extract 0 n) i = rn s i := by
  have hl := hq_len s n i hn hi hm
  by_cases h0 : lenN s i = 0
  · rw [show rn (s.extract 0 n) i = 65533 by unfold rn; rw [hl, if_pos h0], show rn s i = 65533 by unfold rn; rw [if_pos h0]]
  · exact ((head_form s n i hn hi (by rw [hl]; exact h0)).2).symm

theorem hq_posG (s : ByteArray) (q : Nat) (hq : q ≤ s.size) : ∀ (pre : List Nat) (a p : Nat) (rest : List Nat), posG s a = pre ++ p :: rest → p + wd s p = q → posG (s.extract 0 q) a = pre ++ [p]
  | [], a, p, rest, h, hp => by
    have hz := size_head s q hq
    have h1 := wd_pos s p
    have hl : a < s.size := by
      rcases Nat.lt_or_ge a s.size with hl | hl
      · exact hl
      · rw [posG_end s a hl] at h; cases h
    rw [posG_cons s a hl] at h
    injection h with h2 h3
    subst h2
    rw [posG_cons (s.extract 0 q) a (by omega), hq_wd s q a hq (by omega) (by omega), hp, posG_end (s.extract 0 q) q (by omega)]
    rfl
  | x :: pre, a, p, rest, h, hp => by
    have hz := size_head s q hq
    have h1 := wd_pos s p
    have hl : a < s.size := by
      rcases Nat.lt_or_ge a s.size with hl | hl
      · exact hl
      · rw [posG_end s a hl] at h; cases h
    rw [posG_cons s a hl] at h
    injection h with h2 h3
    have hg := (G_split s pre _ _ _ h3).1
    have h4 := wd_pos s a
    rw [posG_cons (s.extract 0 q) a (by omega), hq_wd s q a hq (by omega) (by omega), hq_posG s q hq pre _ p rest h3 hp, h2]
    rfl
/-- The last piece ahead of a boundary. -/
theorem before_eg {s : ByteArray} {i q p : Nat} (h : Eg s (i + 1) q) (hp : (posns s)[i]? = some p) : SQ.pcV (s.extract 0 q) (SQ.lp (s.extract 0 q)) = .agg #[.int .i64 (p : Nat), .int .i64 (wd s p : Nat), .int .i32 (rn s p : Nat), .bool (bk s p)] := by
  obtain ⟨p', e1, e2, e3, e4⟩ := eg_prev h
  rw [hp] at e1
  obtain rfl := Option.some.inj e1
  obtain ⟨hq, hi, hd⟩ := h
  have hl : i < (posns s).length := by omega
  have e0 : (posns s).drop i = (posns s)[i] :: (posns s).drop (i + 1) := List.drop_eq_getElem_cons hl
  have e5 : (posns s)[i] = p := by rw [List.getElem?_eq_getElem hl] at hp; exact Option.some.inj hp
  have e : posns s = (posns s).take i ++ p :: (posns s).drop (i + 1) := by rw [← e5, ← e0, List.take_append_drop]
  have g := hq_posG s q hq _ 0 p _ e e3
  have h1 := wd_pos s p
  rw [SQ.lp_eq (s.extract 0 q) _ p g]
  simp only [SQ.pcV, SQ.pcC, hq_wd s q p hq (by omega) (by omega), hq_rn s q p hq (by omega) (by omega), hq_bk s q p hq (by omega) (by omega)]

/-- Is the piece at p of s the one at q of t? -/
def smeB (s t : ByteArray) (p q : Nat) : Bool := decide (s.extract p (p + wd s p) = t.extract q (q + wd t q))
theorem smeB_yes {s t : ByteArray} {p q : Nat} : smeB s t p q = true ↔ s.extract p (p + wd s p) = t.extract q (q + wd t q) := by simp [smeB]
theorem smeB_no {s t : ByteArray} {p q : Nat} : smeB s t p q = false ↔ ¬ s.extract p (p + wd s p) = t.extract q (q + wd t q) := by simp [smeB]
theorem sm_wd {s t : ByteArray} {p q : Nat} (hp : p < s.size) (hq : q < t.size) (h : smeB s t p q = true) : wd s p = wd t q := by
  have h1 := congrArg ByteArray.size (smeB_yes.1 h)
  have h2 := wd_fits s p hp
  have h3 := wd_fits t q hq
  rw [ByteArray.size_extract, ByteArray.size_extract] at h1
  omega
/-- How many bytes the pieces have that are the same, from the i-th and the j-th one back. -/
def bkN (s t : ByteArray) : Nat → Nat → Nat
  | 0, _ => 0
  | _ + 1, 0 => 0
  | i + 1, j + 1 => if smeB s t ((posns s).getD i 0) ((posns t).getD j 0) = true then wd s ((posns s).getD i 0) + bkN s t i j else 0
theorem bk_0 (s t : ByteArray) (j : Nat) : bkN s t 0 j = 0 := by unfold bkN; rfl
theorem bk_z (s t : ByteArray) (i : Nat) : bkN s t i 0 = 0 := by cases i <;> rfl
theorem bk_yes {s t : ByteArray} {i j p q : Nat} (hp : (posns s)[i]? = some p) (hq : (posns t)[j]? = some q) (h : smeB s t p q = true) : bkN s t (i + 1) (j + 1) = wd s p + bkN s t i j := by
  have e1 : (posns s).getD i 0 = p := by rw [List.getD_eq_getElem?_getD, hp]; rfl
  have e2 : (posns t).getD j 0 = q := by rw [List.getD_eq_getElem?_getD, hq]; rfl
  show (if smeB s t ((posns s).getD i 0) ((posns t).getD j 0) = true then wd s ((posns s).getD i 0) + bkN s t i j else 0) = _
  rw [e1, e2, if_pos h]
theorem bk_no {s t : ByteArray} {i j p q : Nat} (hp : (posns s)[i]? = some p) (hq : (posns t)[j]? = some q) (h : smeB s t p q = false) : bkN s t (i + 1) (j + 1) = 0 := by
  have e1 : (posns s).getD i 0 = p := by rw [List.getD_eq_getElem?_getD, hp]; rfl
  have e2 : (posns t).getD j 0 = q := by rw [List.getD_eq_getElem?_getD, hq]; rfl
  show (if smeB s t ((posns s).getD i 0) ((posns t).getD j 0) = true then wd s ((posns s).getD i 0) + bkN s t i j else 0) = _
  rw [e1, e2, if_neg (by rw [h]; decide)]

theorem ext_cat (s : ByteArray) {a b c : Nat} (h1 : a ≤ b) (h2 : b ≤ c) (h3 : c ≤ s.size) : s.extract a b ++ s.extract b c = s.extract a c := by
  rw [ByteArray.extract_append_extract, Nat.min_eq_left h1, Nat.max_eq_right h2]

/-- What is the same at the end: its bytes, and that it begins at boundaries. -/
theorem bk_fact (s t : ByteArray) : ∀ (i j q r : Nat), Eg s i q → Eg t j r → bkN s t i j ≤ q ∧ bkN s t i j ≤ r ∧ s.extract (q - bkN s t i j) q = t.extract (r - bkN s t i j) r ∧ (∃ k, Eg s k (q - bkN s t i j)) ∧ ∃ k, Eg t k (r - bkN s t i j)
  | 0, j, q, r, h, g => by
    rw [bk_0]
    exact ⟨Nat.zero_le _, Nat.zero_le _, by simp, ⟨_, h⟩, ⟨_, g⟩⟩
  | i + 1, 0, q, r, h, g => by
    rw [bk_z]
    exact ⟨Nat.zero_le _, Nat.zero_le _, by simp, ⟨_, h⟩, ⟨_, g⟩⟩
  | i + 1, j + 1, q, r, h, g => by
    obtain ⟨p, e1, e2, e3, e4⟩ := eg_prev h
    obtain ⟨p', f1, f2, f3, f4⟩ := eg_prev g
    cases hs : smeB s t p p' with
    | false =>
      rw [bk_no e1 f1 hs]
      exact ⟨Nat.zero_le _, Nat.zero_le _, by simp, ⟨_, h⟩, ⟨_, g⟩⟩
    | true =>
      obtain ⟨a1, a2, a3, ⟨k, a4⟩, ⟨l, a5⟩⟩ := bk_fact s t i j p p' e4 f4
      have hw := sm_wd e2 f2 hs
      have hx := smeB_yes.1 hs
      have b1 := wd_fits s p e2
      have b2 := wd_fits t p' f2
      rw [bk_yes e1 f1 hs, show q - (wd s p + bkN s t i j) = p - bkN s t i j by omega, show r - (wd s p + bkN s t i j) = p' - bkN s t i j by omega]
      refine ⟨by omega, by omega, ?_, ⟨k, a4⟩, ⟨l, a5⟩⟩
      rw [← ext_cat s (b := p) (by omega) (by omega) (by omega), ← ext_cat t (b := p') (by omega) (by omega) (by omega), a3, ← e3, ← f3, hx]

/-- The same pieces at the head: the same bytes. -/
theorem lk_ext_go (s t : ByteArray) (p : Nat) (hps : p ≤ s.size) (hpt : p ≤ t.size) : ∀ (pre : List Nat) (a : Nat), posG s a = pre ++ posG s p → posG t a = pre ++ posG t p → a ≤ s.size → a ≤ t.size → (∀ i ∈ pre, i < s.size ∧ i < t.size ∧ SQ.wt s i = SQ.wt t i) → a ≤ p ∧ s.extract a p = t.extract a p
  | [], a, h, g, hs, ht, hw => by
    have := posG_one hs hps h
    subst this
    exact ⟨Nat.le_refl _, by simp⟩
  | x :: pre, a, h, g, hs, ht, hw => by
    obtain ⟨w1, w2, w3⟩ := hw x (List.mem_cons_self ..)
    have hls : a < s.size := by
      rcases Nat.lt_or_ge a s.size with hl | hl
      · exact hl
      · rw [posG_end s a hl] at h; cases h
    have hlt : a < t.size := by
      rcases Nat.lt_or_ge a t.size with hl | hl
      · exact hl
      · rw [posG_end t a hl] at g; cases g
    rw [posG_cons s a hls] at h
    rw [posG_cons t a hlt] at g
    injection h with h1 h2
    injection g with g1 g2
    subst h1
    obtain ⟨e1, e2⟩ := (SQ.same_iff s t a w1 w2).2 w3
    rw [← e1] at g2
    have b1 := wd_fits s a hls
    have b2 := wd_fits t a hlt
    obtain ⟨k1, k2⟩ := lk_ext_go s t p hps hpt pre (a + wd s a) h2 g2 b1 (by omega) (fun i hi => hw i (List.mem_cons_of_mem _ hi))
    refine ⟨by omega, ?_⟩
    rw [← ext_cat s (b := a + wd s a) (by omega) k1 hps, ← ext_cat t (b := a + wd s a) (by omega) k1 hpt, k2, e2]
theorem lk_ext {s t : ByteArray} {p n : Nat} (h : SQ.Lk s t p n) : s.extract 0 p = t.extract 0 p := by
  obtain ⟨h1, h2, pre, h3, h4, h5, h6⟩ := h
  exact (lk_ext_go s t p h1 h2 pre 0 h4 h5 (Nat.zero_le _) (Nat.zero_le _) h6).2

theorem posG_tail (T : ByteArray) (n : Nat) : ∀ j, posG T (n + j) = (posG (T.extract n T.size) j).map (n + ·) := by
  apply posG_ind (T.extract n T.size)
  · intro i hi
    rw [tl_size] at hi
    rw [posG_end _ i (by rw [tl_size]; exact hi), posG_end T (n + i) (by omega)]
    rfl
  · intro i hi ih
    have hz := tl_size T n
    rw [posG_cons _ i hi, posG_cons T (n + i) (by omega), List.map_cons, ← ih, tl_wd, Nat.add_assoc]
/-- The pieces behind the head. -/
theorem lk_tail {s t : ByteArray} {p n : Nat} (h : SQ.Lk s t p n) : (posns s).length = n + (posns (s.extract p s.size)).length ∧ (posns t).length = n + (posns (t.extract p t.size)).length ∧
    (∀ i, (posns s)[n + i]? = ((posns (s.extract p s.size))[i]?).map (p + ·)) ∧ ∀ i, (posns t)[n + i]? = ((posns (t.extract p t.size))[i]?).map (p + ·) := by
  obtain ⟨h1, h2, pre, h3, h4, h5, h6⟩ := h
  have e1 : posns s = pre ++ (posns (s.extract p s.size)).map (p + ·) := by rw [h4, ← Nat.add_zero p, posG_tail s p 0]; rfl
  have e2 : posns t = pre ++ (posns (t.extract p t.size)).map (p + ·) := by rw [h5, ← Nat.add_zero p, posG_tail t p 0]; rfl
  refine ⟨by rw [e1]; simp [h3], by rw [e2]; simp [h3], fun i => ?_, fun i => ?_⟩
  · rw [e1, List.getElem?_append_right (by omega), h3, Nat.add_sub_cancel_left, List.getElem?_map]
  · rw [e2, List.getElem?_append_right (by omega), h3, Nat.add_sub_cancel_left, List.getElem?_map]
theorem tail_ext (T : ByteArray) (n a b : Nat) (h : n + b ≤ T.size) : (T.extract n T.size).extract a b = T.extract (n + a) (n + b) := by
  rw [ByteArray.extract_extract, Nat.min_eq_left h]
theorem tail_sm {s t : ByteArray} {h p q : Nat} (hp : p < (s.extract h s.size).size) (hq : q < (t.extract h t.size).size) : smeB (s.extract h s.size) (t.extract h t.size) p q = smeB s t (h + p) (h + q) := by
  have h1 := wd_fits _ p hp
  have h2 := wd_fits _ q hq
  rw [tl_size] at h1 h2 hp hq
  rw [tl_wd] at h1 h2
  unfold smeB
  rw [tl_wd, tl_wd, tail_ext s h p _ (by omega), tail_ext t h q _ (by omega), Nat.add_assoc, Nat.add_assoc]
end Go.Proofs.YtjccoiephdopkaaDoor
