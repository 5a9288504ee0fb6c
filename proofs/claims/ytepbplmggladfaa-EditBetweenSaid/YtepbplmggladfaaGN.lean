/- Several texts in one. -/
import Derived.Test.YtepbplmggladfaaGQ
import Derived.Test.YtepbplmggladfaaTl
import Derived.BigQuiet
import Derived.Test.YtepbplmggladfaaJx
import Derived.Test.YtepbplmggladfaaJg
/- Stage 27: pieces of two texts, from the end on. -/
namespace Go.Proofs.Ytepbplmggladfaa
set_option linter.unusedVariables false
set_option linter.unusedSimpArgs false
open Go Go.RowKit
set_option maxRecDepth 100000

theorem G_split (s : ByteArray) : ∀ (pre : List Nat) (a p : Nat) (rest : List Nat), posG s a = pre ++ p :: rest → a ≤ p ∧ p < s.size ∧ rest = posG s (p + wd s p)
  | [], a, p, rest, h => by
    rcases Nat.lt_or_ge a s.size with hl | hl
    · rw [posG_cons s a hl] at h
      injection h with h1 h2
      subst h1
      exact ⟨Nat.le_refl _, hl, h2.symm⟩
    · rw [posG_end s a hl] at h; cases h
  | x :: pre, a, p, rest, h => by
    rcases Nat.lt_or_ge a s.size with hl | hl
    · rw [posG_cons s a hl] at h
      injection h with h1 h2
      obtain ⟨g1, g2, g3⟩ := G_split s pre _ _ _ h2
      exact ⟨by omega, g2, g3⟩
    · rw [posG_end s a hl] at h; cases h
theorem posG_one {s : ByteArray} {a b : Nat} (ha : a ≤ s.size) (hb : b ≤ s.size) (h : posG s a = posG s b) : a = b := by
  rcases Nat.lt_or_ge a s.size with hl | hl
  · rcases Nat.lt_or_ge b s.size with gl | gl
    · rw [posG_cons s a hl, posG_cons s b gl] at h
      injection h
    · rw [posG_cons s a hl, posG_end s b gl] at h; cases h
  · rcases Nat.lt_or_ge b s.size with gl | gl
    · rw [posG_cons s b gl, posG_end s a hl] at h; cases h
    · omega

/-- The first i pieces end at q. -/
def Eg (s : ByteArray) (i q : Nat) : Prop := q ≤ s.size ∧ i ≤ (posns s).length ∧ (posns s).drop i = posG s q
theorem eg_end (s : ByteArray) : Eg s (posns s).length s.size := ⟨Nat.le_refl _, Nat.le_refl _, by rw [List.drop_length, posG_end s _ (Nat.le_refl _)]⟩
theorem eg_zero {s : ByteArray} {q : Nat} (h : Eg s 0 q) : q = 0 := by
  obtain ⟨h1, _, h3⟩ := h
  exact (posG_one (Nat.zero_le _) h1 h3).symm
theorem eg_prev {s : ByteArray} {i q : Nat} (h : Eg s (i + 1) q) : ∃ p, (posns s)[i]? = some p ∧ p < s.size ∧ p + wd s p = q ∧ Eg s i p := by
  obtain ⟨hq, hi, hd⟩ := h
  have hl : i < (posns s).length := by omega
  have e0 : (posns s).drop i = (posns s)[i] :: (posns s).drop (i + 1) := List.drop_eq_getElem_cons hl
  have e : posns s = (posns s).take i ++ (posns s)[i] :: (posns s).drop (i + 1) := by rw [← e0, List.take_append_drop]
  obtain ⟨_, g2, g3⟩ := G_split s _ 0 _ _ e
  refine ⟨(posns s)[i], List.getElem?_eq_getElem hl, g2, posG_one (wd_fits s _ g2) hq (g3.symm.trans hd), by omega, by omega, ?_⟩
  rw [e0, g3, ← posG_cons s _ g2]
theorem eg_at {s : ByteArray} {i q : Nat} (h : Eg s i q) : (i < (posns s).length → (posns s)[i]? = some q ∧ q < s.size) ∧ (¬ i < (posns s).length → q = s.size) := by
  obtain ⟨hq, hi, hd⟩ := h
  refine ⟨fun hl => ?_, fun hl => ?_⟩
  · have e0 : (posns s).drop i = (posns s)[i] :: (posns s).drop (i + 1) := List.drop_eq_getElem_cons hl
    rw [hd] at e0
    rcases Nat.lt_or_ge q s.size with gl | gl
    · rw [posG_cons s q gl] at e0
      injection e0 with e1
      exact ⟨by rw [List.getElem?_eq_getElem hl, e1], gl⟩
    · rw [posG_end s q gl] at e0; cases e0
  · rw [List.drop_eq_nil_of_le (by omega)] at hd
    exact posG_one hq (Nat.le_refl _) (by rw [← hd, posG_end s _ (Nat.le_refl _)])

/-- A head's pieces. -/
theorem hq_isF (s : ByteArray) (n i m : Nat) (hn : n ≤ s.size) (hm : i + m ≤ n) (h1 : 1 ≤ m) (h : isF s i m = true) : isF (s.extract 0 n) i m = true := by
  have hz := size_head s n hn
  match m, h, hm, h1 with
  | 1, h, hm, _ => rw [isF1] at h ⊢; rw [bt_head s n i hn (by omega)]; exact h
  | 2, h, hm, _ => rw [isF2] at h; rw [isF2, hz]; obtain ⟨a, b, c, d, e⟩ := h; rw [bt_head s n i hn (by omega), bt_head s n (i + 1) hn (by omega)]; exact ⟨a, b, by omega, d, e⟩
  | 3, h, hm, _ =>
    rw [isF3] at h; rw [isF3, hz]
    obtain ⟨a, b, c, d, e, f, g, j, k, l⟩ := h
    rw [bt_head s n i hn (by omega), bt_head s n (i + 1) hn (by omega), bt_head s n (i + 2) hn (by omega)]
    exact ⟨a, b, by omega, d, e, by omega, g, j, k, l⟩
  | 4, h, hm, _ =>
    rw [isF4] at h; rw [isF4, hz]
    obtain ⟨a, b, c, d, e, f, g, j, f2, g2, j2, k, l⟩ := h
    rw [bt_head s n i hn (by omega), bt_head s n (i + 1) hn (by omega), bt_head s n (i + 2) hn (by omega), bt_head s n (i + 3) hn (by omega)]
    exact ⟨a, b, by omega, d, e, by omega, g, j, by omega, g2, j2, k, l⟩
  | m + 5, h, _, _ => simp [isF] at h
theorem hq_len (s : ByteArray) (n i : Nat) (hn : n ≤ s.size) (hi : i < n) (hm : i + wd s i ≤ n) : lenN (s.extract 0 n) i = lenN s i := by
  have hz := size_head s n hn
  by_cases h0 : lenN s i = 0
  · by_cases h1 : lenN (s.extract 0 n) i = 0
    · rw [h0, h1]
    · exact ((head_form s n i hn hi h1).1).symm
  · have hw : wd s i = lenN s i := by unfold wd; rw [if_neg h0]
    rw [hw] at hm
    rcases five s i (by omega) with ⟨hF, hl, _⟩ | ⟨hF, hl, _⟩ | ⟨hF, hl, _⟩ | ⟨hF, hl, _⟩ | ⟨hl, _⟩
    · rw [hl] at hm ⊢; exact lenN_of_1 _ _ (by omega) (hq_isF s n i 1 hn hm (by omega) hF)
    · rw [hl] at hm ⊢; exact lenN_of_2 _ _ (hq_isF s n i 2 hn hm (by omega) hF)
    · rw [hl] at hm ⊢; exact lenN_of_3 _ _ (hq_isF s n i 3 hn hm (by omega) hF)
    · rw [hl] at hm ⊢; exact lenN_of_4 _ _ (hq_isF s n i 4 hn hm (by omega) hF)
    · exact absurd hl h0
theorem hq_wd (s : ByteArray) (n i : Nat) (hn : n ≤ s.size) (hi : i < n) (hm : i + wd s i ≤ n) : wd (s.extract 0 n) i = wd s i := by
  unfold wd; rw [hq_len s n i hn hi hm]
theorem hq_bk (s : ByteArray) (n i : Nat) (hn : n ≤ s.size) (hi : i < n) (hm : i + wd s i ≤ n) : bk (s.extract 0 n) i = bk s i := by
  unfold bk; rw [hq_len s n i hn hi hm]
theorem hq_rn (s : ByteArray) (n i : Nat) (hn : n ≤ s.size) (hi : i < n) (hm : i + wd s i ≤ n) : rn (s.extract 0 n) i = rn s i := by
  have hl := hq_len s n i hn hi hm
  by_cases h0 : lenN s i = 0
  · rw [show rn (s.extract 0 n) i = 65533 by unfold rn; rw [hl, if_pos h0], show rn s i = 65533 by unfold rn; rw [if_pos h0]]
  · exact ((head_form s n i hn hi (by rw [hl]; exact h0)).2).symm

theorem hq_posG (s : ByteArray) (q : Nat) (hq : q ≤ s.size) : ∀ (pre : List Nat) (a p : Nat) (rest : List Nat), posG s a = pre ++ p :: rest → p + wd s p = q → posG (s.extract 0 q) a = pre ++ [p]
  | [], a, p, rest, h, hp => by
    have hz := size_head s q hq
    have h1 := wd_pos s p
    have hl : a < s.size := by
      rcases Nat.lt_or_ge a s.size with hl | hl
      · exact hl
      · rw [posG_end s a hl] at h; cases h
    rw [posG_cons s a hl] at h
    injection h with h2 h3
    subst h2
    rw [posG_cons (s.extract 0 q) a (by omega), hq_wd s q a hq (by omega) (by omega), hp, posG_end (s.extract 0 q) q (by omega)]
    rfl
  | x :: pre, a, p, rest, h, hp => by
    have hz := size_head s q hq
    have h1 := wd_pos s p
    have hl : a < s.size := by
      rcases Nat.lt_or_ge a s.size with hl | hl
      · exact hl
      · rw [posG_end s a hl] at h; cases h
    rw [posG_cons s a hl] at h
    injection h with h2 h3
    have hg := (G_split s pre _ _ _ h3).1
    have h4 := wd_pos s a
    rw [posG_cons (s.extract 0 q) a (by omega), hq_wd s q a hq (by omega) (by omega), hq_posG s q hq pre _ p rest h3 hp, h2]
    rfl
/-- The last piece ahead of a boundary. -/
theorem before_eg {s : ByteArray} {i q p : Nat} (h : Eg s (i + 1) q) (hp : (posns s)[i]? = some p) : SQ.pcV (s.extract 0 q) (SQ.lp (s.extract 0 q)) = .agg #[.int .i64 (p : Nat), .int .i64 (wd s p : Nat), .int .i32 (rn s p : Nat), .bool (bk s p)] := by
  obtain ⟨p', e1, e2, e3, e4⟩ := eg_prev h
  rw [hp] at e1
  obtain rfl := Option.some.inj e1
  obtain ⟨hq, hi, hd⟩ := h
  have hl : i < (posns s).length := by omega
  have e0 : (posns s).drop i = (posns s)[i] :: (posns s).drop (i + 1) := List.drop_eq_getElem_cons hl
  have e5 : (posns s)[i] = p := by rw [List.getElem?_eq_getElem hl] at hp; exact Option.some.inj hp
  have e : posns s = (posns s).take i ++ p :: (posns s).drop (i + 1) := by rw [← e5, ← e0, List.take_append_drop]
  have g := hq_posG s q hq _ 0 p _ e e3
  have h1 := wd_pos s p
  rw [SQ.lp_eq (s.extract 0 q) _ p g]
  simp only [SQ.pcV, SQ.pcC, hq_wd s q p hq (by omega) (by omega), hq_rn s q p hq (by omega) (by omega), hq_bk s q p hq (by omega) (by omega)]

/-- Is the piece at p of s the one at q of t? -/
def smeB (s t : ByteArray) (p q : Nat) : Bool := decide (s.extract p (p + wd s p) = t.extract q (q + wd t q))
theorem smeB_yes {s t : ByteArray} {p q : Nat} : smeB s t p q = true ↔ s.extract p (p + wd s p) = t.extract q (q + wd t q) := by simp [smeB]
theorem smeB_no {s t : ByteArray} {p q : Nat} : smeB s t p q = false ↔ ¬ s.extract p (p + wd s p) = t.extract q (q + wd t q) := by simp [smeB]
theorem sm_wd {s t : ByteArray} {p q : Nat} (hp : p < s.size) (hq : q < t.size) (h : smeB s t p q = true) : wd s p = wd t q := by
  have h1 := congrArg ByteArray.size (smeB_yes.1 h)
  have h2 := wd_fits s p hp
  have h3 := wd_fits t q hq
  rw [ByteArray.size_extract, ByteArray.size_extract] at h1
  omega
/-- How many bytes the pieces have that are the same, from the i-th and the j-th one back. -/
def bkN (s t : ByteArray) : Nat → Nat → Nat
  | 0, _ => 0
  | _ + 1, 0 => 0
  | i + 1, j + 1 => if smeB s t ((posns s).getD i 0) ((posns t).getD j 0) = true then wd s ((posns s).getD i 0) + bkN s t i j else 0
theorem bk_0 (s t : ByteArray) (j : Nat) : bkN s t 0 j = 0 := by unfold bkN; rfl
theorem bk_z (s t : ByteArray) (i : Nat) : bkN s t i 0 = 0 := by cases i <;> rfl
theorem bk_yes {s t : ByteArray} {i j p q : Nat} (hp : (posns s)[i]? = some p) (hq : (posns t)[j]? = some q) (h : smeB s t p q = true) : bkN s t (i + 1) (j + 1) = wd s p + bkN s t i j := by
  have e1 : (posns s).getD i 0 = p := by rw [List.getD_eq_getElem?_getD, hp]; rfl
  have e2 : (posns t).getD j 0 = q := by rw [List.getD_eq_getElem?_getD, hq]; rfl
  show (if smeB s t ((posns s).getD i 0) ((posns t).getD j 0) = true then wd s ((posns s).getD i 0) + bkN s t i j else 0) = _
  rw [e1, e2, if_pos h]
theorem bk_no {s t : ByteArray} {i j p q : Nat} (hp : (posns s)[i]? = some p) (hq : (posns t)[j]? = some q) (h : smeB s t p q = false) : bkN s t (i + 1) (j + 1) = 0 := by
  have e1 : (posns s).getD i 0 = p := by rw [List.getD_eq_getElem?_getD, hp]; rfl
  have e2 : (posns t).getD j 0 = q := by rw [List.getD_eq_getElem?_getD, hq]; rfl
  show (if smeB s t ((posns s).getD i 0) ((posns t).getD j 0) = true then wd s ((posns s).getD i 0) + bkN s t i j else 0) = _
  rw [e1, e2, if_neg (by rw [h]; decide)]

theorem ext_cat (s : ByteArray) {a b c : Nat} (h1 : a ≤ b) (h2 : b ≤ c) (h3 : c ≤ s.size) : s.extract a b ++ s.extract b c = s.extract a c := by
  rw [ByteArray.extract_append_extract, Nat.min_eq_left h1, Nat.max_eq_right h2]

/-- What is the same at the end: its bytes, and that it begins at boundaries. -/
theorem bk_fact (s t : ByteArray) : ∀ (i j q r : Nat), Eg s i q → Eg t j r → bkN s t i j ≤ q ∧ bkN s t i j ≤ r ∧ s.extract (q - bkN s t i j) q = t.extract (r - bkN s t i j) r ∧ (∃ k, Eg s k (q - bkN s t i j)) ∧ ∃ k, Eg t k (r - bkN s t i j)
  | 0, j, q, r, h, g => by
    rw [bk_0]
    exact ⟨Nat.zero_le _, Nat.zero_le _, by simp, ⟨_, h⟩, ⟨_, g⟩⟩
  | i + 1, 0, q, r, h, g => by
    rw [bk_z]
    exact ⟨Nat.zero_le _, Nat.zero_le _, by simp, ⟨_, h⟩, ⟨_, g⟩⟩
  | i + 1, j + 1, q, r, h, g => by
    obtain ⟨p, e1, e2, e3, e4⟩ := eg_prev h
    obtain ⟨p', f1, f2, f3, f4⟩ := eg_prev g
    cases hs : smeB s t p p' with
    | false =>
      rw [bk_no e1 f1 hs]
      exact ⟨Nat.zero_le _, Nat.zero_le _, by simp, ⟨_, h⟩, ⟨_, g⟩⟩
    | true =>
      obtain ⟨a1, a2, a3, ⟨k, a4⟩, ⟨l, a5⟩⟩ := bk_fact s t i j p p' e4 f4
      have hw := sm_wd e2 f2 hs
      have hx := smeB_yes.1 hs
      have b1 := wd_fits s p e2
      have b2 := wd_fits t p' f2
      rw [bk_yes e1 f1 hs, show q - (wd s p + bkN s t i j) = p - bkN s t i j by omega, show r - (wd s p + bkN s t i j) = p' - bkN s t i j by omega]
      refine ⟨by omega, by omega, ?_, ⟨k, a4⟩, ⟨l, a5⟩⟩
      rw [← ext_cat s (b := p) (by omega) (by omega) (by omega), ← ext_cat t (b := p') (by omega) (by omega) (by omega), a3, ← e3, ← f3, hx]

/-- The same pieces at the head: the same bytes. -/
theorem lk_ext_go (s t : ByteArray) (p : Nat) (hps : p ≤ s.size) (hpt : p ≤ t.size) : ∀ (pre : List Nat) (a : Nat), posG s a = pre ++ posG s p → posG t a = pre ++ posG t p → a ≤ s.size → a ≤ t.size → (∀ i ∈ pre, i < s.size ∧ i < t.size ∧ SQ.wt s i = SQ.wt t i) → a ≤ p ∧ s.extract a p = t.extract a p
  | [], a, h, g, hs, ht, hw => by
    have := posG_one hs hps h
    subst this
    exact ⟨Nat.le_refl _, by simp⟩
  | x :: pre, a, h, g, hs, ht, hw => by
    obtain ⟨w1, w2, w3⟩ := hw x (List.mem_cons_self ..)
    have hls : a < s.size := by
      rcases Nat.lt_or_ge a s.size with hl | hl
      · exact hl
      · rw [posG_end s a hl] at h; cases h
    have hlt : a < t.size := by
      rcases Nat.lt_or_ge a t.size with hl | hl
      · exact hl
      · rw [posG_end t a hl] at g; cases g
    rw [posG_cons s a hls] at h
    rw [posG_cons t a hlt] at g
    injection h with h1 h2
    injection g with g1 g2
    subst h1
    obtain ⟨e1, e2⟩ := (SQ.same_iff s t a w1 w2).2 w3
    rw [← e1] at g2
    have b1 := wd_fits s a hls
    have b2 := wd_fits t a hlt
    obtain ⟨k1, k2⟩ := lk_ext_go s t p hps hpt pre (a + wd s a) h2 g2 b1 (by omega) (fun i hi => hw i (List.mem_cons_of_mem _ hi))
    refine ⟨by omega, ?_⟩
    rw [← ext_cat s (b := a + wd s a) (by omega) k1 hps, ← ext_cat t (b := a + wd s a) (by omega) k1 hpt, k2, e2]
theorem lk_ext {s t : ByteArray} {p n : Nat} (h : SQ.Lk s t p n) : s.extract 0 p = t.extract 0 p := by
  obtain ⟨h1, h2, pre, h3, h4, h5, h6⟩ := h
  exact (lk_ext_go s t p h1 h2 pre 0 h4 h5 (Nat.zero_le _) (Nat.zero_le _) h6).2

theorem posG_tail (T : ByteArray) (n : Nat) : ∀ j, posG T (n + j) = (posG (T.extract n T.size) j).map (n + ·) := by
  apply posG_ind (T.extract n T.size)
  · intro i hi
    rw [tl_size] at hi
    rw [posG_end _ i (by rw [tl_size]; exact hi), posG_end T (n + i) (by omega)]
    rfl
  · intro i hi ih
    have hz := tl_size T n
    rw [posG_cons _ i hi, posG_cons T (n + i) (by omega), List.map_cons, ← ih, tl_wd, Nat.add_assoc]
/-- The pieces behind the head. -/
theorem lk_tail {s t : ByteArray} {p n : Nat} (h : SQ.Lk s t p n) : (posns s).length = n + (posns (s.extract p s.size)).length ∧ (posns t).length = n + (posns (t.extract p t.size)).length ∧
    (∀ i, (posns s)[n + i]? = ((posns (s.extract p s.size))[i]?).map (p + ·)) ∧ ∀ i, (posns t)[n + i]? = ((posns (t.extract p t.size))[i]?).map (p + ·) := by
  obtain ⟨h1, h2, pre, h3, h4, h5, h6⟩ := h
  have e1 : posns s = pre ++ (posns (s.extract p s.size)).map (p + ·) := by rw [h4, ← Nat.add_zero p, posG_tail s p 0]; rfl
  have e2 : posns t = pre ++ (posns (t.extract p t.size)).map (p + ·) := by rw [h5, ← Nat.add_zero p, posG_tail t p 0]; rfl
  refine ⟨by rw [e1]; simp [h3], by rw [e2]; simp [h3], fun i => ?_, fun i => ?_⟩
  · rw [e1, List.getElem?_append_right (by omega), h3, Nat.add_sub_cancel_left, List.getElem?_map]
  · rw [e2, List.getElem?_append_right (by omega), h3, Nat.add_sub_cancel_left, List.getElem?_map]
theorem tail_ext (T : ByteArray) (n a b : Nat) (h : n + b ≤ T.size) : (T.extract n T.size).extract a b = T.extract (n + a) (n + b) := by
  rw [ByteArray.extract_extract, Nat.min_eq_left h]
theorem tail_sm {s t : ByteArray} {h p q : Nat} (hp : p < (s.extract h s.size).size) (hq : q < (t.extract h t.size).size) : smeB (s.extract h s.size) (t.extract h t.size) p q = smeB s t (h + p) (h + q) := by
  have h1 := wd_fits _ p hp
  have h2 := wd_fits _ q hq
  rw [tl_size] at h1 h2 hp hq
  rw [tl_wd] at h1 h2
  unfold smeB
  rw [tl_wd, tl_wd, tail_ext s h p _ (by omega), tail_ext t h q _ (by omega), Nat.add_assoc, Nat.add_assoc]
end Go.Proofs.Ytepbplmggladfaa

/- Stage 27: edit.alike: how many bytes the pieces have that are the same, from the end on. -/
namespace Go.Proofs.Ytepbplmggladfaa
set_option linter.unusedVariables false
set_option linter.unusedSimpArgs false
open Go Go.RowKit Go.Shelf
set_option maxRecDepth 100000

set_option maxHeartbeats 1000000 in
theorem bef_piece {s : ByteArray} {i q p : Nat} (h : Eg s (i + 1) q) (hp : (posns s)[i]? = some p) (hs : s.size ≤ 281474976710656) (w : World) :
    Calls Try.prog 46 #[.string s, .int .i64 (q : Int)] w fun e w' => e = .returned (.tuple #[.agg #[.int .i64 p, .int .i64 (wd s p : Nat), .int .i32 (rn s p : Nat), .bool (bk s p)], .int .i64 0]) ∧ Below w.heap.size w w' := by
  obtain ⟨p', e1, e2, e3, e4⟩ := eg_prev h
  rw [hp] at e1
  obtain rfl := Option.some.inj e1
  have hw := wd_pos s p
  have h1 : 1 ≤ q := by omega
  have hi : q ≤ s.size := h.1
  have hb0 := SQ.before_any s q h1 hi hs
  rw [before_eg h hp] at hb0
  clear h e4 e3 e2
  go_enter Try.func46, Try.ntmps46
  go_wp2_with (go_at_call 52; refine (hb0 _).mono ?_; rintro e w' ⟨rfl, hb⟩; obtain ⟨hc2, hf2⟩ := bcell hb; have hz2 := hb.size)
  refine bodyPost_ret (v := .tuple #[.agg #[.int .i64 p, .int .i64 (wd s p : Nat), .int .i32 (rn s p : Nat), .bool (bk s p)], .int .i64 0]) (by simp [results, Try.f46, go_sem, hc2, hz2]) rfl ⟨rfl, ?_⟩
  exact (((((((Below.refl _ _).alloc (Nat.le_refl _) _).trans (hb.mono (by simp))).setCell (p := ⟨_, 0, none⟩) (Nat.le_refl _) _).setCell (p := ⟨_, 1, none⟩) (Nat.le_refl _) _).setCell (p := ⟨_, 2, none⟩) (Nat.le_refl _) _).setCell (p := ⟨_, 3, none⟩) (Nat.le_refl _) _)
set_option maxHeartbeats 400000 in
theorem bef_zero (s : ByteArray) (w : World) :
    Calls Try.prog 46 #[.string s, .int .i64 0] w fun e w' => e = .returned (.tuple #[.agg #[.int .i64 0, .int .i64 0, .int .i32 0, .bool false], .int .i64 5]) ∧ Below w.heap.size w w' := by
  go_enter Try.func46, Try.ntmps46
  go_wp2
  refine bodyPost_ret (v := .tuple #[.agg #[.int .i64 0, .int .i64 0, .int .i32 0, .bool false], .int .i64 5]) (by simp [results, Try.f46, go_sem]) rfl ⟨rfl, ?_⟩
  exact (Below.refl _ _).alloc (Nat.le_refl _) _
/-- What Before answers at a boundary: a piece, or none. -/
theorem bef_any {s : ByteArray} {i q : Nat} (h : Eg s i q) (hs : s.size ≤ 281474976710656) : ∃ (a b c : Nat) (d : Bool) (er : Int), (i = 0 ∧ er = 5 ∨ 0 < i ∧ er = 0 ∧ (posns s)[i - 1]? = some a ∧ b = wd s a) ∧
    ∀ w : World, Calls Try.prog 46 #[.string s, .int .i64 (q : Int)] w fun e w' => e = .returned (.tuple #[.agg #[.int .i64 a, .int .i64 b, .int .i32 c, .bool d], .int .i64 er]) ∧ Below w.heap.size w w' := by
  cases i with
  | zero =>
    obtain rfl := eg_zero h
    exact ⟨0, 0, 0, false, 5, Or.inl ⟨rfl, rfl⟩, fun w => bef_zero s w⟩
  | succ i =>
    obtain ⟨p, e1, e2, e3, e4⟩ := eg_prev h
    exact ⟨p, wd s p, rn s p, bk s p, 0, Or.inr ⟨Nat.succ_pos _, rfl, e1, rfl⟩, fun w => bef_piece h e1 hs w⟩

theorem new4N (w : World) (a b c d : Value) (t : TypeId) : ∃ W, w.alloc (.cells #[a, b, c, d] t) = W ∧ W.heap.size = w.heap.size + 1 ∧ Below w.heap.size w W ∧ W.cell? ⟨w.heap.size, 0, none⟩ = some a ∧ W.cell? ⟨w.heap.size, 1, none⟩ = some b ∧ W.cell? ⟨w.heap.size, 2, none⟩ = some c ∧ W.cell? ⟨w.heap.size, 3, none⟩ = some d := by
  refine ⟨_, rfl, by simp, (Below.refl _ _).alloc (Nat.le_refl _) _, ?_⟩
  simp only [World.cell?, World.alloc_heap_new]
  exact ⟨rfl, rfl, rfl, rfl⟩

/-- So far n bytes are the same. -/
def AlR (s t : ByteArray) (M : Nat) (w : World) (v : Value) (wr : World) : Prop :=
  ∃ n i j q r : Nat, v = .int .i64 n ∧ Eg s i q ∧ Eg t j r ∧ q + n = s.size ∧ r + n = t.size ∧ M = n + bkN s t i j ∧ Below w.heap.size w wr

set_option maxHeartbeats 4000000 in
theorem ealike_any (s t : ByteArray) (hs : s.size ≤ 1048576) (ht : t.size ≤ 1048576) (M : Nat) (hM : bkN s t (posns s).length (posns t).length = M) (w : World) :
    Calls Try.prog 28 #[.string s, .string t] w fun e w' => e = .returned (.int .i64 M) ∧ Below w.heap.size w w' := by
  go_enter Try.func28, Try.ntmps28
  go_wp2
  go_loopw [5] (fun v wr => AlR s t M w v wr) (fun v _ => s.size - (intOf v).toNat)
  case atStart => exact ⟨0, _, _, _, _, rfl, eg_end s, eg_end t, rfl, rfl, by rw [Nat.zero_add, hM], Below.refl _ _⟩
  case round =>
    obtain ⟨n, i, j, q, r, rfl, hE, hF, hq, hr, hm, hB⟩ := hrel
    obtain ⟨a, b, c, d, er, hA, cA⟩ := bef_any hE (by omega)
    obtain ⟨a2, b2, c2, d2, er2, hA2, cA2⟩ := bef_any hF (by omega)
    have g1 : IntKind.i64.wrap ((s.size : Int) - (n : Int)) = (q : Int) := by rw [IntWalk.i64_in _ (by omega)]; omega
    have g2 : IntKind.i64.wrap ((t.size : Int) - (n : Int)) = (r : Int) := by rw [IntWalk.i64_in _ (by omega)]; omega
    have HM := Lib.hid (And.intro hm hB)
    have HS := Lib.hid (And.intro hs (And.intro ht (And.intro hq hr)))
    have HE := Lib.hid (And.intro hE hF)
    clear hm hB hM hq hr hE hF hs ht
    have HX := Lib.hid (And.intro hA hA2)
    clear hA hA2
    go_wp2_with (fail)
    refine (cA _).mono ?_
    rintro e w3 ⟨rfl, hb3⟩
    clear cA
    go_wp2_with (fail)
    obtain ⟨W3, e3, z3, b3, y0, y1, _, _⟩ := new4N w3 (.int .i64 a) (.int .i64 b) (.int .i32 c) (.bool d) 79
    rw [e3]
    refine (cA2 _).mono ?_
    rintro e w4 ⟨rfl, hb4⟩
    clear cA2
    go_wp2_with (fail)
    obtain ⟨W4, e4, z4, b4, x0, x1, _, _⟩ := new4N w4 (.int .i64 a2) (.int .i64 b2) (.int .i32 c2) (.bool d2) 79
    rw [e4]
    have h34 := hb4.size
    have y0' : W4.cell? ⟨w3.heap.size, 0, none⟩ = some (.int .i64 a) := ((bcell b4).1 _ _ (by omega)).trans (((bcell hb4).1 _ _ (by omega)).trans y0)
    have y1' : W4.cell? ⟨w3.heap.size, 1, none⟩ = some (.int .i64 b) := ((bcell b4).1 _ _ (by omega)).trans (((bcell hb4).1 _ _ (by omega)).trans y1)
    have hBW : Below w.heap.size w W4 := (HM.out.2.trans (hb3.mono HM.out.2.size)).trans ((b3.mono (Nat.le_trans HM.out.2.size hb3.size)).trans ((hb4.mono (by have := HM.out.2.size; have := hb3.size; omega)).trans (b4.mono (by have := HM.out.2.size; have := hb3.size; omega))))
    obtain ⟨B1, hB1⟩ : ∃ B, w3.heap.size = B := ⟨_, rfl⟩
    obtain ⟨B2, hB2⟩ : ∃ B, w4.heap.size = B := ⟨_, rfl⟩
    rw [hB1] at y0' y1' ⊢
    rw [hB2] at x0 x1 ⊢
    have HW := Lib.hid hBW
    clear hBW y0 y1 h34 e3 e4 z3 z4 b3 b4 hb3 hb4 hB1 hB2 g1 g2
    have stop : ∀ k nq, bkN s t i j = 0 → k = Ending.returned (.int .i64 n) → (k = Ending.returned (.int .i64 M) ∧ Below w.heap.size w (W4.drewN nq)) := by
      intro k nq h0 hk
      refine ⟨?_, SQ.below_drewN HW.out nq⟩
      have := HM.out.1
      rw [hk, show M = n by omega]
    have HP := Lib.hid stop
    clear stop
    rcases HX.out.1 with ⟨rfl, rfl⟩ | ⟨hi, rfl, hpa, hba⟩
    · clear x0 x1 y0' y1'
      go_quiet (fail)
      go_wp2_with (fail)
      refine bodyPost_ret (v := .int .i64 n) (by simp [results, Try.f28, go_sem]) rfl (HP.out _ _ (bk_0 _ _ _) rfl)
    · rcases HX.out.2 with ⟨rfl, rfl⟩ | ⟨hj, rfl, hpb, hbb⟩
      · clear x0 x1 y0' y1'
        go_quiet (fail)
        go_wp2_with (fail)
        refine bodyPost_ret (v := .int .i64 n) (by simp [results, Try.f28, go_sem]) rfl (HP.out _ _ (bk_z _ _ _) rfl)
      · obtain ⟨i, rfl⟩ : ∃ k, i = k + 1 := ⟨i - 1, by omega⟩
        obtain ⟨j, rfl⟩ : ∃ k, j = k + 1 := ⟨j - 1, by omega⟩
        obtain ⟨p1, e1, e2, e3, e4⟩ := eg_prev HE.out.1
        obtain ⟨p2, f1, f2, f3, f4⟩ := eg_prev HE.out.2
        rw [Nat.add_sub_cancel] at hpa hpb
        obtain rfl := Option.some.inj (e1.symm.trans hpa)
        obtain rfl := Option.some.inj (f1.symm.trans hpb)
        have hz := HS.out
        have hwA := wd_fits s p1 e2
        have hwB := wd_fits t p2 f2
        have hd1 := wd_pos s p1
        have hd4 := wd_le s p1
        cases hsm : smeB s t p1 p2 with
        | true =>
          have hww := sm_wd e2 f2 hsm
          have hext := smeB_yes.1 hsm
          rw [← hba, ← hbb] at hext
          rw [← hba, ← hbb] at hww
          rw [← hba] at hd1 hd4 hwA e3
          rw [← hbb] at hwB f3
          subst hww
          have hN := bk_yes e1 f1 hsm
          rw [← hba] at hN
          have HN := Lib.hid (And.intro hN (And.intro e3 (And.intro f3 (And.intro e4 f4))))
          clear hN e3 f3 e4 f4 hba hbb hsm e1 f1 hpa hpb hi hj
          have k1 : IntKind.i64.wrap ((p1 : Int) + b) = (p1 : Int) + b := IntWalk.i64_in _ (by omega)
          have k2 : IntKind.i64.wrap ((p2 : Int) + b) = (p2 : Int) + b := IntWalk.i64_in _ (by omega)
          have k3 : (0 : Int) ≤ (p1 : Int) := by omega
          have k4 : (p1 : Int) ≤ (p1 : Int) + b := by omega
          have k5 : (p1 : Int) + b ≤ (s.size : Int) := by omega
          have k6 : (0 : Int) ≤ (p2 : Int) := by omega
          have k7 : (p2 : Int) ≤ (p2 : Int) + b := by omega
          have k8 : (p2 : Int) + b ≤ (t.size : Int) := by omega
          have k9 : ((p1 : Int) + b).toNat = p1 + b := by omega
          have k10 : ((p2 : Int) + b).toNat = p2 + b := by omega
          have hbe : ((s.extract p1 (p1 + b)).toList == (t.extract p2 (p2 + b)).toList) = true := by rw [hext]; exact beq_self_eq_true _
          clear hext
          go_quiet (fail)
          go_wp2_with (fail)
          go_roundw
          case rel =>
            obtain ⟨g1, g2, g3, g4, g5⟩ := HN.out
            have hm := HM.out.1
            exact ⟨n + b, i, j, p1, p2, by go_num, g4, g5, by omega, by omega, by omega, SQ.below_drewN HW.out _⟩
          case measure =>
            obtain ⟨g1, g2, g3, g4, g5⟩ := HN.out
            obtain ⟨z1, z2, z3, z4⟩ := hz
            simp [intOf]; omega
        | false =>
          have hN := bk_no e1 f1 hsm
          have hext := smeB_no.1 hsm
          by_cases hw : b = b2
          · rw [← hba, ← hbb] at hext
            rw [← hba] at hd1 hd4 hwA e3
            rw [← hbb] at hwB f3
            subst hw
            have HN := Lib.hid hN
            clear hN e3 f3 e4 f4 hba hbb hsm e1 f1 hpa hpb hi hj
            have k1 : IntKind.i64.wrap ((p1 : Int) + b) = (p1 : Int) + b := IntWalk.i64_in _ (by omega)
            have k2 : IntKind.i64.wrap ((p2 : Int) + b) = (p2 : Int) + b := IntWalk.i64_in _ (by omega)
            have k3 : (0 : Int) ≤ (p1 : Int) := by omega
            have k4 : (p1 : Int) ≤ (p1 : Int) + b := by omega
            have k5 : (p1 : Int) + b ≤ (s.size : Int) := by omega
            have k6 : (0 : Int) ≤ (p2 : Int) := by omega
            have k7 : (p2 : Int) ≤ (p2 : Int) + b := by omega
            have k8 : (p2 : Int) + b ≤ (t.size : Int) := by omega
            have k9 : ((p1 : Int) + b).toNat = p1 + b := by omega
            have k10 : ((p2 : Int) + b).toNat = p2 + b := by omega
            have hbe : ((s.extract p1 (p1 + b)).toList == (t.extract p2 (p2 + b)).toList) = false := by
              rw [beq_eq_false_iff_ne]; exact fun h => hext (by apply ByteArray.ext; apply Array.ext'; simpa [ByteArray.toList_eq] using h)
            clear hext
            go_quiet (fail)
            go_wp2_with (fail)
            refine bodyPost_ret (v := .int .i64 n) (by simp [results, Try.f28, go_sem]) rfl (HP.out _ _ HN.out rfl)
          · have hbn : ((b : Int) != (b2 : Int)) = true := by rw [bne_iff_ne]; omega
            have HN := Lib.hid hN
            clear hN e3 f3 e4 f4 hba hbb hsm e1 f1 hpa hpb hi hj hw hext hwA hwB hd1 hd4
            go_quiet (fail)
            go_wp2_with (fail)
            refine bodyPost_ret (v := .int .i64 n) (by simp [results, Try.f28, go_sem]) rfl (HP.out _ _ HN.out rfl)
end Go.Proofs.Ytepbplmggladfaa

/- Stage 27: Between. -/
namespace Go.Proofs.Ytepbplmggladfaa
set_option linter.unusedVariables false
set_option linter.unusedSimpArgs false
open Go Go.RowKit Go.Shelf
set_option maxRecDepth 100000

/-- One maker that has been told these bytes. -/
def Mk1 (w0 : World) (B b : Nat) (W : World) (A : List Atm) : Prop :=
  ∃ vo vp vd, MkB W B b vo vp vd (fdL A mk0) ∧ Below w0.heap.size w0 W ∧ w0.heap.size ≤ B
section
variable {w0 W X : World} {B b : Nat} {A : List Atm}
theorem Mk1.below (h : Mk1 w0 B b W A) (hb : Below W.heap.size W X) : Mk1 w0 B b X A := by
  obtain ⟨vo, vp, vd, h1, h2, h3⟩ := h
  exact ⟨_, _, _, h1.below hb, h2.trans (hb.mono h2.size), h3⟩
theorem mk1_keep (h : Mk1 w0 B b W A) (hA : A.length ≤ 1000000) (n : Nat) (hn : n ≤ 65536) :
    Calls Try.prog 27 #[.pointer (some ⟨B, 0, none⟩), .int .i64 n] W fun e W' => e = .returned (.tuple #[]) ∧ Mk1 w0 B b W' (A ++ List.replicate n .K) := by
  obtain ⟨vo, vp, vd, h1, h2, h3⟩ := h
  have hbd := fd_bd A
  refine (keep_any h1 n hn (by omega) (by omega) (by omega) (by omega)).mono ?_
  rintro e W' ⟨rfl, vo', vp', vd', g1, g2⟩
  rw [keep_fd, ← fdL_app] at g1
  exact ⟨rfl, _, _, _, g1, g2.below h1 h3 h2, h3⟩
theorem mk1_puts (h : Mk1 w0 B b W A) (hA : A.length ≤ 1000000) (s : ByteArray) (hs : s.size ≤ 1000000) :
    Calls Try.prog 29 #[.pointer (some ⟨B, 0, none⟩), .string s] W fun e W' => e = .returned (.tuple #[]) ∧ Mk1 w0 B b W' (A ++ (bL s).map .P) := by
  obtain ⟨vo, vp, vd, h1, h2, h3⟩ := h
  have hbd := fd_bd A
  refine (puts_any h1 s hs (by omega) (by omega)).mono ?_
  rintro e W' ⟨rfl, vo', vp', vd', g1, g2⟩
  rw [puts_fd, ← fdL_app] at g1
  exact ⟨rfl, _, _, _, g1, g2.below h1 h3 h2, h3⟩
theorem mk1_drops (h : Mk1 w0 B b W A) (hA : A.length ≤ 1000000) (s : ByteArray) (hs : s.size ≤ 1000000) :
    Calls Try.prog 30 #[.pointer (some ⟨B, 0, none⟩), .string s] W fun e W' => e = .returned (.tuple #[]) ∧ Mk1 w0 B b W' (A ++ (bL s).map .D) := by
  obtain ⟨vo, vp, vd, h1, h2, h3⟩ := h
  have hbd := fd_bd A
  refine (drops_any h1 s hs (by omega) (by omega)).mono ?_
  rintro e W' ⟨rfl, vo', vp', vd', g1, g2⟩
  rw [drops_fd, ← fdL_app] at g1
  exact ⟨rfl, _, _, _, g1, g2.below h1 h3 h2, h3⟩
theorem mk1_end (h : Mk1 w0 B b W A) (hA : A.length ≤ 1000000) :
    Calls Try.prog 31 #[.pointer (some ⟨B, 0, none⟩)] W fun e W' => ∃ v, e = .returned v ∧ W'.ownsRow b 36 3 v (nfA A).length ((nfA A).flatMap encS) ∧ Below w0.heap.size w0 W' := by
  obtain ⟨vo, vp, vd, h1, h2, h3⟩ := h
  have hbd := fd_bd A
  refine (end_any h1 (by omega) (by omega) (by omega)).mono ?_
  rintro e W' ⟨v, rfl, g1, g2⟩
  exact ⟨v, rfl, g1.ro, g2.below h1 h3 h2⟩
theorem mk1_new (h : Below w0.heap.size w0 W) : Mk1 w0 W.heap.size (W.heap.size + 1) (W.alloc (.cells #[.slice none 0 0, .int .i64 0, .slice none 0 0, .slice none 0 0] 60)) [] :=
  ⟨_, _, _, ⟨Blk.new W _ _, World.ownsRow_nil _ _ _ _, World.ownsRow_nil _ _ _ _, World.ownsRow_nil _ _ _ _, .inl rfl, by omega, by simp⟩, h.trans (((Below.refl W.heap.size W).alloc (Nat.le_refl _) _).mono h.size), h.size⟩
end

/-- From one text to another: the head is kept, what stands between is put and dropped, the tail is kept. -/
def bnA (s t : ByteArray) (p M : Nat) : List Atm :=
  List.replicate p .K ++ (bL (t.extract p (t.size - M))).map .P ++ (bL (s.extract p (s.size - M))).map .D ++ List.replicate M .K
/-- Where head and tail are the same. -/
def BnK (s t : ByteArray) (p M : Nat) : Prop :=
  ∃ n, SQ.Lk s t p n ∧ SQ.St s t p ∧ bkN (s.extract p s.size) (t.extract p t.size) (posns (s.extract p s.size)).length (posns (t.extract p t.size)).length = M
theorem cut_lk {s t : ByteArray} {p n : Nat} (h : SQ.Lk s t p n) : SQ.cutN s n = p := by
  obtain ⟨h1, h2, h3⟩ := SQ.lk_lenA h
  rcases Nat.lt_or_ge p s.size with hl | hl
  · exact SQ.cutN_in s n p (h3 hl)
  · have hp : p = s.size := Nat.le_antisymm h.1 hl
    rw [SQ.cutN_out s n (by have := h2.2 hp; omega), hp]
theorem bnk_le {s t : ByteArray} {p M : Nat} (h : BnK s t p M) : p + M ≤ s.size ∧ p + M ≤ t.size := by
  obtain ⟨n, h1, h2, rfl⟩ := h
  obtain ⟨a1, a2, _⟩ := bk_fact (s.extract p s.size) (t.extract p t.size) _ _ _ _ (eg_end _) (eg_end _)
  rw [tl_size] at a1 a2
  have := h1.1
  have := h1.2.1
  omega
theorem bnk_one {s t : ByteArray} {p M q N : Nat} (h : BnK s t p M) (g : BnK s t q N) : p = q ∧ M = N := by
  obtain ⟨n, h1, h2, h3⟩ := h
  obtain ⟨m, g1, g2, g3⟩ := g
  obtain ⟨rfl, _⟩ := SQ.lk_one h1 h2 g1 g2
  exact ⟨rfl, h3.symm.trans g3⟩
theorem bnA_len {s t : ByteArray} {p M : Nat} (h : BnK s t p M) : (bnA s t p M).length ≤ s.size + t.size := by
  have := bnk_le h
  unfold bnA
  simp only [List.length_append, List.length_replicate, List.length_map, bL_len, ByteArray.size_extract]
  omega

def BeP (s t : ByteArray) (w : World) (e : Ending) (w' : World) : Prop :=
  ∃ p M v, BnK s t p M ∧ e = .returned (.tuple #[v, .int .i64 0]) ∧ w'.ownsRow w.heap.size 36 3 v (nfA (bnA s t p M)).length ((nfA (bnA s t p M)).flatMap encS) ∧ Below w.heap.size w w'

set_option maxHeartbeats 1000000 in
theorem between_any (s t : ByteArray) (hs : s.size ≤ 65536) (ht : t.size ≤ 65536) (w : World) :
    Calls Try.prog 9 #[.string s, .string t] w (BeP s t w) := by
  have cC := SQ.Common_any s t (by omega) (by omega)
  go_enter Try.func9, Try.ntmps9
  go_wp2_with (fail)
  refine (cC _).mono ?_
  rintro e w1 ⟨p, n, hL, hS, rfl, hb1⟩
  have hpA := hL.1
  have hpB := hL.2.1
  have hnL := (SQ.lk_lenA hL).1
  have hpl := posns_len s
  have cD := SQ.cut_any s n (by omega) (by omega)
  rw [cut_lk hL] at cD
  obtain ⟨M, hM⟩ : ∃ M, bkN (s.extract p s.size) (t.extract p t.size) (posns (s.extract p s.size)).length (posns (t.extract p t.size)).length = M := ⟨_, rfl⟩
  have hK : BnK s t p M := ⟨n, hL, hS, hM⟩
  obtain ⟨hle1, hle2⟩ := bnk_le hK
  have hlen := bnA_len hK
  have cE := ealike_any (s.extract p s.size) (t.extract p t.size) (by rw [tl_size]; omega) (by rw [tl_size]; omega) M hM
  have HK := Lib.hid (And.intro hK hlen)
  clear hK hlen hM hL hS cC hnL hpl
  have hzs := tl_size s p
  have hzt := tl_size t p
  have hzp : (s.extract 0 p).size = p := size_head s p hpA
  obtain ⟨s1, hs1⟩ : ∃ x, s.extract p s.size = x := ⟨_, rfl⟩
  obtain ⟨t1, ht1⟩ : ∃ x, t.extract p t.size = x := ⟨_, rfl⟩
  obtain ⟨h1, hh1⟩ : ∃ x, s.extract 0 p = x := ⟨_, rfl⟩
  rw [hs1] at cE cD hzs
  rw [ht1] at cE hzt
  rw [hh1] at cD hzp
  have k1 : (0 : Int) ≤ (p : Int) := by omega
  have k2 : (p : Int) ≤ (s.size : Int) := by omega
  have k3 : (p : Int) ≤ (t.size : Int) := by omega
  obtain ⟨e1, he1⟩ : ∃ k, s1.size - M = k := ⟨_, rfl⟩
  obtain ⟨e2, he2⟩ : ∃ k, t1.size - M = k := ⟨_, rfl⟩
  have f1 : IntKind.i64.wrap ((s1.size : Int) - (M : Int)) = (e1 : Int) := by rw [IntWalk.i64_in _ (by omega)]; omega
  have f2 : IntKind.i64.wrap ((t1.size : Int) - (M : Int)) = (e2 : Int) := by rw [IntWalk.i64_in _ (by omega)]; omega
  have k4 : (0 : Int) ≤ (e1 : Int) := by omega
  have k5 : (0 : Int) ≤ (e2 : Int) := by omega
  have k6 : (e1 : Int) ≤ (s1.size : Int) := by omega
  have k7 : (e2 : Int) ≤ (t1.size : Int) := by omega
  have HZ := Lib.hid (And.intro hzs (And.intro hzt (And.intro he1 he2)))
  have hq1 : (t1.extract 0 e2).size = e2 := size_head t1 e2 (by omega)
  have hq2 : (s1.extract 0 e1).size = e1 := size_head s1 e1 (by omega)
  have H3 := Lib.hid (And.intro hq1 hq2)
  have hA : List.replicate p Atm.K ++ (bL (t1.extract 0 e2)).map .P ++ (bL (s1.extract 0 e1)).map .D ++ List.replicate M .K = bnA s t p M := by
    unfold bnA
    rw [← hs1, ← ht1, tail_ext t p 0 e2 (by omega), tail_ext s p 0 e1 (by omega), Nat.add_zero, show p + e2 = t.size - M by omega, show p + e1 = s.size - M by omega]
  have HA := Lib.hid hA
  clear hzs hzt he1 he2 hq1 hq2 hA
  go_wp2_with (fail)
  refine (cD _).mono ?_
  rintro e w2 ⟨rfl, hb2⟩
  have hM1 := mk1_new (hb1.trans (hb2.mono hb1.size))
  have c1 := mk1_keep hM1 (by simp) p (by omega)
  clear cD hb1 hb2 hM1
  go_wp2_with (fail)
  refine c1.mono ?_
  rintro e w3 ⟨rfl, hM2⟩
  obtain ⟨B, hB⟩ : ∃ B, w2.heap.size = B := ⟨_, rfl⟩
  rw [hB] at hM2 ⊢
  rw [List.nil_append] at hM2
  obtain ⟨_, _, _, _, _, hBw⟩ := id hM2
  clear hB c1
  have H2 := Lib.hid hM2
  clear hM2
  go_wp2_with (fail)
  go_quiet (fail)
  generalize hU : World.drewN w3 _ = U3
  have hM3 := H2.out.below (hU ▸ SQ.below_drewN (Below.refl _ _) _)
  clear hU H2
  go_wp2_with (fail)
  refine (cE _).mono ?_
  rintro e U4 ⟨rfl, hb4⟩
  have hM4 := hM3.below hb4
  have c2 := mk1_puts hM4 (by rw [List.length_replicate]; omega) (t1.extract 0 e2) (by have := H3.out; have := HZ.out; omega)
  have HS := Lib.hid (And.intro hs1 ht1)
  clear hM3 hb4 cE hM4 hs1 ht1
  go_wp2_with (fail)
  refine c2.mono ?_
  rintro e U5 ⟨rfl, hM5⟩
  have c3 := mk1_drops hM5 (by simp only [List.length_append, List.length_replicate, List.length_map, bL_len]; have := H3.out; have := HZ.out; omega) (s1.extract 0 e1) (by have := H3.out; have := HZ.out; omega)
  clear c2 hM5
  go_wp2_with (fail)
  refine c3.mono ?_
  rintro e U6 ⟨rfl, hM6⟩
  have c4 := mk1_keep hM6 (by simp only [List.length_append, List.length_replicate, List.length_map, bL_len]; have := H3.out; have := HZ.out; omega) M (by omega)
  clear c3 hM6
  go_wp2_with (fail)
  refine c4.mono ?_
  rintro e U7 ⟨rfl, hM7⟩
  rw [HA.out] at hM7
  have c5 := mk1_end hM7 (by have := HK.out.2; omega)
  clear c4 hM7
  go_wp2_with (fail)
  refine c5.mono ?_
  rintro e U8 ⟨v, rfl, hr, hb⟩
  have HR := Lib.hid (And.intro hr hb)
  clear hr hb c5
  go_wp2_with (fail)
  go_ret2
  exact ⟨p, M, v, HK.out.1, rfl, own_base HR.out.1 (by omega), HR.out.2⟩
end Go.Proofs.Ytepbplmggladfaa
