/- Stage 16: the lines of each class: mathematics; rows of rows. -/
import Derived.Test.YtdcmkiggnmajgaaVt
namespace Go.Proofs.Ytdcmkiggnmajgaa
set_option linter.unusedVariables false
set_option linter.unusedSimpArgs false
open Go Go.RowKit Go.Shelf
set_option maxRecDepth 100000

/-- The lines, ahead of k, whose class has the number j. -/
def inB (L : List Rh) (j i : Nat) : Bool := match L[i]? with | some x => decide (0 ≤ x.c) && decide (canC L x = (j : Int)) | none => false
def inL (L : List Rh) (k j : Nat) : List Nat := (List.range k).filter (inB L j)
def lstC (L : List Rh) (k : Nat) : List (List Nat) := (List.range (cntF L k)).map (inL L k)
theorem inL_len (L : List Rh) (k j : Nat) : (inL L k j).length ≤ k := by
  have := List.length_filter_le (inB L j) (List.range k)
  simpa [inL] using this
theorem lstC_len (L : List Rh) (k : Nat) : (lstC L k).length = cntF L k := by simp [lstC]
theorem inL_succ (L : List Rh) (k j : Nat) : inL L (k + 1) j = if inB L j k then inL L k j ++ [k] else inL L k j := by
  unfold inL
  rw [List.range_succ, List.filter_append]
  cases h : inB L j k <;> simp [h]
theorem cntF_mono {L : List Rh} {a b : Nat} (h : a ≤ b) : cntF L a ≤ cntF L b := by
  induction b with
  | zero => obtain rfl : a = 0 := by omega
            exact Nat.le_refl _
  | succ b ih =>
    by_cases e : a = b + 1
    · subst e; exact Nat.le_refl _
    · have := ih (by omega)
      simp only [cntF]; split <;> omega
theorem isFst_of {L : List Rh} {i : Nat} {x : Rh} (hx : L[i]? = some x) (hc : 0 ≤ x.c) (hf : fidx L 0 x.c = (i : Int)) : isFst L i = true := by
  unfold isFst; rw [hx]; simp [hc, hf]
theorem isFst_iff {L : List Rh} {i : Nat} {x : Rh} (hx : L[i]? = some x) : isFst L i = true ↔ 0 ≤ x.c ∧ fidx L 0 x.c = (i : Int) := by
  unfold isFst; rw [hx]; simp
/-- What number a line's class has. -/
theorem canC_num {L : List Rh} {i : Nat} {x : Rh} (hx : L[i]? = some x) (hc : 0 ≤ x.c) : ∃ f : Nat, fidx L 0 x.c = (f : Int) ∧ f ≤ i ∧ canC L x = (cntF L f : Nat) ∧ isFst L f = true := by
  obtain ⟨f, h1, h2, ⟨y, h3, h4⟩, _⟩ := fidx_at hx
  refine ⟨f, h1, h2, ?_, isFst_of h3 (by omega) (by rw [h4]; exact h1)⟩
  unfold canC
  rw [if_neg (by omega), h1]; simp
theorem cntF_lt {L : List Rh} {f k : Nat} (hf : isFst L f = true) (h : f < k) : cntF L f < cntF L k := by
  have h1 : cntF L (f + 1) = cntF L f + 1 := by simp [cntF, hf]
  have h2 := cntF_mono (L := L) (a := f + 1) h
  omega
/-- Numbers tell classes apart. -/
theorem canC_inj {L : List Rh} {i j : Nat} {x y : Rh} (hx : L[i]? = some x) (hy : L[j]? = some y) (hcx : 0 ≤ x.c) (hcy : 0 ≤ y.c) : canC L x = canC L y ↔ x.c = y.c := by
  constructor
  · intro h
    obtain ⟨f, h1, h2, h3, h4⟩ := canC_num hx hcx
    obtain ⟨g, k1, k2, k3, k4⟩ := canC_num hy hcy
    rw [h3, k3] at h
    have hfg : f = g := by
      rcases Nat.lt_trichotomy f g with e | e | e
      · have := cntF_lt h4 e; omega
      · exact e
      · have := cntF_lt k4 e; omega
    subst hfg
    obtain ⟨z, z1, z2, _⟩ := fidx_same hx h1
    obtain ⟨z', z1', z2', _⟩ := fidx_same hy k1
    rw [z1] at z1'
    cases z1'
    omega
  · intro h; unfold canC; rw [h]
/-- A line without a class changes nothing. -/
theorem lstC_neg {L : List Rh} {k : Nat} {x : Rh} (hx : L[k]? = some x) (hc : x.c < 0) : lstC L (k + 1) = lstC L k := by
  have h1 : ∀ j, inB L j k = false := fun j => by unfold inB; rw [hx]; simp; omega
  unfold lstC
  rw [cntF_not hx (.inl hc)]
  congr 1
  funext j
  rw [inL_succ, h1]; simp
/-- A line of a class that has come up. -/
theorem lstC_old {L : List Rh} {k q : Nat} {x : Rh} (hx : L[k]? = some x) (hc : 0 ≤ x.c) (hq : canC L x = (q : Int)) (hf : fidx L 0 x.c ≠ (k : Int)) : q < cntF L k ∧ (lstC L k)[q]? = some (inL L k q) ∧ lstC L (k + 1) = (lstC L k).set q (inL L k q ++ [k]) := by
  obtain ⟨f, h1, h2, h3, h4⟩ := canC_num hx hc
  have hfk : f < k := by
    rcases Nat.lt_or_eq_of_le h2 with e | e
    · exact e
    · exact absurd (by rw [h1, e]) hf
  have hlt := cntF_lt h4 hfk
  have hqn : q < cntF L k := by omega
  refine ⟨hqn, by simp [lstC, hqn], ?_⟩
  apply List.ext_getElem?
  intro j
  rw [List.getElem?_set]
  unfold lstC
  rw [cntF_not hx (.inr hf)]
  simp only [List.getElem?_map, List.length_map, List.length_range]
  by_cases hj : j < cntF L k
  · rw [List.getElem?_range hj]
    simp only [Option.map_some]
    by_cases e : q = j
    · subst e
      rw [if_pos rfl, if_pos hj, inL_succ]
      have : inB L q k = true := by unfold inB; rw [hx]; simp [hc, hq]
      rw [this]; rfl
    · rw [if_neg e, inL_succ]
      have : inB L j k = false := by unfold inB; rw [hx]; simp; intro _; rw [hq]; omega
      rw [this]; rfl
  · rw [List.getElem?_eq_none (by simp; omega)]
    simp only [Option.map_none]
    rw [if_neg (by omega)]
theorem inL_new {L : List Rh} {k q : Nat} (hq : cntF L k ≤ q) : inL L k q = [] := by
  unfold inL
  rw [List.filter_eq_nil_iff]
  intro i hi
  have hik : i < k := by simpa using hi
  unfold inB
  cases hx : L[i]? with
  | none => simp
  | some x =>
    simp only [Bool.and_eq_true, decide_eq_true_iff, not_and]
    intro hc e
    obtain ⟨f, h1, h2, h3, h4⟩ := canC_num hx hc
    have := cntF_lt h4 (show f < k by omega)
    omega
/-- A line of a new class. -/
theorem lstC_new {L : List Rh} {k : Nat} {x : Rh} (hx : L[k]? = some x) (hc : 0 ≤ x.c) (hf : fidx L 0 x.c = (k : Int)) : canC L x = (cntF L k : Nat) ∧ lstC L (k + 1) = lstC L k ++ [[k]] := by
  have hq : canC L x = (cntF L k : Nat) := by unfold canC; rw [if_neg (by omega), hf]; simp
  refine ⟨hq, ?_⟩
  unfold lstC
  rw [cntF_first hx hc hf, List.range_succ, List.map_append]
  congr 1
  · apply List.map_congr_left
    intro j hj
    have hj : j < cntF L k := by simpa using hj
    rw [inL_succ]
    have : inB L j k = false := by unfold inB; rw [hx]; simp; intro _; rw [hq]; omega
    rw [this]; rfl
  · simp only [List.map_cons, List.map_nil]
    rw [inL_succ, inL_new (Nat.le_refl _)]
    have : inB L (cntF L k) k = true := by unfold inB; rw [hx]; simp [hc, hq]
    rw [this]; rfl

/-- Positions as they lie. -/
def encN (x : Nat) : List Value := [.int .i64 (x : Nat)]
theorem encN_len (x : Nat) : (encN x).length = 1 := rfl
/-- A row of rows of one's own; from a place on. -/
def NestF (i0 : Nat) (W : World) (base : Nat) (v : Value) (ls : List (List Nat)) : Prop := ∃ vs : List Value, W.ownsRow base 23 1 v ls.length vs ∧
  (∀ j l, i0 ≤ j → ls[j]? = some l → ∃ u, vs[j]? = some u ∧ W.ownsRow base 3 1 u l.length (l.flatMap encN)) ∧ (∀ i j u u', i0 ≤ i → i0 ≤ j → i ≠ j → vs[i]? = some u → vs[j]? = some u' → u.ownBlock = none ∨ u.ownBlock ≠ u'.ownBlock)
theorem NestF.below {i0 : Nat} {W W' : World} {base : Nat} {v : Value} {ls : List (List Nat)} (h : NestF i0 W base v ls) (hb : Below W.heap.size W W') : NestF i0 W' base v ls := by
  obtain ⟨vs, h1, h2, h3⟩ := h
  exact ⟨vs, own_below h1 hb, fun j l hj hl => by obtain ⟨u, a, b⟩ := h2 j l hj hl; exact ⟨u, a, own_below b hb⟩, h3⟩
theorem NestF.base {i0 : Nat} {W : World} {b b' : Nat} {v : Value} {ls : List (List Nat)} (h : NestF i0 W b v ls) (hb : b' ≤ b) : NestF i0 W b' v ls := by
  obtain ⟨vs, h1, h2, h3⟩ := h
  exact ⟨vs, own_base h1 hb, fun j l hj hl => by obtain ⟨u, c, d⟩ := h2 j l hj hl; exact ⟨u, c, own_base d hb⟩, h3⟩
theorem NestF.nil (W : World) (b : Nat) : NestF 0 W b (.slice none 0 0) [] := ⟨[], World.ownsRow_nil _ _ _ _, fun j l _ h => by simp at h, fun i j u u' _ _ _ h => by simp at h⟩
theorem ne_SI : 23 ≠ 3 := by decide
theorem ne_IS : 3 ≠ 23 := by decide
theorem own_len {W : World} {b n sz : Nat} {e : TypeId} {v : Value} {xs : List Value} (h : W.ownsRow b e sz v n xs) : xs.length = n * sz := h.1
/-- One row more. -/
theorem NestF.put {W w2 : World} {b : Nat} {v v' u : Value} {ls : List (List Nat)} {vs : List Value} {l : List Nat} (h1 : W.ownsRow b 23 1 v ls.length vs)
    (h2 : ∀ j l, 0 ≤ j → ls[j]? = some l → ∃ u, vs[j]? = some u ∧ W.ownsRow b 3 1 u l.length (l.flatMap encN)) (h3 : ∀ i j u u', 0 ≤ i → 0 ≤ j → i ≠ j → vs[i]? = some u → vs[j]? = some u' → u.ownBlock = none ∨ u.ownBlock ≠ u'.ownBlock)
    (hu : W.ownsRow b 3 1 u l.length (l.flatMap encN)) (hn : ∀ (j : Nat) (u' : Value), vs[j]? = some u' → u.ownBlock = none ∨ u.ownBlock ≠ u'.ownBlock)
    (hg : W.grownBy w2 v.ownBlock) (ho : w2.ownsRow b 23 1 v' (ls.length + 1) (vs ++ [u])) : NestF 0 w2 b v' (ls ++ [l]) := by
  have hvs : vs.length = ls.length := by have := own_len h1; omega
  refine ⟨vs ++ [u], by simpa using ho, fun j l' _ hl => ?_, fun i j a a' _ _ hij ha ha' => ?_⟩
  · by_cases hj : j < ls.length
    · rw [List.getElem?_append_left hj] at hl
      obtain ⟨u', c, d⟩ := h2 j l' (Nat.zero_le _) hl
      exact ⟨u', by rw [List.getElem?_append_left (by omega)]; exact c, d.kept hg (rows_apart d h1 ne_IS)⟩
    · rw [List.getElem?_append_right (by omega)] at hl
      have h0 : j - ls.length = 0 := by have := (List.getElem?_eq_some_iff.1 hl).1; simp at this; omega
      rw [h0] at hl
      simp at hl
      subst hl
      exact ⟨u, by rw [List.getElem?_append_right (by omega), show j - vs.length = 0 by omega]; rfl, hu.kept hg (rows_apart hu h1 ne_IS)⟩
  · by_cases hi : i < vs.length
    · rw [List.getElem?_append_left hi] at ha
      by_cases hj : j < vs.length
      · rw [List.getElem?_append_left hj] at ha'
        exact h3 i j a a' (Nat.zero_le _) (Nat.zero_le _) hij ha ha'
      · rw [List.getElem?_append_right (by omega)] at ha'
        have h0 : j - vs.length = 0 := by have := (List.getElem?_eq_some_iff.1 ha').1; simp at this; omega
        rw [h0] at ha'
        simp at ha'
        subst ha'
        rcases hn i a ha with e | e
        · cases hab : a.ownBlock with
          | none => exact .inl rfl
          | some g => exact .inr (by rw [e]; simp)
        · exact .inr (fun e2 => e e2.symm)
    · rw [List.getElem?_append_right (by omega)] at ha
      have h0 : i - vs.length = 0 := by have := (List.getElem?_eq_some_iff.1 ha).1; simp at this; omega
      rw [h0] at ha
      simp at ha
      subst ha
      have hj : j < vs.length := by
        by_cases hj : j < vs.length
        · exact hj
        · rw [List.getElem?_append_right (by omega)] at ha'
          have := (List.getElem?_eq_some_iff.1 ha').1
          simp at this
          omega
      rw [List.getElem?_append_left hj] at ha'
      exact hn j a' ha'
/-- A row is turned. -/
theorem NestF.turn {i0 i1 q : Nat} {W w2 : World} {b : Nat} {u u' : Value} {ls : List (List Nat)} {vs : List Value} {l : List Nat} {g n c : Nat} (h1 : W.ownsRow b 23 1 (.slice (some ⟨g, 0, none⟩) n c) ls.length vs)
    (h2 : ∀ j l, i0 ≤ j → ls[j]? = some l → ∃ u, vs[j]? = some u ∧ W.ownsRow b 3 1 u l.length (l.flatMap encN)) (h3 : ∀ i j u u', i0 ≤ i → i0 ≤ j → i ≠ j → vs[i]? = some u → vs[j]? = some u' → u.ownBlock = none ∨ u.ownBlock ≠ u'.ownBlock)
    (hi : i0 ≤ i1) (hq : i0 ≤ q) (hqn : q < ls.length) (hu : vs[q]? = some u) (hu2 : W.ownsRow b 3 1 u (ls.getD q []).length ((ls.getD q []).flatMap encN)) (hg : W.grownBy w2 u.ownBlock)
    (ho : i1 ≤ q → w2.ownsRow b 3 1 u' l.length (l.flatMap encN) ∧ (u'.ownBlock = u.ownBlock ∨ u'.ownBlock = some W.heap.size)) : NestF i1 (w2.setCell ⟨g, q, none⟩ u') b (.slice (some ⟨g, 0, none⟩) n c) (ls.set q l) := by
  have hvs : vs.length = ls.length := by have := own_len h1; omega
  have hn : n = ls.length := by
    obtain ⟨_, _, e, _⟩ := own_slice h1
    cases e; rfl
  subst hn
  have ho1 := h1.kept hg (rows_apart h1 hu2 ne_SI)
  have ho2 := own_setK ho1 (o := q) (by omega) u'
  have low : ∀ j a, vs[j]? = some a → i0 ≤ j → ∀ k, a.ownBlock = some k → b ≤ k ∧ k < W.heap.size := fun j a ha hj k hk => by
    have hjl : j < ls.length := by have := (List.getElem?_eq_some_iff.1 ha).1; omega
    obtain ⟨l', hl'⟩ : ∃ l', ls[j]? = some l' := ⟨_, List.getElem?_eq_getElem hjl⟩
    obtain ⟨a', e1, e2⟩ := h2 j l' hj hl'
    rw [ha] at e1
    cases e1
    exact e2.lt k hk
  have hgt := (h1.lt g rfl)
  refine ⟨vs.set q u', by rw [List.length_set]; exact ho2, fun j l' hj hl => ?_, fun i j a a' hi2 hj2 hij ha ha' => ?_⟩
  · rw [List.getElem?_set] at hl ⊢
    by_cases e : q = j
    · subst e
      rw [if_pos rfl, if_pos hqn] at hl
      cases hl
      rw [if_pos rfl, if_pos (by omega)]
      obtain ⟨o1, o2⟩ := ho hj
      refine ⟨u', rfl, o1.kept (grownBy_setCell w2 g q u') ?_⟩
      have := rows_apart o1 ho1 ne_IS
      simpa [Value.ownBlock] using this
    · rw [if_neg e] at hl ⊢
      obtain ⟨a, e1, e2⟩ := h2 j l' (by omega) hl
      have h5 := e2.kept hg (h3 j q a u (by omega) hq (fun e3 => e e3.symm) e1 hu)
      refine ⟨a, e1, h5.kept (grownBy_setCell w2 g q u') ?_⟩
      have := rows_apart h5 ho1 ne_IS
      simpa [Value.ownBlock] using this
  · rw [List.getElem?_set] at ha ha'
    by_cases e : q = i
    · subst e
      rw [if_pos rfl, if_pos (by omega)] at ha
      cases ha
      rw [if_neg hij] at ha'
      obtain ⟨o1, o2⟩ := ho hi2
      rcases o2 with o2 | o2
      · rw [o2]; exact h3 q j u a' hq (by omega) hij hu ha'
      · refine .inr ?_
        rw [o2]
        intro e3
        have := low j a' ha' (by omega) _ e3.symm
        omega
    · rw [if_neg e] at ha
      by_cases e' : q = j
      · subst e'
        rw [if_pos rfl, if_pos (by omega)] at ha'
        cases ha'
        obtain ⟨o1, o2⟩ := ho hj2
        rcases o2 with o2 | o2
        · rw [o2]; exact h3 i q a u (by omega) hq hij ha hu
        · rw [o2]
          cases hab : a.ownBlock with
          | none => exact .inl rfl
          | some k =>
            have := low i a ha (by omega) _ hab
            exact .inr (fun e3 => by simp at e3; omega)
      · rw [if_neg e'] at ha'
        exact h3 i j a a' (by omega) (by omega) hij ha ha'
end Go.Proofs.Ytdcmkiggnmajgaa
