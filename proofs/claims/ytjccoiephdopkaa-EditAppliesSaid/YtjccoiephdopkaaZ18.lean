/- Several texts in one. -/
import Derived.Test.YtjccoiephdopkaaZ17
import Derived.Test.YtjccoiephdopkaaZ13
import Derived.Test.YtjccoiephdopkaaZ16
import Derived.Test.YtjccoiephdopkaaZ08
/- Stage 27: Whole: what is known of it as it goes on. -/
namespace Go.Proofs.Ytjccoiephdopkaa
set_option linter.unusedVariables false
set_option linter.unusedSimpArgs false
open Go Go.RowKit Go.Shelf
set_option maxRecDepth 100000

theorem edB_zero (s : ByteArray) : EdB s 0 := by
  by_cases h : 0 < s.size
  · left
    show 0 ∈ posG s 0
    rw [posG_cons s 0 h]; simp
  · right; omega
theorem edB_next {s : ByteArray} {p : Nat} (hp : p ∈ posns s) : EdB s (p + wd s p) := by
  obtain ⟨pre, rest, e⟩ := List.append_of_mem hp
  obtain ⟨_, h1, h2⟩ := G_split s pre 0 p rest e
  have hf := wd_fits s p h1
  by_cases h : p + wd s p < s.size
  · left
    rw [e, h2, posG_cons s _ h]; simp
  · right; omega
/-- What is known when the pieces ahead of a boundary have been gone through. -/
structure WOk (s t : ByteArray) (gs : List (Option Nat)) (c : Nat) (x : WS) : Prop where
  ac : x.a ≤ c
  sz : x.a ≤ s.size
  bt : x.b ≤ t.size
  nx : ∀ (p g : Nat), c ≤ p → gs[p]? = some (some g) → x.b ≤ g
  run : runA x.A (bL s) = some ((bL t).take x.b, (bL s).drop x.a)
  pS : PIn true (EdB s) (fdL x.A mk0)
  cS : curM true (fdL x.A mk0) = x.a
  pT : PIn false (EdB t) (fdL x.A mk0)
  cT : curM false (fdL x.A mk0) = x.b
theorem WOk.start (s t : ByteArray) (gs : List (Option Nat)) : WOk s t gs 0 ⟨[], 0, 0⟩ :=
  ⟨Nat.le_refl _, Nat.zero_le _, Nat.zero_le _, fun _ _ _ _ => Nat.zero_le _, by simp [runA], ⟨preS_nil (edB_zero s), edB_zero s⟩, rfl, ⟨preS_nil (edB_zero t), edB_zero t⟩, rfl⟩
theorem WOk.len {s t : ByteArray} {gs : List (Option Nat)} {c : Nat} {x : WS} (h : WOk s t gs c x) : x.A.length ≤ x.a + x.b := by
  have h1 := run_len h.run
  have h2 := at_len x.A
  rw [bL_len, List.length_take, List.length_drop, bL_len, bL_len] at h1
  have := h.sz
  have := h.bt
  omega
theorem fd_grp (A : List Atm) (x y : ByteArray) (n : Nat) : fdL (A ++ (bL x).map .P ++ (bL y).map .D ++ List.replicate n .K) mk0 = keepM n (dropsM y (putsM x (fdL A mk0))) := by
  rw [fdL_app, fdL_app, fdL_app, ← keep_fd, ← puts_fd, ← drops_fd]
theorem ext_sz (s : ByteArray) {a b : Nat} (h1 : a ≤ b) (h2 : b ≤ s.size) : (s.extract a b).size = b - a := by rw [ByteArray.size_extract]; omega
theorem okM_puts {m : Mk} (x : ByteArray) (h : OkM m) : OkM (putsM x m) := by
  have : putsM x m = fdL ((bL x).map .P) m := puts_fd x m
  rw [this]; exact (den_fdL _ h).1
theorem okM_drops {m : Mk} (x : ByteArray) (h : OkM m) : OkM (dropsM x m) := by
  have : dropsM x m = fdL ((bL x).map .D) m := drops_fd x m
  rw [this]; exact (den_fdL _ h).1
theorem run_grp {A : List Atm} {s t : List UInt8} {a b p g w : Nat} (h : runA A s = some (t.take b, s.drop a)) (h1 : a ≤ p) (h2 : b ≤ g) (h3 : p + w ≤ s.length) (h4 : g + w ≤ t.length) (hw : (s.drop p).take w = (t.drop g).take w) :
    runA (A ++ ((t.drop b).take (g - b)).map .P ++ ((s.drop a).take (p - a)).map .D ++ List.replicate w .K) s = some (t.take (g + w), s.drop (p + w)) := by
  rw [runA_append, runA_append, runA_append, h]
  simp only [Option.bind_some]
  have e1 := run_Ps ((t.drop b).take (g - b)) [] (s.drop a)
  rw [List.append_nil] at e1
  rw [e1]
  simp only [runA, Option.map_some, Option.bind_some]
  have hl : ((s.drop a).take (p - a)).length = p - a := by rw [List.length_take, List.length_drop]; omega
  have e2 := run_Ds ((s.drop a).take (p - a)) [] (s.drop a) (by rw [hl, List.length_drop]; omega)
  rw [List.append_nil, hl, if_pos rfl] at e2
  rw [e2]
  simp only [runA, Option.map_some, Option.bind_some, List.drop_drop]
  have e3 := run_Ks w [] (s.drop (a + (p - a))) (by rw [List.length_drop]; omega)
  rw [List.append_nil] at e3
  rw [e3]
  simp only [runA, Option.map_some, List.drop_drop]
  rw [show a + (p - a) = p by omega, hw]
  congr 2
  rw [List.append_nil, List.append_nil, List.append_nil]
  have e4 : t.take b ++ (t.drop b).take (g - b) = t.take g := by
    rw [show g = b + (g - b) by omega, List.take_add]
    congr 2; omega
  rw [e4, List.take_add]
theorem bL_take (s : ByteArray) {a b : Nat} : bL (s.extract a b) = ((bL s).drop a).take (b - a) := by
  by_cases h : a ≤ b
  · have := bL_ext s a (b - a)
    rw [show a + (b - a) = b by omega] at this
    exact this
  · rw [bL_nil (by rw [ByteArray.size_extract]; omega), show b - a = 0 by omega, List.take_zero]
theorem WOk.step {s t : ByteArray} {gs : List (Option Nat)} {p : Nat} {x : WS} (h : WOk s t gs p x) (hp : p ∈ posns s) (hg : GsK s t gs) : WOk s t gs (p + wd s p) (stepW s t gs x p) := by
  cases ht : tkW s t gs p with
  | none =>
    rw [stepW_no ht]
    have := h.ac
    exact ⟨by omega, h.sz, h.bt, fun q g hq => h.nx q g (by omega), h.run, h.pS, h.cS, h.pT, h.cT⟩
  | some g =>
    rw [stepW_yes ht]
    obtain ⟨k1, k2, k3⟩ := tkW_some.1 ht
    have hw := wd_pos s p
    have hps := (posG_ge s 0 p hp).2
    have hfs := wd_fits s p hps
    have hgt := (posG_ge t 0 g k2).2
    have hft := wd_fits t g hgt
    rw [k3] at hft
    have hb : x.b ≤ g := h.nx p g (Nat.le_refl _) (by have := k1 0 hw; simpa using this)
    have ha := h.ac
    have sz1 := ext_sz t hb (Nat.le_of_lt hgt)
    have sz2 := ext_sz s ha (Nat.le_of_lt hps)
    have o0 := (den_fdL x.A OkM.new).1
    have o1 := okM_puts (t.extract x.b g) o0
    have o2 := okM_drops (s.extract x.a p) o1
    have S1 := pin_puts (b := true) h.pS o0 (t.extract x.b g) (by rw [h.cS]; have := h.pS.2; rw [h.cS] at this; simpa using this)
    have S2 := pin_drops (b := true) S1.1 o1 (s.extract x.a p) (by rw [S1.2, h.cS, sz2]; simp only [if_true, Nat.add_zero]; rw [show x.a + (p - x.a) = p by omega]; exact .inl hp)
    have S3 := pin_keep (b := true) S2.1 o2 (wd s p) (by rw [S2.2, S1.2, h.cS, sz2]; simp only [if_true, Nat.add_zero]; rw [show x.a + (p - x.a) = p by omega]; exact edB_next hp)
    have T1 := pin_puts (b := false) h.pT o0 (t.extract x.b g) (by rw [h.cT, sz1]; simp only [Bool.false_eq_true, if_false]; rw [show x.b + (g - x.b) = g by omega]; exact .inl k2)
    have T2 := pin_drops (b := false) T1.1 o1 (s.extract x.a p) (by rw [T1.2, h.cT, sz1]; simp only [Bool.false_eq_true, if_false, Nat.add_zero]; rw [show x.b + (g - x.b) = g by omega]; exact .inl k2)
    have T3 := pin_keep (b := false) T2.1 o2 (wd s p) (by rw [T2.2, T1.2, h.cT, sz1]; simp only [Bool.false_eq_true, if_false, Nat.add_zero]; rw [show x.b + (g - x.b) = g by omega, ← k3]; exact edB_next k2)
    refine ⟨Nat.le_refl _, hfs, hft, fun q h' hq hq2 => ?_, ?_, ?_, ?_, ?_, ?_⟩
    · have := hg.mono (p + (wd s p - 1)) q (g + (wd s p - 1)) h' (by omega) (k1 _ (by omega)) hq2
      show g + wd s p ≤ h'
      omega
    · rw [bL_take, bL_take]
      refine run_grp h.run ha hb (by rw [bL_len]; exact hfs) (by rw [bL_len]; exact hft) ?_
      apply List.ext_getElem?
      intro q
      rw [List.getElem?_take, List.getElem?_take]
      split
      · rename_i hq
        rw [List.getElem?_drop, List.getElem?_drop]
        exact (hg.same _ _ (k1 q hq)).1
      · rfl
    · rw [fd_grp]; exact S3.1
    · rw [fd_grp, S3.2, S2.2, S1.2, h.cS, sz2]; simp only [if_true, Nat.add_zero]; show _ = p + wd s p; omega
    · rw [fd_grp]; exact T3.1
    · rw [fd_grp, T3.2, T2.2, T1.2, h.cT, sz1]; simp only [Bool.false_eq_true, if_false, Nat.add_zero]; show _ = g + wd s p; omega
theorem edB_prev {s : ByteArray} {c : Nat} (h : EdB s c) (h0 : 0 < c) : ∃ p, p ∈ posns s ∧ p + wd s p = c := by
  have hc : c ≤ s.size := by
    rcases h with h | h
    · exact Nat.le_of_lt (posG_ge s 0 c h).2
    · omega
  obtain ⟨p, hp, h1, h2⟩ := posG_cover s 0 (c - 1) (by omega) (by omega)
  refine ⟨p, hp, ?_⟩
  rcases h with h | h
  · have := posG_apart s 0 p hp c h (by omega); omega
  · have := wd_fits s p (posG_ge s 0 p hp).2; omega
theorem upW_ok {s t : ByteArray} {gs : List (Option Nat)} (hg : GsK s t gs) : ∀ c, EdB s c → WOk s t gs c (upW s t gs c) := by
  intro c
  induction c using Nat.strongRecOn with
  | ind c ih =>
    intro hc
    rcases Nat.eq_zero_or_pos c with rfl | h0
    · rw [upW_zero]; exact WOk.start s t gs
    · obtain ⟨p, hp, rfl⟩ := edB_prev hc h0
      have := wd_pos s p
      rw [upW_step hp]
      exact (ih p (by omega) (.inl hp)).step hp hg
/-- What the whole of it does. -/
theorem whA_ok {s t : ByteArray} {gs : List (Option Nat)} (hg : GsK s t gs) : runA (whA s t gs) (bL s) = some (bL t, []) ∧ PreS true (EdB s) (nfA (whA s t gs)) 0 ∧ PreS false (EdB t) (nfA (whA s t gs)) 0 := by
  have h := upW_ok hg s.size (.inr rfl)
  unfold whA finW
  generalize upW s t gs s.size = x at h ⊢
  have sz1 := ext_sz t h.bt (Nat.le_refl _)
  have sz2 := ext_sz s h.sz (Nat.le_refl _)
  have e : ∀ n, fdL (x.A ++ (bL (t.extract x.b t.size)).map .P ++ (bL (s.extract x.a s.size)).map .D) n = dropsM (s.extract x.a s.size) (putsM (t.extract x.b t.size) (fdL x.A n)) := by
    intro n; rw [fdL_app, fdL_app, ← puts_fd, ← drops_fd]
  have o0 := (den_fdL x.A OkM.new).1
  have o1 := okM_puts (t.extract x.b t.size) o0
  have o2 := okM_drops (s.extract x.a s.size) o1
  have S1 := pin_puts (b := true) h.pS o0 (t.extract x.b t.size) (by rw [h.cS]; have := h.pS.2; rw [h.cS] at this; simpa using this)
  have ha := h.sz
  have hb := h.bt
  have S2 := pin_drops (b := true) S1.1 o1 (s.extract x.a s.size) (by rw [S1.2, h.cS, sz2]; simp only [if_true, Nat.add_zero]; rw [show x.a + (s.size - x.a) = s.size by omega]; exact .inr rfl)
  have T1 := pin_puts (b := false) h.pT o0 (t.extract x.b t.size) (by rw [h.cT, sz1]; simp only [Bool.false_eq_true, if_false]; rw [show x.b + (t.size - x.b) = t.size by omega]; exact .inr rfl)
  have T2 := pin_drops (b := false) T1.1 o1 (s.extract x.a s.size) (by rw [T1.2, h.cT, sz1]; simp only [Bool.false_eq_true, if_false, Nat.add_zero]; rw [show x.b + (t.size - x.b) = t.size by omega]; exact .inr rfl)
  refine ⟨?_, ?_, ?_⟩
  · rw [bL_take, bL_take]
    have q1 : (bL t).take t.size = bL t := List.take_of_length_le (by rw [bL_len]; omega)
    have q2 : (bL s).drop s.size = [] := List.drop_of_length_le (by rw [bL_len]; omega)
    have := run_grp (p := s.size) (g := t.size) (w := 0) h.run ha hb (by rw [bL_len]; omega) (by rw [bL_len]; omega) rfl
    rw [List.replicate_zero, List.append_nil, Nat.add_zero, Nat.add_zero, q1, q2] at this
    exact this
  · unfold nfA; rw [e]; exact pin_end S2.1 o2
  · unfold nfA; rw [e]; exact pin_end T2.1 o2
/-- No two rows that are kept stand side by side. -/
def NoKK (l : List Sp) : Prop := ∀ k x y, l[k]? = some x → l[k + 1]? = some y → 0 < x.k → 0 < y.k → False
theorem noKK_snoc {l : List Sp} {x : Sp} (h : NoKK l) (g : 0 < x.k → ∀ y, l[l.length - 1]? = some y → 0 < y.k → False) : NoKK (l ++ [x]) := by
  intro k a b h1 h2 h3 h4
  have hl := (List.getElem?_eq_some_iff.1 h2).1
  simp only [List.length_append, List.length_cons, List.length_nil] at hl
  rcases Nat.lt_or_ge (k + 1) l.length with hk | hk
  · rw [List.getElem?_append_left (by omega)] at h1 h2
    exact h k a b h1 h2 h3 h4
  · rw [List.getElem?_append_left (by omega)] at h1
    rw [List.getElem?_append_right (by omega), show k + 1 - l.length = 0 by omega] at h2
    cases h2
    exact g h4 a (by rw [show l.length - 1 = k by omega]; exact h1) h3
structure LKm (m : Mk) : Prop where
  no : NoKK m.out
  la : ∀ y, m.out[m.out.length - 1]? = some y → 0 < y.k → m.kept = 0 ∧ 0 < m.put.size + m.drop.size
theorem LKm.row {m : Mk} (h : LKm m) : NoKK (rowM m).out := by
  unfold rowM
  simp only
  split
  · refine noKK_snoc h.no fun _ y hy hk => ?_
    have := h.la y hy hk
    omega
  · rw [List.append_nil]; exact h.no
theorem snoc_last (l : List Sp) (x : Sp) : (l ++ [x])[(l ++ [x]).length - 1]? = some x := by
  rw [List.length_append, List.length_singleton, Nat.add_sub_cancel, List.getElem?_append_right (Nat.le_refl _), Nat.sub_self]; rfl
theorem LKm.gap {m : Mk} (h : LKm m) : NoKK (gapM m).out ∧ (0 < m.put.size + m.drop.size → ∀ y, (gapM m).out[(gapM m).out.length - 1]? = some y → ¬ 0 < y.k) := by
  rw [gap_oP]
  simp only
  have h1 : NoKK (m.out ++ oP m.put) := by
    unfold oP
    split
    · exact noKK_snoc h.no fun hk => absurd hk (by simp)
    · rw [List.append_nil]; exact h.no
  refine ⟨?_, fun hs => ?_⟩
  · unfold oD
    split
    · exact noKK_snoc h1 fun hk => absurd hk (by simp)
    · rw [List.append_nil]; exact h1
  · unfold oD
    split
    · intro y hy
      rw [snoc_last] at hy
      cases hy; simp
    · rw [List.append_nil]
      unfold oP
      rw [if_pos (by omega)]
      intro y hy
      rw [snoc_last] at hy
      cases hy; simp
theorem LKm.puts {m : Mk} (h : LKm m) (x : ByteArray) : LKm (putsM x m) := by
  unfold putsM
  split
  · rename_i hx
    exact ⟨h.row, fun y _ _ => ⟨rfl, by simp only [ByteArray.size_append]; omega⟩⟩
  · refine ⟨h.no, fun y hy hk => ?_⟩
    have := h.la y hy hk
    exact ⟨this.1, by simp only [ByteArray.size_append]; omega⟩
theorem LKm.drops {m : Mk} (h : LKm m) (x : ByteArray) : LKm (dropsM x m) := by
  unfold dropsM
  split
  · rename_i hx
    exact ⟨h.row, fun y _ _ => ⟨rfl, by simp only [ByteArray.size_append]; omega⟩⟩
  · refine ⟨h.no, fun y hy hk => ?_⟩
    have := h.la y hy hk
    exact ⟨this.1, by simp only [ByteArray.size_append]; omega⟩
theorem LKm.keep {m : Mk} (h : LKm m) (n : Nat) : LKm (keepM n m) := by
  unfold keepM
  simp only
  split
  · rename_i hc
    obtain ⟨h1, h2⟩ := h.gap
    exact ⟨h1, fun y hy hk => absurd hk (h2 hc.2 y hy)⟩
  · rename_i hc
    refine ⟨h.no, fun y hy hk => ?_⟩
    have := h.la y hy hk
    exact ⟨by simp only; omega, this.2⟩
theorem LKm.fd {m : Mk} (h : LKm m) (a : Atm) : LKm (fd m a) := by
  cases a with
  | K => exact h.keep 1
  | P c => exact h.puts ⟨#[c]⟩
  | D c => exact h.drops ⟨#[c]⟩
theorem LKm.fdL (A : List Atm) : ∀ {m : Mk}, LKm m → LKm (fdL A m) := by
  induction A with
  | nil => intro m h; exact h
  | cons a A ih => intro m h; exact ih (h.fd a)
theorem LKm.end {m : Mk} (h : LKm m) (ho : OkM m) : NoKK (endM m) := by
  obtain ⟨h1, h2⟩ := h.gap
  unfold endM
  rw [row_oK]
  simp only
  unfold oK
  split
  · rename_i hk
    have hk' : 0 < m.kept := hk
    obtain ⟨a1, a2⟩ := ho.alt hk'
    have e : (gapM m).out = m.out := by rw [gap_oP]; unfold oP oD; rw [if_neg (by omega), if_neg (by omega)]; simp
    rw [e]
    refine noKK_snoc h.no fun _ y hy hky => ?_
    have := h.la y hy hky
    omega
  · rw [List.append_nil]; exact h1
theorem nf_noKK (A : List Atm) : NoKK (nfA A) := by
  unfold nfA
  exact LKm.end (LKm.fdL A ⟨fun k x y h => (by cases h), fun y h => (by cases h)⟩) (den_fdL A OkM.new).1
section
variable {L : List Sp} {k : Nat} {x : Sp}
theorem gs_at (L : List Sp) (k q : Nat) : (gsA (atL L) 0)[inA (atL (L.take k)) + q]? = (gsA (atL (L.drop k)) (outA (atL (L.take k))))[q]? := by
  have e : atL L = atL (L.take k) ++ atL (L.drop k) := by rw [← atL_app, List.take_append_drop]
  rw [e, gsA_app, Nat.zero_add, List.getElem?_append_right (by rw [gsA_len]; omega), gsA_len, Nat.add_sub_cancel_left]
theorem drop_at (hx : L[k]? = some x) : L.drop k = x :: L.drop (k + 1) := by
  have hlt := (List.getElem?_eq_some_iff.1 hx).1
  exact (List.drop_eq_getElem_cons hlt).trans (by rw [(List.getElem?_eq_some_iff.1 hx).2])
theorem take_at (hx : L[k]? = some x) : inA (atL (L.take (k + 1))) = inA (atL (L.take k)) + x.k.toNat + x.d.size ∧ outA (atL (L.take (k + 1))) = outA (atL (L.take k)) + x.k.toNat + x.p.size := by
  rw [List.take_add_one, hx, atL_app, inA_append, outA_append]
  have : atL (some x).toList = atS x := by simp [atL]
  rw [this, (in_atS x).1, (in_atS x).2]
  omega
theorem gs_keep (hx : L[k]? = some x) (hk : 0 < x.k) (ho : kindN x ≠ 0) {q : Nat} (hq : q < x.k.toNat) : (gsA (atL L) 0)[inA (atL (L.take k)) + q]? = some (some (outA (atL (L.take k)) + q)) := by
  rw [gs_at, drop_at hx, atL_cons]
  have e : atS x = List.replicate x.k.toNat .K := by
    obtain ⟨kk, d, p⟩ := x
    rcases kind_three kk d p with h0 | ⟨h1, h2, h3, h4⟩ | ⟨h1, h2, h3, h4⟩ | ⟨h1, h2, h3, h4⟩
    · exact absurd h0 ho
    · subst h2; subst h3; simp [atS, bL_emp]
    · simp only at hk; omega
    · simp only at hk; omega
  rw [e, gsA_app, List.getElem?_append_left (by rw [gsA_len, (in_rep_K _).1]; exact hq)]
  exact gsA_K _ _ _ hq
theorem gs_drop (hx : L[k]? = some x) (hk : x.k = 0) (ho : kindN x ≠ 0) {q : Nat} (hq : q < x.d.size) : (gsA (atL L) 0)[inA (atL (L.take k)) + q]? = some none := by
  rw [gs_at, drop_at hx, atL_cons]
  have e : atS x = (bL x.d).map .D := by
    obtain ⟨kk, d, p⟩ := x
    rcases kind_three kk d p with h0 | ⟨h1, h2, h3, h4⟩ | ⟨h1, h2, h3, h4⟩ | ⟨h1, h2, h3, h4⟩
    · exact absurd h0 ho
    · simp only at hk; omega
    · subst h1; subst h2; simp [atS, bL_emp]
    · simp only at hk hq; subst h2; simp [emp_size] at hq
  rw [e, gsA_app, List.getElem?_append_left (by rw [gsA_len, (in_map_D _).1, bL_len]; exact hq)]
  have key : ∀ (l : List UInt8) (t q : Nat), q < l.length → (gsA (l.map .D) t)[q]? = some none := by
    intro l
    induction l with
    | nil => intro t q h; simp at h
    | cons c l ih =>
      intro t q h
      cases q with
      | zero => rfl
      | succ q => exact ih t q (by simpa using h)
  exact key _ _ _ (by rw [bL_len]; exact hq)
theorem gs_end (hL : NoKK L) (hz : ∀ x ∈ L, kindN x ≠ 0) (hx : L[k]? = some x) (hk : 0 < x.k) : (gsA (atL L) 0)[inA (atL (L.take k)) + x.k.toNat]? ≠ some (some (outA (atL (L.take k)) + x.k.toNat)) := by
  have hxm := hz x (List.mem_of_getElem? hx)
  obtain ⟨kk, d, p⟩ := x
  have hemp : d = .empty ∧ p = .empty := by
    rcases kind_three kk d p with h0 | ⟨h1, h2, h3, h4⟩ | ⟨h1, h2, h3, h4⟩ | ⟨h1, h2, h3, h4⟩
    · exact absurd h0 hxm
    · exact ⟨h2, h3⟩
    · simp only at hk; omega
    · simp only at hk; omega
  obtain ⟨rfl, rfl⟩ := hemp
  have h1 := take_at hx
  have e0 := gs_at L (k + 1) 0
  simp only [emp_size, Nat.add_zero] at h1 e0
  simp only
  rw [← h1.1, ← h1.2, e0]
  intro h
  cases hd : L.drop (k + 1) with
  | nil => rw [hd] at h; cases h
  | cons y l =>
    have hy : L[k + 1]? = some y := by
      have := congrArg (fun z => z[0]?) hd
      simpa using this
    rw [hd, atL_cons] at h
    have hym := hz y (List.mem_of_getElem? hy)
    obtain ⟨ky, dy, py⟩ := y
    rcases kind_three ky dy py with g0 | ⟨g1, g2, g3, g4⟩ | ⟨g1, g2, g3, g4⟩ | ⟨g1, g2, g3, g4⟩
    · exact absurd g0 hym
    · exact hL k _ _ hx hy hk g1
    · subst g1; subst g2
      have e : atS ⟨0, dy, .empty⟩ = (bL dy).map .D := by simp [atS, bL_emp]
      rw [e] at h
      have hne : bL dy ≠ [] := fun hh => by have := congrArg List.length hh; rw [bL_len] at this; exact g3 this
      obtain ⟨c, z, hc⟩ := List.exists_cons_of_ne_nil hne
      rw [hc] at h
      cases h
    · subst g1; subst g2
      have e : atS ⟨0, .empty, py⟩ = (bL py).map .P := by simp [atS, bL_emp]
      rw [e, gsA_app] at h
      have key : ∀ (l : List UInt8) (t : Nat), gsA (l.map .P) t = [] := by
        intro l
        induction l with
        | nil => intro t; rfl
        | cons c l ih => intro t; exact ih (t + 1)
      rw [key, List.nil_append] at h
      have := (gsA_ge _ _ _ _ h).1
      rw [(in_map_P _).2, bL_len] at this
      omega
/-- A piece that begins in a row that is kept. -/
theorem tk_keep {s t : ByteArray} (hL : NoKK L) (hz : ∀ x ∈ L, kindN x ≠ 0) (hx : L[k]? = some x) (hk : 0 < x.k) {p : Nat} (h1 : inA (atL (L.take k)) ≤ p) (h2 : p < inA (atL (L.take k)) + x.k.toNat) (g : Nat) :
    tkW s t (gsA (atL L) 0) p = some g ↔ p + wd s p ≤ inA (atL (L.take k)) + x.k.toNat ∧ g = outA (atL (L.take k)) + (p - inA (atL (L.take k))) ∧ g ∈ posns t ∧ wd t g = wd s p := by
  have hxm := hz x (List.mem_of_getElem? hx)
  have hw := wd_pos s p
  have kp := fun q (hq : q < x.k.toNat) => gs_keep hx hk hxm hq
  have ke := gs_end hL hz hx hk
  generalize inA (atL (L.take k)) = I at *
  generalize outA (atL (L.take k)) = O at *
  rw [tkW_some]
  constructor
  · rintro ⟨a1, a2, a3⟩
    have b1 := a1 0 hw
    have b2 := kp (p - I) (by omega)
    rw [show I + (p - I) = p by omega] at b2
    rw [Nat.add_zero, Nat.add_zero, b2] at b1
    simp only [Option.some.injEq] at b1
    refine ⟨?_, b1.symm, a2, a3⟩
    rcases Nat.lt_or_ge (I + x.k.toNat) (p + wd s p) with hc | hc
    · exfalso
      apply ke
      have b3 := a1 (I + x.k.toNat - p) (by omega)
      rw [show p + (I + x.k.toNat - p) = I + x.k.toNat by omega] at b3
      rw [b3]
      congr 2; omega
    · exact hc
  · rintro ⟨a1, a2, a3, a4⟩
    refine ⟨fun q hq => ?_, a3, a4⟩
    have b2 := kp (p + q - I) (by omega)
    rw [show I + (p + q - I) = p + q by omega] at b2
    rw [b2, a2]
    congr 2; omega
theorem tk_drop {s t : ByteArray} (hz : ∀ x ∈ L, kindN x ≠ 0) (hx : L[k]? = some x) (hk : x.k = 0) {p : Nat} (h1 : inA (atL (L.take k)) ≤ p) (h2 : p < inA (atL (L.take k)) + x.d.size) : tkW s t (gsA (atL L) 0) p = none := by
  have hxm := hz x (List.mem_of_getElem? hx)
  have b := gs_drop hx hk hxm (q := p - inA (atL (L.take k))) (by omega)
  rw [show inA (atL (L.take k)) + (p - inA (atL (L.take k))) = p by omega] at b
  cases h : tkW s t (gsA (atL L) 0) p with
  | none => rfl
  | some g =>
    have := (tkW_some.1 h).1 0 (wd_pos s p)
    rw [Nat.add_zero, b] at this
    cases this
end
end Go.Proofs.Ytjccoiephdopkaa

/- Stage 27: Invert of the program. -/
namespace Go.Proofs.Ytjccoiephdopkaa
set_option linter.unusedVariables false
set_option linter.unusedSimpArgs false
open Go Go.RowKit Go.Shelf
set_option maxRecDepth 100000

/-- A maker that has been told these bytes, and a step beside it. -/
def MkQ (w0 : World) (B b q : Nat) (cs : Array Value) (W : World) (A : List Atm) : Prop :=
  ∃ vo vp vd, MkB W B b vo vp vd (fdL A mk0) ∧ Below w0.heap.size w0 W ∧ w0.heap.size ≤ B ∧ Blk W q cs 29 ∧ N3 (vo, vp, vd) q ∧ q ≠ B
section
variable {w0 W X : World} {B b q : Nat} {cs : Array Value} {A : List Atm}
theorem MkQ.mk1 (h : MkQ w0 B b q cs W A) : Mk1 w0 B b W A := by
  obtain ⟨vo, vp, vd, h1, h2, h3, _⟩ := h
  exact ⟨_, _, _, h1, h2, h3⟩
theorem MkQ.blk (h : MkQ w0 B b q cs W A) : Blk W q cs 29 := by
  obtain ⟨vo, vp, vd, h1, h2, h3, h4, _⟩ := h
  exact h4
theorem mkq_new (h : Mk1 w0 B b W A) (cs : Array Value) : MkQ w0 B b W.heap.size cs (W.alloc (.cells cs 29)) A := by
  obtain ⟨vo, vp, vd, h1, h2, h3⟩ := h
  have hb := (Below.refl W.heap.size W).alloc (Nat.le_refl _) (.cells cs 29)
  exact ⟨_, _, _, h1.below hb, h2.trans (hb.mono h2.size), h3, Blk.new W cs _, h1.n3_new (Nat.le_refl _), by have := h1.bb; have := h1.bw; omega⟩
theorem mkq_keep (h : MkQ w0 B b q cs W A) (hA : A.length ≤ 1000000) (n : Nat) (hn : n ≤ 65536) :
    Calls Try.prog 26 #[.pointer (some ⟨B, 0, none⟩), .int .i64 n] W fun e W' => e = .returned (.tuple #[]) ∧ MkQ w0 B b q cs W' (A ++ List.replicate n .K) := by
  obtain ⟨vo, vp, vd, h1, h2, h3, h4, h5, h6⟩ := h
  have hbd := fd_bd A
  refine (keep_any h1 n hn (by omega) (by omega) (by omega) (by omega)).mono ?_
  rintro e W' ⟨rfl, vo', vp', vd', g1, g2⟩
  have hb := g2.blk q h4.lt h6 h5
  rw [keep_fd, ← fdL_app] at g1
  exact ⟨rfl, _, _, _, g1, g2.below h1 h3 h2, h3, hb.1.trans h4, hb.2, h6⟩
theorem mkq_puts (h : MkQ w0 B b q cs W A) (hA : A.length ≤ 1000000) (s : ByteArray) (hs : s.size ≤ 1000000) :
    Calls Try.prog 28 #[.pointer (some ⟨B, 0, none⟩), .string s] W fun e W' => e = .returned (.tuple #[]) ∧ MkQ w0 B b q cs W' (A ++ (bL s).map .P) := by
  obtain ⟨vo, vp, vd, h1, h2, h3, h4, h5, h6⟩ := h
  have hbd := fd_bd A
  refine (puts_any h1 s hs (by omega) (by omega)).mono ?_
  rintro e W' ⟨rfl, vo', vp', vd', g1, g2⟩
  have hb := g2.blk q h4.lt h6 h5
  rw [puts_fd, ← fdL_app] at g1
  exact ⟨rfl, _, _, _, g1, g2.below h1 h3 h2, h3, hb.1.trans h4, hb.2, h6⟩
theorem mkq_drops (h : MkQ w0 B b q cs W A) (hA : A.length ≤ 1000000) (s : ByteArray) (hs : s.size ≤ 1000000) :
    Calls Try.prog 27 #[.pointer (some ⟨B, 0, none⟩), .string s] W fun e W' => e = .returned (.tuple #[]) ∧ MkQ w0 B b q cs W' (A ++ (bL s).map .D) := by
  obtain ⟨vo, vp, vd, h1, h2, h3, h4, h5, h6⟩ := h
  have hbd := fd_bd A
  refine (drops_any h1 s hs (by omega) (by omega)).mono ?_
  rintro e W' ⟨rfl, vo', vp', vd', g1, g2⟩
  have hb := g2.blk q h4.lt h6 h5
  rw [drops_fd, ← fdL_app] at g1
  exact ⟨rfl, _, _, _, g1, g2.below h1 h3 h2, h3, hb.1.trans h4, hb.2, h6⟩
end
theorem rowC1 {w : World} {g : Nat} {t : TypeId} {o1 : Option Addr} {l1 : List Sp} {c1 : Nat} (h : w.heap[g]? = some (.cells #[.slice o1 l1.length c1] t (0, 0))) : RowAt w encC 1 (some ⟨g, 0, none⟩) [⟨o1, l1, c1⟩] := by
  intro i x hi
  have hl : i < 1 := (List.getElem?_eq_some_iff.1 hi).1
  refine ⟨g, 0, rfl, fun j hj => ?_⟩
  have hc : ∀ o, w.cell? ⟨g, o, none⟩ = (#[.slice o1 l1.length c1] : Array Value)[o]? := fun o => Blk.cell (t := t) h o
  rw [hc]
  match i, hl, hi, j, hj with
  | 0, _, hi, 0, _ => cases hi; rfl
/-- What may of one change says. -/
theorem may1_any (o1 : Option Addr) (l1 : List Sp) (c1 : Nat) (hn1 : l1.length ≤ 9223372036854775807) (ho1 : OkS l1) (w : World) (hr1 : RowAt w encS 3 o1 l1) :
    Calls Try.prog 25 #[.slice (some ⟨w.heap.size, 0, none⟩) 1 1] (w.alloc (.cells #[.slice o1 l1.length c1] 22)) fun e w' => e = .returned (.bool (sizeG l1 0 0).isSome) ∧ Below w.heap.size w w' := by
  have hb := (Below.refl w.heap.size w).alloc (Nat.le_refl _) (.cells #[.slice o1 l1.length c1] 22)
  refine (may_any [⟨o1, l1, c1⟩] (some ⟨w.heap.size, 0, none⟩) 1 (by simp) _ (rowC1 (World.alloc_heap_new w _)) ?_).mono ?_
  · intro x hx
    simp only [List.mem_cons, List.not_mem_nil, or_false] at hx
    subst hx
    exact ⟨hn1, ho1, hr1.below encS_len (by decide) hb⟩
  · rintro e w' ⟨rfl, hb2⟩
    exact ⟨by simp [mayB], hb.trans (hb2.mono (by simp))⟩
/-- What Invert answers. -/
def invO (l : List Sp) : Nat × List Sp := match sizeG l 0 0 with | none => (2, []) | some _ => (0, nfA (invL (atL l)))
/-- What stands of the change so far, turned about. -/
theorem invL_step {l : List Sp} {k : Nat} {x : Sp} (hx : l[k]? = some x) : invL (atL (l.take (k + 1))) = invL (atL (l.take k)) ++ List.replicate x.k.toNat .K ++ (bL x.p).map .D ++ (bL x.d).map .P := by
  rw [List.take_add_one, hx, atL_app, invL_app]
  show _ ++ invL (atL [x]) = _
  have : atL [x] = atS x := by simp [atL]
  rw [this]
  unfold atS
  rw [invL_app, invL_app, invL_K, invL_P, invL_D]
  simp only [List.append_assoc]
theorem at_take (l : List Sp) (k : Nat) : (atL (l.take k)).length ≤ (atL l).length := by
  have : atL l = atL (l.take k) ++ atL (l.drop k) := by rw [← atL_app, List.take_append_drop]
  rw [this, List.length_append]; omega
theorem at_mem {l : List Sp} {x : Sp} (h : x ∈ l) : (atS x).length ≤ (atL l).length := by
  obtain ⟨a, b, rfl⟩ := List.append_of_mem h
  rw [atL_app, atL_cons, List.length_append, List.length_append]; omega
theorem sz_len {l : List Sp} {F T : Nat} (h : sizeG l 0 0 = some (F, T)) : (atL l).length ≤ F + T ∧ F ≤ 65536 ∧ T ≤ 65536 ∧ ∀ x ∈ l, kindN x ≠ 0 ∧ 0 ≤ x.k ∧ x.k ≤ 65536 ∧ x.d.size ≤ 65536 ∧ x.p.size ≤ 65536 := by
  obtain ⟨f1, f2, f3⟩ := sizeG_in l 0 0 _ _ h
  have f4 := plain_cu h
  have h1 := at_len (atL l)
  refine ⟨by omega, f4.2.2.2.1, f4.2.2.2.2.1, fun x hx => ?_⟩
  have h2 := mem_bd hx
  have hk := kind_pos (f3 x hx)
  have := f4.2.2.2.1
  have := f4.2.2.2.2.1
  exact ⟨f3 x hx, hk, by omega, by omega, by omega⟩
set_option maxHeartbeats 4000000 in
theorem invert_any (l : List Sp) (o : Option Addr) (c : Nat) (hn : l.length ≤ 9223372036854775807) (ho : OkS l) (w : World) (hr : RowAt w encS 3 o l) :
    Calls Try.prog 15 #[.slice o l.length c] w fun e w' => ∃ v, e = .returned (.tuple #[v, .int .i64 ((invO l).1 : Nat)]) ∧ w'.ownsRow w.heap.size 29 3 v (invO l).2.length ((invO l).2.flatMap encS) ∧ Below w.heap.size w w' := by
  have cM := may1_any o l c hn ho w hr
  cases hz : sizeG l 0 0 with
  | none =>
    rw [hz] at cM
    have eO : invO l = (2, []) := by unfold invO; rw [hz]
    rw [eO]
    clear hr ho hz eO
    go_enter Try.func15, Try.ntmps15
    go_wp2_with (fail)
    refine cM.mono ?_
    rintro e W1 ⟨rfl, hb1⟩
    simp only [Option.isSome]
    have HB := Lib.hid hb1
    clear hb1 cM
    go_wp2
    refine bodyPost_ret (results_tmp2 rfl _ _ _) rfl ?_
    exact ⟨_, rfl, World.ownsRow_nil _ _ _ _, HB.out⟩
  | some f =>
    obtain ⟨F, T⟩ := f
    rw [hz] at cM
    have eO : invO l = (0, nfA (invL (atL l))) := by unfold invO; rw [hz]
    rw [eO]
    have hsz := sz_len hz
    have HR := Lib.hid (And.intro hr hsz)
    clear hr ho hz eO hsz
    go_enter Try.func15, Try.ntmps15
    go_wp2_with (fail)
    refine cM.mono ?_
    rintro e W1 ⟨rfl, hb1⟩
    simp only [Option.isSome]
    have HB := Lib.hid hb1
    have HM := Lib.hid (mk1_new (w0 := w) hb1)
    clear hb1 cM
    go_wp2
    go_loopw [13] (fun i X => ∃ (k : Nat), i = .int .i64 k ∧ k ≤ l.length ∧ Mk1 w W1.heap.size (W1.heap.size + 1) X (invL (atL (l.take k)))) (fun i _ => l.length - (intOf i).toNat)
    case atStart => exact ⟨0, rfl, by omega, HM.out⟩
    case round =>
      obtain ⟨k, rfl, hk, hM⟩ := hrel
      have hA : (invL (atL (l.take k))).length ≤ 131072 := by
        have h1 := at_take l k
        rw [invL_len]
        obtain ⟨h2, h3, h4, _⟩ := HR.out.2
        omega
      by_cases hlt : k < l.length
      · obtain ⟨x, hx⟩ : ∃ x, l[k]? = some x := ⟨_, List.getElem?_eq_getElem hlt⟩
        have hlow : Below w.heap.size w wr := by obtain ⟨vo, vp, vd, h1, h2, h3⟩ := hM; exact h2
        obtain ⟨g, off, rfl, hc⟩ := HR.out.1.below encS_len (by decide) hlow k x hx
        obtain ⟨q0, q1, q2⟩ := get3 (l := l) hc
        have hok := HR.out.2.2.2.2 x (List.mem_of_getElem? hx)
        have hst := invL_step hx
        obtain ⟨kk, d, p⟩ := x
        simp only at hok hst q0 q1 q2
        obtain ⟨kn, rfl⟩ : ∃ kn : Nat, kk = kn := ⟨kk.toNat, by omega⟩
        rw [Int.toNat_natCast] at hst
        have j5 : IntKind.i64.wrap ((k : Int) + 1) = ((k + 1 : Nat) : Int) := by rw [IntWalk.i64_in _ (by omega)]; omega
        have hkl : (k : Int) < (l.length : Int) := by omega
        have hQ := mkq_new hM #[.int .i64 kn, .string d, .string p]
        obtain ⟨A, hA2⟩ : ∃ A, invL (atL (l.take k)) = A := ⟨_, rfl⟩
        rw [hA2] at hQ hst hA
        obtain ⟨q, hq⟩ : ∃ q, wr.heap.size = q := ⟨_, rfl⟩
        rw [hq] at hQ
        have z0 := hQ.blk.cell 0
        simp only [List.getElem?_toArray, List.getElem?_cons_zero] at z0
        have HX := Lib.hid (And.intro hQ (And.intro hst (And.intro hA hok)))
        have HQ := Lib.hid hq
        clear hQ hst hA hok hM hc hx hlow hq hA2 z0
        go_wp2_with (fail)
        rw [HQ.out]
        refine (mkq_keep HX.out.1 (by have := HX.out.2.2.1; omega) kn (by have := HX.out.2.2.2; omega)).mono ?_
        rintro e V1 ⟨rfl, h1⟩
        have y2 := h1.blk.cell 2
        simp only [List.getElem?_toArray, List.getElem?_cons_zero, List.getElem?_cons_succ] at y2
        have H1 := Lib.hid h1
        clear h1
        go_wp2_with (fail)
        refine (mkq_drops H1.out (by have := HX.out.2.2; simp only [List.length_append, List.length_replicate]; omega) p (by have := HX.out.2.2.2; omega)).mono ?_
        rintro e V2 ⟨rfl, h2⟩
        have y1 := h2.blk.cell 1
        simp only [List.getElem?_toArray, List.getElem?_cons_zero, List.getElem?_cons_succ] at y1
        have H2 := Lib.hid h2
        clear h2 y2
        go_wp2_with (fail)
        refine (mkq_puts H2.out (by have := HX.out.2.2; simp only [List.length_append, List.length_replicate, List.length_map, bL_len]; omega) d (by have := HX.out.2.2.2; omega)).mono ?_
        rintro e V3 ⟨rfl, h3⟩
        have H3 := Lib.hid h3.mk1
        clear h3 y1
        go_wp2
        go_roundw
        case rel => exact ⟨k + 1, by go_num, by omega, by rw [HX.out.2.1]; exact H3.out⟩
        case measure => simp [intOf] <;> omega
      · obtain rfl : k = l.length := by omega
        rw [List.take_length] at hM hA
        have H3 := Lib.hid hM
        clear hM
        go_wp2_with (fail)
        refine (mk1_end H3.out (by omega)).mono ?_
        rintro e V ⟨v, rfl, h1, h2⟩
        have H4 := Lib.hid (And.intro (own_base h1 (show w.heap.size ≤ W1.heap.size + 1 by have := HB.out.size; omega)) h2)
        clear h1 h2
        go_wp2
        refine bodyPost_ret (results_tmp2 rfl _ _ _) rfl ?_
        exact ⟨_, rfl, H4.out.1, H4.out.2⟩
end Go.Proofs.Ytjccoiephdopkaa

/- What runes.Around and runes.Boundary answer, and the document's own. -/
namespace Go.Proofs.Ytjccoiephdopkaa.SQ
set_option linter.unusedVariables false
set_option linter.unusedSimpArgs false
open Go Go.RowKit
set_option maxRecDepth 100000

theorem ret_bool {a b : Bool} (h : a = b) : Ending.returned (.bool a) = .returned (.bool b) := by rw [h]

def ArPost (s : ByteArray) (i : Nat) (w : World) (e : Ending) (w' : World) : Prop :=
  ∃ F T, InB s i F T ∧ e = .returned (.agg #[.int .i64 (F : Nat), .int .i64 (T : Nat)]) ∧ Below w.heap.size w w'

/-- No form is found to hold i, from fewer than n bytes ahead. -/
def noArd (s : ByteArray) (i n : Nat) : Prop := ∀ m, 1 ≤ m → m < n → m ≤ i → ¬ m < lenN s (i - m)

set_option maxHeartbeats 1000000 in
theorem around_any (s : ByteArray) (i : Nat) (hi : i ≤ s.size) (hs : s.size ≤ 281474976710656) (w : World) :
    Calls Try.prog 39 #[.string s, .int .i64 (i : Int)] w (ArPost s i w) := by
  go_enter Try.func39, Try.ntmps39
  go_wp2
  go_loop [5] (fun v => ∃ n : Nat, v = .int .i64 n ∧ 1 ≤ n ∧ n ≤ 4 ∧ noArd s i n) (fun v => 5 - (intOf v).toNat)
  case atStart => exact ⟨1, rfl, by omega, by omega, fun m h1 h2 => by omega⟩
  case round =>
    obtain ⟨n, rfl, hn1, hn4, hno⟩ := hrel
    have HO := Lib.hid hno; clear hno
    by_cases hlt : n ≤ 3 ∧ n ≤ i
    · obtain ⟨hn3, hni⟩ := hlt
      obtain ⟨q, hq⟩ : ∃ q, q + n = i := ⟨i - n, by omega⟩
      have hqi : (i : Int) - (n : Int) = (q : Int) := by omega
      have hl := length_any s q (by omega) (by omega)
      have HQ := Lib.hid hq; clear hq
      have hL4 := lenN_le s q
      obtain ⟨L, hL⟩ : ∃ L, lenN s q = L := ⟨_, rfl⟩
      rw [hL] at hl hL4
      have HL := Lib.hid hL; clear hL
      by_cases he : n < L
      · have hin := inB_in s i n hn1 hni hi (by rw [show i - n = q by have := HQ.out; omega, HL.out]; exact he)
        rw [show i - n = q by have := HQ.out; omega, HL.out] at hin
        have HI := Lib.hid hin; clear hin
        go_wp2_with (first | (go_at_call 41; refine (hl _).mono ?_; rintro e w' ⟨rfl, rfl⟩))
        refine bodyPost_ret (v := .agg #[.int .i64 q, .int .i64 ((q : Int) + L)]) (by simp [results, Try.f39, go_sem]) rfl ⟨q, q + L, HI.out, by push_cast; rfl, ?_⟩
        exact (Below.refl _ _).alloc (Nat.le_refl _) _
      · go_wp2_with (first | (go_at_call 41; refine (hl _).mono ?_; rintro e w' ⟨rfl, rfl⟩))
        go_round
        case rel =>
          refine ⟨n + 1, by go_num, by omega, by omega, fun m hm1 hm2 hmi => ?_⟩
          by_cases e : m = n
          · rw [e, show i - n = q by have := HQ.out; omega, HL.out]; exact he
          · exact HO.out m hm1 (by omega) hmi
        case measure => simp [intOf]; omega
    · have hout := inB_out s i hi (fun m hm1 hm3 hmi => HO.out m hm1 (by omega) hmi)
      have HI := Lib.hid hout; clear hout
      by_cases hn3 : n ≤ 3
      all_goals
        go_wp2
        refine bodyPost_ret (v := .agg #[.int .i64 i, .int .i64 i]) (by simp [results, Try.f39, go_sem]) rfl ⟨i, i, HI.out, rfl, ?_⟩
        exact (Below.refl _ _).alloc (Nat.le_refl _) _

def Ar2Post (s : ByteArray) (i : Nat) (w : World) (e : Ending) (w' : World) : Prop :=
  ∃ F T, InB s i F T ∧ e = .returned (.tuple #[.agg #[.int .i64 (F : Nat), .int .i64 (T : Nat)], .int .i64 0]) ∧ Below w.heap.size w w'

set_option maxHeartbeats 400000 in
theorem Around_ok (s : ByteArray) (i : Nat) (hi : i ≤ s.size) (hs : s.size ≤ 281474976710656) (w : World) :
    Calls Try.prog 31 #[.string s, .int .i64 (i : Int)] w (Ar2Post s i w) := by
  go_enter Try.func31, Try.ntmps31
  go_wp2_with (go_at_call 39; refine (around_any s i hi hs _).mono ?_; rintro e w' ⟨F, T, hin, rfl, hb⟩; obtain ⟨hc2, hf2⟩ := bcell hb; have hz2 := hb.size; have HI := Lib.hid hin; clear hin)
  refine bodyPost_ret (v := .tuple #[.agg #[.int .i64 (F : Nat), .int .i64 (T : Nat)], .int .i64 0]) (by simp [results, Try.f31, go_sem, hc2, hz2]) rfl ⟨F, T, HI.out, rfl, ?_⟩
  exact (((((Below.refl _ _).alloc (Nat.le_refl _) _).trans (hb.mono (by simp))).setCell (p := ⟨_, 0, none⟩) (Nat.le_refl _) _).setCell (p := ⟨_, 1, none⟩) (Nat.le_refl _) _)

set_option maxHeartbeats 400000 in
theorem Around_no (s : ByteArray) (i : Int) (hi : i < 0 ∨ (s.size : Int) < i) (w : World) :
    Calls Try.prog 31 #[.string s, .int .i64 i] w fun e w' => e = .returned (.tuple #[.agg #[.int .i64 0, .int .i64 0], .int .i64 5]) ∧ Below w.heap.size w w' := by
  rcases (show i < 0 ∨ (¬ i < 0 ∧ (s.size : Int) < i) by omega) with h | ⟨h, h'⟩
  all_goals
    clear hi
    go_enter Try.func31, Try.ntmps31
    go_wp2
    refine bodyPost_ret (v := .tuple #[.agg #[.int .i64 0, .int .i64 0], .int .i64 5]) (by simp [results, Try.f31, go_sem]) rfl ⟨rfl, ?_⟩
    exact (Below.refl _ _).alloc (Nat.le_refl _) _

theorem field_span0 (a b : Int) (w : World) : (Instr.field 65 (.agg #[.int .i64 a, .int .i64 b]) 0).run Try.prog w = .ok (.int .i64 a) w := by kernel_rfl
theorem field_span1 (a b : Int) (w : World) : (Instr.field 65 (.agg #[.int .i64 a, .int .i64 b]) 1).run Try.prog w = .ok (.int .i64 b) w := by kernel_rfl

/-- Is i a boundary? -/
def isB (s : ByteArray) (i : Int) : Bool := decide (0 ≤ i ∧ i.toNat ∈ ends s)

set_option maxHeartbeats 400000 in
theorem Boundary_any (s : ByteArray) (i : Int) (hs : s.size ≤ 281474976710656) (w : World) :
    Calls Try.prog 33 #[.string s, .int .i64 i] w fun e w' => e = .returned (.bool (isB s i)) ∧ Below w.heap.size w w' := by
  rcases (show i < 0 ∨ (¬ i < 0 ∧ (s.size : Int) < i) ∨ (0 ≤ i ∧ i ≤ (s.size : Int)) by omega) with h | ⟨h, h'⟩ | ⟨h, h'⟩
  · have hb : isB s i = false := by unfold isB; rw [decide_eq_false_iff_not]; omega
    rw [hb]; clear hb
    go_enter Try.func33, Try.ntmps33
    go_wp2
    go_ret
    exact ⟨rfl, Below.refl _ _⟩
  · have hb : isB s i = false := by
      unfold isB; rw [decide_eq_false_iff_not]
      rintro ⟨_, hm⟩
      rcases (mem_ends s _).1 hm with hm | hm
      · have := (posG_ge s 0 _ hm).2; omega
      · omega
    rw [hb]; clear hb
    go_enter Try.func33, Try.ntmps33
    go_wp2
    go_ret
    exact ⟨rfl, Below.refl _ _⟩
  · obtain ⟨n, rfl⟩ := Int.eq_ofNat_of_zero_le h
    have hn : n ≤ s.size := by omega
    obtain ⟨b, hb⟩ : ∃ b, isB s n = b := ⟨_, rfl⟩
    have HB := Lib.hid hb
    rw [hb]; clear hb
    have ca := around_any s n hn hs
    have h3 : ¬ (s.size : Int) < n := by omega
    have hfd := field_span0
    go_enter Try.func33, Try.ntmps33
    go_wp2_with (go_at_call 39; refine (ca _).mono ?_; rintro e w' ⟨F, T, hin, rfl, hb⟩; have HI := Lib.hid hin; clear hin)
    go_ret
    refine ⟨ret_bool ?_, hb⟩
    rw [← HB.out, Bool.eq_iff_iff, beq_iff_eq]
    unfold isB
    rw [decide_eq_true_iff]
    have := inB_eq s n F T HI.out
    simp only [Int.toNat_natCast]
    constructor
    · intro e; exact ⟨by omega, this.1 (by omega)⟩
    · rintro ⟨_, e⟩; have := this.2 e; omega

/-- The document's Boundary, from number k on. -/
def BoRel (s : ByteArray) (at' : Int) (w : World) (v : Value) (wr : World) : Prop :=
  ∃ k : Nat, v = .int .i64 k ∧ k ≤ (ends s).length ∧ (∀ j, j < k → ∀ x : Nat, (ends s)[j]? = some x → (x : Int) ≠ at') ∧ wr = w

end Go.Proofs.Ytjccoiephdopkaa.SQ
