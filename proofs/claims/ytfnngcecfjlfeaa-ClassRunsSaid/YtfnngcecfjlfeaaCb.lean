/- Layer 3: how a text's letters are written: the program's Case. -/
import Derived.Test.YtfnngcecfjlfeaaCa
namespace Go.Proofs.Ytfnngcecfjlfeaa
set_option linter.unusedVariables false
set_option linter.unusedSimpArgs false
open Go Go.RowKit Go.Shelf
set_option maxRecDepth 100000
attribute [local go_sem] Oper.semAt_some

/-- The same over letters alone. -/
def csT (s : ByteArray) (st : Nat × Nat × Bool) (i : Nat) : Nat × Nat × Bool :=
  if grB (rn s i) = true then (st.1 + 1, st.2.1, if st.1 + st.2.1 = 0 then true else st.2.2) else (st.1, st.2.1 + 1, if st.1 + st.2.1 = 0 then false else st.2.2)
def csQ (s : ByteArray) (l : List Nat) : Nat × Nat × Bool := l.foldl (csT s) (0, 0, false)
theorem csQ_snoc (s : ByteArray) (l : List Nat) (i : Nat) : csQ s (l ++ [i]) = csT s (csQ s l) i := by simp [csQ]
theorem ct_g {s : ByteArray} {i : Nat} (hg : grB (rn s i) = true) (G S : Nat) (F : Bool) : csT s (G, S, F) i = (G + 1, S, if G + S = 0 then true else F) := by unfold csT; rw [if_pos hg]
theorem ct_s {s : ByteArray} {i : Nat} (hg : grB (rn s i) = false) (G S : Nat) (F : Bool) : csT s (G, S, F) i = (G, S + 1, if G + S = 0 then false else F) := by unfold csT; rw [if_neg (by rw [hg]; simp)]
theorem cs_ct {s : ByteArray} {i : Nat} (h : leB (rn s i) = true) (st : Nat × Nat × Bool) : csStep s st i = csT s st i := by unfold csStep csT; rw [if_pos h]
theorem csQ_fold (s : ByteArray) : ∀ (l : List Nat) (st : Nat × Nat × Bool), (lpos s l).foldl (csT s) st = l.foldl (csStep s) st := by
  intro l
  induction l with
  | nil => intro st; rfl
  | cons i l ih =>
    intro st
    cases h : leB (rn s i) with
    | true => rw [show lpos s (i :: l) = i :: lpos s l by simp [lpos, h], List.foldl_cons, List.foldl_cons, ih, cs_ct h]
    | false => rw [show lpos s (i :: l) = lpos s l by simp [lpos, h], List.foldl_cons, ih, cs_no h]
theorem csQ_eq (s : ByteArray) (l : List Nat) : csQ s (lpos s l) = csR s l := csQ_fold s l _
theorem ct_le (s : ByteArray) : ∀ (l : List Nat) (st : Nat × Nat × Bool), (l.foldl (csT s) st).1 + (l.foldl (csT s) st).2.1 = st.1 + st.2.1 + l.length := by
  intro l
  induction l with
  | nil => intro st; rfl
  | cons i l ih =>
    intro st
    have h1 := ih (csT s st i)
    have h2 : (csT s st i).1 + (csT s st i).2.1 = st.1 + st.2.1 + 1 := by unfold csT; split <;> simp <;> omega
    rw [List.foldl_cons, List.length_cons]; omega
theorem csQ_le (s : ByteArray) (l : List Nat) : (csQ s l).1 + (csQ s l).2.1 = l.length := by
  have := ct_le s l (0, 0, false)
  simpa [csQ] using this

def CaI (s : ByteArray) (w : World) (pre : List (Pos s)) (W : World) : Prop :=
  (((Boxed W w.heap.size 3 (.int .i64 ((pre.length : Nat))) ∧ Boxed W (w.heap.size + 1) 3 (.int .i64 ((csQ s (pre.map (·.1))).1 : Nat))) ∧ Boxed W (w.heap.size + 2) 4 (.bool (csQ s (pre.map (·.1))).2.2)) ∧ Boxed W (w.heap.size + 3) 9 (.string s)) ∧ Below w.heap.size w W

set_option maxHeartbeats 4000000 in
theorem case_in (s : ByteArray) (hs : s.size ≤ 2147483647) (w : World) :
    CallsIn Fence.wide 11 Try.prog 28 #[.string s] w fun e w' => e = .returned (.int .i64 (caseZ (csR s (posns s)))) ∧ Below w.heap.size w w' := by
  obtain ⟨Z, hZ0⟩ : ∃ Z, caseZ (csR s (posns s)) = Z := ⟨_, rfl⟩
  have HZ0 : Hid (Z = caseZ (csR s (posns s))) := Lib.hid hZ0.symm
  rw [hZ0]
  clear hZ0
  refine callsIn_of_wp_marks Try.func28 rfl trivial ?_ rfl
  simp only [Try.ntmps28, List.size_toArray, List.length_cons, List.length_nil, Nat.reduceAdd, Nat.reduceSub, Array.replicate_succ, Array.replicate_zero, List.push_toArray, List.append_toArray, List.nil_append, List.cons_append]
  have hF : ∀ f, Fence.wide.fn f := fun _ => trivial
  gi_wp2_with (gi_at_call 48; refine (callsIn_wide.2 (letters_any _ _)).mono ?_; rintro e w' ⟨rfl, rfl⟩)
  have b0 := (((Boxed.new w 3 (.int .i64 0)).alloc (.cells #[.int .i64 0] 3)).alloc (.cells #[.bool false] 4)).alloc (.cells #[.string s] 9)
  have b1 := ((Boxed.new (w.alloc (.cells #[.int .i64 0] 3)) 3 (.int .i64 0)).alloc (.cells #[.bool false] 4)).alloc (.cells #[.string s] 9)
  have b2 := (Boxed.new ((w.alloc (.cells #[.int .i64 0] 3)).alloc (.cells #[.int .i64 0] 3)) 4 (.bool false)).alloc (.cells #[.string s] 9)
  have b3 := Boxed.new (((w.alloc (.cells #[.int .i64 0] 3)).alloc (.cells #[.int .i64 0] 3)).alloc (.cells #[.bool false] 4)) 9 (.string s)
  simp only [World.size_alloc] at b1 b2 b3
  have hB0 := ((((Below.refl _ w).alloc (Nat.le_refl _) (.cells #[.int .i64 0] 3)).alloc (by simp) (.cells #[.int .i64 0] 3)).alloc (by simp; omega) (.cells #[.bool false] 4)).alloc (by simp; omega) (.cells #[.string s] 9)
  have hsz : ((((w.alloc (.cells #[.int .i64 0] 3)).alloc (.cells #[.int .i64 0] 3)).alloc (.cells #[.bool false] 4)).alloc (.cells #[.string s] 9)).heap.size = w.heap.size + 4 := by simp
  obtain ⟨W0, hW0⟩ : ∃ W0, ((((w.alloc (.cells #[.int .i64 0] 3)).alloc (.cells #[.int .i64 0] 3)).alloc (.cells #[.bool false] 4)).alloc (.cells #[.string s] 9)) = W0 := ⟨_, rfl⟩
  rw [hW0] at b0 b1 b2 b3 hB0 hsz ⊢
  clear hW0
  refine range_letters s (by omega) (w.heap.size + 1 + 1 + 1) b3 rfl (CaI s w) (fun _ _ _ => False)
    (OwnFrom.and (OwnFrom.and (OwnFrom.and (OwnFrom.and (Own.from (boxed_own _ _ _) _) (Own.from (boxed_own _ _ _) _)) (Own.from (boxed_own _ _ _) _)) (Own.from (boxed_own _ _ _) _)) (ownFrom_below (Nat.le_refl _) (by omega)))
    (fun _ _ _ _ _ hs _ _ => hs) ⟨⟨⟨⟨b0, b1⟩, b2⟩, b3⟩, hB0⟩ (fun x t => t.setIfInBounds 7 (.int .i32 (rn s x.1 : Nat))) ?assign ?body ?done ?stop
  case assign =>
    intro l x W K hK
    gi_wp2
    exact hK
  case stop =>
    rintro D c pre W _ _ h _
    exact h.elim
  case body =>
    rintro l pre x W ⟨⟨⟨⟨h0, h1⟩, h2⟩, h3⟩, hB⟩ hlen
    have hsn : csQ s ((pre ++ [x]).map (·.1)) = csT s (csQ s (pre.map (·.1))) x.1 := by rw [List.map_append, List.map_singleton, csQ_snoc]
    obtain ⟨⟨G, S, F⟩, hq⟩ : ∃ q, csQ s (pre.map (·.1)) = q := ⟨_, rfl⟩
    have hGS := csQ_le s (pre.map (·.1))
    rw [hq, List.length_map] at hGS
    rw [hq] at hsn h1 h2
    simp only at hGS h1 h2
    obtain ⟨n, hn⟩ : ∃ n, pre.length = n := ⟨_, rfl⟩
    have hn2 : (pre ++ [x]).length = n + 1 := by rw [List.length_append, hn]; rfl
    rw [hn] at h0 hGS hlen
    have hF0 : n = 0 → F = false := by
      intro h
      have : pre = [] := List.eq_nil_of_length_eq_zero (by omega)
      rw [this] at hq
      have := congrArg (fun t => t.2.2) hq
      exact this.symm
    have HN := Lib.hid hn2
    clear hn hq hn2
    have hc0 := h0.cell
    have hf0 := h0.frozen
    have hc1 := h1.cell
    have hf1 := h1.frozen
    have hc2 := h2.cell
    have hf2 := h2.frozen
    have l0 : w.heap.size + 2 < W.heap.size := Blk.lt (show Blk _ _ _ _ from h2)
    have cG := great_any (rn s x.1)
    cases hg : grB (rn s x.1) with
    | true =>
      rw [hg] at cG
      rw [ct_g hg] at hsn
      cases F with
      | true =>
        rw [show (if G + S = 0 then true else true) = true by split <;> rfl] at hsn
        gi_wp2_with (gi_at_call 36; refine (callsIn_wide.2 (cG _)).mono ?_; rintro e w' ⟨rfl, rfl⟩)
        have k1 := ((h1.set (.int .i64 ((G : Int) + 1))).other (B' := w.heap.size + 2) (by omega) (.bool true)).other (B' := w.heap.size) (by omega) (.int .i64 ((n : Int) + 1))
        have k2 := ((h2.other (B' := w.heap.size + 1) (by omega) (.int .i64 ((G : Int) + 1))).set (.bool true)).other (B' := w.heap.size) (by omega) (.int .i64 ((n : Int) + 1))
        have k0 := ((h0.other (B' := w.heap.size + 1) (by omega) (.int .i64 ((G : Int) + 1))).other (B' := w.heap.size + 2) (by omega) (.bool true)).set (.int .i64 ((n : Int) + 1))
        have k3 := ((h3.other (B' := w.heap.size + 1) (by omega) (.int .i64 ((G : Int) + 1))).other (B' := w.heap.size + 2) (by omega) (.bool true)).other (B' := w.heap.size) (by omega) (.int .i64 ((n : Int) + 1))
        have kk := ((KeepsOthers.setCell W ⟨w.heap.size + 1, 0, none⟩ (.int .i64 ((G : Int) + 1))).trans (KeepsOthers.setCell _ ⟨w.heap.size + 2, 0, none⟩ (.bool true))).trans (KeepsOthers.setCell _ ⟨w.heap.size, 0, none⟩ (.int .i64 ((n : Int) + 1)))
        have kB := ((hB.setCell (p := ⟨w.heap.size + 1, 0, none⟩) (by dsimp only; omega) (.int .i64 ((G : Int) + 1))).setCell (p := ⟨w.heap.size + 2, 0, none⟩) (by dsimp only; omega) (.bool true)).setCell (p := ⟨w.heap.size, 0, none⟩) (Nat.le_refl _) (.int .i64 ((n : Int) + 1))
        refine ⟨kk.from _, ⟨kk.walks, (show _ = _ from k3).trans (show _ = _ from h3).symm⟩, ⟨⟨⟨⟨?_, ?_⟩, ?_⟩, k3⟩, kB⟩⟩
        · rw [HN.out, show ((n + 1 : Nat) : Int) = (n : Int) + 1 by omega]; exact k0
        · rw [hsn, show ((G + 1 : Nat) : Int) = (G : Int) + 1 by omega]; exact k1
        · rw [hsn]; exact k2
      | false =>
        by_cases h0n : n = 0
        · subst h0n
          rw [if_pos (by omega)] at hsn
          have hc0' : W.cell? ⟨w.heap.size, 0, none⟩ = some (.int .i64 0) := hc0
          clear hc0
          gi_wp2_with (gi_at_call 36; refine (callsIn_wide.2 (cG _)).mono ?_; rintro e w' ⟨rfl, rfl⟩)
          have k1 := ((h1.set (.int .i64 ((G : Int) + 1))).other (B' := w.heap.size + 2) (by omega) (.bool true)).other (B' := w.heap.size) (by omega) (.int .i64 1)
          have k2 := ((h2.other (B' := w.heap.size + 1) (by omega) (.int .i64 ((G : Int) + 1))).set (.bool true)).other (B' := w.heap.size) (by omega) (.int .i64 1)
          have k0 := ((h0.other (B' := w.heap.size + 1) (by omega) (.int .i64 ((G : Int) + 1))).other (B' := w.heap.size + 2) (by omega) (.bool true)).set (.int .i64 1)
          have k3 := ((h3.other (B' := w.heap.size + 1) (by omega) (.int .i64 ((G : Int) + 1))).other (B' := w.heap.size + 2) (by omega) (.bool true)).other (B' := w.heap.size) (by omega) (.int .i64 1)
          have kk := ((KeepsOthers.setCell W ⟨w.heap.size + 1, 0, none⟩ (.int .i64 ((G : Int) + 1))).trans (KeepsOthers.setCell _ ⟨w.heap.size + 2, 0, none⟩ (.bool true))).trans (KeepsOthers.setCell _ ⟨w.heap.size, 0, none⟩ (.int .i64 1))
          have kB := ((hB.setCell (p := ⟨w.heap.size + 1, 0, none⟩) (by dsimp only; omega) (.int .i64 ((G : Int) + 1))).setCell (p := ⟨w.heap.size + 2, 0, none⟩) (by dsimp only; omega) (.bool true)).setCell (p := ⟨w.heap.size, 0, none⟩) (Nat.le_refl _) (.int .i64 1)
          refine ⟨kk.from _, ⟨kk.walks, (show _ = _ from k3).trans (show _ = _ from h3).symm⟩, ⟨⟨⟨⟨?_, ?_⟩, ?_⟩, k3⟩, kB⟩⟩
          · rw [HN.out]; exact k0
          · rw [hsn, show ((G + 1 : Nat) : Int) = (G : Int) + 1 by omega]; exact k1
          · rw [hsn]; exact k2
        · rw [if_neg (by omega)] at hsn
          have h0b : ((n : Int) == 0) = false := by rw [beq_eq_false_iff_ne]; omega
          gi_wp2_with (gi_at_call 36; refine (callsIn_wide.2 (cG _)).mono ?_; rintro e w' ⟨rfl, rfl⟩)
          have k1 := ((h1.set (.int .i64 ((G : Int) + 1))).other (B' := w.heap.size + 2) (by omega) (.bool false)).other (B' := w.heap.size) (by omega) (.int .i64 ((n : Int) + 1))
          have k2 := ((h2.other (B' := w.heap.size + 1) (by omega) (.int .i64 ((G : Int) + 1))).set (.bool false)).other (B' := w.heap.size) (by omega) (.int .i64 ((n : Int) + 1))
          have k0 := ((h0.other (B' := w.heap.size + 1) (by omega) (.int .i64 ((G : Int) + 1))).other (B' := w.heap.size + 2) (by omega) (.bool false)).set (.int .i64 ((n : Int) + 1))
          have k3 := ((h3.other (B' := w.heap.size + 1) (by omega) (.int .i64 ((G : Int) + 1))).other (B' := w.heap.size + 2) (by omega) (.bool false)).other (B' := w.heap.size) (by omega) (.int .i64 ((n : Int) + 1))
          have kk := ((KeepsOthers.setCell W ⟨w.heap.size + 1, 0, none⟩ (.int .i64 ((G : Int) + 1))).trans (KeepsOthers.setCell _ ⟨w.heap.size + 2, 0, none⟩ (.bool false))).trans (KeepsOthers.setCell _ ⟨w.heap.size, 0, none⟩ (.int .i64 ((n : Int) + 1)))
          have kB := ((hB.setCell (p := ⟨w.heap.size + 1, 0, none⟩) (by dsimp only; omega) (.int .i64 ((G : Int) + 1))).setCell (p := ⟨w.heap.size + 2, 0, none⟩) (by dsimp only; omega) (.bool false)).setCell (p := ⟨w.heap.size, 0, none⟩) (Nat.le_refl _) (.int .i64 ((n : Int) + 1))
          refine ⟨kk.from _, ⟨kk.walks, (show _ = _ from k3).trans (show _ = _ from h3).symm⟩, ⟨⟨⟨⟨?_, ?_⟩, ?_⟩, k3⟩, kB⟩⟩
          · rw [HN.out, show ((n + 1 : Nat) : Int) = (n : Int) + 1 by omega]; exact k0
          · rw [hsn, show ((G + 1 : Nat) : Int) = (G : Int) + 1 by omega]; exact k1
          · rw [hsn]; exact k2
    | false =>
      rw [hg] at cG
      rw [ct_s hg] at hsn
      have hFF : (if G + S = 0 then false else F) = F := by
        split
        · rw [hF0 (by omega)]
        · rfl
      rw [hFF] at hsn
      clear hFF hF0
      gi_wp2_with (gi_at_call 36; refine (callsIn_wide.2 (cG _)).mono ?_; rintro e w' ⟨rfl, rfl⟩)
      have k0 := h0.set (.int .i64 ((n : Int) + 1))
      have k1 := h1.other (B' := w.heap.size) (by omega) (.int .i64 ((n : Int) + 1))
      have k2 := h2.other (B' := w.heap.size) (by omega) (.int .i64 ((n : Int) + 1))
      have k3 := h3.other (B' := w.heap.size) (by omega) (.int .i64 ((n : Int) + 1))
      have kk := KeepsOthers.setCell W ⟨w.heap.size, 0, none⟩ (.int .i64 ((n : Int) + 1))
      have kB := hB.setCell (p := ⟨w.heap.size, 0, none⟩) (Nat.le_refl _) (.int .i64 ((n : Int) + 1))
      refine ⟨kk.from _, ⟨kk.walks, (show _ = _ from k3).trans (show _ = _ from h3).symm⟩, ⟨⟨⟨⟨?_, ?_⟩, ?_⟩, k3⟩, kB⟩⟩
      · rw [HN.out, show ((n + 1 : Nat) : Int) = (n : Int) + 1 by omega]; exact k0
      · rw [hsn]; exact k1
      · rw [hsn]; exact k2
  case done =>
    rintro D xs W hD hxs ⟨⟨⟨⟨h0, h1⟩, h2⟩, h3⟩, hB⟩ hK
    have hGS := csQ_le s (xs.map (·.1))
    rw [List.length_map] at hGS
    rw [hxs, csQ_eq] at h1 h2 hGS
    have hlp := lpos_len s (posns s)
    have hpl := posns_len s
    have hxl : xs.length = (lpos s (posns s)).length := by rw [← hxs, List.length_map]
    obtain ⟨n, hn⟩ : ∃ n, xs.length = n := ⟨_, rfl⟩
    rw [hn] at hGS h0 hxl
    obtain ⟨⟨G, S, F⟩, hq⟩ : ∃ q, csR s (posns s) = q := ⟨_, rfl⟩
    rw [hq] at h1 h2 hGS
    have HZ : Hid (Z = caseZ (G, S, F)) := Lib.hid (by rw [← hq]; exact HZ0.out)
    simp only at hGS h1 h2
    have hnb : n ≤ 2147483647 := by omega
    clear hq hxs hxl hlp hpl hn
    have hc0 := h0.cell
    have hc1 := h1.cell
    have hc2 := h2.cell
    have hBD := hB.trans (belowK_b (w := w) (Nat.le_refl _) W D _ (.deferred none) (by omega) hK rfl rfl)
    by_cases e1 : n = 0
    · have hZ : Z = 0 := by rw [HZ.out]; unfold caseZ; rw [if_pos (by simp only; omega)]
      have e1b : ((n : Int) == 0) = true := by rw [beq_iff_eq]; omega
      gi_wp2
      refine ⟨by simp, .inl ⟨_, _, rfl, run_takeDeferred (w := W) hK, ?_⟩⟩
      exact ⟨.int .i64 0, by simp [results, Try.f28, go_sem], ret_int hZ.symm, hBD⟩
    · have e1b : ((n : Int) == 0) = false := by rw [beq_eq_false_iff_ne]; omega
      by_cases e2 : G = 0
      · have hZ : Z = 1 := by rw [HZ.out]; unfold caseZ; rw [if_neg (by simp only; omega), if_pos (by simp only; omega)]
        have e2b : ((G : Int) == 0) = true := by rw [beq_iff_eq]; omega
        gi_wp2
        refine ⟨by simp, .inl ⟨_, _, rfl, run_takeDeferred (w := W) hK, ?_⟩⟩
        exact ⟨.int .i64 1, by simp [results, Try.f28, go_sem], ret_int hZ.symm, hBD⟩
      · have e2b : ((G : Int) == 0) = false := by rw [beq_eq_false_iff_ne]; omega
        by_cases e3 : S = 0
        · have hZ : Z = 2 := by rw [HZ.out]; unfold caseZ; rw [if_neg (by simp only; omega), if_neg (by simp only; omega), if_pos (by simp only; omega)]
          have e3b : ((G : Int) == (n : Int)) = true := by rw [beq_iff_eq]; omega
          gi_wp2
          refine ⟨by simp, .inl ⟨_, _, rfl, run_takeDeferred (w := W) hK, ?_⟩⟩
          exact ⟨.int .i64 2, by simp [results, Try.f28, go_sem], ret_int hZ.symm, hBD⟩
        · have e3b : ((G : Int) == (n : Int)) = false := by rw [beq_eq_false_iff_ne]; omega
          by_cases e4 : G = 1
          · have e4b : ((G : Int) == 1) = true := by rw [beq_iff_eq]; omega
            cases F with
            | true =>
              have hZ : Z = 3 := by rw [HZ.out]; unfold caseZ; rw [if_neg (by simp only; omega), if_neg (by simp only; omega), if_neg (by simp only; omega), if_pos (by simp only; simp; omega)]
              gi_wp2
              refine ⟨by simp, .inl ⟨_, _, rfl, run_takeDeferred (w := W) hK, ?_⟩⟩
              exact ⟨.int .i64 3, by simp [results, Try.f28, go_sem], ret_int hZ.symm, hBD⟩
            | false =>
              have hZ : Z = 4 := by rw [HZ.out]; unfold caseZ; rw [if_neg (by simp only; omega), if_neg (by simp only; omega), if_neg (by simp only; omega), if_neg (by simp)]
              gi_wp2
              refine ⟨by simp, .inl ⟨_, _, rfl, run_takeDeferred (w := W) hK, ?_⟩⟩
              exact ⟨.int .i64 4, by simp [results, Try.f28, go_sem], ret_int hZ.symm, hBD⟩
          · have e4b : ((G : Int) == 1) = false := by rw [beq_eq_false_iff_ne]; omega
            have hZ : Z = 4 := by rw [HZ.out]; unfold caseZ; rw [if_neg (by simp only; omega), if_neg (by simp only; omega), if_neg (by simp only; omega), if_neg (by simp only; simp [e4])]
            gi_wp2
            refine ⟨by simp, .inl ⟨_, _, rfl, run_takeDeferred (w := W) hK, ?_⟩⟩
            exact ⟨.int .i64 4, by simp [results, Try.f28, go_sem], ret_int hZ.symm, hBD⟩

theorem case_any (s : ByteArray) (hs : s.size ≤ 2147483647) (w : World) :
    Calls Try.prog 28 #[.string s] w fun e w' => e = .returned (.int .i64 (caseZ (csR s (posns s)))) ∧ Below w.heap.size w w' := callsIn_wide.1 (case_in s hs w)
end Go.Proofs.Ytfnngcecfjlfeaa
