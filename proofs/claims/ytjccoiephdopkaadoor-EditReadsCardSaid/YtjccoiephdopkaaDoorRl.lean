/- Stage 27: the law EditReads. -/
import Derived.Test.YtjccoiephdopkaaDoorRe6
import Derived.Test.YtjccoiephdopkaaDoorSam
namespace Go.Proofs.YtjccoiephdopkaaDoor
set_option linter.unusedVariables false
set_option linter.unusedSimpArgs false
open Go Go.RowKit Go.Shelf
set_option maxRecDepth 100000

theorem DrP.none {s : ByteArray} {w w' : World} {e : Ending} {q : Nat} (h : DrP s w e w') (hn : readS s = (none, q)) : e = .returned (.tuple #[.slice none 0 0, .int .i64 q]) ∧ Below w.heap.size w w' := by
  obtain ⟨hb, ⟨q', h', rfl⟩ | ⟨l, q', v, h', _⟩⟩ := h.h
  · rw [hn] at h'; cases h'; exact ⟨rfl, hb⟩
  · rw [hn] at h'; cases h'
theorem DrP.some {s : ByteArray} {w w' : World} {e : Ending} {q : Nat} {l : List Sp} (h : DrP s w e w') (hn : readS s = (some l, q)) : ∃ o c, e = .returned (.tuple #[.slice o l.length c, .int .i64 (-1)]) ∧ RowAt w' encS 3 o l ∧ Below w.heap.size w w' := by
  obtain ⟨hb, ⟨q', h', _⟩ | ⟨l', q', v, h', rfl, ho⟩⟩ := h.h
  · rw [hn] at h'; cases h'
  · rw [hn] at h'; cases h'
    obtain ⟨o, c, rfl, _⟩ := own_slice ho
    exact ⟨o, c, rfl, RowAt.of_own encS_len ho rfl, hb⟩
theorem ReadP.none {s : ByteArray} {w w' : World} {e : Ending} {q : Nat} (h : ReadP s w e w') (hn : readS s = (none, q)) : e = .returned (.tuple #[.slice none 0 0, .agg #[.int .i64 271, .int .i64 q]]) ∧ Below w.heap.size w w' := by
  obtain ⟨hb, ⟨q', h', rfl⟩ | ⟨l, q', v, h', _⟩⟩ := h
  · rw [hn] at h'; cases h'; exact ⟨rfl, hb⟩
  · rw [hn] at h'; cases h'
theorem ReadP.some {s : ByteArray} {w w' : World} {e : Ending} {q : Nat} {l : List Sp} (h : ReadP s w e w') (hn : readS s = (some l, q)) : ∃ o c, e = .returned (.tuple #[.slice o l.length c, .agg #[.int .i64 0, .int .i64 0]]) ∧ RowAt w' encS 3 o l ∧ Below w.heap.size w w' := by
  obtain ⟨hb, ⟨q', h', _⟩ | ⟨l', q', v, h', rfl, ho⟩⟩ := h
  · rw [hn] at h'; cases h'
  · rw [hn] at h'; cases h'
    obtain ⟨o, c, rfl, _⟩ := own_slice ho
    exact ⟨o, c, rfl, RowAt.of_own encS_len ho rfl, hb⟩
theorem rdS_len (s : ByteArray) : ∀ k p l f t, s.size - p ≤ k → p ≤ s.size → l.length ≤ p → f ≤ 65536 → t ≤ 65536 → ∀ r q, rdS s p l f t = (some r, q) → r.length ≤ s.size := by
  intro k
  induction k with
  | zero =>
    intro p l f t hk hp hl hf ht r q h
    rw [rdS_end (by omega)] at h; cases h; omega
  | succ k ih =>
    intro p l f t hk hp hl hf ht r q h
    by_cases hps : p < s.size
    · by_cases h2 : l ≠ [] ∧ lkN s p ≠ 32
      · rw [rdS_space hps h2] at h; cases h
      · rcases he : stS s (if l = [] then p else p + 1) f t with ⟨_ | x, q2⟩
        · rw [rdS_bad hps h2 he] at h; cases h
        · have hfit := stS_fits (by split <;> omega) hf ht he
          have hpq : p < q2 := by have := hfit.2.2.1; split at this <;> omega
          rw [rdS_go hps hf ht h2 he] at h
          exact ih q2 (l ++ [x]) _ _ (by omega) hfit.2.2.2 (by rw [List.length_append]; simp; omega) hfit.1 hfit.2.1 r q h
    · rw [rdS_end hps] at h; cases h; omega
set_option maxHeartbeats 4000000 in
theorem reads_law (s : ByteArray) (w : World) (h16 : w.cell? ⟨2, 15, none⟩ = some (.int .u8 4)) :
    Calls Tryd.prog 4 #[.string s] w fun e w' => e = .returned (.bool true) ∧ Below w.heap.size w w' := by
  have cV := fun W => live_any W
  by_cases hs : s.size ≤ 20000
  case neg =>
    have hsI : (20000 : Int) < (s.size : Int) := by omega
    clear hs h16
    go_enter Tryd.func4, Tryd.ntmps4
    go_wp2_with (go_at_call 6; refine (cV _).mono ?_; rintro e w1 ⟨rfl, hb1⟩)
    go_ret
    exact ⟨rfl, hb1⟩
  have hsI : ¬ (20000 : Int) < (s.size : Int) := by omega
  have cD := fun W => readD_any s (by omega) W
  have cP := fun W h => readP_any s (by omega) W h
  have H16 := Lib.hid h16
  rcases hr : readS s with ⟨_ | l, q⟩
  · have e0 : ((q : Int) == (q : Int)) = true := beq_self_eq_true _
    have hq0 : (0 : Int) ≤ (q : Int) := by omega
    have HE := Lib.hid hr
    clear hs h16 hr
    go_enter Tryd.func4, Tryd.ntmps4
    go_wp2_with (first
      | (go_at_call 6; refine (cV _).mono ?_; rintro e w1 ⟨rfl, hb1⟩; have H1 := Lib.hid hb1; clear hb1)
      | (go_at_call 10; refine (cD _).mono ?_; intro e w2 hP; obtain ⟨rfl, hb2⟩ := hP.none HE.out; have H2 := Lib.hid (H1.out.trans (hb2.mono H1.out.size)); clear hP hb2)
      | (go_at_call 11; refine (cP _ (below_cell H2.out (Nat.le_refl _) H16.out)).mono ?_; intro e w3 hP; obtain ⟨rfl, hb3⟩ := ReadP.none hP HE.out; have H3 := Lib.hid (H2.out.trans (hb3.mono H2.out.size)); clear hP hb3))
    go_ret
    exact ⟨rfl, H3.out.alloc H3.out.size _⟩
  · have hl := rdS_len s _ 0 [] 0 0 (Nat.le_refl _) (Nat.zero_le _) (Nat.le_refl _) (by omega) (by omega) l q hr
    have hl2 : l.length ≤ 9223372036854775807 := by omega
    have cS := fun W o1 o2 c1 c2 h1 h2 => same_any l o1 o2 c1 c2 hl2 W h1 h2
    have HE := Lib.hid hr
    clear hs h16 hr hl hl2
    go_enter Tryd.func4, Tryd.ntmps4
    go_wp2_with (first
      | (go_at_call 6; refine (cV _).mono ?_; rintro e w5 ⟨rfl, hb5⟩; have H5 := Lib.hid (H4.out.trans (hb5.mono H4.out.size)); clear hb5)
      | (go_at_call 6; refine (cV _).mono ?_; rintro e w1 ⟨rfl, hb1⟩; have H1 := Lib.hid hb1; clear hb1)
      | (go_at_call 10; refine (cD _).mono ?_; intro e w2 hP; obtain ⟨o2, c2, rfl, hr2, hb2⟩ := hP.some HE.out; have H2 := Lib.hid (H1.out.trans (hb2.mono H1.out.size)); have R2 := Lib.hid hr2; clear hP hb2 hr2)
      | (go_at_call 11; refine (cP _ (below_cell H2.out (Nat.le_refl _) H16.out)).mono ?_; intro e w3 hP; obtain ⟨o3, c3, rfl, hr3, hb3⟩ := ReadP.some hP HE.out; have R2' := Lib.hid (R2.out.below encS_len (by decide) hb3); have R3 := Lib.hid hr3; have H3 := Lib.hid (H2.out.trans (hb3.mono H2.out.size)); clear hP hb3 hr3)
      | (go_at_call 12; refine (cS _ _ _ _ _ (R3.out.below encS_len (by decide) ((Below.refl _ _).alloc (Nat.le_refl _) _)) (R2'.out.below encS_len (by decide) ((Below.refl _ _).alloc (Nat.le_refl _) _))).mono ?_; rintro e w4 ⟨rfl, hb4⟩; have H4 := Lib.hid ((H3.out.alloc H3.out.size _).trans (hb4.mono (H3.out.alloc H3.out.size _).size)); clear hb4))
    go_ret
    exact ⟨rfl, H5.out⟩
end Go.Proofs.YtjccoiephdopkaaDoor
