/- Stage 16: alike, both, the program's. -/
import Derived.Test.YtdcmkiggnmajgaaVw
import Derived.Test.YtdcmkiggnmajgaaVt
namespace Go.Proofs.Ytdcmkiggnmajgaa
set_option linter.unusedVariables false
set_option linter.unusedSimpArgs false
open Go Go.RowKit Go.Shelf
set_option maxRecDepth 100000

set_option maxHeartbeats 4000000 in
theorem alike_any (s : Sc) (ol os : Option Addr) (cl cs : Nat) (hn : s.L.length ≤ 9223372036854775807) (i k : Nat) (x y : Rh) (hx : s.L[i]? = some x) (hy : s.L[k]? = some y) (E : Bool) (hE : alkB i k x y = E) (w : World) (hr : RowAt w encR 2 ol s.L) :
    Calls Try.prog 62 #[.agg #[.slice ol s.L.length cl, .slice os s.S.length cs], .int .i64 i, .int .i64 k] w fun e w' => e = .returned (.bool E) ∧ Below w.heap.size w w' := by
  have hil := (List.getElem?_eq_some_iff.1 hx).1
  have hkl := (List.getElem?_eq_some_iff.1 hy).1
  have hi1 : (i : Int) < (s.L.length : Int) := by omega
  have hk1 : (k : Int) < (s.L.length : Int) := by omega
  have hB0 := (Below.refl _ w).alloc (Nat.le_refl _) (.cells #[.slice ol s.L.length cl, .slice os s.S.length cs] 25)
  have b0 := Blk.new w #[.slice ol s.L.length cl, .slice os s.S.length cs] 25
  have hr0 := hr.below encR_len (by decide) hB0
  obtain ⟨W0, hW0⟩ : ∃ W0, w.alloc (.cells #[.slice ol s.L.length cl, .slice os s.S.length cs] 25) = W0 := ⟨_, rfl⟩
  rw [hW0] at hB0 b0 hr0
  obtain ⟨g, off, rfl, hc⟩ := hr0 i x hx
  obtain ⟨g', off', e, hc'⟩ := hr0 k y hy
  cases e
  have q0 := hc 0 (by decide)
  have p0 := hc' 0 (by decide)
  simp only [encR, List.getElem?_cons_zero, Nat.add_zero] at q0 p0
  have x0 : W0.cell? ⟨w.heap.size, 0, none⟩ = some (.slice (some ⟨g, off, none⟩) s.L.length cl) := b0.cell 0
  have HB := Lib.hid hB0
  have HE := Lib.hid hE
  clear hB0 b0 hr0 hc hc' hr hx hy hE
  by_cases h1 : i = k
  · have hF := HE.out
    unfold alkB at hF
    rw [decide_eq_true h1] at hF
    simp only [Bool.true_or] at hF
    subst hF
    have e1 : ((i : Int) == (k : Int)) = true := by rw [h1]; simp
    have e2 : (i == k) = true := by rw [h1]; simp
    clear h1 HE
    go_enter Try.func62, Try.ntmps62
    go_wp2
    try rw [hW0]
    clear hW0
    go_quiet (fail)
    go_wp2
    go_ret
    exact ⟨rfl, HB.out.trans ((below_drewN _ _).mono HB.out.size)⟩
  have e1 : ((i : Int) == (k : Int)) = false := by rw [beq_eq_false_iff_ne]; omega
  have e2 : (i == k) = false := by rw [beq_eq_false_iff_ne]; exact h1
  by_cases h2 : 0 ≤ x.c
  · have d2 : decide (0 ≤ x.c) = true := decide_eq_true h2
    have hF := HE.out
    unfold alkB at hF
    rw [decide_eq_false h1, d2] at hF
    simp only [Bool.false_or, Bool.true_and] at hF
    have e3 : (x.c == y.c) = E := by rw [← hF]; rfl
    clear hF HE h1
    go_enter Try.func62, Try.ntmps62
    go_wp2
    try rw [hW0]
    clear hW0
    go_quiet (fail)
    go_wp2
    go_ret
    exact ⟨rfl, HB.out.trans ((below_drewN _ _).mono HB.out.size)⟩
  · have d2 : decide (0 ≤ x.c) = false := decide_eq_false h2
    have hF := HE.out
    unfold alkB at hF
    rw [decide_eq_false h1, d2] at hF
    simp only [Bool.false_or, Bool.false_and] at hF
    subst hF
    clear HE h1
    go_enter Try.func62, Try.ntmps62
    go_wp2
    try rw [hW0]
    clear hW0
    go_quiet (fail)
    go_wp2
    go_ret
    exact ⟨rfl, HB.out.trans ((below_drewN _ _).mono HB.out.size)⟩


/-- May two schemes be taken together? -/
def bothB (s t : Sc) : Bool := mayB s && mayB t && decide (s.L.length = t.L.length)
set_option maxHeartbeats 4000000 in
theorem both_any (s t : Sc) (ol os ol' os' : Option Addr) (cl cs cl' cs' : Nat) (hn : s.L.length ≤ 9223372036854775807) (hm : s.S.length ≤ 9223372036854775807) (hn' : t.L.length ≤ 9223372036854775807) (hm' : t.S.length ≤ 9223372036854775807) (w : World) (hr : RowAt w encR 2 ol s.L) (ht : RowAt w encI 1 os s.S) (hr' : RowAt w encR 2 ol' t.L) (ht' : RowAt w encI 1 os' t.S) :
    Calls Try.prog 61 #[.agg #[.slice ol s.L.length cl, .slice os s.S.length cs], .agg #[.slice ol' t.L.length cl', .slice os' t.S.length cs']] w fun e w' => e = .returned (.int .i64 (if bothB s t then 0 else 2)) ∧ Below w.heap.size w w' := by
  have hB0 := ((Below.refl _ w).alloc (Nat.le_refl _) (.cells #[.slice ol s.L.length cl, .slice os s.S.length cs] 25)).alloc (by simp) (.cells #[.slice ol' t.L.length cl', .slice os' t.S.length cs'] 25)
  have bA := (Blk.new w #[.slice ol s.L.length cl, .slice os s.S.length cs] 25).alloc (.cells #[.slice ol' t.L.length cl', .slice os' t.S.length cs'] 25)
  have bB := Blk.new (w.alloc (.cells #[.slice ol s.L.length cl, .slice os s.S.length cs] 25)) #[.slice ol' t.L.length cl', .slice os' t.S.length cs'] 25
  rw [World.size_alloc] at bB
  have H := Lib.hid (And.intro bA (And.intro bB hB0))
  have HR := Lib.hid (And.intro (And.intro hr ht) (And.intro hr' ht'))
  clear bA bB hB0 hr ht hr' ht'
  obtain ⟨q, hq⟩ : ∃ q : Int, (if bothB s t then 0 else 2) = q := ⟨_, rfl⟩
  rw [hq]
  have cS := fun W h1 h2 => check_any s ol os cl cs hn hm W h1 h2
  have cT := fun W h1 h2 => check_any t ol' os' cl' cs' hn' hm' W h1 h2
  cases hs : mayB s
  · have HE : Hid (q = 2) := Lib.hid (by rw [← hq]; simp [bothB, hs])
    rw [hs] at cS
    simp only [Bool.false_eq_true, if_false] at cS
    clear hs hq
    go_enter Try.func61, Try.ntmps61
    go_wp2_with (fail)
    refine (cS _ (HR.out.1.1.below encR_len (by decide) H.out.2.2) (HR.out.1.2.below encI_len (by decide) H.out.2.2)).mono ?_
    rintro e w1 ⟨rfl, hB⟩
    have HB := Lib.hid (H.out.2.2.trans (hB.mono H.out.2.2.size))
    clear hB
    go_wp2
    go_ret
    exact ⟨by rw [HE.out]; rfl, HB.out⟩
  · rw [hs] at cS
    simp only [if_true] at cS
    cases htm : mayB t
    · have HE : Hid (q = 2) := Lib.hid (by rw [← hq]; simp [bothB, htm])
      rw [htm] at cT
      simp only [Bool.false_eq_true, if_false] at cT
      clear hs htm hq
      go_enter Try.func61, Try.ntmps61
      go_wp2_with (fail)
      refine (cS _ (HR.out.1.1.below encR_len (by decide) H.out.2.2) (HR.out.1.2.below encI_len (by decide) H.out.2.2)).mono ?_
      rintro e w1 ⟨rfl, hB⟩
      replace H := Lib.hid (And.intro (H.out.1.below' hB) (And.intro (H.out.2.1.below' hB) (H.out.2.2.trans (hB.mono H.out.2.2.size))))
      clear hB
      have y0 : w1.cell? ⟨w.heap.size + 1, 0, none⟩ = some (.slice ol' t.L.length cl') := H.out.2.1.cell 0
      have y1 : w1.cell? ⟨w.heap.size + 1, 1, none⟩ = some (.slice os' t.S.length cs') := H.out.2.1.cell 1
      go_wp2_with (fail)
      refine (cT _ (HR.out.2.1.below encR_len (by decide) H.out.2.2) (HR.out.2.2.below encI_len (by decide) H.out.2.2)).mono ?_
      rintro e w2 ⟨rfl, hB⟩
      have HB := Lib.hid (H.out.2.2.trans (hB.mono H.out.2.2.size))
      clear hB y0 y1
      go_wp2
      go_ret
      exact ⟨by rw [HE.out]; rfl, HB.out⟩
    · rw [htm] at cT
      simp only [if_true] at cT
      obtain ⟨E, hE⟩ : ∃ E, decide (s.L.length = t.L.length) = E := ⟨_, rfl⟩
      have HE : Hid (q = if E then 0 else 2) := Lib.hid (by rw [← hq, ← hE]; simp [bothB, hs, htm])
      have e1 : ((s.L.length : Int) != (t.L.length : Int)) = !E := by
        rw [← hE]
        by_cases h : s.L.length = t.L.length
        · simp [h]
        · rw [decide_eq_false h]
          rw [Bool.not_false, bne_iff_ne]
          omega
      have e2 : (s.L.length != t.L.length) = !E := by
        rw [← hE]
        by_cases h : s.L.length = t.L.length
        · simp [h]
        · rw [decide_eq_false h]
          rw [Bool.not_false, bne_iff_ne]
          exact h
      clear hs htm hE hq
      go_enter Try.func61, Try.ntmps61
      go_wp2_with (fail)
      refine (cS _ (HR.out.1.1.below encR_len (by decide) H.out.2.2) (HR.out.1.2.below encI_len (by decide) H.out.2.2)).mono ?_
      rintro e w1 ⟨rfl, hB⟩
      replace H := Lib.hid (And.intro (H.out.1.below' hB) (And.intro (H.out.2.1.below' hB) (H.out.2.2.trans (hB.mono H.out.2.2.size))))
      clear hB
      have y0 : w1.cell? ⟨w.heap.size + 1, 0, none⟩ = some (.slice ol' t.L.length cl') := H.out.2.1.cell 0
      have y1 : w1.cell? ⟨w.heap.size + 1, 1, none⟩ = some (.slice os' t.S.length cs') := H.out.2.1.cell 1
      go_wp2_with (fail)
      refine (cT _ (HR.out.2.1.below encR_len (by decide) H.out.2.2) (HR.out.2.2.below encI_len (by decide) H.out.2.2)).mono ?_
      rintro e w2 ⟨rfl, hB⟩
      replace H := Lib.hid (And.intro (H.out.1.below' hB) (And.intro (H.out.2.1.below' hB) (H.out.2.2.trans (hB.mono H.out.2.2.size))))
      clear hB y0 y1
      have x0 : w2.cell? ⟨w.heap.size, 0, none⟩ = some (.slice ol s.L.length cl) := H.out.1.cell 0
      have y0 : w2.cell? ⟨w.heap.size + 1, 0, none⟩ = some (.slice ol' t.L.length cl') := H.out.2.1.cell 0
      cases E
      · simp only [Bool.not_false] at e1 e2
        go_wp2
        go_ret
        exact ⟨by rw [HE.out]; rfl, H.out.2.2⟩
      · simp only [Bool.not_true] at e1 e2
        go_wp2
        go_ret
        exact ⟨by rw [HE.out]; rfl, H.out.2.2⟩
end Go.Proofs.Ytdcmkiggnmajgaa
