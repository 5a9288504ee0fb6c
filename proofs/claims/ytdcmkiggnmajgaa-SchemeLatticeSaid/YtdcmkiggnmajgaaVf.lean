/- Stage 16: slices.Equal, Same. -/
import Derived.Test.YtdcmkiggnmajgaaV8
namespace Go.Proofs.Ytdcmkiggnmajgaa
set_option linter.unusedVariables false
set_option linter.unusedSimpArgs false
open Go Go.RowKit Go.Shelf
set_option maxRecDepth 100000

set_option maxHeartbeats 8000000 in
theorem eqL_any (L L' : List Rh) (ol ol' : Option Addr) (cl cl' : Nat) (hn : L.length ≤ 9223372036854775807) (w : World) (hr : RowAt w encR 2 ol L) (hr' : RowAt w encR 2 ol' L') :
    Calls Try.prog 51 #[.slice ol L.length cl, .slice ol' L'.length cl'] w fun e w' => e = .returned (.bool (decide (L = L'))) ∧ Below w.heap.size w w' := by
  obtain ⟨E, hE⟩ : ∃ E, decide (L = L') = E := ⟨_, rfl⟩
  rw [hE]
  have hno : L ≠ L' → E = false := fun h => by rw [← hE]; exact decide_eq_false h
  have hyes : L = L' → E = true := fun h => by rw [← hE]; exact decide_eq_true h
  have HE := Lib.hid (And.intro hno hyes)
  clear hE hno hyes
  by_cases hl : L.length = L'.length
  case neg =>
    have HF := Lib.hid (HE.out.1 (fun h => hl (by rw [h])))
    obtain ⟨n, hn'⟩ : ∃ n, L.length = n := ⟨_, rfl⟩
    obtain ⟨n', hnn⟩ : ∃ n, L'.length = n := ⟨_, rfl⟩
    rw [hn', hnn] at hl ⊢
    have e1 : ((n : Int) == (n' : Int)) = false := by rw [beq_eq_false_iff_ne]; omega
    have e2 : (n == n') = false := by rw [beq_eq_false_iff_ne]; omega
    have e3 : ((n : Int) != (n' : Int)) = true := by rw [bne_iff_ne]; omega
    have e4 : (n != n') = true := by rw [bne_iff_ne]; omega
    clear hn' hnn hn hr hr' hl
    go_enter Try.func51, Try.ntmps51
    go_wp2
    go_ret
    exact ⟨by rw [HF.out]; rfl, Below.refl _ _⟩
  case pos =>
  rw [← hl]
  have HD := Lib.hid (And.intro hr hr')
  have HLS := Lib.hid hl
  clear hr hr' hl
  go_enter Try.func51, Try.ntmps51
  go_wp2
  go_loopw [13] (fun i W => ∃ k : Nat, i = .int .i64 k ∧ k ≤ L.length ∧ L.take k = L'.take k ∧ Below w.heap.size w W) (fun i _ => L.length - (intOf i).toNat)
  case atStart => exact ⟨0, rfl, by omega, rfl, Below.refl _ _⟩
  case round =>
    obtain ⟨k, rfl, hk, htk, hB⟩ := hrel
    by_cases hlt : k < L.length
    · obtain ⟨x, hx⟩ : ∃ x, L[k]? = some x := ⟨_, List.getElem?_eq_getElem hlt⟩
      obtain ⟨y, hy⟩ : ∃ x, L'[k]? = some x := ⟨_, List.getElem?_eq_getElem (by rw [← HLS.out]; exact hlt)⟩
      obtain ⟨g, off, rfl, hc⟩ := (HD.out.1.below encR_len (by decide) hB) k x hx
      obtain ⟨g', off', rfl, hc'⟩ := (HD.out.2.below encR_len (by decide) hB) k y hy
      have q0 := hc 0 (by decide)
      have p0 := hc' 0 (by decide)
      have q1 := hc 1 (by decide)
      have p1 := hc' 1 (by decide)
      simp only [encR, List.getElem?_cons_succ, List.getElem?_cons_zero, Nat.add_zero] at q0 q1 p0 p1
      by_cases hxy : x = y
      · subst hxy
        have HT := Lib.hid (And.intro (take_eq_next hx hy htk) hB)
        clear hc hc' hx hy htk hB
        go_wp2
        go_quiet (fail)
        go_wp2
        go_roundw
        case rel => exact ⟨k + 1, by go_num, by omega, HT.out.1, HT.out.2.trans ((below_drewN _ _).mono HT.out.2.size)⟩
        case measure => simp [intOf]; omega
      · have HF := Lib.hid (HE.out.1 (take_ne hx hy hxy))
        have HT := Lib.hid hB
        obtain ⟨xc, xr⟩ := x
        obtain ⟨yc, yr⟩ := y
        simp only at q0 q1 p0 p1
        clear hc hc' hx hy htk hB
        by_cases h1 : xc = yc
        · subst h1
          have e1 : (xr == yr) = false := by rw [beq_eq_false_iff_ne]; rintro rfl; exact hxy rfl
          clear hxy
          go_wp2
          go_quiet (fail)
          go_wp2
          go_ret
          exact ⟨by rw [HF.out]; rfl, HT.out.trans ((below_drewN _ _).mono HT.out.size)⟩
        · have e1 : (xc == yc) = false := by rw [beq_eq_false_iff_ne]; exact h1
          clear hxy h1
          go_wp2
          go_quiet (fail)
          go_wp2
          go_ret
          exact ⟨by rw [HF.out]; rfl, HT.out.trans ((below_drewN _ _).mono HT.out.size)⟩
    · have hLL : L = L' := by
        rw [List.take_of_length_le (by omega), List.take_of_length_le (by rw [← HLS.out]; omega)] at htk
        exact htk
      have HF := Lib.hid (HE.out.2 hLL)
      have HT := Lib.hid hB
      clear hLL htk hB
      go_wp2
      go_ret
      exact ⟨by rw [HF.out]; rfl, HT.out⟩

set_option maxHeartbeats 8000000 in
theorem eqI_any (L L' : List Int) (ol ol' : Option Addr) (cl cl' : Nat) (hn : L.length ≤ 9223372036854775807) (w : World) (hr : RowAt w encI 1 ol L) (hr' : RowAt w encI 1 ol' L') :
    Calls Try.prog 52 #[.slice ol L.length cl, .slice ol' L'.length cl'] w fun e w' => e = .returned (.bool (decide (L = L'))) ∧ Below w.heap.size w w' := by
  obtain ⟨E, hE⟩ : ∃ E, decide (L = L') = E := ⟨_, rfl⟩
  rw [hE]
  have hno : L ≠ L' → E = false := fun h => by rw [← hE]; exact decide_eq_false h
  have hyes : L = L' → E = true := fun h => by rw [← hE]; exact decide_eq_true h
  have HE := Lib.hid (And.intro hno hyes)
  clear hE hno hyes
  by_cases hl : L.length = L'.length
  case neg =>
    have HF := Lib.hid (HE.out.1 (fun h => hl (by rw [h])))
    obtain ⟨n, hn'⟩ : ∃ n, L.length = n := ⟨_, rfl⟩
    obtain ⟨n', hnn⟩ : ∃ n, L'.length = n := ⟨_, rfl⟩
    rw [hn', hnn] at hl ⊢
    have e1 : ((n : Int) == (n' : Int)) = false := by rw [beq_eq_false_iff_ne]; omega
    have e2 : (n == n') = false := by rw [beq_eq_false_iff_ne]; omega
    have e3 : ((n : Int) != (n' : Int)) = true := by rw [bne_iff_ne]; omega
    have e4 : (n != n') = true := by rw [bne_iff_ne]; omega
    clear hn' hnn hn hr hr' hl
    go_enter Try.func52, Try.ntmps52
    go_wp2
    go_ret
    exact ⟨by rw [HF.out]; rfl, Below.refl _ _⟩
  case pos =>
  rw [← hl]
  have HD := Lib.hid (And.intro hr hr')
  have HLS := Lib.hid hl
  clear hr hr' hl
  go_enter Try.func52, Try.ntmps52
  go_wp2
  go_loopw [13] (fun i W => ∃ k : Nat, i = .int .i64 k ∧ k ≤ L.length ∧ L.take k = L'.take k ∧ Below w.heap.size w W) (fun i _ => L.length - (intOf i).toNat)
  case atStart => exact ⟨0, rfl, by omega, rfl, Below.refl _ _⟩
  case round =>
    obtain ⟨k, rfl, hk, htk, hB⟩ := hrel
    by_cases hlt : k < L.length
    · obtain ⟨x, hx⟩ : ∃ x, L[k]? = some x := ⟨_, List.getElem?_eq_getElem hlt⟩
      obtain ⟨y, hy⟩ : ∃ x, L'[k]? = some x := ⟨_, List.getElem?_eq_getElem (by rw [← HLS.out]; exact hlt)⟩
      obtain ⟨g, off, rfl, hc⟩ := (HD.out.1.below encI_len (by decide) hB) k x hx
      obtain ⟨g', off', rfl, hc'⟩ := (HD.out.2.below encI_len (by decide) hB) k y hy
      have q0 := hc 0 (by decide)
      have p0 := hc' 0 (by decide)
      simp only [encI, List.getElem?_cons_zero, Nat.add_zero, Nat.mul_one] at q0 p0
      by_cases hxy : x = y
      · subst hxy
        have HT := Lib.hid (And.intro (take_eq_next hx hy htk) hB)
        clear hc hc' hx hy htk hB
        go_wp2
        go_quiet (fail)
        go_wp2
        go_roundw
        case rel => exact ⟨k + 1, by go_num, by omega, HT.out.1, HT.out.2.trans ((below_drewN _ _).mono HT.out.2.size)⟩
        case measure => simp [intOf]; omega
      · have HF := Lib.hid (HE.out.1 (take_ne hx hy hxy))
        have HT := Lib.hid hB
        have e1 : (x == y) = false := by rw [beq_eq_false_iff_ne]; exact hxy
        clear hc hc' hx hy htk hB hxy
        go_wp2
        go_quiet (fail)
        go_wp2
        go_ret
        exact ⟨by rw [HF.out]; rfl, HT.out.trans ((below_drewN _ _).mono HT.out.size)⟩
    · have hLL : L = L' := by
        rw [List.take_of_length_le (by omega), List.take_of_length_le (by rw [← HLS.out]; omega)] at htk
        exact htk
      have HF := Lib.hid (HE.out.2 hLL)
      have HT := Lib.hid hB
      clear hLL htk hB
      go_wp2
      go_ret
      exact ⟨by rw [HF.out]; rfl, HT.out⟩

theorem same_any (s t : Sc) (ol os ol' os' : Option Addr) (cl cs cl' cs' : Nat) (hn : s.L.length ≤ 9223372036854775807) (hm : s.S.length ≤ 9223372036854775807) (hn' : t.L.length ≤ 9223372036854775807) (hm' : t.S.length ≤ 9223372036854775807) (w : World) (hr : RowAt w encR 2 ol s.L) (ht : RowAt w encI 1 os s.S) (hr' : RowAt w encR 2 ol' t.L) (ht' : RowAt w encI 1 os' t.S) :
    Calls Try.prog 16 #[.agg #[.slice ol s.L.length cl, .slice os s.S.length cs], .agg #[.slice ol' t.L.length cl', .slice os' t.S.length cs']] w fun e w' => e = .returned (.bool (mayB s && mayB t && eqB s t)) ∧ Below w.heap.size w w' := by
  have hB0 := ((Below.refl _ w).alloc (Nat.le_refl _) (.cells #[.slice ol s.L.length cl, .slice os s.S.length cs] 25)).alloc (by simp) (.cells #[.slice ol' t.L.length cl', .slice os' t.S.length cs'] 25)
  have hr0 := hr.below encR_len (by decide) hB0
  have ht0 := ht.below encI_len (by decide) hB0
  have hr0' := hr'.below encR_len (by decide) hB0
  have ht0' := ht'.below encI_len (by decide) hB0
  have b0 := (Blk.new w #[.slice ol s.L.length cl, .slice os s.S.length cs] 25).alloc (.cells #[.slice ol' t.L.length cl', .slice os' t.S.length cs'] 25)
  have b1 := Blk.new (w.alloc (.cells #[.slice ol s.L.length cl, .slice os s.S.length cs] 25)) #[.slice ol' t.L.length cl', .slice os' t.S.length cs'] 25
  rw [World.size_alloc] at b1
  have cK := fun W h1 h2 => check_any s ol os cl cs hn hm W h1 h2
  have cK' := fun W h1 h2 => check_any t ol' os' cl' cs' hn' hm' W h1 h2
  have cL := fun W h1 h2 => eqL_any s.L t.L ol ol' cl cl' hn W h1 h2
  have cI := fun W h1 h2 => eqI_any s.S t.S os os' cs cs' hm W h1 h2
  have heq : eqB s t = (decide (s.L = t.L) && decide (s.S = t.S)) := by
    unfold eqB
    rw [Bool.eq_iff_iff, Bool.and_eq_true, decide_eq_true_iff, decide_eq_true_iff, decide_eq_true_iff]
    exact ⟨fun h => by rw [h]; exact ⟨rfl, rfl⟩, fun h => by cases s; cases t; simp only at h; rw [h.1, h.2]⟩
  rw [heq]
  obtain ⟨eL, heL⟩ : ∃ b, decide (s.L = t.L) = b := ⟨_, rfl⟩
  obtain ⟨eI, heI⟩ : ∃ b, decide (s.S = t.S) = b := ⟨_, rfl⟩
  obtain ⟨n, hnn⟩ : ∃ n, s.L.length = n := ⟨_, rfl⟩
  obtain ⟨m, hmm⟩ : ∃ n, s.S.length = n := ⟨_, rfl⟩
  obtain ⟨n', hnn'⟩ : ∃ n, t.L.length = n := ⟨_, rfl⟩
  obtain ⟨m', hmm'⟩ : ∃ n, t.S.length = n := ⟨_, rfl⟩
  obtain ⟨ms, hms⟩ : ∃ b, mayB s = b := ⟨_, rfl⟩
  obtain ⟨mt, hmt⟩ : ∃ b, mayB t = b := ⟨_, rfl⟩
  simp only [heL, heI, hnn, hmm, hnn', hmm', hms, hmt] at cK cK' cL cI hr0 ht0 hr0' ht0' hB0 b0 b1 ⊢
  clear hnn hmm hnn' hmm' hr ht hr' ht' heq heL heI hms hmt hn hm hn' hm'
  go_enter Try.func16, Try.ntmps16
  go_wp2_with (fail)
  refine (cK _ hr0 ht0).mono ?_
  rintro e w1 ⟨rfl, hB⟩
  have b0 := b0.below' hB
  have b1 := b1.below' hB
  have hr0 := hr0.below encR_len (by decide) hB
  have ht0 := ht0.below encI_len (by decide) hB
  have hr0' := hr0'.below encR_len (by decide) hB
  have ht0' := ht0'.below encI_len (by decide) hB
  have hB1 := hB0.trans (hB.mono hB0.size)
  clear hB hB0 cK
  have x0 : w1.cell? ⟨w.heap.size, 0, none⟩ = some (.slice ol n cl) := b0.cell 0
  have x1 : w1.cell? ⟨w.heap.size, 1, none⟩ = some (.slice os m cs) := b0.cell 1
  have x2 : w1.cell? ⟨w.heap.size + 1, 0, none⟩ = some (.slice ol' n' cl') := b1.cell 0
  have x3 : w1.cell? ⟨w.heap.size + 1, 1, none⟩ = some (.slice os' m' cs') := b1.cell 1
  have HE := Lib.hid hB1
  have HB := Lib.hid (And.intro b0 b1)
  clear hB1 b0 b1
  cases ms with
  | false =>
    clear cK' cL cI hr0 ht0 hr0' ht0'
    simp only [Bool.false_eq_true, if_false]
    go_wp2
    go_ret
    exact ⟨rfl, HE.out⟩
  | true =>
  simp only [if_true]
  go_wp2_with (fail)
  refine (cK' _ hr0' ht0').mono ?_
  rintro e w2 ⟨rfl, hB⟩
  have b0 := HB.out.1.below' hB
  have b1 := HB.out.2.below' hB
  have hr0 := hr0.below encR_len (by decide) hB
  have ht0 := ht0.below encI_len (by decide) hB
  have hr0' := hr0'.below encR_len (by decide) hB
  have ht0' := ht0'.below encI_len (by decide) hB
  have HE := Lib.hid (HE.out.trans (hB.mono HE.out.size))
  clear hB cK' x0 x1 x2 x3
  have x0 : w2.cell? ⟨w.heap.size, 0, none⟩ = some (.slice ol n cl) := b0.cell 0
  have x1 : w2.cell? ⟨w.heap.size, 1, none⟩ = some (.slice os m cs) := b0.cell 1
  have x2 : w2.cell? ⟨w.heap.size + 1, 0, none⟩ = some (.slice ol' n' cl') := b1.cell 0
  have x3 : w2.cell? ⟨w.heap.size + 1, 1, none⟩ = some (.slice os' m' cs') := b1.cell 1
  have HB := Lib.hid (And.intro b0 b1)
  clear b0 b1
  cases mt with
  | false =>
    clear cL cI hr0 ht0 hr0' ht0'
    simp only [Bool.false_eq_true, if_false]
    go_wp2
    go_ret
    exact ⟨rfl, HE.out⟩
  | true =>
  simp only [if_true]
  go_wp2_with (fail)
  refine (cL _ hr0 hr0').mono ?_
  rintro e w3 ⟨rfl, hB⟩
  have b0 := HB.out.1.below' hB
  have b1 := HB.out.2.below' hB
  have ht0 := ht0.below encI_len (by decide) hB
  have ht0' := ht0'.below encI_len (by decide) hB
  have HE := Lib.hid (HE.out.trans (hB.mono HE.out.size))
  clear hB cL x0 x1 x2 x3 hr0 hr0'
  have x1 : w3.cell? ⟨w.heap.size, 1, none⟩ = some (.slice os m cs) := b0.cell 1
  have x3 : w3.cell? ⟨w.heap.size + 1, 1, none⟩ = some (.slice os' m' cs') := b1.cell 1
  clear b0 b1
  cases eL with
  | false =>
    clear cI ht0 ht0'
    go_wp2
    go_ret
    exact ⟨rfl, HE.out⟩
  | true =>
  go_wp2_with (fail)
  refine (cI _ ht0 ht0').mono ?_
  rintro e w4 ⟨rfl, hB⟩
  have HE := Lib.hid (HE.out.trans (hB.mono HE.out.size))
  clear hB cI ht0 ht0'
  go_wp2
  go_ret
  exact ⟨by simp, HE.out⟩
end Go.Proofs.Ytdcmkiggnmajgaa
