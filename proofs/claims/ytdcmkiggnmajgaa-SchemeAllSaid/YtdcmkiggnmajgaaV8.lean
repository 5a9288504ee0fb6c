/- Stage 16: the document's Equal. -/
import Derived.Test.YtdcmkiggnmajgaaV2
namespace Go.Proofs.Ytdcmkiggnmajgaa
set_option linter.unusedVariables false
set_option linter.unusedSimpArgs false
open Go Go.RowKit Go.Shelf
set_option maxRecDepth 100000

def eqB (s t : Sc) : Bool := decide (s = t)
theorem below_drewN (w : World) (k : Nat) : Below w.heap.size w (w.drewN k) := ⟨rfl, rfl, rfl, Nat.le_refl _, fun _ _ => rfl⟩
theorem take_ne {α : Type} {l m : List α} {k : Nat} {x y : α} (h1 : l[k]? = some x) (h2 : m[k]? = some y) (h : x ≠ y) : l ≠ m := by
  rintro rfl
  rw [h1] at h2
  exact h (Option.some.inj h2)
theorem take_eq_next {α : Type} {l m : List α} {k : Nat} {x : α} (h1 : l[k]? = some x) (h2 : m[k]? = some x) (h : l.take k = m.take k) : l.take (k + 1) = m.take (k + 1) := by
  rw [take_nextL h1, take_nextL h2, h]

set_option maxHeartbeats 8000000 in
theorem equal_any (s t : Sc) (ol os ol' os' : Option Addr) (cl cs cl' cs' : Nat) (hn : s.L.length ≤ 9223372036854775807) (hm : s.S.length ≤ 9223372036854775807) (w : World) (hr : RowAt w encR 2 ol s.L) (ht : RowAt w encI 1 os s.S) (hr' : RowAt w encR 2 ol' t.L) (ht' : RowAt w encI 1 os' t.S) :
    Calls Try.prog 29 #[.agg #[.slice ol s.L.length cl, .slice os s.S.length cs], .agg #[.slice ol' t.L.length cl', .slice os' t.S.length cs']] w fun e w' => e = .returned (.bool (eqB s t)) ∧ Below w.heap.size w w' := by
  obtain ⟨L, S⟩ := s
  obtain ⟨L', S'⟩ := t
  simp only at hn hm hr ht hr' ht' ⊢
  obtain ⟨E, hE⟩ : ∃ E, eqB ⟨L, S⟩ ⟨L', S'⟩ = E := ⟨_, rfl⟩
  rw [hE]
  have hno : (L ≠ L' ∨ S ≠ S') → E = false := fun h => by rw [← hE]; unfold eqB; simp; rcases h with h | h <;> simp [h]
  have hyes : L = L' → S = S' → E = true := fun h1 h2 => by rw [← hE]; unfold eqB; simp [h1, h2]
  have HE := Lib.hid (And.intro hno hyes)
  clear hE hno hyes
  by_cases hl : L.length = L'.length
  case neg =>
    have HF := Lib.hid (HE.out.1 (.inl (fun h => hl (by rw [h]))))
    obtain ⟨n, hn'⟩ : ∃ n, L.length = n := ⟨_, rfl⟩
    obtain ⟨n', hnn⟩ : ∃ n, L'.length = n := ⟨_, rfl⟩
    rw [hn', hnn] at hl ⊢
    have e1 : ((n : Int) == (n' : Int)) = false := by rw [beq_eq_false_iff_ne]; omega
    have e2 : (n == n') = false := by rw [beq_eq_false_iff_ne]; omega
    have e3 : ((n : Int) != (n' : Int)) = true := by rw [bne_iff_ne]; omega
    have e4 : (n != n') = true := by rw [bne_iff_ne]; omega
    clear hn' hnn hn hr hr' ht ht' hl hm
    go_enter Try.func29, Try.ntmps29
    go_wp2
    go_ret
    exact ⟨by rw [HF.out]; rfl, ((Below.refl _ _).alloc (Nat.le_refl _) _).alloc (by simp) _⟩
  case pos =>
  by_cases hs : S.length = S'.length
  case neg =>
    have HF := Lib.hid (HE.out.1 (.inr (fun h => hs (by rw [h]))))
    rw [← hl]
    obtain ⟨n, hn'⟩ : ∃ n, S.length = n := ⟨_, rfl⟩
    obtain ⟨n', hnn⟩ : ∃ n, S'.length = n := ⟨_, rfl⟩
    rw [hn', hnn] at hs ⊢
    have e1 : ((n : Int) == (n' : Int)) = false := by rw [beq_eq_false_iff_ne]; omega
    have e2 : (n == n') = false := by rw [beq_eq_false_iff_ne]; omega
    have e3 : ((n : Int) != (n' : Int)) = true := by rw [bne_iff_ne]; omega
    have e4 : (n != n') = true := by rw [bne_iff_ne]; omega
    clear hn' hnn hn hr hr' ht ht' hl hm hs
    go_enter Try.func29, Try.ntmps29
    go_wp2
    go_ret
    exact ⟨by rw [HF.out]; rfl, ((Below.refl _ _).alloc (Nat.le_refl _) _).alloc (by simp) _⟩
  case pos =>
  rw [← hl, ← hs]
  obtain ⟨W0, hW0⟩ : ∃ W0, (w.alloc (.cells #[.slice ol L.length cl, .slice os S.length cs] 25)).alloc (.cells #[.slice ol' L.length cl', .slice os' S.length cs'] 25) = W0 := ⟨_, rfl⟩
  have hB0 : Below w.heap.size w W0 := hW0 ▸ ((Below.refl _ w).alloc (Nat.le_refl _) _).alloc (by simp) _
  have b0 : Blk W0 w.heap.size #[.slice ol L.length cl, .slice os S.length cs] 25 := hW0 ▸ (Blk.new w _ _).alloc _
  have b1 : Blk W0 (w.heap.size + 1) #[.slice ol' L.length cl', .slice os' S.length cs'] 25 := by
    have := Blk.new (w.alloc (.cells #[.slice ol L.length cl, .slice os S.length cs] 25)) #[.slice ol' L.length cl', .slice os' S.length cs'] 25
    rw [World.size_alloc, hW0] at this
    exact this
  have fin : ∀ W, Below W0.heap.size W0 W → Below w.heap.size w W := fun W h => hB0.trans (h.mono hB0.size)
  have HD := Lib.hid (And.intro fin (And.intro (And.intro (hr.below encR_len (by decide) hB0) (ht.below encI_len (by decide) hB0)) (And.intro (hr'.below encR_len (by decide) hB0) (ht'.below encI_len (by decide) hB0))))
  have HX := Lib.hid (And.intro b0 b1)
  have HLS := Lib.hid (And.intro hl hs)
  have x0 : W0.cell? ⟨w.heap.size, 0, none⟩ = some (.slice ol L.length cl) := b0.cell 0
  have x1 : W0.cell? ⟨w.heap.size, 1, none⟩ = some (.slice os S.length cs) := b0.cell 1
  have x2 : W0.cell? ⟨w.heap.size + 1, 0, none⟩ = some (.slice ol' L.length cl') := b1.cell 0
  have x3 : W0.cell? ⟨w.heap.size + 1, 1, none⟩ = some (.slice os' S.length cs') := b1.cell 1
  clear fin b0 b1 hr hr' ht ht' hB0 hl hs
  go_enter Try.func29, Try.ntmps29
  go_wp2
  clear hW0
  go_loopw [26] (fun i W => ∃ k : Nat, i = .int .i64 k ∧ k ≤ L.length ∧ L.take k = L'.take k ∧ Below W0.heap.size W0 W) (fun i _ => L.length - (intOf i).toNat)
  case atStart => exact ⟨0, rfl, by omega, rfl, Below.refl _ _⟩
  case round =>
    obtain ⟨k, rfl, hk, htk, hB⟩ := hrel
    have x0 : wr.cell? ⟨w.heap.size, 0, none⟩ = some (.slice ol L.length cl) := at_below x0 hB
    have x1 : wr.cell? ⟨w.heap.size, 1, none⟩ = some (.slice os S.length cs) := at_below x1 hB
    have x2 : wr.cell? ⟨w.heap.size + 1, 0, none⟩ = some (.slice ol' L.length cl') := at_below x2 hB
    have x3 : wr.cell? ⟨w.heap.size + 1, 1, none⟩ = some (.slice os' S.length cs') := at_below x3 hB
    by_cases hlt : k < L.length
    · obtain ⟨x, hx⟩ : ∃ x, L[k]? = some x := ⟨_, List.getElem?_eq_getElem hlt⟩
      obtain ⟨y, hy⟩ : ∃ x, L'[k]? = some x := ⟨_, List.getElem?_eq_getElem (by rw [← HLS.out.1]; exact hlt)⟩
      obtain ⟨g, off, rfl, hc⟩ := (HD.out.2.1.1.below encR_len (by decide) hB) k x hx
      obtain ⟨g', off', rfl, hc'⟩ := (HD.out.2.2.1.below encR_len (by decide) hB) k y hy
      have q0 := hc 0 (by decide)
      have q1 := hc 1 (by decide)
      have p0 := hc' 0 (by decide)
      have p1 := hc' 1 (by decide)
      simp only [encR, List.getElem?_cons_succ, List.getElem?_cons_zero, Nat.add_zero] at q0 q1 p0 p1
      by_cases hxy : x = y
      · subst hxy
        have HT := Lib.hid (And.intro (take_eq_next hx hy htk) hB)
        clear hc hc' hx hy htk hB
        go_wp2
        go_quiet (fail)
        go_wp2
        go_roundw
        case rel => exact ⟨k + 1, by go_num, by omega, HT.out.1, HT.out.2.trans ((below_drewN _ _).mono HT.out.2.size)⟩
        case measure => simp [intOf]; omega
      · have HF := Lib.hid (HE.out.1 (.inl (take_ne hx hy hxy)))
        have HT := Lib.hid hB
        obtain ⟨xc, xr⟩ := x
        obtain ⟨yc, yr⟩ := y
        simp only at q0 q1 p0 p1
        clear hc hc' hx hy htk hB
        by_cases h1 : xc = yc
        · subst h1
          have e1 : (xr == yr) = false := by rw [beq_eq_false_iff_ne]; rintro rfl; exact hxy rfl
          clear hxy
          go_wp2
          go_quiet (fail)
          go_wp2
          go_ret
          exact ⟨by rw [HF.out]; rfl, HD.out.1 _ (HT.out.trans ((below_drewN _ _).mono HT.out.size))⟩
        · have e1 : (xc == yc) = false := by rw [beq_eq_false_iff_ne]; exact h1
          clear hxy h1
          go_wp2
          go_quiet (fail)
          go_wp2
          go_ret
          exact ⟨by rw [HF.out]; rfl, HD.out.1 _ (HT.out.trans ((below_drewN _ _).mono HT.out.size))⟩
    · have hLL : L = L' := by
        rw [List.take_of_length_le (by omega), List.take_of_length_le (by rw [← HLS.out.1]; omega)] at htk
        exact htk
      have HLL := Lib.hid hLL
      have HB := Lib.hid hB
      clear hLL htk hB
      go_wp2
      go_loopw [44] (fun i W => ∃ k : Nat, i = .int .i64 k ∧ k ≤ S.length ∧ S.take k = S'.take k ∧ Below W0.heap.size W0 W) (fun i _ => S.length - (intOf i).toNat)
      case atStart => exact ⟨0, rfl, by omega, rfl, HB.out⟩
      case round =>
        obtain ⟨k, rfl, hk, htk, hB⟩ := hrel
        have b0 := HX.out.1.below' hB
        have b1 := HX.out.2.below' hB
        have x0 : wr.cell? ⟨w.heap.size, 0, none⟩ = some (.slice ol L.length cl) := b0.cell 0
        have x1 : wr.cell? ⟨w.heap.size, 1, none⟩ = some (.slice os S.length cs) := b0.cell 1
        have x2 : wr.cell? ⟨w.heap.size + 1, 0, none⟩ = some (.slice ol' L.length cl') := b1.cell 0
        have x3 : wr.cell? ⟨w.heap.size + 1, 1, none⟩ = some (.slice os' S.length cs') := b1.cell 1
        clear b0 b1
        by_cases hlt : k < S.length
        · obtain ⟨x, hx⟩ : ∃ x, S[k]? = some x := ⟨_, List.getElem?_eq_getElem hlt⟩
          obtain ⟨y, hy⟩ : ∃ x, S'[k]? = some x := ⟨_, List.getElem?_eq_getElem (by rw [← HLS.out.2]; exact hlt)⟩
          obtain ⟨g, off, rfl, hc⟩ := (HD.out.2.1.2.below encI_len (by decide) hB) k x hx
          obtain ⟨g', off', rfl, hc'⟩ := (HD.out.2.2.2.below encI_len (by decide) hB) k y hy
          have q0 := hc 0 (by decide)
          have p0 := hc' 0 (by decide)
          simp only [encI, List.getElem?_cons_zero, Nat.add_zero, Nat.mul_one] at q0 p0
          by_cases hxy : x = y
          · subst hxy
            have HT := Lib.hid (And.intro (take_eq_next hx hy htk) hB)
            clear hc hc' hx hy htk hB
            go_wp2
            go_quiet (fail)
            go_wp2
            go_roundw
            case rel => exact ⟨k + 1, by go_num, by omega, HT.out.1, HT.out.2.trans ((below_drewN _ _).mono HT.out.2.size)⟩
            case measure => simp [intOf]; omega
          · have HF := Lib.hid (HE.out.1 (.inr (take_ne hx hy hxy)))
            have HT := Lib.hid hB
            have e1 : (x == y) = false := by rw [beq_eq_false_iff_ne]; exact hxy
            clear hc hc' hx hy htk hB hxy
            go_wp2
            go_quiet (fail)
            go_wp2
            go_ret
            exact ⟨by rw [HF.out]; rfl, HD.out.1 _ (HT.out.trans ((below_drewN _ _).mono HT.out.size))⟩
        · have hSS : S = S' := by
            rw [List.take_of_length_le (by omega), List.take_of_length_le (by rw [← HLS.out.2]; omega)] at htk
            exact htk
          have HF := Lib.hid (HE.out.2 HLL.out hSS)
          have HT := Lib.hid hB
          clear hSS htk hB
          go_wp2
          go_ret
          exact ⟨by rw [HF.out]; rfl, HD.out.1 _ HT.out⟩
end Go.Proofs.Ytdcmkiggnmajgaa
