/- Stage 16: Alike, First: the document's. -/
import Derived.Test.YtdcmkiggnmajgaaVu
import Derived.Test.YtdcmkiggnmajgaaV8
import Derived.BigQuiet
import Derived.Deep.QuietTactic
namespace Go.Proofs.Ytdcmkiggnmajgaa
set_option linter.unusedVariables false
set_option linter.unusedSimpArgs false
open Go Go.RowKit Go.Shelf
set_option maxRecDepth 100000

def alkB (i k : Nat) (x y : Rh) : Bool := decide (i = k) || (decide (0 ≤ x.c) && decide (x.c = y.c))
set_option maxHeartbeats 4000000 in
theorem refAlike_any (s : Sc) (ol os : Option Addr) (cl cs : Nat) (hn : s.L.length ≤ 9223372036854775807) (i k : Nat) (x y : Rh) (hx : s.L[i]? = some x) (hy : s.L[k]? = some y) (E : Bool) (hE : alkB i k x y = E) (w : World) (hr : RowAt w encR 2 ol s.L) :
    Calls Try.prog 68 #[.agg #[.slice ol s.L.length cl, .slice os s.S.length cs], .int .i64 i, .int .i64 k] w fun e w' => e = .returned (.bool E) ∧ Below w.heap.size w w' := by
  have hil := (List.getElem?_eq_some_iff.1 hx).1
  have hkl := (List.getElem?_eq_some_iff.1 hy).1
  have hi1 : (i : Int) < (s.L.length : Int) := by omega
  have hk1 : (k : Int) < (s.L.length : Int) := by omega
  have hB0 := (Below.refl _ w).alloc (Nat.le_refl _) (.cells #[.slice ol s.L.length cl, .slice os s.S.length cs] 25)
  have b0 := Blk.new w #[.slice ol s.L.length cl, .slice os s.S.length cs] 25
  have hr0 := hr.below encR_len (by decide) hB0
  obtain ⟨W0, hW0⟩ : ∃ W0, w.alloc (.cells #[.slice ol s.L.length cl, .slice os s.S.length cs] 25) = W0 := ⟨_, rfl⟩
  rw [hW0] at hB0 b0 hr0
  obtain ⟨g, off, rfl, hc⟩ := hr0 i x hx
  obtain ⟨g', off', e, hc'⟩ := hr0 k y hy
  cases e
  have q0 := hc 0 (by decide)
  have p0 := hc' 0 (by decide)
  simp only [encR, List.getElem?_cons_zero, Nat.add_zero] at q0 p0
  have x0 : W0.cell? ⟨w.heap.size, 0, none⟩ = some (.slice (some ⟨g, off, none⟩) s.L.length cl) := b0.cell 0
  have HB := Lib.hid hB0
  have HE := Lib.hid hE
  clear hB0 b0 hr0 hc hc' hr hx hy hE
  by_cases h1 : i = k
  · have hF := HE.out
    unfold alkB at hF
    rw [decide_eq_true h1] at hF
    simp only [Bool.true_or] at hF
    subst hF
    have e1 : ((i : Int) == (k : Int)) = true := by rw [h1]; simp
    have e2 : (i == k) = true := by rw [h1]; simp
    clear h1 HE
    go_enter Try.func68, Try.ntmps68
    go_wp2
    try rw [hW0]
    clear hW0
    go_quiet (fail)
    go_wp2
    go_ret
    exact ⟨rfl, HB.out.trans ((below_drewN _ _).mono HB.out.size)⟩
  have e1 : ((i : Int) == (k : Int)) = false := by rw [beq_eq_false_iff_ne]; omega
  have e2 : (i == k) = false := by rw [beq_eq_false_iff_ne]; exact h1
  by_cases h2 : 0 ≤ x.c
  · have d2 : decide (0 ≤ x.c) = true := decide_eq_true h2
    have hF := HE.out
    unfold alkB at hF
    rw [decide_eq_false h1, d2] at hF
    simp only [Bool.false_or, Bool.true_and] at hF
    have e3 : (x.c == y.c) = E := by rw [← hF]; rfl
    clear hF HE h1
    go_enter Try.func68, Try.ntmps68
    go_wp2
    try rw [hW0]
    clear hW0
    go_quiet (fail)
    go_wp2
    go_ret
    exact ⟨rfl, HB.out.trans ((below_drewN _ _).mono HB.out.size)⟩
  · have d2 : decide (0 ≤ x.c) = false := decide_eq_false h2
    have hF := HE.out
    unfold alkB at hF
    rw [decide_eq_false h1, d2] at hF
    simp only [Bool.false_or, Bool.false_and] at hF
    subst hF
    clear HE h1
    go_enter Try.func68, Try.ntmps68
    go_wp2
    try rw [hW0]
    clear hW0
    go_quiet (fail)
    go_wp2
    go_ret
    exact ⟨rfl, HB.out.trans ((below_drewN _ _).mono HB.out.size)⟩

/-- The first line that is alike to a line. -/
def fstL (L : List Rh) (i : Nat) (x : Rh) : Nat := if x.c < 0 then i else (fidx L 0 x.c).toNat
theorem fstL_le {L : List Rh} {i : Nat} {x : Rh} (hx : L[i]? = some x) : fstL L i x ≤ i := by
  unfold fstL
  split
  · exact Nat.le_refl _
  · obtain ⟨f, h1, h2, _⟩ := fidx_at hx
    rw [h1]; simpa using h2
theorem fstL_not {L : List Rh} {i k : Nat} {x y : Rh} (hx : L[i]? = some x) (hy : L[k]? = some y) (hk : k < fstL L i x) : alkB k i y x = false := by
  have hle := fstL_le hx
  unfold alkB
  rw [decide_eq_false (by omega)]
  unfold fstL at hk
  split at hk
  · next h =>
    by_cases e : y.c = x.c
    · rw [decide_eq_false (by omega)]; simp
    · rw [decide_eq_false e]; simp
  · obtain ⟨f, h1, h2, _, h3⟩ := fidx_at hx
    rw [h1] at hk
    have := h3 k y (by simpa using hk) hy
    rw [decide_eq_false this]; simp
theorem fstL_yes {L : List Rh} {i : Nat} {x : Rh} (hx : L[i]? = some x) (hk : fstL L i x < i) : ∃ y, L[fstL L i x]? = some y ∧ alkB (fstL L i x) i y x = true := by
  unfold fstL at *
  by_cases h : x.c < 0
  · rw [if_pos h] at hk; omega
  · rw [if_neg h] at hk ⊢
    obtain ⟨f, h1, h2, ⟨y, h3, h4⟩, _⟩ := fidx_at hx
    rw [h1] at hk ⊢
    simp only [Int.toNat_natCast] at hk ⊢
    refine ⟨y, h3, ?_⟩
    have h5 : (0 : Int) ≤ y.c := by omega
    unfold alkB
    rw [decide_eq_true h4, decide_eq_true h5]; simp
set_option maxHeartbeats 4000000 in
theorem refFirst_any (s : Sc) (ol os : Option Addr) (cl cs : Nat) (hn : s.L.length ≤ 9223372036854775807) (i : Nat) (x : Rh) (hx : s.L[i]? = some x) (F : Nat) (hF : fstL s.L i x = F) (w : World) (hr : RowAt w encR 2 ol s.L) :
    Calls Try.prog 67 #[.agg #[.slice ol s.L.length cl, .slice os s.S.length cs], .int .i64 i] w fun e w' => e = .returned (.int .i64 F) ∧ Below w.heap.size w w' := by
  have hil := (List.getElem?_eq_some_iff.1 hx).1
  have hB0 := (Below.refl _ w).alloc (Nat.le_refl _) (.cells #[.slice ol s.L.length cl, .slice os s.S.length cs] 25)
  have b0 := Blk.new w #[.slice ol s.L.length cl, .slice os s.S.length cs] 25
  have hr0 := hr.below encR_len (by decide) hB0
  obtain ⟨W0, hW0⟩ : ∃ W0, w.alloc (.cells #[.slice ol s.L.length cl, .slice os s.S.length cs] 25) = W0 := ⟨_, rfl⟩
  rw [hW0] at hB0 b0 hr0
  have hFi : F ≤ i := by rw [← hF]; exact fstL_le hx
  have HB := Lib.hid (And.intro hB0 (And.intro b0 (And.intro hr0 (And.intro hx hF))))
  have x0 : W0.cell? ⟨w.heap.size, 0, none⟩ = some (.slice ol s.L.length cl) := b0.cell 0
  have x1 : W0.cell? ⟨w.heap.size, 1, none⟩ = some (.slice os s.S.length cs) := b0.cell 1
  clear hB0 b0 hr0 hr hx hF
  go_enter Try.func67, Try.ntmps67
  go_wp2
  try rw [hW0]
  clear hW0
  go_loopw [5] (fun j X => ∃ k : Nat, j = .int .i64 k ∧ k ≤ F ∧ Below W0.heap.size W0 X) (fun j _ => F + 1 - (intOf j).toNat)
  case atStart => exact ⟨0, rfl, by omega, Below.refl _ _⟩
  case round =>
    obtain ⟨k, rfl, hk, hB⟩ := hrel
    have c0 : wr.cell? ⟨w.heap.size, 0, none⟩ = some (.slice ol s.L.length cl) := at_below x0 hB
    have c1 : wr.cell? ⟨w.heap.size, 1, none⟩ = some (.slice os s.S.length cs) := at_below x1 hB
    have HR := Lib.hid (And.intro hB (HB.out.2.2.1.below encR_len (by decide) hB))
    clear hB
    by_cases h1 : k < F
    · have d1 : decide (k < i) = true := decide_eq_true (by omega)
      have d2 : decide ((k : Int) < (i : Int)) = true := decide_eq_true (by omega)
      obtain ⟨y, hy⟩ : ∃ y, s.L[k]? = some y := ⟨_, List.getElem?_eq_getElem (by omega)⟩
      have cA := refAlike_any s ol os cl cs hn k i y x hy HB.out.2.2.2.1 false (fstL_not HB.out.2.2.2.1 hy (by rw [HB.out.2.2.2.2]; exact h1)) wr HR.out.2
      clear hy
      go_wp2_with (fail)
      refine cA.mono ?_
      rintro e w2 ⟨rfl, hb⟩
      have HN := Lib.hid (HR.out.1.trans (hb.mono HR.out.1.size))
      clear hb cA
      go_wp2
      go_roundw
      case rel => exact ⟨k + 1, by go_num, by omega, HN.out⟩
      case measure => simp [intOf]; omega
    · obtain rfl : k = F := by omega
      by_cases h2 : k < i
      · have d1 : decide (k < i) = true := decide_eq_true (by omega)
        have d2 : decide ((k : Int) < (i : Int)) = true := decide_eq_true (by omega)
        obtain ⟨y, hy, hal⟩ := fstL_yes HB.out.2.2.2.1 (by rw [HB.out.2.2.2.2]; exact h2)
        rw [HB.out.2.2.2.2] at hy hal
        have cA := refAlike_any s ol os cl cs hn k i y x hy HB.out.2.2.2.1 true hal wr HR.out.2
        clear hy hal
        go_wp2_with (fail)
        refine cA.mono ?_
        rintro e w2 ⟨rfl, hb⟩
        have HN := Lib.hid (HR.out.1.trans (hb.mono HR.out.1.size))
        clear hb cA
        go_wp2
        go_ret
        exact ⟨rfl, HB.out.1.trans (HN.out.mono HB.out.1.size)⟩
      · obtain rfl : k = i := by omega
        have d1 : decide (k < k) = false := decide_eq_false (by omega)
        have d2 : decide ((k : Int) < (k : Int)) = false := decide_eq_false (by omega)
        go_wp2
        go_ret
        exact ⟨rfl, HB.out.1.trans (HR.out.1.mono HB.out.1.size)⟩
end Go.Proofs.Ytdcmkiggnmajgaa
