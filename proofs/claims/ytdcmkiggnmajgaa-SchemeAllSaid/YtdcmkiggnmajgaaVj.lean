/- Stage 16: the document's Plain. -/
import Derived.Test.YtdcmkiggnmajgaaVh
namespace Go.Proofs.Ytdcmkiggnmajgaa
set_option linter.unusedVariables false
set_option linter.unusedSimpArgs false
open Go Go.RowKit Go.Shelf
set_option maxRecDepth 100000

def plnB (s : Sc) : Bool := if s.L.length = 0 then decide (s.S.length = 0) else (plS 0 s.L && decide (s.S.length = 1))
def PpI (W1 : World) (R : Bool) (L : List Rh) (i c : Value) (wr : World) : Prop := ∃ (k : Nat) (q : Int), i = .int .i64 k ∧ c = .int .i64 q ∧ k ≤ L.length ∧ -1 ≤ q ∧ q ≤ 24 ∧ plS (q + 1) (L.drop k) = R ∧ Below W1.heap.size W1 wr
set_option maxHeartbeats 8000000 in
theorem refPlain_may (s : Sc) (ol os : Option Addr) (cl cs : Nat) (hn : s.L.length ≤ 9223372036854775807) (hm : s.S.length ≤ 9223372036854775807) (w : World) (hr : RowAt w encR 2 ol s.L) (ht : RowAt w encI 1 os s.S) (hmay : mayB s = true) :
    Calls Try.prog 49 #[.agg #[.slice ol s.L.length cl, .slice os s.S.length cs]] w fun e w' => e = .returned (.bool (plnB s)) ∧ Below w.heap.size w w' := by
  have hm0 := hmay
  unfold mayB at hm0
  rw [Bool.and_eq_true, Bool.and_eq_true, decide_eq_true_iff] at hm0
  obtain ⟨⟨hL5, hall⟩, _⟩ := hm0
  have hB0 := (Below.refl _ w).alloc (Nat.le_refl _) (.cells #[.slice ol s.L.length cl, .slice os s.S.length cs] 25)
  have hr0 := hr.below encR_len (by decide) hB0
  have ht0 := ht.below encI_len (by decide) hB0
  have b0 := Blk.new w #[.slice ol s.L.length cl, .slice os s.S.length cs] 25
  obtain ⟨L, S⟩ := s
  simp only at hL5 hall hr0 ht0 b0 hB0 ⊢
  obtain ⟨E, hEE⟩ : ∃ E, plnB ⟨L, S⟩ = E := ⟨_, rfl⟩
  rw [hEE]
  unfold plnB at hEE
  simp only at hEE
  have HE := Lib.hid (And.intro hEE hall)
  clear hEE hr ht hmay hall hn hm
  obtain ⟨W1, hW1⟩ : ∃ W1, w.alloc (.cells #[.slice ol L.length cl, .slice os S.length cs] 25) = W1 := ⟨_, rfl⟩
  rw [hW1] at hr0 b0 hB0
  have x0 : W1.cell? ⟨w.heap.size, 0, none⟩ = some (.slice ol L.length cl) := b0.cell 0
  have x1 : W1.cell? ⟨w.heap.size, 1, none⟩ = some (.slice os S.length cs) := b0.cell 1
  have HB := Lib.hid (And.intro hB0 (And.intro hr0 b0))
  clear hB0 hr0 ht0 b0
  by_cases h0 : L.length = 0
  · have HZ := Lib.hid (show E = decide (S.length = 0) by rw [← HE.out.1, if_pos h0])
    obtain ⟨n, hn⟩ : ∃ n, L.length = n := ⟨_, rfl⟩
    obtain ⟨m, hm⟩ : ∃ n, S.length = n := ⟨_, rfl⟩
    have HM := Lib.hid hm
    rw [hn, hm] at hW1
    rw [hn] at x0 h0
    rw [hm] at x1
    rw [hn, hm]
    have e0 : ((n : Int) == 0) = true := by rw [h0]; rfl
    have e1 : (n == 0) = true := by rw [h0]; rfl
    clear hn hm h0
    have hE3 : E = decide (m = 0) := by rw [HZ.out, HM.out]
    by_cases h1 : m = 0
    · have f1 : ((m : Int) == 0) = true := by rw [h1]; rfl
      have HF := Lib.hid (show E = true by rw [hE3, decide_eq_true h1])
      clear hE3 h1
      go_enter Try.func49, Try.ntmps49
      go_wp2
      go_ret
      exact ⟨by rw [HF.out]; rfl, HB.out.1⟩
    · have f1 : ((m : Int) == 0) = false := by rw [beq_eq_false_iff_ne]; omega
      have f2 : (m == 0) = false := by rw [beq_eq_false_iff_ne]; exact h1
      have HF := Lib.hid (show E = false by rw [hE3, decide_eq_false h1])
      clear hE3 h1
      go_enter Try.func49, Try.ntmps49
      go_wp2
      go_ret
      exact ⟨by rw [HF.out]; rfl, HB.out.1⟩
  have e0 : ((L.length : Int) == 0) = false := by rw [beq_eq_false_iff_ne]; omega
  have e1 : (L.length == 0) = false := by rw [beq_eq_false_iff_ne]; omega
  have HZ := Lib.hid (show E = (plS 0 L && decide (S.length = 1)) by rw [← HE.out.1, if_neg h0])
  clear h0
  go_enter Try.func49, Try.ntmps49
  go_wp2
  clear hW1
  go_loopw [17, 3] (PpI W1 (plS 0 L) L) (fun i _ _ => L.length - (intOf i).toNat)
  case atStart => exact ⟨0, -1, rfl, rfl, by omega, by omega, by omega, by simp, Below.refl _ _⟩
  case round =>
    obtain ⟨k, q, rfl, rfl, hk, hq0, hq1, hpl, hB⟩ := hrel
    by_cases hlt : k < L.length
    · obtain ⟨x, hx⟩ : ∃ x, L[k]? = some x := ⟨_, List.getElem?_eq_getElem hlt⟩
      obtain ⟨g, off, rfl, hc⟩ := (HB.out.2.1.below encR_len (by decide) hB) k x hx
      have q0 := hc 0 (by decide)
      have q1 := hc 1 (by decide)
      have hok := (okR_iff x).1 (List.all_eq_true.1 HE.out.2 x (List.mem_of_getElem? hx))
      rw [drop_cons hx] at hpl
      obtain ⟨c, r⟩ := x
      simp only [encR, List.getElem?_cons_succ, List.getElem?_cons_zero, Nat.add_zero] at q0 q1
      simp only at hok
      obtain ⟨ok1, ok2, ok3, ok4, ok5⟩ := hok
      clear ok5
      have hp0 : plS (q + 1) (⟨c, r⟩ :: L.drop (k + 1)) = (!(decide (c < 0) || decide (0 < r) || decide (q + 1 < c)) && plS (max (q + 1) (c + 1)) (L.drop (k + 1))) := rfl
      rw [hp0] at hpl
      have HP := Lib.hid hpl
      have HB1 := Lib.hid (hB.alloc hB.size (.cells #[.int .i64 c, .int .i64 r] 79))
      clear hpl hp0 hc hx hB
      by_cases c1 : c < 0
      · have e1 : decide (c < 0) = true := decide_eq_true c1
        have HF := Lib.hid (show E = false by rw [HZ.out, ← HP.out, e1]; simp)
        go_wp2
        go_ret
        exact ⟨by rw [HF.out]; rfl, HB.out.1.trans (HB1.out.mono HB.out.1.size)⟩
      have e1 : decide (c < 0) = false := decide_eq_false c1
      by_cases c3 : q + 1 < c
      · have e3 : decide (q + 1 < c) = true := decide_eq_true c3
        have HF := Lib.hid (show E = false by rw [HZ.out, ← HP.out, e1, e3]; simp)
        go_wp2
        go_ret
        exact ⟨by rw [HF.out]; rfl, HB.out.1.trans (HB1.out.mono HB.out.1.size)⟩
      have e3 : decide (q + 1 < c) = false := decide_eq_false c3
      by_cases c2 : 0 < r
      · have e2 : decide (0 < r) = true := decide_eq_true c2
        have er : (r == 0) = false := by rw [beq_eq_false_iff_ne]; omega
        have er2 : (r != 0) = true := by rw [bne_iff_ne]; omega
        have HF := Lib.hid (show E = false by rw [HZ.out, ← HP.out, e1, e2]; simp)
        go_wp2
        go_ret
        exact ⟨by rw [HF.out]; rfl, HB.out.1.trans (HB1.out.mono HB.out.1.size)⟩
      have e2 : decide (0 < r) = false := decide_eq_false c2
      obtain rfl : r = 0 := by omega
      have hp2 := HP.out
      rw [e1, e2, e3] at hp2
      by_cases c4 : q < c
      · rw [show max (q + 1) (c + 1) = c + 1 by omega] at hp2
        have HP2 := Lib.hid hp2
        clear hp2
        go_wp2
        go_roundw
        case rel => exact ⟨k + 1, c, by go_num, by first | rfl | (rw [if_pos c4]), by omega, by omega, by omega, by simpa using HP2.out, HB1.out⟩
        case measure => simp [intOf]; omega
      · rw [show max (q + 1) (c + 1) = q + 1 by omega] at hp2
        have HP2 := Lib.hid hp2
        clear hp2
        go_wp2
        go_roundw
        case rel => exact ⟨k + 1, q, by go_num, by first | rfl | (rw [if_neg c4]), by omega, hq0, hq1, by simpa using HP2.out, HB1.out⟩
        case measure => simp [intOf]; omega
    · rw [List.drop_of_length_le (by omega)] at hpl
      have hF : E = decide (S.length = 1) := by rw [HZ.out, ← hpl]; rfl
      have x1 : wr.cell? ⟨w.heap.size, 1, none⟩ = some (.slice os S.length cs) := at_below x1 hB
      have HB1 := Lib.hid hB
      obtain ⟨m, hm⟩ : ∃ n, S.length = n := ⟨_, rfl⟩
      rw [hm] at hF
      by_cases h1 : m = 1
      · have f1 : ((m : Int) == 1) = true := by rw [h1]; rfl
        have HF := Lib.hid (show E = true by rw [hF, decide_eq_true h1])
        rw [hm] at x1
        clear hpl hB hF h1 hm
        go_wp2
        go_ret
        exact ⟨by rw [HF.out]; rfl, HB.out.1.trans (HB1.out.mono HB.out.1.size)⟩
      · have f1 : ((m : Int) == 1) = false := by rw [beq_eq_false_iff_ne]; omega
        have f2 : (m == 1) = false := by rw [beq_eq_false_iff_ne]; exact h1
        have HF := Lib.hid (show E = false by rw [hF, decide_eq_false h1])
        rw [hm] at x1
        clear hpl hB hF h1 hm
        go_wp2
        go_ret
        exact ⟨by rw [HF.out]; rfl, HB.out.1.trans (HB1.out.mono HB.out.1.size)⟩
end Go.Proofs.Ytdcmkiggnmajgaa
