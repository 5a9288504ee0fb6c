/- Stage 16: isPlain, plain, Count of what is none. -/
import Derived.Test.YtdcmkiggnmajgaaVe
import Derived.Test.YtdcmkiggnmajgaaV6
namespace Go.Proofs.Ytdcmkiggnmajgaa
set_option linter.unusedVariables false
set_option linter.unusedSimpArgs false
open Go Go.RowKit Go.Shelf
set_option maxRecDepth 100000

/-- Classes in the order in which they come up, so many by then. -/
def plS : Int → List Rh → Bool
  | _, [] => true
  | c, x :: r => !(decide (x.c < 0) || decide (0 < x.r) || decide (c < x.c)) && plS (max c (x.c + 1)) r
def plainB (s : Sc) : Bool := mayB s && decide (s.L.length ≤ 25) && decide (s.S.length ≤ 1) && plS 0 s.L

theorem count_no (n : Int) (hn : n < 0 ∨ 25 < n) (w : World) : Calls Try.prog 44 #[.int .i64 n] w fun e w' => e = .returned (.tuple #[.int .i64 0, .int .i64 2]) ∧ w' = w := by
  by_cases h1 : n < 0
  · have d1 : decide (n < 0) = true := decide_eq_true h1
    go_enter Try.func44, Try.ntmps44
    go_wp2
    go_ret2
    exact ⟨rfl, rfl⟩
  · have d1 : decide (n < 0) = false := decide_eq_false h1
    have d2 : decide (25 < n) = true := decide_eq_true (by omega)
    go_enter Try.func44, Try.ntmps44
    go_wp2
    go_ret2
    exact ⟨rfl, rfl⟩

def IpI (W1 : World) (R : Bool) (L : List Rh) (i c : Value) (wr : World) : Prop := ∃ (k : Nat) (q : Int), i = .int .i64 k ∧ c = .int .i64 q ∧ k ≤ L.length ∧ 0 ≤ q ∧ q ≤ 25 ∧ plS q (L.drop k) = R ∧ Below W1.heap.size W1 wr
set_option maxHeartbeats 8000000 in
theorem isPlain_may (s : Sc) (ol os : Option Addr) (cl cs : Nat) (hn : s.L.length ≤ 9223372036854775807) (hm : s.S.length ≤ 9223372036854775807) (w : World) (hr : RowAt w encR 2 ol s.L) (ht : RowAt w encI 1 os s.S) (hmay : mayB s = true) :
    Calls Try.prog 64 #[.agg #[.slice ol s.L.length cl, .slice os s.S.length cs]] w fun e w' => e = .returned (.bool (plainB s)) ∧ Below w.heap.size w w' := by
  have hm0 := hmay
  unfold mayB at hm0
  rw [Bool.and_eq_true, Bool.and_eq_true, decide_eq_true_iff] at hm0
  obtain ⟨⟨hL5, hall⟩, _⟩ := hm0
  have hB0 := (Below.refl _ w).alloc (Nat.le_refl _) (.cells #[.slice ol s.L.length cl, .slice os s.S.length cs] 25)
  have hr0 := hr.below encR_len (by decide) hB0
  have ht0 := ht.below encI_len (by decide) hB0
  have b0 := Blk.new w #[.slice ol s.L.length cl, .slice os s.S.length cs] 25
  have cK := fun W h1 h2 => check_any s ol os cl cs hn hm W h1 h2
  rw [hmay] at cK
  simp only [if_true] at cK
  have hE : plainB s = (decide (s.L.length ≤ 25) && decide (s.S.length ≤ 1) && plS 0 s.L) := by unfold plainB; rw [hmay]; simp
  rw [hE]
  obtain ⟨L, S⟩ := s
  simp only at hL5 hall hr0 ht0 b0 cK hB0 ⊢
  obtain ⟨E, hEE⟩ : ∃ E, (decide (L.length ≤ 25) && decide (S.length ≤ 1) && plS 0 L) = E := ⟨_, rfl⟩
  rw [hEE]
  have HE := Lib.hid (And.intro hEE hall)
  clear hE hEE hr ht hmay hall hn hm
  go_enter Try.func64, Try.ntmps64
  go_wp2_with (fail)
  refine (cK _ hr0 ht0).mono ?_
  rintro e W1 ⟨rfl, hB⟩
  have b1 := b0.below' hB
  have hr1 := hr0.below encR_len (by decide) hB
  have hB1 := hB0.trans (hB.mono hB0.size)
  have x0 : W1.cell? ⟨w.heap.size, 0, none⟩ = some (.slice ol L.length cl) := b1.cell 0
  have x1 : W1.cell? ⟨w.heap.size, 1, none⟩ = some (.slice os S.length cs) := b1.cell 1
  have HB := Lib.hid (And.intro hB1 (And.intro hr1 b1))
  clear hB hB0 hr0 ht0 b0 b1 hr1 hB1 cK
  obtain ⟨m, hm⟩ : ∃ m, S.length = m := ⟨_, rfl⟩
  have HM := Lib.hid hm
  rw [hm] at x1 ⊢
  clear hm
  by_cases h1 : 25 < L.length
  · have d1 : decide ((25 : Int) < (L.length : Int)) = true := decide_eq_true (by omega)
    have d2 : decide (25 < L.length) = true := decide_eq_true h1
    have HZ := Lib.hid (show E = false by rw [← HE.out.1, decide_eq_false (by omega)]; rfl)
    go_wp2
    go_ret
    exact ⟨by rw [HZ.out]; rfl, HB.out.1⟩
  have d1 : decide ((25 : Int) < (L.length : Int)) = false := decide_eq_false (by omega)
  have d2 : decide (25 < L.length) = false := decide_eq_false h1
  by_cases h2 : 1 < m
  · have d3 : decide ((1 : Int) < (m : Int)) = true := decide_eq_true (by omega)
    have d4 : decide (1 < m) = true := decide_eq_true h2
    have HZ := Lib.hid (show E = false by rw [← HE.out.1, show decide (S.length ≤ 1) = false from decide_eq_false (by rw [HM.out]; omega)]; simp)
    go_wp2
    go_ret
    exact ⟨by rw [HZ.out]; rfl, HB.out.1⟩
  have d3 : decide ((1 : Int) < (m : Int)) = false := decide_eq_false (by omega)
  have d4 : decide (1 < m) = false := decide_eq_false h2
  have HZ := Lib.hid (show E = plS 0 L by rw [← HE.out.1, show decide (S.length ≤ 1) = true from decide_eq_true (by rw [HM.out]; omega), show decide (L.length ≤ 25) = true from decide_eq_true (by omega)]; simp)
  go_wp2
  go_loopw [24, 3] (IpI W1 (plS 0 L) L) (fun i _ _ => L.length - (intOf i).toNat)
  case atStart => exact ⟨0, 0, rfl, rfl, by omega, by omega, by omega, by simp, Below.refl _ _⟩
  case round =>
    obtain ⟨k, q, rfl, rfl, hk, hq0, hq1, hpl, hB⟩ := hrel
    by_cases hlt : k < L.length
    · obtain ⟨x, hx⟩ : ∃ x, L[k]? = some x := ⟨_, List.getElem?_eq_getElem hlt⟩
      obtain ⟨g, off, rfl, hc⟩ := (HB.out.2.1.below encR_len (by decide) hB) k x hx
      have q0 := hc 0 (by decide)
      have q1 := hc 1 (by decide)
      have hok := (okR_iff x).1 (List.all_eq_true.1 HE.out.2 x (List.mem_of_getElem? hx))
      rw [drop_cons hx] at hpl
      obtain ⟨c, r⟩ := x
      simp only [encR, List.getElem?_cons_succ, List.getElem?_cons_zero, Nat.add_zero] at q0 q1
      simp only at hok
      obtain ⟨ok1, ok2, ok3, ok4, ok5⟩ := hok
      clear ok5
      have hp0 : plS q (⟨c, r⟩ :: L.drop (k + 1)) = (!(decide (c < 0) || decide (0 < r) || decide (q < c)) && plS (max q (c + 1)) (L.drop (k + 1))) := rfl
      rw [hp0] at hpl
      have HP := Lib.hid hpl
      have HB1 := Lib.hid (hB.alloc hB.size (.cells #[.int .i64 c, .int .i64 r] 79))
      clear hpl hp0 hc hx hB
      by_cases c1 : c < 0
      · have e1 : decide (c < 0) = true := decide_eq_true c1
        have HF := Lib.hid (show E = false by rw [HZ.out, ← HP.out, e1]; simp)
        go_wp2
        go_ret
        exact ⟨by rw [HF.out]; rfl, HB.out.1.trans (HB1.out.mono HB.out.1.size)⟩
      have e1 : decide (c < 0) = false := decide_eq_false c1
      by_cases c2 : 0 < r
      · have e2 : decide (0 < r) = true := decide_eq_true c2
        have HF := Lib.hid (show E = false by rw [HZ.out, ← HP.out, e1, e2]; simp)
        go_wp2
        go_ret
        exact ⟨by rw [HF.out]; rfl, HB.out.1.trans (HB1.out.mono HB.out.1.size)⟩
      have e2 : decide (0 < r) = false := decide_eq_false c2
      by_cases c3 : q < c
      · have e3 : decide (q < c) = true := decide_eq_true c3
        have HF := Lib.hid (show E = false by rw [HZ.out, ← HP.out, e1, e2, e3]; simp)
        go_wp2
        go_ret
        exact ⟨by rw [HF.out]; rfl, HB.out.1.trans (HB1.out.mono HB.out.1.size)⟩
      have e3 : decide (q < c) = false := decide_eq_false c3
      have hp2 := HP.out
      rw [e1, e2, e3] at hp2
      by_cases c4 : q < c + 1
      · rw [show max q (c + 1) = c + 1 by omega] at hp2
        have HP2 := Lib.hid hp2
        clear hp2
        go_wp2
        go_roundw
        case rel => exact ⟨k + 1, c + 1, by go_num, by first | rfl | (rw [if_pos c4]), by omega, by omega, by omega, by simpa using HP2.out, HB1.out⟩
        case measure => simp [intOf]; omega
      · rw [show max q (c + 1) = q by omega] at hp2
        have HP2 := Lib.hid hp2
        clear hp2
        go_wp2
        go_roundw
        case rel => exact ⟨k + 1, q, by go_num, by first | rfl | (rw [if_neg c4]), by omega, hq0, hq1, by simpa using HP2.out, HB1.out⟩
        case measure => simp [intOf]; omega
    · rw [List.drop_of_length_le (by omega)] at hpl
      have HF := Lib.hid (show E = true by rw [HZ.out, ← hpl]; rfl)
      have HB1 := Lib.hid hB
      clear hpl hB
      go_wp2
      go_ret
      exact ⟨by rw [HF.out]; rfl, HB.out.1.trans (HB1.out.mono HB.out.1.size)⟩
end Go.Proofs.Ytdcmkiggnmajgaa
