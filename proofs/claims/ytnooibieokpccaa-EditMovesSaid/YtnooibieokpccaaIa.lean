/- Stage 27: the law EditMoves. -/
import Derived.Test.YtnooibieokpccaaHz
import Derived.Test.YtnooibieokpccaaHx
import Derived.Test.YtnooibieokpccaaHq
import Derived.Test.YtnooibieokpccaaHs
namespace Go.Proofs.Ytnooibieokpccaa
set_option linter.unusedVariables false
set_option linter.unusedSimpArgs false
open Go Go.RowKit Go.Shelf
set_option maxRecDepth 100000

theorem plain_len (l : List Sp) (F T : Nat) (hok : sizeG l 0 0 = some (F, T)) : (plainM l).length ≤ 9223372036854775807 := by
  have key : ∀ (l : List Sp) (f t : Nat) (m : Mk), sizeG l f t = some (F, T) → f ≤ 65536 → t ≤ 65536 → m.out.length ≤ 4 * (f + t) → (l.foldl stepM m).out.length ≤ 4 * (65536 + 65536) := by
    intro l
    induction l with
    | nil => intro f t m _ hf ht hm; simp only [List.foldl_nil]; omega
    | cons x l ih =>
      intro f t m h hf ht hm
      unfold sizeG at h
      by_cases h0 : kindN x = 0 ∨ 65536 < x.k
      · rw [if_pos h0] at h; cases h
      · rw [if_neg h0] at h
        by_cases h1 : 65536 < f + x.k.toNat + x.d.size ∨ 65536 < t + x.k.toNat + x.p.size
        · rw [if_pos h1] at h; cases h
        · rw [if_neg h1] at h
          have hk1 := kind_one (x := x) (fun e => h0 (.inl e))
          have e1 := keep_bd m x.k.toNat
          have e2 := puts_bd (keepM x.k.toNat m) x.p
          have e3 := drops_bd (putsM x.p (keepM x.k.toNat m)) x.d
          rw [List.foldl_cons]
          refine ih _ _ _ h (by omega) (by omega) ?_
          unfold stepM
          omega
  have h1 := key l 0 0 ⟨[], 0, .empty, .empty⟩ hok (by omega) (by omega) (by simp)
  have h2 := gap_len (l.foldl stepM ⟨[], 0, .empty, .empty⟩)
  have h3 := row_len (gapM (l.foldl stepM ⟨[], 0, .empty, .empty⟩))
  unfold plainM endM
  omega
set_option maxHeartbeats 8000000 in
theorem moves_law (l : List Sp) (o : Option Addr) (c : Nat) (a : Int) (bh : Bool) (hn : l.length ≤ 9223372036854775807) (ho : OkS l) (ha2 : a ≤ 9223372036854775807) (w : World) (hr : RowAt w encS 3 o l) :
    Calls Try.prog 3 #[.slice o l.length c, .int .i64 a, .bool bh] w fun e w' => e = .returned (.bool true) ∧ Below w.heap.size w w' := by
  have HR := Lib.hid (And.intro hr ho)
  clear hr ho
  go_enter Try.func3, Try.ntmps3
  go_wp2_with (fail)
  refine (live_any _).mono ?_
  rintro e W1 ⟨rfl, hB1⟩
  have H1 := Lib.hid hB1
  clear hB1
  go_wp2_with (fail)
  refine (ref_any l o c hn HR.out.2 _ (HR.out.1.below encS_len (by decide) H1.out)).mono ?_
  rintro e W2 (⟨hrf, rfl, hB2⟩ | ⟨hrf, v, rfl, hrow, hB2⟩)
  · have H2 := Lib.hid (H1.out.trans (hB2.mono H1.out.size))
    clear hB2 hrf
    go_wp2
    go_ret
    exact ⟨rfl, H2.out⟩
  · obtain ⟨om, cm, rfl, _⟩ := own_slice hrow
    have H2 := Lib.hid (And.intro (H1.out.trans (hB2.mono H1.out.size)) (RowAt.of_own encS_len hrow rfl))
    clear hB2 hrow hrf
    go_wp2_with (fail)
    refine (sizesD_any l om cm hn HR.out.2 _ H2.out.2).mono ?_
    rintro e W3 ⟨rfl, hB3⟩
    have H3 := Lib.hid (And.intro (H2.out.1.trans (hB3.mono H2.out.1.size)) (H2.out.2.below encS_len (by decide) hB3))
    clear hB3
    cases hsz : sizeG l 0 0 with
    | none =>
      simp only [szD]
      have HN := Lib.hid hsz
      clear hsz
      go_wp2_with (fail)
      refine (move_no l o c a bh hn HR.out.2 HN.out _ (HR.out.1.below encS_len (by decide) H3.out.1)).mono ?_
      rintro e W4 ⟨rfl, hB4⟩
      have H4 := Lib.hid (H3.out.1.trans (hB4.mono H3.out.1.size))
      clear hB4
      go_wp2_with (fail)
      refine (live_any _).mono ?_
      rintro e W5 ⟨rfl, hB5⟩
      have H5 := Lib.hid (H4.out.trans (hB5.mono H4.out.size))
      clear hB5
      go_wp2
      go_ret
      exact ⟨rfl, H5.out⟩
    | some FT =>
      obtain ⟨F, T⟩ := FT
      simp only [szD]
      have hF6 := (sizeG_ok l 0 0 F T hsz (by omega) (by omega)).2.1
      have HN := Lib.hid hsz
      clear hsz
      by_cases hout : a < 0 ∨ (F : Int) < a
      · have cM := fun W (h : RowAt W encS 3 o l) => move_out l o c F T a bh hn HR.out.2 HN.out hout W h
        rcases (by omega : a < 0 ∨ (¬ a < 0 ∧ (F : Int) < a)) with h | ⟨h0, h⟩
        · have d1 : decide (a < 0) = true := decide_eq_true h
          clear hout
          go_wp2_with (fail)
          refine (cM _ (HR.out.1.below encS_len (by decide) H3.out.1)).mono ?_
          rintro e W4 ⟨rfl, hB4⟩
          have H4 := Lib.hid (H3.out.1.trans (hB4.mono H3.out.1.size))
          clear hB4
          go_wp2
          go_ret
          exact ⟨rfl, H4.out⟩
        · have d1 : decide (a < 0) = false := decide_eq_false h0
          have d2 : decide ((F : Int) < a) = true := decide_eq_true h
          clear hout
          go_wp2_with (fail)
          refine (cM _ (HR.out.1.below encS_len (by decide) H3.out.1)).mono ?_
          rintro e W4 ⟨rfl, hB4⟩
          have H4 := Lib.hid (H3.out.1.trans (hB4.mono H3.out.1.size))
          clear hB4
          go_wp2
          go_ret
          exact ⟨rfl, H4.out⟩
      · obtain ⟨an, rfl⟩ : ∃ an : Nat, a = an := ⟨a.toNat, by omega⟩
        have haF : an ≤ F := by omega
        have d1 : decide ((an : Int) < 0) = false := decide_eq_false (by omega)
        have d2 : decide ((F : Int) < (an : Int)) = false := decide_eq_false (by omega)
        have cP := fun (b2 : Bool) (a2 : Nat) (ha : a2 ≤ F) W (h : RowAt W encS 3 o l) => move_of l o c F T a2 b2 hn HR.out.2 HN.out ha W h (fun W' hb => plain_any l o c F T hn HN.out W' (h.below encS_len (by decide) hb)) (plain_len l F T HN.out)
        have cD := fun W (h : RowAt W encS 3 om l) => moveD_of l om cm F T an bh HN.out haF W (fun W' hb => say_any l om cm F T hn HR.out.2 HN.out W' (h.below encS_len (by decide) hb))
        have m1 := mv_true an bh l
        have m2 := mv_next an l
        obtain ⟨N0, hN0⟩ : ∃ N, (l.foldl (mvG an bh) ⟨0, 0, 0⟩).n = N := ⟨_, rfl⟩
        obtain ⟨N1, hN1⟩ : ∃ N, (l.foldl (mvG an true) ⟨0, 0, 0⟩).n = N := ⟨_, rfl⟩
        obtain ⟨N2, hN2⟩ : ∃ N, (l.foldl (mvG (an + 1) false) ⟨0, 0, 0⟩).n = N := ⟨_, rfl⟩
        have cP0 := fun W h => cP bh an haF W h
        have cP1 := fun W h => cP true an haF W h
        have cP2 := fun (h2 : an + 1 ≤ F) W h => cP false (an + 1) h2 W h
        rw [hN0] at m1
        rw [hN1] at m1 m2
        rw [hN2] at m2
        simp only [hN0] at cP0 cD
        simp only [hN1] at cP1
        simp only [hN2] at cP2
        have j1 : IntKind.i64.wrap ((an : Int) + 1) = ((an + 1 : Nat) : Int) := by rw [IntWalk.i64_in _ (by omega)]; omega
        have e1 : decide ((N1 : Int) < (N0 : Int)) = false := decide_eq_false (by omega)
        have e2 : decide ((N1 : Int) ≤ (N2 : Int)) = true := decide_eq_true (by omega)
        have e3 : decide (N1 < N0) = false := decide_eq_false (by omega)
        have e4 : decide (N1 ≤ N2) = true := decide_eq_true (by omega)
        have e5 : ¬ (N1 < N0) := by omega
        have e6 : N1 ≤ N2 := by omega
        clear hN0 hN1 hN2 cP hout m1 m2
        go_wp2_with (fail)
        refine (cP0 _ (HR.out.1.below encS_len (by decide) H3.out.1)).mono ?_
        rintro e W4 ⟨rfl, hB4⟩
        have H4 := Lib.hid (And.intro (H3.out.1.trans (hB4.mono H3.out.1.size)) (H3.out.2.below encS_len (by decide) hB4))
        clear hB4
        go_wp2_with (fail)
        refine (cD _ H4.out.2).mono ?_
        rintro e W5 ⟨rfl, hB5⟩
        have H5 := Lib.hid (H4.out.1.trans (hB5.mono H4.out.1.size))
        clear hB5
        go_wp2_with (fail)
        refine (cP1 _ (HR.out.1.below encS_len (by decide) H5.out)).mono ?_
        rintro e W6 ⟨rfl, hB6⟩
        have H6 := Lib.hid (H5.out.trans (hB6.mono H5.out.size))
        clear hB6
        by_cases hlt : an < F
        · have d3 : decide ((an : Int) < (F : Int)) = true := decide_eq_true (by omega)
          have cQ := cP2 (by omega)
          rw [show ((an + 1 : Nat) : Int) = (an : Int) + 1 from by omega] at cQ j1
          clear cP2 cP1 cP0 cD
          go_wp2_with (fail)
          refine (cQ _ (HR.out.1.below encS_len (by decide) H6.out)).mono ?_
          rintro e W7 ⟨rfl, hB7⟩
          have H7 := Lib.hid (H6.out.trans (hB7.mono H6.out.size))
          clear hB7
          go_wp2
          go_ret
          exact ⟨rfl, H7.out⟩
        · have d3 : decide ((an : Int) < (F : Int)) = false := decide_eq_false (by omega)
          clear cP2 cP1 cP0 cD
          go_wp2
          go_ret
          exact ⟨rfl, H6.out⟩
end Go.Proofs.Ytnooibieokpccaa
