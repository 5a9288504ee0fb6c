/- Stage 27: Compose, whatever comes in. -/
import Derived.Test.YtpijooajbgeejaaM2
import Derived.Test.YtpijooajbgeejaaJ7
namespace Go.Proofs.Ytpijooajbgeejaa
set_option linter.unusedVariables false
set_option linter.unusedSimpArgs false
open Go Go.RowKit Go.Shelf
set_option maxRecDepth 100000

/-- What Compose answers. -/
def comO (l1 l2 : List Sp) : Nat × List Sp :=
  match sizeG l1 0 0, sizeG l2 0 0 with
  | some (_, T1), some (F2, _) => if T1 ≠ F2 then (5, []) else match compA (atL (plainM l1)) (atL (plainM l2)) with
    | none => (270, [])
    | some C => (0, nfA C)
  | _, _ => (2, [])
theorem nf_len2 (A : List Atm) : (nfA A).length ≤ A.length := by
  have h := len_le _ (nf_eq A).2
  rw [(nf_eq A).1.len] at h
  exact h
set_option maxHeartbeats 8000000 in
theorem compose_any (o1 o2 : Option Addr) (l1 l2 : List Sp) (c1 c2 : Nat) (hn1 : l1.length ≤ 9223372036854775807) (ho1 : OkS l1) (hn2 : l2.length ≤ 9223372036854775807) (ho2 : OkS l2) (w : World) (hr1 : RowAt w encS 3 o1 l1) (hr2 : RowAt w encS 3 o2 l2) :
    Calls Try.prog 9 #[.slice o1 l1.length c1, .slice o2 l2.length c2] w fun e w' => ∃ v, e = .returned (.tuple #[v, .int .i64 (comO l1 l2).1]) ∧ w'.ownsRow w.heap.size 45 3 v (comO l1 l2).2.length ((comO l1 l2).2.flatMap encS) ∧ (comO l1 l2).2.length ≤ 1000000 ∧ Below w.heap.size w w' := by
  have cM := may2_any o1 o2 l1 l2 c1 c2 hn1 ho1 hn2 ho2 w hr1 hr2
  cases hz1 : sizeG l1 0 0 with
  | none =>
    have e : comO l1 l2 = (2, []) := by unfold comO; rw [hz1]
    rw [e]
    rw [hz1] at cM
    clear hr1 hr2 ho1 ho2 e
    go_enter Try.func9, Try.ntmps9
    go_wp2
    refine wp_scope_straight ?_
    go_wp2_with (fail)
    refine cM.mono ?_
    rintro e W1 ⟨rfl, hB1⟩
    simp only [Option.isSome_none, Bool.false_and]
    have H1 := Lib.hid hB1
    clear hB1 cM
    go_wp2
    unfold Exit.noGoto
    go_wp2
    refine bodyPost_ret (results_tmp2 rfl _ _ _) rfl ?_
    exact ⟨_, rfl, World.ownsRow_nil _ _ _ _, by simp, H1.out⟩
  | some f1 =>
    obtain ⟨F1, T1⟩ := f1
    cases hz2 : sizeG l2 0 0 with
    | none =>
      have e : comO l1 l2 = (2, []) := by unfold comO; rw [hz1, hz2]
      rw [e]
      rw [hz1, hz2] at cM
      clear hr1 hr2 ho1 ho2 e
      go_enter Try.func9, Try.ntmps9
      go_wp2
      refine wp_scope_straight ?_
      go_wp2_with (fail)
      refine cM.mono ?_
      rintro e W1 ⟨rfl, hB1⟩
      simp only [Option.isSome_none, Bool.and_false]
      have H1 := Lib.hid hB1
      clear hB1 cM
      go_wp2
      unfold Exit.noGoto
      go_wp2
      refine bodyPost_ret (results_tmp2 rfl _ _ _) rfl ?_
      exact ⟨_, rfl, World.ownsRow_nil _ _ _ _, by simp, H1.out⟩
    | some f2 =>
      obtain ⟨F2, T2⟩ := f2
      by_cases hF : T1 = F2
      · subst hF
        refine (compose_of o1 o2 l1 l2 c1 c2 F1 T1 T2 hn1 ho1 hn2 ho2 hz1 hz2 w hr1 hr2).mono ?_
        rintro e w' h
        have hO : comO l1 l2 = match compA (atL (plainM l1)) (atL (plainM l2)) with
            | none => (270, [])
            | some C => (0, nfA C) := by
          unfold comO; rw [hz1, hz2]; simp only; rw [if_neg (by simp)]
        rcases h with ⟨h1, rfl, h3⟩ | ⟨C, v, h1, hC, rfl, h2, h3⟩
        · rw [h1] at hO
          simp only at hO
          rw [hO]
          exact ⟨_, rfl, World.ownsRow_nil _ _ _ _, by simp, h3⟩
        · rw [h1] at hO
          simp only at hO
          rw [hO]
          exact ⟨v, rfl, h2, Nat.le_trans (nf_len2 C) hC, h3⟩
      · have e : comO l1 l2 = (5, []) := by unfold comO; rw [hz1, hz2]; simp only; rw [if_pos hF]
        rw [e]
        rw [hz1, hz2] at cM
        have cS1 := fun X (hX : Below w.heap.size w X) => sizes_any l1 o1 c1 hn1 ho1 X (hr1.below encS_len (by decide) hX)
        have cS2 := fun X (hX : Below w.heap.size w X) => sizes_any l2 o2 c2 hn2 ho2 X (hr2.below encS_len (by decide) hX)
        rw [hz1] at cS1
        rw [hz2] at cS2
        have e1 : ((F2 : Int) == (T1 : Int)) = false := by rw [beq_eq_false_iff_ne]; omega
        have e2 : (F2 == T1) = false := by rw [beq_eq_false_iff_ne]; omega
        clear hr1 hr2 ho1 ho2 e hF
        go_enter Try.func9, Try.ntmps9
        go_wp2
        refine wp_scope_straight ?_
        go_wp2_with (fail)
        refine cM.mono ?_
        rintro e W1 ⟨rfl, hB1⟩
        simp only [Option.isSome_some, Bool.and_self]
        have H1 := Lib.hid hB1
        clear hB1 cM
        go_wp2_with (fail)
        refine (cS1 _ H1.out).mono ?_
        rintro e W2 ⟨rfl, hB2⟩
        simp only [szV]
        have H2 := Lib.hid (H1.out.trans (hB2.mono H1.out.size))
        clear hB2 H1
        go_wp2_with (fail)
        refine (cS2 _ H2.out).mono ?_
        rintro e W3 ⟨rfl, hB3⟩
        simp only [szV]
        have H3 := Lib.hid (H2.out.trans (hB3.mono H2.out.size))
        clear hB3 H2
        go_wp2
        unfold Exit.noGoto
        go_wp2
        refine bodyPost_ret (results_tmp2 rfl _ _ _) rfl ?_
        exact ⟨_, rfl, World.ownsRow_nil _ _ _ _, by simp, H3.out⟩
set_option maxHeartbeats 8000000 in
theorem composeD_any (o1 o2 : Option Addr) (l1 l2 : List Sp) (c1 c2 F1 T1 F2 T2 : Nat) (hn1 : l1.length ≤ 9223372036854775807) (ho1 : OkS l1) (hn2 : l2.length ≤ 9223372036854775807) (ho2 : OkS l2) (hz1 : sizeG l1 0 0 = some (F1, T1)) (hz2 : sizeG l2 0 0 = some (F2, T2)) (w : World) (hr1 : RowAt w encS 3 o1 l1) (hr2 : RowAt w encS 3 o2 l2) :
    Calls Try.prog 10 #[.slice o1 l1.length c1, .slice o2 l2.length c2] w fun e w' => ∃ v, e = .returned (.tuple #[v, .int .i64 (comO l1 l2).1]) ∧ w'.ownsRow w.heap.size 46 3 v (comO l1 l2).2.length ((comO l1 l2).2.flatMap encS) ∧ Below w.heap.size w w' := by
  by_cases hF : T1 = F2
  · subst hF
    refine (composeD_of o1 o2 l1 l2 c1 c2 F1 T1 T2 hn1 ho1 hn2 ho2 hz1 hz2 w hr1 hr2).mono ?_
    rintro e w' h
    have hO : comO l1 l2 = match compA (atL (plainM l1)) (atL (plainM l2)) with
        | none => (270, [])
        | some C => (0, nfA C) := by
      unfold comO; rw [hz1, hz2]; simp only; rw [if_neg (by simp)]
    rcases h with ⟨h1, rfl, h3⟩ | ⟨C, v, h1, rfl, h2, h3⟩
    · rw [h1] at hO
      simp only at hO
      rw [hO]
      exact ⟨_, rfl, World.ownsRow_nil _ _ _ _, h3⟩
    · rw [h1] at hO
      simp only at hO
      rw [hO]
      exact ⟨v, rfl, h2, h3⟩
  · have e : comO l1 l2 = (5, []) := by unfold comO; rw [hz1, hz2]; simp only; rw [if_pos hF]
    rw [e]
    have cS1 := fun X (hX : Below w.heap.size w X) => sizesD_any l1 o1 c1 hn1 ho1 X (hr1.below encS_len (by decide) hX)
    have cS2 := fun X (hX : Below w.heap.size w X) => sizesD_any l2 o2 c2 hn2 ho2 X (hr2.below encS_len (by decide) hX)
    rw [hz1] at cS1
    rw [hz2] at cS2
    have e1 : ((T1 : Int) == (F2 : Int)) = false := by rw [beq_eq_false_iff_ne]; omega
    have e2 : (T1 == F2) = false := by rw [beq_eq_false_iff_ne]; omega
    clear hr1 hr2 ho1 ho2 e hF
    go_enter Try.func10, Try.ntmps10
    go_wp2_with (fail)
    refine (cS1 _ (Below.refl _ _)).mono ?_
    rintro e W2 ⟨rfl, hB2⟩
    simp only [szD]
    have H2 := Lib.hid hB2
    clear hB2
    go_wp2_with (fail)
    refine (cS2 _ H2.out).mono ?_
    rintro e W3 ⟨rfl, hB3⟩
    simp only [szD]
    have H3 := Lib.hid (H2.out.trans (hB3.mono H2.out.size))
    clear hB3 H2
    go_wp2
    refine bodyPost_ret (results_tmp2 rfl _ _ _) rfl ?_
    exact ⟨_, rfl, World.ownsRow_nil _ _ _ _, H3.out⟩
end Go.Proofs.Ytpijooajbgeejaa
