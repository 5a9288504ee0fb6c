/- Stage 27: the law EditComposes. -/
import Derived.Test.YtpijooajbgeejaaM3
import Derived.Test.YtpijooajbgeejaaHs
namespace Go.Proofs.Ytpijooajbgeejaa
set_option linter.unusedVariables false
set_option linter.unusedSimpArgs false
open Go Go.RowKit Go.Shelf
set_option maxRecDepth 100000

theorem comO_no {l1 l2 : List Sp} (h : sizeG l1 0 0 = none ∨ sizeG l2 0 0 = none) : comO l1 l2 = (2, []) := by
  unfold comO
  rcases h with h | h
  · rw [h]
  · cases h1 : sizeG l1 0 0 with
    | none => rfl
    | some f => rw [h]
theorem RowAt.same {α : Type} {enc : α → List Value} {k : Nat} {W X : World} {g off : Nat} {l : List α} (h : RowAt W enc k (some ⟨g, off, none⟩) l) (e : X.heap[g]? = W.heap[g]?) : RowAt X enc k (some ⟨g, off, none⟩) l := by
  intro i x hi
  obtain ⟨g', o', e', hc⟩ := h i x hi
  cases e'
  exact ⟨g, off, rfl, fun j hj => by rw [World.cell?_of_block (a := ⟨g, off + i * k + j, none⟩) e]; exact hc j hj⟩
set_option maxHeartbeats 16000000 in
theorem composes_law (o1 o2 : Option Addr) (a b : List Sp) (c1 c2 : Nat) (hn1 : a.length ≤ 9223372036854775807) (ho1 : OkS a) (hn2 : b.length ≤ 9223372036854775807) (ho2 : OkS b) (w : World) (hr1 : RowAt w encS 3 o1 a) (hr2 : RowAt w encS 3 o2 b) :
    Calls Try.prog 3 #[.slice o1 a.length c1, .slice o2 b.length c2] w fun e w' => e = .returned (.bool true) ∧ Below w.heap.size w w' := by
  have HR := Lib.hid (And.intro hr1 (And.intro ho1 (And.intro hr2 ho2)))
  clear hr1 ho1 hr2 ho2
  go_enter Try.func3, Try.ntmps3
  go_wp2_with (fail)
  refine (live_any _).mono ?_
  rintro e W1 ⟨rfl, hB1⟩
  have H1 := Lib.hid hB1
  clear hB1
  go_wp2_with (fail)
  refine (ref_any a o1 c1 hn1 HR.out.2.1 _ (HR.out.1.below encS_len (by decide) H1.out)).mono ?_
  rintro e W2 (⟨hrf, rfl, hB2⟩ | ⟨hrf, v, rfl, hrow, hB2⟩)
  · skip
    have H2 := Lib.hid (H1.out.trans (hB2.mono H1.out.size))
    clear hB2 hrf
    go_wp2_with (fail)
    refine (ref_any b o2 c2 hn2 HR.out.2.2.2 _ (HR.out.2.2.1.below encS_len (by decide) H2.out)).mono ?_
    rintro e W3 (⟨hrf, rfl, hB3⟩ | ⟨hrf, v2, rfl, hrow2, hB3⟩)
    · skip
      have H3 := Lib.hid (H2.out.trans (hB3.mono H2.out.size))
      clear hB3 hrf 
      go_wp2
      go_ret
      exact ⟨rfl, H3.out⟩
    · obtain ⟨om2, cm2, rfl, _⟩ := own_slice hrow2
      have H3 := Lib.hid (H2.out.trans (hB3.mono H2.out.size))
      clear hB3 hrf hrow2
      go_wp2
      go_ret
      exact ⟨rfl, H3.out⟩
  · obtain ⟨om, cm, rfl, _⟩ := own_slice hrow
    have HX := Lib.hid (RowAt.of_own encS_len hrow rfl)
    clear hrow
    have H2 := Lib.hid (H1.out.trans (hB2.mono H1.out.size))
    clear hB2 hrf
    go_wp2_with (fail)
    refine (ref_any b o2 c2 hn2 HR.out.2.2.2 _ (HR.out.2.2.1.below encS_len (by decide) H2.out)).mono ?_
    rintro e W3 (⟨hrf, rfl, hB3⟩ | ⟨hrf, v2, rfl, hrow2, hB3⟩)
    · skip
      have H3 := Lib.hid (H2.out.trans (hB3.mono H2.out.size))
      clear hB3 hrf 
      go_wp2
      go_ret
      exact ⟨rfl, H3.out⟩
    · obtain ⟨om2, cm2, rfl, _⟩ := own_slice hrow2
      have H3 := Lib.hid (And.intro (H2.out.trans (hB3.mono H2.out.size)) (And.intro (HX.out.below encS_len (by decide) hB3) (RowAt.of_own encS_len hrow2 rfl)))
      clear hB3 hrf hrow2 H2 H1 HX
      have cS1 := sizesD_any a om cm hn1 HR.out.2.1 _ H3.out.2.1
      have cS2 := fun X (hX : Below W3.heap.size W3 X) => sizesD_any b om2 cm2 hn2 HR.out.2.2.2 X (H3.out.2.2.below encS_len (by decide) hX)
      cases hz1 : sizeG a 0 0 with
      | none =>
        cases hz2 : sizeG b 0 0 with
        | none =>
          rw [hz1] at cS1
          rw [hz2] at cS2
          have HZ := Lib.hid (And.intro hz1 hz2)
          clear hz1 hz2
          go_wp2_with (fail)
          refine cS1.mono ?_
          rintro e W4 ⟨rfl, hB4⟩
          simp only [szD]
          have H4 := Lib.hid hB4
          clear hB4 cS1
          go_wp2_with (fail)
          refine (cS2 _ H4.out).mono ?_
          rintro e W5 ⟨rfl, hB5⟩
          simp only [szD]
          have hb := H4.out.trans (hB5.mono H4.out.size)
          have H5 := Lib.hid (And.intro (H3.out.1.trans (hb.mono H3.out.1.size)) (And.intro (H3.out.2.1.below encS_len (by decide) hb) (H3.out.2.2.below encS_len (by decide) hb)))
          clear hB5 cS2 H4 hb H3
          go_wp2_with (fail)
          refine (compose_any o1 o2 a b c1 c2 hn1 HR.out.2.1 hn2 HR.out.2.2.2 _ (HR.out.1.below encS_len (by decide) H5.out.1) (HR.out.2.2.1.below encS_len (by decide) H5.out.1)).mono ?_
          rintro e W6 ⟨v1, rfl, hv1, hl1, hB6⟩
          have hO := comO_no (l1 := a) (l2 := b) (.inl HZ.out.1)
          rw [hO] at hv1 ⊢
          simp only [List.length_nil] at hv1
          obtain ⟨p1, k1, rfl, _⟩ := own_slice hv1
          have H6 := Lib.hid (H5.out.1.trans (hB6.mono H5.out.1.size))
          clear hv1 hl1 hB6 hO H5
          go_wp2_with (fail)
          refine (live_any _).mono ?_
          rintro e W7 ⟨rfl, hB7⟩
          have H7 := Lib.hid (H6.out.trans (hB7.mono H6.out.size))
          clear hB7
          go_wp2
          go_ret
          exact ⟨rfl, H7.out⟩
        | some f2 =>
          obtain ⟨F2, T2⟩ := f2
          rw [hz1] at cS1
          rw [hz2] at cS2
          have HZ := Lib.hid (And.intro hz1 hz2)
          clear hz1 hz2
          go_wp2_with (fail)
          refine cS1.mono ?_
          rintro e W4 ⟨rfl, hB4⟩
          simp only [szD]
          have H4 := Lib.hid hB4
          clear hB4 cS1
          go_wp2_with (fail)
          refine (cS2 _ H4.out).mono ?_
          rintro e W5 ⟨rfl, hB5⟩
          simp only [szD]
          have hb := H4.out.trans (hB5.mono H4.out.size)
          have H5 := Lib.hid (And.intro (H3.out.1.trans (hb.mono H3.out.1.size)) (And.intro (H3.out.2.1.below encS_len (by decide) hb) (H3.out.2.2.below encS_len (by decide) hb)))
          clear hB5 cS2 H4 hb H3
          go_wp2_with (fail)
          refine (compose_any o1 o2 a b c1 c2 hn1 HR.out.2.1 hn2 HR.out.2.2.2 _ (HR.out.1.below encS_len (by decide) H5.out.1) (HR.out.2.2.1.below encS_len (by decide) H5.out.1)).mono ?_
          rintro e W6 ⟨v1, rfl, hv1, hl1, hB6⟩
          have hO := comO_no (l1 := a) (l2 := b) (.inl HZ.out.1)
          rw [hO] at hv1 ⊢
          simp only [List.length_nil] at hv1
          obtain ⟨p1, k1, rfl, _⟩ := own_slice hv1
          have H6 := Lib.hid (H5.out.1.trans (hB6.mono H5.out.1.size))
          clear hv1 hl1 hB6 hO H5
          go_wp2_with (fail)
          refine (live_any _).mono ?_
          rintro e W7 ⟨rfl, hB7⟩
          have H7 := Lib.hid (H6.out.trans (hB7.mono H6.out.size))
          clear hB7
          go_wp2
          go_ret
          exact ⟨rfl, H7.out⟩
      | some f1 =>
        obtain ⟨F1, T1⟩ := f1
        cases hz2 : sizeG b 0 0 with
        | none =>
          rw [hz1] at cS1
          rw [hz2] at cS2
          have HZ := Lib.hid (And.intro hz1 hz2)
          clear hz1 hz2
          go_wp2_with (fail)
          refine cS1.mono ?_
          rintro e W4 ⟨rfl, hB4⟩
          simp only [szD]
          have H4 := Lib.hid hB4
          clear hB4 cS1
          go_wp2_with (fail)
          refine (cS2 _ H4.out).mono ?_
          rintro e W5 ⟨rfl, hB5⟩
          simp only [szD]
          have hb := H4.out.trans (hB5.mono H4.out.size)
          have H5 := Lib.hid (And.intro (H3.out.1.trans (hb.mono H3.out.1.size)) (And.intro (H3.out.2.1.below encS_len (by decide) hb) (H3.out.2.2.below encS_len (by decide) hb)))
          clear hB5 cS2 H4 hb H3
          go_wp2_with (fail)
          refine (compose_any o1 o2 a b c1 c2 hn1 HR.out.2.1 hn2 HR.out.2.2.2 _ (HR.out.1.below encS_len (by decide) H5.out.1) (HR.out.2.2.1.below encS_len (by decide) H5.out.1)).mono ?_
          rintro e W6 ⟨v1, rfl, hv1, hl1, hB6⟩
          have hO := comO_no (l1 := a) (l2 := b) (.inr HZ.out.2)
          rw [hO] at hv1 ⊢
          simp only [List.length_nil] at hv1
          obtain ⟨p1, k1, rfl, _⟩ := own_slice hv1
          have H6 := Lib.hid (H5.out.1.trans (hB6.mono H5.out.1.size))
          clear hv1 hl1 hB6 hO H5
          go_wp2_with (fail)
          refine (live_any _).mono ?_
          rintro e W7 ⟨rfl, hB7⟩
          have H7 := Lib.hid (H6.out.trans (hB7.mono H6.out.size))
          clear hB7
          go_wp2
          go_ret
          exact ⟨rfl, H7.out⟩
        | some f2 =>
          obtain ⟨F2, T2⟩ := f2
          rw [hz1] at cS1
          rw [hz2] at cS2
          have HZ := Lib.hid (And.intro hz1 hz2)
          clear hz1 hz2
          go_wp2_with (fail)
          refine cS1.mono ?_
          rintro e W4 ⟨rfl, hB4⟩
          simp only [szD]
          have H4 := Lib.hid hB4
          clear hB4 cS1
          go_wp2_with (fail)
          refine (cS2 _ H4.out).mono ?_
          rintro e W5 ⟨rfl, hB5⟩
          simp only [szD]
          have hb := H4.out.trans (hB5.mono H4.out.size)
          have H5 := Lib.hid (And.intro (H3.out.1.trans (hb.mono H3.out.1.size)) (And.intro (H3.out.2.1.below encS_len (by decide) hb) (H3.out.2.2.below encS_len (by decide) hb)))
          clear hB5 cS2 H4 hb H3
          go_wp2_with (fail)
          refine (compose_any o1 o2 a b c1 c2 hn1 HR.out.2.1 hn2 HR.out.2.2.2 _ (HR.out.1.below encS_len (by decide) H5.out.1) (HR.out.2.2.1.below encS_len (by decide) H5.out.1)).mono ?_
          rintro e W6 ⟨v1, rfl, hv1, hl1, hB6⟩
          obtain ⟨N, hN⟩ : ∃ n, (comO a b).1 = n := ⟨_, rfl⟩
          obtain ⟨La, hLa⟩ : ∃ L, (comO a b).2 = L := ⟨_, rfl⟩
          have cD := fun X (hX : Below W5.heap.size W5 X) => composeD_any om om2 a b cm cm2 F1 T1 F2 T2 hn1 HR.out.2.1 hn2 HR.out.2.2.2 HZ.out.1 HZ.out.2 X (H5.out.2.1.below encS_len (by decide) hX) (H5.out.2.2.below encS_len (by decide) hX)
          rw [hN, hLa] at cD
          rw [hN]
          rw [hLa] at hv1 hl1
          obtain ⟨p1, k1, rfl, _⟩ := own_slice hv1
          have H6 := Lib.hid (And.intro hv1 hB6)
          have eN : ((N : Int) == (N : Int)) = true := beq_self_eq_true _
          have la6 : La.length ≤ 9223372036854775807 := by omega
          clear hv1 hB6 hN hLa
          go_wp2_with (fail)
          refine (cD _ H6.out.2).mono ?_
          rintro e W7 ⟨x1, rfl, hx1, hB7⟩
          obtain ⟨s1, m1, rfl, _⟩ := own_slice hx1
          have H7 := Lib.hid (And.intro (own_below H6.out.1 hB7) (And.intro hx1 (H6.out.2.trans (hB7.mono H6.out.2.size))))
          clear hx1 hB7 cD
          go_wp2_with (fail)
          refine (same_any La p1 s1 k1 m1 la6 _ (RowAt.of_own encS_len H7.out.1 rfl) (RowAt.of_own encS_len H7.out.2.1 rfl)).mono ?_
          rintro e X3 ⟨rfl, hB⟩
          have HX3 := Lib.hid (H7.out.2.2.trans (hB.mono H7.out.2.2.size))
          clear hB
          go_wp2_with (fail)
          refine (same_any a o1 om c1 cm hn1 _ (HR.out.1.below encS_len (by decide) (H5.out.1.trans (HX3.out.mono H5.out.1.size))) (H5.out.2.1.below encS_len (by decide) HX3.out)).mono ?_
          rintro e X4 ⟨rfl, hB⟩
          have HX4 := Lib.hid (HX3.out.trans (hB.mono HX3.out.size))
          clear hB HX3
          go_wp2_with (fail)
          refine (same_any b o2 om2 c2 cm2 hn2 _ (HR.out.2.2.1.below encS_len (by decide) (H5.out.1.trans (HX4.out.mono H5.out.1.size))) (H5.out.2.2.below encS_len (by decide) HX4.out)).mono ?_
          rintro e X5 ⟨rfl, hB⟩
          have HX5 := Lib.hid (H5.out.1.trans ((HX4.out.trans (hB.mono HX4.out.size)).mono H5.out.1.size))
          clear hB HX4
          go_wp2_with (fail)
          refine (live_any _).mono ?_
          rintro e X6 ⟨rfl, hB⟩
          have HX6 := Lib.hid (HX5.out.trans (hB.mono HX5.out.size))
          clear hB HX5
          go_wp2
          go_ret
          exact ⟨rfl, HX6.out⟩
end Go.Proofs.Ytpijooajbgeejaa
