/- Stage 16: Within, the document's. -/
import Derived.Test.YtdcmkiggnmajgaaYs
namespace Go.Proofs.Ytdcmkiggnmajgaa
set_option linter.unusedVariables false
set_option linter.unusedSimpArgs false
open Go Go.RowKit Go.Shelf
set_option maxRecDepth 100000

/-- Is what two lines are by the one so by the other? -/
def witK (A B : List Rh) (i k : Nat) : Bool :=
  match A[i]?, A[k]?, B[i]?, B[k]? with
  | some x, some y, some x', some y' => !alkB i k x y || alkB i k x' y'
  | _, _, _, _ => true
def withinB (A B : List Rh) : Bool := (List.range A.length).all fun i => (List.range i).all fun k => witK A B i k
theorem withinB_no {A B : List Rh} {i k : Nat} (hi : i < A.length) (hk : k < i) (h : witK A B i k = false) : withinB A B = false := by
  cases e : withinB A B
  · rfl
  · unfold withinB at e
    rw [List.all_eq_true] at e
    have h1 := e i (List.mem_range.2 hi)
    rw [List.all_eq_true] at h1
    have h2 := h1 k (List.mem_range.2 hk)
    rw [h] at h2
    cases h2
theorem withinB_yes {A B : List Rh} (h : ∀ i k, i < A.length → k < i → witK A B i k = true) : withinB A B = true := by
  unfold withinB
  rw [List.all_eq_true]
  intro i hi
  rw [List.all_eq_true]
  intro k hk
  exact h i k (List.mem_range.1 hi) (List.mem_range.1 hk)

set_option maxHeartbeats 8000000 in
theorem refWithin_any (s t : Sc) (ol os ol' os' : Option Addr) (cl cs cl' cs' : Nat) (hfl : NForm ol s.L.length cl) (hlen : t.L.length = s.L.length) (w : World) (hr : RowAt w encR 2 ol s.L) (hr' : RowAt w encR 2 ol' t.L) :
    Calls Try.prog 43 #[.agg #[.slice ol s.L.length cl, .slice os s.S.length cs], .agg #[.slice ol' t.L.length cl', .slice os' t.S.length cs']] w fun e w' => e = .returned (.bool (withinB s.L t.L)) ∧ Below w.heap.size w w' := by
  have hB0 := ((Below.refl _ w).alloc (Nat.le_refl _) (.cells #[.slice ol s.L.length cl, .slice os s.S.length cs] 25)).alloc (by simp) (.cells #[.slice ol' t.L.length cl', .slice os' t.S.length cs'] 25)
  have bA := (Blk.new w #[.slice ol s.L.length cl, .slice os s.S.length cs] 25).alloc (.cells #[.slice ol' t.L.length cl', .slice os' t.S.length cs'] 25)
  have bB := Blk.new (w.alloc (.cells #[.slice ol s.L.length cl, .slice os s.S.length cs] 25)) #[.slice ol' t.L.length cl', .slice os' t.S.length cs'] 25
  rw [World.size_alloc] at bB
  obtain ⟨W0, hW0⟩ : ∃ W, (w.alloc (.cells #[.slice ol s.L.length cl, .slice os s.S.length cs] 25)).alloc (.cells #[.slice ol' t.L.length cl', .slice os' t.S.length cs'] 25) = W := ⟨_, rfl⟩
  rw [hW0] at hB0 bA bB
  have hlm : s.L.length ≤ 9223372036854775807 := by
    rcases hfl with ⟨_, _, h⟩ | ⟨_, _, h1, h2⟩ <;> omega
  have x0 : W0.cell? ⟨w.heap.size, 0, none⟩ = some (.slice ol s.L.length cl) := bA.cell 0
  have HR := Lib.hid (And.intro (And.intro bA bB) (And.intro hB0 (And.intro (hr.below encR_len (by decide) hB0) (And.intro (hr'.below encR_len (by decide) hB0) (And.intro hlen hfl)))))
  obtain ⟨E, hE⟩ : ∃ E, withinB s.L t.L = E := ⟨_, rfl⟩
  rw [hE]
  have HE := Lib.hid hE
  clear bA bB hB0 hr hr' hlen hfl hE
  go_enter Try.func43, Try.ntmps43
  go_wp2
  try rw [hW0]
  clear hW0 x0
  go_loopw [10] (fun i X => ∃ k : Nat, i = .int .i64 k ∧ k ≤ s.L.length ∧ (∀ i' j, i' < k → j < i' → witK s.L t.L i' j = true) ∧ Below W0.heap.size W0 X) (fun i _ => s.L.length - (intOf i).toNat)
  case atStart => exact ⟨0, rfl, Nat.zero_le _, fun i' j h => by omega, Below.refl _ _⟩
  case round =>
    obtain ⟨k, rfl, hk, hall, hB⟩ := hrel
    by_cases hlt : k < s.L.length
    · obtain ⟨x, hx⟩ : ∃ x, s.L[k]? = some x := ⟨_, List.getElem?_eq_getElem hlt⟩
      obtain ⟨x', hx'⟩ : ∃ x, t.L[k]? = some x := ⟨_, List.getElem?_eq_getElem (by rw [HR.out.2.2.2.2.1]; exact hlt)⟩
      obtain ⟨g, off, rfl, _⟩ := HR.out.2.2.1 k x hx
      have hkc : k ≤ cl := by
        rcases HR.out.2.2.2.2.2 with ⟨h, _, _⟩ | ⟨_, _, h, _⟩
        · cases h
        · omega
      have hcx : cl ≤ 9223372036854775807 := by
        rcases HR.out.2.2.2.2.2 with ⟨h, _, _⟩ | ⟨_, _, _, h⟩
        · cases h
        · exact h
      have x0 : wr.cell? ⟨w.heap.size, 0, none⟩ = some (.slice (some ⟨g, off, none⟩) s.L.length cl) := (HR.out.1.1.below' hB).cell 0
      obtain ⟨V, hV⟩ : ∃ V, V = wr := ⟨_, rfl⟩
      subst hV
      have HX := Lib.hid (And.intro hx (And.intro hx' (And.intro hall hB)))
      clear hx hx' hall hB
      go_wp2
      clear x0
      go_loopw [18] (fun i X => ∃ j : Nat, i = .int .i64 j ∧ j ≤ k ∧ (∀ j', j' < j → witK s.L t.L k j' = true) ∧ Below W0.heap.size W0 X) (fun i _ => k - (intOf i).toNat)
      case atStart => exact ⟨0, rfl, Nat.zero_le _, fun j' h => by omega, HX.out.2.2.2⟩
      case round =>
        obtain ⟨j, rfl, hj, hin, hB⟩ := hrel
        have HI := Lib.hid (And.intro hin hB)
        clear hin hB
        by_cases hjk : j < k
        · obtain ⟨y, hy⟩ : ∃ y, s.L[j]? = some y := ⟨_, List.getElem?_eq_getElem (by omega)⟩
          obtain ⟨y', hy'⟩ : ∃ y, t.L[j]? = some y := ⟨_, List.getElem?_eq_getElem (by rw [HR.out.2.2.2.2.1]; omega)⟩
          have x0 : wr.cell? ⟨w.heap.size, 0, none⟩ = some (.slice (some ⟨g, off, none⟩) s.L.length cl) := (HR.out.1.1.below' HI.out.2).cell 0
          have x1 : wr.cell? ⟨w.heap.size, 1, none⟩ = some (.slice os s.S.length cs) := (HR.out.1.1.below' HI.out.2).cell 1
          have hw : witK s.L t.L k j = (!alkB k j x y || alkB k j x' y') := by unfold witK; rw [HX.out.1, hy, HX.out.2.1, hy']
          have cA := fun W => refAlike_any s (some ⟨g, off, none⟩) os cl cs hlm k j x y HX.out.1 hy (alkB k j x y) rfl W
          have cB := fun W => refAlike_any t ol' os' cl' cs' (by rw [HR.out.2.2.2.2.1]; exact hlm) k j x' y' HX.out.2.1 hy' (alkB k j x' y') rfl W
          cases e1 : alkB k j x y
          · rw [e1] at cA hw
            simp only [Bool.not_false, Bool.true_or] at hw
            have HW := Lib.hid hw
            clear hw hy hy' e1 cB
            go_wp2_with (fail)
            refine (cA _ (HR.out.2.2.1.below encR_len (by decide) HI.out.2)).mono ?_
            rintro e w1 ⟨rfl, hB⟩
            have HB := Lib.hid (HI.out.2.trans (hB.mono HI.out.2.size))
            clear hB x0 x1
            go_wp2
            go_roundw
            case rel =>
              refine ⟨j + 1, by go_num, by omega, fun j' h => ?_, HB.out⟩
              rcases (by omega : j' < j ∨ j' = j) with h1 | rfl
              · exact HI.out.1 j' h1
              · exact HW.out
            case measure => simp [intOf]; omega
          · rw [e1] at cA hw
            simp only [Bool.not_true, Bool.false_or] at hw
            obtain ⟨F, hF⟩ : ∃ F, alkB k j x' y' = F := ⟨_, rfl⟩
            rw [hF] at cB hw
            have HW := Lib.hid hw
            clear hw hy hy' e1 hF
            go_wp2_with (fail)
            refine (cA _ (HR.out.2.2.1.below encR_len (by decide) HI.out.2)).mono ?_
            rintro e w1 ⟨rfl, hB⟩
            have HB := Lib.hid (HI.out.2.trans (hB.mono HI.out.2.size))
            clear hB x0 x1
            have y0 : w1.cell? ⟨w.heap.size + 1, 0, none⟩ = some (.slice ol' t.L.length cl') := (HR.out.1.2.below' HB.out).cell 0
            have y1 : w1.cell? ⟨w.heap.size + 1, 1, none⟩ = some (.slice os' t.S.length cs') := (HR.out.1.2.below' HB.out).cell 1
            go_wp2_with (fail)
            refine (cB _ (HR.out.2.2.2.1.below encR_len (by decide) HB.out)).mono ?_
            rintro e w2 ⟨rfl, hB⟩
            have HB2 := Lib.hid (HB.out.trans (hB.mono HB.out.size))
            clear hB y0 y1
            cases F
            · have hEf : E = false := by rw [← HE.out]; exact withinB_no hlt hjk HW.out
              have HEF := Lib.hid hEf
              clear hEf
              go_wp2
              go_ret
              exact ⟨by rw [HEF.out]; rfl, HR.out.2.1.trans (HB2.out.mono HR.out.2.1.size)⟩
            · go_wp2
              go_roundw
              case rel =>
                refine ⟨j + 1, by go_num, by omega, fun j' h => ?_, HB2.out⟩
                rcases (by omega : j' < j ∨ j' = j) with h1 | rfl
                · exact HI.out.1 j' h1
                · exact HW.out
              case measure => simp [intOf]; omega
        · obtain rfl : j = k := by omega
          go_wp2
          go_roundw
          case rel =>
            refine ⟨j + 1, by go_num, by omega, fun i' j' h1 h2 => ?_, HI.out.2⟩
            rcases (by omega : i' < j ∨ i' = j) with h3 | rfl
            · exact HX.out.2.2.1 i' j' h3 h2
            · exact HI.out.1 j' h2
          case measure => simp [intOf]; omega
    · obtain rfl : k = s.L.length := by omega
      have hEt : E = true := by rw [← HE.out]; exact withinB_yes hall
      have HET := Lib.hid (And.intro hEt hB)
      clear hEt hB hall
      go_wp2
      go_ret
      exact ⟨by rw [HET.out.1]; rfl, HR.out.2.1.trans (HET.out.2.mono HR.out.2.1.size)⟩
end Go.Proofs.Ytdcmkiggnmajgaa
