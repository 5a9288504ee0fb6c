/- Layer 5: slices.Equal of clusters; cell. -/
import Derived.Test.YtnbhdgbhmcbeoaaCl9
namespace Go.Proofs.Ytnbhdgbhmcbeoaa
set_option linter.unusedVariables false
set_option linter.unusedSimpArgs false
open Go Go.RowKit Go.Shelf
set_option maxRecDepth 100000

/-- A list of clusters that can be read. -/
def RowC (w : World) (o : Option Addr) (l : List Cel) : Prop := ∀ k x, l[k]? = some x → ∃ g off, o = some ⟨g, off, none⟩ ∧ w.cell? ⟨g, off + k * 3, none⟩ = some (.int .i64 (x.1 : Nat)) ∧ w.cell? ⟨g, off + k * 3 + 1, none⟩ = some (.int .i64 (x.2.1 : Nat)) ∧ w.cell? ⟨g, off + k * 3 + 2, none⟩ = some (.int .i64 (x.2.2 : Nat))
theorem RowC.of_own {w : World} {base n cap : Nat} {o : Option Addr} {l : List Cel} (h : w.ownsRow base 26 3 (.slice o n cap) n (cc l)) (hn : l.length = n) : RowC w o l := by
  intro k x hx
  have hk := (List.getElem?_eq_some_iff.1 hx).1
  obtain ⟨o', cap', e, ho⟩ := own_slice h
  obtain ⟨g, hg⟩ := ho (by omega)
  cases e
  subst hg
  obtain ⟨r0, r1, r2⟩ := cc_get hx
  exact ⟨g, 0, rfl, by rw [Nat.zero_add]; exact (h.cellAt _ (by omega)).trans r0, by rw [Nat.zero_add]; exact (h.cellAt _ (by omega)).trans r1, by rw [Nat.zero_add]; exact (h.cellAt _ (by omega)).trans r2⟩
theorem RowC.below {w w' : World} {o : Option Addr} {l : List Cel} (h : RowC w o l) (hb : Below w.heap.size w w') : RowC w' o l := by
  intro k x hx
  obtain ⟨g, off, e, a, b, c⟩ := h k x hx
  exact ⟨g, off, e, at_below a hb, at_below b hb, at_below c hb⟩

def EqRel (l1 l2 : List Cel) (n : Nat) (w : World) (i : Value) (wr : World) : Prop := ∃ k : Nat, i = .int .i64 k ∧ k ≤ n ∧ l1.take k = l2.take k ∧ Below w.heap.size w wr
set_option maxHeartbeats 4000000 in
theorem equal_any (l1 l2 : List Cel) (o1 o2 : Option Addr) (n1 n2 c1 c2 : Nat) (hn1 : l1.length = n1) (hn2 : l2.length = n2) (hs1 : n1 ≤ 2147483647) (hs2 : n2 ≤ 2147483647) (w : World) (h1 : RowC w o1 l1) (h2 : RowC w o2 l2) :
    Calls Try.prog 13 #[.slice o1 n1 c1, .slice o2 n2 c2] w fun e w' => e = .returned (.bool (decide (l1 = l2))) ∧ Below w.heap.size w w' := by
  by_cases hne : n1 = n2
  · subst hne
    have H := Lib.hid (And.intro hn1 (And.intro hn2 (And.intro h1 h2)))
    clear hn1 hn2 h1 h2
    go_enter Try.func13, Try.ntmps13
    go_wp2
    go_loopw [13] (fun i wr => EqRel l1 l2 n1 w i wr) (fun i _ => n1 - (intOf i).toNat)
    case atStart => exact ⟨0, rfl, Nat.zero_le _, rfl, Below.refl _ _⟩
    case round =>
      obtain ⟨k, rfl, hk, htk, hB⟩ := hrel
      by_cases hlt : k < n1
      · have i1 : (k : Int) < (n1 : Int) := by omega
        have i2 : (0 : Int) ≤ (k : Int) := by omega
        obtain ⟨hn1, hn2, h1, h2⟩ := H.out
        obtain ⟨x, hx⟩ : ∃ x, l1[k]? = some x := ⟨_, List.getElem?_eq_getElem (by omega)⟩
        obtain ⟨y, hy⟩ : ∃ y, l2[k]? = some y := ⟨_, List.getElem?_eq_getElem (by omega)⟩
        obtain ⟨g1, f1, rfl, a0, a1, a2⟩ := (h1.below hB) k x hx
        obtain ⟨g2, f2, rfl, b0, b1, b2⟩ := (h2.below hB) k y hy
        have hnx : x = y → l1.take (k + 1) = l2.take (k + 1) := fun e => by
          rw [List.take_add_one, List.take_add_one, htk, hx, hy, e]
        have hnn : x ≠ y → decide (l1 = l2) = false := fun e => decide_eq_false (fun h => by rw [h, hy] at hx; exact e (Option.some.inj hx).symm)
        have HN := Lib.hid (And.intro hnx hnn)
        have HB := Lib.hid hB
        clear hnx hnn hx hy h1 h2 hn1 hn2 htk hB
        by_cases hxy : x = y
        · subst hxy
          have HT := Lib.hid (HN.out.1 rfl)
          clear HN
          go_wp2
          go_quiet ((fail))
          go_wp2
          go_roundw
          case rel => exact ⟨k + 1, by go_num, by omega, HT.out, ⟨HB.out.os, HB.out.tape, HB.out.output, HB.out.size, HB.out.block⟩⟩
          case measure => simp [intOf]; omega
        · have hd := HN.out.2 hxy
          have HD := Lib.hid hd
          have hq : (((x.1 : Int) == (y.1 : Int)) = false) ∨ (((x.1 : Int) == (y.1 : Int)) = true ∧ ((x.2.1 : Int) == (y.2.1 : Int)) = false) ∨ (((x.1 : Int) == (y.1 : Int)) = true ∧ ((x.2.1 : Int) == (y.2.1 : Int)) = true ∧ ((x.2.2 : Int) == (y.2.2 : Int)) = false) := by
            simp only [beq_eq_false_iff_ne, beq_iff_eq, ne_eq]
            by_cases d1 : x.1 = y.1
            · by_cases d2 : x.2.1 = y.2.1
              · have d3 : x.2.2 ≠ y.2.2 := fun d3 => hxy (Prod.ext d1 (Prod.ext d2 d3))
                right; right; exact ⟨by omega, by omega, by omega⟩
              · right; left; exact ⟨by omega, by omega⟩
            · left; omega
          clear HN hd hxy
          obtain ⟨x0, x1, x2⟩ := x
          obtain ⟨y0, y1, y2⟩ := y
          simp only at hq a0 a1 a2 b0 b1 b2
          rcases hq with q1 | ⟨q1, q2⟩ | ⟨q1, q2, q3⟩
          all_goals
            go_wp2
            go_quiet ((fail))
            go_wp2
            go_ret
            exact ⟨by rw [HD.out]; rfl, ⟨HB.out.os, HB.out.tape, HB.out.output, HB.out.size, HB.out.block⟩⟩
      · have i1 : ¬ (k : Int) < (n1 : Int) := by omega
        have hkn : k = n1 := by omega
        have he : decide (l1 = l2) = true := decide_eq_true (by
          obtain ⟨hn1, hn2, _, _⟩ := H.out
          rw [List.take_of_length_le (by omega), List.take_of_length_le (by omega)] at htk
          exact htk)
        have HE := Lib.hid (And.intro he hB)
        clear he hB htk hkn
        go_wp2
        go_ret
        exact ⟨by rw [HE.out.1]; rfl, HE.out.2⟩
  · have hd : decide (l1 = l2) = false := decide_eq_false (fun h => hne (by rw [← hn1, ← hn2, h]))
    have HD := Lib.hid hd
    have e1 : ((n1 : Int) != (n2 : Int)) = true := by rw [bne_iff_ne]; omega
    clear hd hn1 hn2 h1 h2
    go_enter Try.func13, Try.ntmps13
    go_wp2
    go_ret
    exact ⟨by rw [HD.out]; rfl, Below.refl _ _⟩

theorem cell_any (a b c : Int) (w : World) :
    Calls Try.prog 12 #[.int .i64 a, .int .i64 b, .int .i64 c] w fun e w' => e = .returned (.agg #[.int .i64 a, .int .i64 b, .int .i64 c]) ∧ Below w.heap.size w w' := by
  go_enter Try.func12, Try.ntmps12
  go_wp2
  refine bodyPost_ret (v := .agg #[.int .i64 a, .int .i64 b, .int .i64 c]) (by simp [results, Try.f12, go_sem]) rfl ⟨rfl, ?_⟩
  exact (Below.refl _ _).alloc (Nat.le_refl _) _
end Go.Proofs.Ytnbhdgbhmcbeoaa
