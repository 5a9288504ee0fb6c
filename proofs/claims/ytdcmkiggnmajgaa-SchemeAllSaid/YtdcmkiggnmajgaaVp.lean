/- Stage 16: All at a number that is none; what the law SchemeCounts asks. -/
import Derived.Test.YtdcmkiggnmajgaaVn
import Derived.Test.YtdcmkiggnmajgaaV7
import Derived.Test.YtdcmkiggnmajgaaVd
namespace Go.Proofs.Ytdcmkiggnmajgaa
set_option linter.unusedVariables false
set_option linter.unusedSimpArgs false
open Go Go.RowKit Go.Shelf
set_option maxRecDepth 100000

theorem all1_no (x : Int) (hx : x < 0 ∨ 25 < x) (l : Nat) (B : Nat) (W : World) (hB : W.cell? ⟨B, 0, none⟩ = some (.int .i64 x)) : CallsIn Fence.wide 10 Try.prog 71 #[.func (.yield l) #[] #[], .pointer (some ⟨B, 0, none⟩)] W fun e W' => (∃ v, e = .returned v) ∧ Below W.heap.size W W' := by
  have hB2 : (W.alloc (.cells #[.func (.yield l) #[] #[]] 27)).cell? ⟨B, 0, none⟩ = some (.int .i64 x) := at_below hB ((Below.refl _ _).alloc (Nat.le_refl _) _)
  obtain ⟨W1, hW1⟩ : ∃ W1, W.alloc (.cells #[.func (.yield l) #[] #[]] 27) = W1 := ⟨_, rfl⟩
  rw [hW1] at hB2
  have hB3 : Below W.heap.size W W1 := hW1 ▸ (Below.refl _ _).alloc (Nat.le_refl _) _
  refine callsIn_of_wp Try.func71 rfl trivial ?_ rfl
  simp only [Try.ntmps71, List.size_toArray, List.length_cons, List.length_nil, Nat.reduceAdd, Nat.reduceSub, Array.replicate_succ, Array.replicate_zero, List.push_toArray, List.append_toArray, List.nil_append, List.cons_append]
  by_cases h1 : x < 0
  · have d1 : decide (x < 0) = true := decide_eq_true h1
    gi_wp2
    refine bodyPost_ret (results_none rfl _ _ _) rfl ?_
    exact ⟨⟨_, rfl⟩, hB3⟩
  · have d1 : decide (x < 0) = false := decide_eq_false h1
    have d2 : decide (25 < x) = true := decide_eq_true (by omega)
    gi_wp2
    refine bodyPost_ret (results_none rfl _ _ _) rfl ?_
    exact ⟨⟨_, rfl⟩, hB3⟩
theorem all_any (n : Int) (w : World) : Calls Try.prog 46 #[.int .i64 n] w fun e w' => e = .returned (.func (.func 71) #[] #[.pointer (some ⟨w.heap.size, 0, none⟩)]) ∧ w' = w.alloc (.cells #[.int .i64 n] 3) := by
  go_enter Try.func46, Try.ntmps46
  go_wp2
  go_ret
  exact ⟨rfl, rfl⟩
def FrN (W : World) (r : Nat) : Prop := ∃ o : Obj, W.heap[r]? = some o ∧ o.isCells = false
/-- A loop over nothing. -/
theorem range_no {g : Operand} {q : Tmp} {assign body : Code} {Q : Exit → Act → World → Prop} {a : Act} {w : World} (x : Int) (hx : x < 0 ∨ 25 < x) (B : Nat)
    (hB : Blk w B #[.int .i64 x] 3) (hg : a.eval g = .func (.func 71) #[] #[.pointer (some ⟨B, 0, none⟩)])
    (hdone : ∀ (D : Nat) (W : World), w.heap.size ≤ D → Below w.heap.size w W → W.heap[D]? = some (.deferred (some [])) → Q .normal { a with defers := { target := .collected D, args := #[] } :: a.defers } W) :
    (Code.rangeFunc g #[q] assign body).wp Try.prog Q a w := by
  have enters := enters_of Try.func71 (by kernel_rfl) rfl
  refine (wpIn_wide (n := 11)).1 ?_
  refine wpIn_range_y (α := Empty) (n := 11) (gf := 71) (lb := #[.pointer (some ⟨B, 0, none⟩)]) (encs := fun k => k.elim) (Kp := fun _ _ => True) (Fr := FrN) (S := fun xs => xs = []) (Sp := fun _ => False) (N := 0) rfl (by omega) hg trivial (fun _ _ => enters _ _)
    (fun l J Jx W hW _ hJ hJx hY h0 => (all1_no x hx _ B W ((hB.below' hW).cell 0)).mono (fun e W' ⟨h1, h2⟩ => ⟨h1, .inl ⟨[], rfl, hJ _ _ _ none h0 (grown_none h2) (fun r e => by cases e)⟩⟩))
    (fun W r o h1 h2 => ⟨o, h1, h2⟩) (fun _ _ => trivial) (fun _ _ _ _ _ _ => trivial) (fun x => x.elim)
    (fun _ W => Below w.heap.size w W) (fun _ _ _ => False) ?_ (fun _ _ _ _ _ hs _ _ => hs) (Below.refl _ _)
    (fun x _ _ => x.elim) (fun x => x.elim) (fun _ _ x => x.elim) (fun _ _ x => x.elim) (fun D xs W hD _ hi hk => hdone D W hD hi hk) (fun _ _ _ _ _ h => h.elim)
  intro s X Y row hs hg hr
  exact hs.grown hg hs.size (fun r e => (hr r e).1)

theorem plain_eq (s : Sc) (h : mayB s = true) : plainB s = (plnB s && decide (s.L.length ≤ 25)) := by
  have h0 := h
  unfold mayB at h0
  simp only [Bool.and_eq_true, decide_eq_true_iff] at h0
  obtain ⟨⟨hL, _⟩, hst⟩ := h0
  unfold plainB plnB
  rw [h]
  obtain ⟨L, S⟩ := s
  simp only at *
  by_cases h1 : L.length = 0
  · obtain rfl : L = [] := List.eq_nil_of_length_eq_zero h1
    cases S with
    | nil => rfl
    | cons n r =>
      simp [stB] at hst
      omega
  · rw [if_neg h1]
    cases S with
    | nil => simp [stB] at hst; exact absurd hst (fun e => h1 (by simp [e]))
    | cons n r =>
      cases hp : plS 0 L <;> simp
      rw [Bool.and_comm]
end Go.Proofs.Ytdcmkiggnmajgaa
