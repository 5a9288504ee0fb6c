/- Stage 16: a scheme that came in, opened. -/
import Derived.Test.YtdcmkiggnmajgaaV2
import Derived.Deep.Slices
import Derived.Deep.Fields
import Derived.Carry
import Derived.ProofKit
import Derived.OpenShut
import Derived.JoinedCond
import Derived.Lib.SmallJoins
namespace Go.Proofs.Ytdcmkiggnmajgaa
set_option linter.unusedVariables false
set_option linter.unusedSimpArgs false
open Go Go.ChangeShapes Go.WideShapes Go.ChangeAt Go.RowKit Go.Deep
set_option maxRecDepth 100000

theorem add_at (b o k : Nat) : (⟨b, o, none⟩ : Addr).add k = ⟨b, o + k, none⟩ := by
  unfold Addr.add
  by_cases h : k = 0
  · subst h; simp
  · simp [h]
theorem laidOut : laidOutB Try.prog = true := by kernel_rfl
theorem cellsRhyme : Try.prog.cellsOf 79 = 2 := by kernel_rfl
theorem cellsInt : Try.prog.cellsOf 3 = 1 := by kernel_rfl
theorem cellsScheme : Try.prog.cellsOf 25 = 2 := by kernel_rfl
theorem list_of {α : Type} {n : Nat} {P : Nat → α → Prop} (h : ∀ i, i < n → ∃ x, P i x) : ∃ l : List α, l.length = n ∧ ∀ i x, l[i]? = some x → P i x := by
  induction n with
  | zero => exact ⟨[], rfl, fun i x h => by simp at h⟩
  | succ n ih =>
    obtain ⟨l, hl, hp⟩ := ih fun i hi => h i (by omega)
    obtain ⟨x, hx⟩ := h n (by omega)
    refine ⟨l ++ [x], by simp [hl], fun i y hy => ?_⟩
    by_cases hi : i < l.length
    · rw [List.getElem?_append_left hi] at hy; exact hp i y hy
    · rw [List.getElem?_append_right (by omega)] at hy
      have h0 : i - l.length = 0 := by
        have := (List.getElem?_eq_some_iff.1 hy).1
        simp at this; omega
      rw [h0] at hy
      simp at hy
      subst hy
      have : i = n := by omega
      rw [this]; exact hx
theorem maxLen_eq : maxLen = 9223372036854775807 := rfl
section
variable {H : Type} {enc : TypeId × Value → H} {w : World} {base : Nat} {held : Bool}
theorem open_rhyme {fuel : Nat} {cs : List Value} {x : DataW H × List MemPlace} (h : DataW.trod enc Try.prog w base (fun _ => true) held fuel 79 cs = some x) : ∃ y : Rh, cs = encR y := by
  obtain ⟨xs, n, _, hx, hlen, hxl, hq⟩ := DataW.trod_struct Try.underlying79 h
  rw [cellsRhyme] at hlen
  match cs, hlen with
  | [c0, c1], _ =>
    match xs, hxl with
    | [y0, y1], _ =>
      have h0 := hq 0 _ rfl
      have h1 := hq 1 _ rfl
      simp [cellsInt] at h0 h1
      obtain ⟨a, e0, _, _⟩ := DataW.trod_int Try.underlying3 h0
      obtain ⟨b, e1, _, _⟩ := DataW.trod_int Try.underlying3 h1
      simp at e0 e1
      subst e0 e1
      exact ⟨⟨a, b⟩, rfl⟩
theorem open_int1 {fuel : Nat} {cs : List Value} {x : DataW H × List MemPlace} (h : DataW.trod enc Try.prog w base (fun _ => true) held fuel 3 cs = some x) : ∃ y : Int, cs = encI y := by
  obtain ⟨a, e0, _, _⟩ := DataW.trod_int Try.underlying3 h
  exact ⟨a, e0⟩
theorem open_rhymes {fuel : Nat} {cs : List Value} {x : DataW H × List MemPlace} (h : DataW.trod enc Try.prog w base (fun _ => true) held fuel 22 cs = some x) :
    ∃ (o : Option Addr) (l : List Rh) (cap : Nat), cs = [.slice o l.length cap] ∧ RowAt w encR 2 o l ∧ NForm o l.length cap ∧ l.length ≤ 9223372036854775807 := by
  rcases open_slice Try.underlying22 h with ⟨rfl, rfl⟩ | ⟨a, len, cap, m, n, D, Pl, rfl, hb, hl, hm, hmm, rfl, hx⟩
  · exact ⟨none, [], 0, rfl, fun i x h => by simp at h, .inl ⟨rfl, rfl, rfl⟩, by simp⟩
  · simp only [if_true] at hmm
    subst hmm
    rw [maxLen_eq] at hm
    have hs : 0 < len → a.spot = none := fun h0 => by
      obtain ⟨cs', hc, ht⟩ := hx 0 (by omega)
      obtain ⟨y, rfl⟩ := open_rhyme ht
      rw [cellsRhyme] at hc
      obtain ⟨_, _, hat⟩ := World.cells?_some hc
      have h1 : w.cell? ((a.add (0 * 2)).add 0) = some (.int .i64 y.c) := (hat 0 (by decide)).trans rfl
      have h2 := World.cell?_spot h1
      simpa [Addr.add] using h2
    by_cases h0 : 0 < len
    · have hs := hs h0
      obtain ⟨ab, ao, sp⟩ := a
      simp only at hs
      subst hs
      have each : ∀ i, i < len → ∃ y : Rh, ∀ j, j < 2 → w.cell? ⟨ab, ao + i * 2 + j, none⟩ = (encR y)[j]? := by
        intro i hi
        obtain ⟨cs', hc, ht⟩ := hx i (by omega)
        obtain ⟨y, rfl⟩ := open_rhyme ht
        rw [cellsRhyme] at hc
        obtain ⟨_, _, hat⟩ := World.cells?_some hc
        refine ⟨y, fun j hj => ?_⟩
        have := hat j hj
        rwa [add_at, add_at] at this
      obtain ⟨l, hll, hp⟩ := list_of each
      exact ⟨some ⟨ab, ao, none⟩, l, _, by rw [hll], fun i y hy => ⟨ab, ao, rfl, hp i y hy⟩, .inr ⟨_, rfl, by rw [hll]; exact hl, hm⟩, by rw [hll]; omega⟩
    · obtain rfl : len = 0 := by omega
      exact ⟨some a, [], _, rfl, fun i x h => by simp at h, .inr ⟨a, rfl, hl, hm⟩, by simp⟩
theorem open_intsL {fuel : Nat} {cs : List Value} {x : DataW H × List MemPlace} (h : DataW.trod enc Try.prog w base (fun _ => true) held fuel 23 cs = some x) :
    ∃ (o : Option Addr) (l : List Int) (cap : Nat), cs = [.slice o l.length cap] ∧ RowAt w encI 1 o l ∧ NForm o l.length cap ∧ l.length ≤ 9223372036854775807 := by
  rcases open_slice Try.underlying23 h with ⟨rfl, rfl⟩ | ⟨a, len, cap, m, n, D, Pl, rfl, hb, hl, hm, hmm, rfl, hx⟩
  · exact ⟨none, [], 0, rfl, fun i x h => by simp at h, .inl ⟨rfl, rfl, rfl⟩, by simp⟩
  · simp only [if_true] at hmm
    subst hmm
    rw [maxLen_eq] at hm
    have hs : 0 < len → a.spot = none := fun h0 => by
      obtain ⟨cs', hc, ht⟩ := hx 0 (by omega)
      obtain ⟨y, rfl⟩ := open_int1 ht
      rw [cellsInt] at hc
      obtain ⟨_, _, hat⟩ := World.cells?_some hc
      have h1 : w.cell? ((a.add (0 * 1)).add 0) = some (.int .i64 y) := (hat 0 (by decide)).trans rfl
      have h2 := World.cell?_spot h1
      simpa [Addr.add] using h2
    by_cases h0 : 0 < len
    · have hs := hs h0
      obtain ⟨ab, ao, sp⟩ := a
      simp only at hs
      subst hs
      have each : ∀ i, i < len → ∃ y : Int, ∀ j, j < 1 → w.cell? ⟨ab, ao + i * 1 + j, none⟩ = (encI y)[j]? := by
        intro i hi
        obtain ⟨cs', hc, ht⟩ := hx i (by omega)
        obtain ⟨y, rfl⟩ := open_int1 ht
        rw [cellsInt] at hc
        obtain ⟨_, _, hat⟩ := World.cells?_some hc
        refine ⟨y, fun j hj => ?_⟩
        have := hat j hj
        rwa [add_at, add_at] at this
      obtain ⟨l, hll, hp⟩ := list_of each
      exact ⟨some ⟨ab, ao, none⟩, l, _, by rw [hll], fun i y hy => ⟨ab, ao, rfl, hp i y hy⟩, .inr ⟨_, rfl, by rw [hll]; exact hl, hm⟩, by rw [hll]; omega⟩
    · obtain rfl : len = 0 := by omega
      exact ⟨some a, [], _, rfl, fun i x h => by simp at h, .inr ⟨a, rfl, hl, hm⟩, by simp⟩
/-- A scheme that came in. -/
def SchIn (w : World) (ol os : Option Addr) (cl cs : Nat) (s : Sc) : Prop := RowAt w encR 2 ol s.L ∧ RowAt w encI 1 os s.S ∧ NForm ol s.L.length cl ∧ NForm os s.S.length cs ∧ s.L.length ≤ 9223372036854775807 ∧ s.S.length ≤ 9223372036854775807
theorem open_scheme {r : Reach} {b0 : Nat} {v : Value} {d : DataW H} {p : List MemPlace} (hv : Value.okWide Try.prog w r b0 25 v) (h : DataW.Trod enc Try.prog w base (fun _ => true) held 25 v d p) :
    ∃ (ol os : Option Addr) (cl cs : Nat) (s : Sc), v = .agg #[.slice ol s.L.length cl, .slice os s.S.length cs] ∧ SchIn w ol os cl cs s := by
  obtain ⟨c0, c1, y0, y1, m, rfl, rfl, rfl, h0, h1⟩ := Go.Joins.open_agg2 Try.underlying25 (by kernel_rfl) cellsScheme hv h
  obtain ⟨ol, L, cl, e0, hL, fL, nL⟩ := open_rhymes h0
  obtain ⟨os, S, cs, e1, hS, fS, nS⟩ := open_intsL h1
  simp at e0 e1
  subst e0 e1
  exact ⟨ol, os, cl, cs, ⟨L, S⟩, rfl, hL, hS, fL, fS, nL, nS⟩
end
end Go.Proofs.Ytdcmkiggnmajgaa
