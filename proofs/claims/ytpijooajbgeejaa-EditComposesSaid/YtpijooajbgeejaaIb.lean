/- Stage 27: a change that came in, opened. -/
import Derived.Test.YtpijooajbgeejaaHc
import Derived.Deep.Slices
import Derived.Deep.Fields
import Derived.Carry
import Derived.ProofKit
import Derived.OpenShut
import Derived.JoinedCond
import Derived.Lib.SmallJoins
namespace Go.Proofs.Ytpijooajbgeejaa
set_option linter.unusedVariables false
set_option linter.unusedSimpArgs false
open Go Go.ChangeShapes Go.WideShapes Go.ChangeAt Go.RowKit Go.Deep
set_option maxRecDepth 100000

theorem add_at (b o k : Nat) : (⟨b, o, none⟩ : Addr).add k = ⟨b, o + k, none⟩ := by
  unfold Addr.add
  by_cases h : k = 0
  · subst h; simp
  · simp [h]
theorem laidOut : laidOutB Try.prog = true := by kernel_rfl
theorem cellsInt : Try.prog.cellsOf 3 = 1 := by kernel_rfl
theorem cellsString : Try.prog.cellsOf 9 = 1 := by kernel_rfl
theorem cellsStep : Try.prog.cellsOf 45 = 3 := by kernel_rfl
/-- A slice that came in: nil, or with room. -/
def NForm (o : Option Addr) (n cap : Nat) : Prop := (o = none ∧ cap = 0 ∧ n = 0) ∨ ∃ a, o = some a ∧ n ≤ cap ∧ cap ≤ 9223372036854775807
theorem list_of {α : Type} {n : Nat} {P : Nat → α → Prop} (h : ∀ i, i < n → ∃ x, P i x) : ∃ l : List α, l.length = n ∧ ∀ i x, l[i]? = some x → P i x := by
  induction n with
  | zero => exact ⟨[], rfl, fun i x h => by simp at h⟩
  | succ n ih =>
    obtain ⟨l, hl, hp⟩ := ih fun i hi => h i (by omega)
    obtain ⟨x, hx⟩ := h n (by omega)
    refine ⟨l ++ [x], by simp [hl], fun i y hy => ?_⟩
    by_cases hi : i < l.length
    · rw [List.getElem?_append_left hi] at hy; exact hp i y hy
    · rw [List.getElem?_append_right (by omega)] at hy
      have h0 : i - l.length = 0 := by
        have := (List.getElem?_eq_some_iff.1 hy).1
        simp at this; omega
      rw [h0] at hy
      simp at hy
      subst hy
      have : i = n := by omega
      rw [this]; exact hx
theorem maxLen_eq : maxLen = 9223372036854775807 := rfl
section
variable {H : Type} {enc : TypeId × Value → H} {w : World} {base : Nat} {held : Bool}
theorem wAll_mem {P : Program} {e : TypeId} {d : DataW H} {n : Nat} : ∀ {ds : List (DataW H)}, d ∈ ds → n ∈ d.weights P e → n ∈ DataW.weightsAll P e ds
  | [], h, _ => by cases h
  | d0 :: r, h, hn => by
    simp only [DataW.weightsAll, List.mem_append]
    rcases List.mem_cons.1 h with rfl | h
    · exact .inl hn
    · exact .inr (wAll_mem h hn)
theorem open_step {fuel : Nat} {cs : List Value} {x : DataW H × List MemPlace} (h : DataW.trod enc Try.prog w base (fun _ => true) held fuel 45 cs = some x) : ∃ y : Sp, cs = encS y ∧ (y.k ≤ 9223372036854775807 ∧ -9223372036854775808 ≤ y.k) ∧ ∀ B, (∀ n ∈ x.1.weights Try.prog 45, n ≤ B) → y.d.size ≤ B ∧ y.p.size ≤ B := by
  obtain ⟨xs, n, _, hx, hlen, hxl, hq⟩ := DataW.trod_struct Try.underlying45 h
  rw [cellsStep] at hlen
  match cs, hlen with
  | [c0, c1, c2], _ =>
    match xs, hxl with
    | [y0, y1, y2], _ =>
      have h0 := hq 0 _ rfl
      have h1 := hq 1 _ rfl
      have h2 := hq 2 _ rfl
      simp [cellsInt, cellsString] at h0 h1 h2
      obtain ⟨a, e0, g0, b0⟩ := DataW.trod_int Try.underlying3 h0
      obtain ⟨b, e1, g1, b1⟩ := DataW.trod_string Try.underlying9 h1
      obtain ⟨c, e2, g2, c1⟩ := DataW.trod_string Try.underlying9 h2
      simp at e0 e1 e2
      subst e0 e1 e2
      refine ⟨⟨a, b, c⟩, rfl, ?_, fun B hB => ?_⟩
      · exact ⟨(bounds_i64 b0).2, (bounds_i64 b0).1⟩
      · rw [hx] at hB
        simp only [DataW.weights, Try.underlying45, DataW.weightsEach, List.map_cons, List.map_nil, g0, g1, g2] at hB
        have z1 := hB b.data.toList.length (by simp)
        have z2 := hB c.data.toList.length (by simp)
        rw [Array.length_toList] at z1 z2
        exact ⟨z1, z2⟩
theorem open_steps {fuel : Nat} {cs : List Value} {x : DataW H × List MemPlace} (h : DataW.trod enc Try.prog w base (fun _ => true) held fuel 22 cs = some x) :
    ∃ (o : Option Addr) (l : List Sp) (cap : Nat), cs = [.slice o l.length cap] ∧ RowAt w encS 3 o l ∧ NForm o l.length cap ∧ l.length ≤ 9223372036854775807 ∧ (∀ y ∈ l, y.k ≤ 9223372036854775807 ∧ -9223372036854775808 ≤ y.k) ∧ ∀ B, (∀ n ∈ x.1.weights Try.prog 22, n ≤ B) → ∀ y ∈ l, y.d.size ≤ B ∧ y.p.size ≤ B := by
  rcases open_slice Try.underlying22 h with ⟨rfl, rfl⟩ | ⟨a, len, cap, m, n, D, Pl, rfl, hb, hl, hm, hmm, rfl, hx⟩
  · exact ⟨none, [], 0, rfl, fun i x h => by simp at h, .inl ⟨rfl, rfl, rfl⟩, by simp, (fun y hy => by cases hy), (fun B hB y hy => by cases hy)⟩
  · simp only [if_true] at hmm
    subst hmm
    rw [maxLen_eq] at hm
    have hs : 0 < len → a.spot = none := fun h0 => by
      obtain ⟨cs', hc, ht⟩ := hx 0 (by omega)
      obtain ⟨y, rfl, _, _⟩ := open_step ht
      rw [cellsStep] at hc
      obtain ⟨_, _, hat⟩ := World.cells?_some hc
      have h1 : w.cell? ((a.add (0 * 3)).add 0) = some (.int .i64 y.k) := (hat 0 (by decide)).trans rfl
      have h2 := World.cell?_spot h1
      simpa [Addr.add] using h2
    by_cases h0 : 0 < len
    · have hs := hs h0
      obtain ⟨ab, ao, sp⟩ := a
      simp only at hs
      subst hs
      have each : ∀ i, i < len → ∃ y : Sp, (∀ j, j < 3 → w.cell? ⟨ab, ao + i * 3 + j, none⟩ = (encS y)[j]?) ∧ (y.k ≤ 9223372036854775807 ∧ -9223372036854775808 ≤ y.k) ∧ ∀ B, (∀ n ∈ (D i).weights Try.prog 45, n ≤ B) → y.d.size ≤ B ∧ y.p.size ≤ B := by
        intro i hi
        obtain ⟨cs', hc, ht⟩ := hx i (by omega)
        obtain ⟨y, rfl, hyd, hyp⟩ := open_step ht
        rw [cellsStep] at hc
        obtain ⟨_, _, hat⟩ := World.cells?_some hc
        refine ⟨y, fun j hj => ?_, hyd, hyp⟩
        have := hat j hj
        rwa [add_at, add_at] at this
      obtain ⟨l, hll, hp⟩ := list_of each
      exact ⟨some ⟨ab, ao, none⟩, l, _, by rw [hll], fun i y hy => ⟨ab, ao, rfl, (hp i y hy).1⟩, .inr ⟨_, rfl, by rw [hll]; exact hl, hm⟩, by rw [hll]; omega, (fun y hy => by obtain ⟨i, hi⟩ := List.getElem?_of_mem hy; exact (hp i y hi).2.1), (fun B hB y hy => by
        obtain ⟨i, hi⟩ := List.getElem?_of_mem hy
        have hil : i < len := by have := (List.getElem?_eq_some_iff.1 hi).1; omega
        refine (hp i y hi).2.2 B fun n hn => hB n ?_
        simp only [DataW.weights, Try.underlying22]
        exact List.mem_cons_of_mem _ (List.mem_append_left _ (wAll_mem (List.mem_map.2 ⟨i, List.mem_range.2 hil, rfl⟩) hn)))⟩
    · obtain rfl : len = 0 := by omega
      exact ⟨some a, [], _, rfl, fun i x h => by simp at h, .inr ⟨a, rfl, hl, hm⟩, by simp, (fun y hy => by cases hy), (fun B hB y hy => by cases hy)⟩
end
end Go.Proofs.Ytpijooajbgeejaa
