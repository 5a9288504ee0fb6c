/- Stage 31: arguments that are notes, or voices, opened. -/
import Derived.Test.YtdlbopaefkbmhaaCh6
import Derived.Deep.Slices
import Derived.Deep.Fields
import Derived.Carry
import Derived.ProofKit
import Derived.OpenShut
import Derived.JoinedCond
namespace Go.Proofs.Ytdlbopaefkbmhaa
set_option linter.unusedVariables false
set_option linter.unusedSimpArgs false
open Go Go.ChangeShapes Go.WideShapes Go.ChangeAt Go.RowKit Go.Deep
set_option maxRecDepth 100000

theorem add_at (b o k : Nat) : (⟨b, o, none⟩ : Addr).add k = ⟨b, o + k, none⟩ := by
  unfold Addr.add
  by_cases h : k = 0
  · subst h; simp
  · simp [h]
theorem laidOut : laidOutB Try.prog = true := by kernel_rfl
theorem cellsNote : Try.prog.cellsOf 37 = 6 := by kernel_rfl
theorem cellsNotes : Try.prog.cellsOf 22 = 1 := by kernel_rfl
section
variable {H : Type} {enc : TypeId × Value → H} {w : World} {base : Nat} {held : Bool}
theorem trod_flo {P : Program} {spare : Nat → Bool} {fuel : Nat} {t : TypeId} {cs : List Value} {x : DataW H × List MemPlace} {k : FloatKind} (ht : P.underlying t = some (.float k)) (h : DataW.trod enc P w base spare held fuel t cs = some x) : ∃ n, cs = [.float k n] := by
  cases fuel with
  | zero => simp [DataW.trod] at h
  | succ n =>
    unfold DataW.trod at h
    rw [ht] at h
    split at h <;> simp_all
theorem open_note {fuel : Nat} {cs : List Value} {x : DataW H × List MemPlace} (h : DataW.trod enc Try.prog w base (fun _ => true) held fuel 37 cs = some x) : ∃ y : Nt, cs = encN y := by
  obtain ⟨xs, n, _, hx, hlen, hxl, hq⟩ := DataW.trod_struct Try.underlying37 h
  rw [cellsNote] at hlen
  match cs, hlen with
  | [c0, c1, c2, c3, c4, c5], _ =>
    match xs, hxl with
    | [y0, y1, y2, y3, y4, y5], _ =>
      have ci : Try.prog.cellsOf 3 = 1 := by kernel_rfl
      have cb : Try.prog.cellsOf 4 = 1 := by kernel_rfl
      have cf : Try.prog.cellsOf 23 = 1 := by kernel_rfl
      have h0 := hq 0 _ rfl
      have h1 := hq 1 _ rfl
      have h2 := hq 2 _ rfl
      have h3 := hq 3 _ rfl
      have h4 := hq 4 _ rfl
      have h5 := hq 5 _ rfl
      simp [ci, cb, cf] at h0 h1 h2 h3 h4 h5
      obtain ⟨a, e0, _, _⟩ := DataW.trod_int Try.underlying3 h0
      obtain ⟨b, e1, _, _⟩ := DataW.trod_int Try.underlying3 h1
      obtain ⟨c, e2, _, _⟩ := DataW.trod_int Try.underlying3 h2
      obtain ⟨d, e3, _⟩ := DataW.trod_bool Try.underlying4 h3
      obtain ⟨e, e4⟩ := trod_flo Try.underlying23 h4
      obtain ⟨f, e5⟩ := trod_flo Try.underlying23 h5
      simp at e0 e1 e2 e3 e4 e5
      subst e0 e1 e2 e3 e4 e5
      exact ⟨⟨a, b, c, d, e, f⟩, rfl⟩
theorem list_of {α : Type} {n : Nat} {P : Nat → α → Prop} (h : ∀ i, i < n → ∃ x, P i x) : ∃ l : List α, l.length = n ∧ ∀ i x, l[i]? = some x → P i x := by
  induction n with
  | zero => exact ⟨[], rfl, fun i x h => by simp at h⟩
  | succ n ih =>
    obtain ⟨l, hl, hp⟩ := ih fun i hi => h i (by omega)
    obtain ⟨x, hx⟩ := h n (by omega)
    refine ⟨l ++ [x], by simp [hl], fun i y hy => ?_⟩
    by_cases hi : i < l.length
    · rw [List.getElem?_append_left hi] at hy; exact hp i y hy
    · rw [List.getElem?_append_right (by omega)] at hy
      have h0 : i - l.length = 0 := by
        have := (List.getElem?_eq_some_iff.1 hy).1
        simp at this; omega
      rw [h0] at hy
      simp at hy
      subst hy
      have : i = n := by omega
      rw [this]; exact hx
/-- Notes that came in. -/
def NotesForm (o : Option Addr) (n cap : Nat) : Prop := (o = none ∧ cap = 0 ∧ n = 0) ∨ ∃ a, o = some a ∧ n ≤ cap ∧ cap ≤ 9223372036854775807
theorem maxLen_eq : maxLen = 9223372036854775807 := rfl
theorem open_notes {fuel : Nat} {cs : List Value} {x : DataW H × List MemPlace} (h : DataW.trod enc Try.prog w base (fun _ => true) held fuel 22 cs = some x) :
    ∃ (o : Option Addr) (l : List Nt) (cap : Nat), cs = [.slice o l.length cap] ∧ RowAt w encN 6 o l ∧ NotesForm o l.length cap := by
  rcases open_slice Try.underlying22 h with ⟨rfl, rfl⟩ | ⟨a, len, cap, m, n, D, Pl, rfl, hb, hl, hm, hmm, rfl, hx⟩
  · exact ⟨none, [], 0, rfl, fun i x h => by simp at h, .inl ⟨rfl, rfl, rfl⟩⟩
  · simp only [if_true] at hmm
    subst hmm
    have hs : 0 < len → a.spot = none := fun h0 => by
      obtain ⟨cs', hc, ht⟩ := hx 0 (by omega)
      obtain ⟨y, rfl⟩ := open_note ht
      rw [cellsNote] at hc
      obtain ⟨_, _, hat⟩ := World.cells?_some hc
      have h1 : w.cell? ((a.add (0 * 6)).add 0) = some (.int .i64 y.line) := (hat 0 (by decide)).trans rfl
      have h2 := World.cell?_spot h1
      simpa [Addr.add] using h2
    by_cases h0 : 0 < len
    · have hs := hs h0
      obtain ⟨ab, ao, sp⟩ := a
      simp only at hs
      subst hs
      have each : ∀ i, i < len → ∃ y : Nt, ∀ j, j < 6 → w.cell? ⟨ab, ao + i * 6 + j, none⟩ = (encN y)[j]? := by
        intro i hi
        obtain ⟨cs', hc, ht⟩ := hx i (by omega)
        obtain ⟨y, rfl⟩ := open_note ht
        rw [cellsNote] at hc
        obtain ⟨_, _, hat⟩ := World.cells?_some hc
        refine ⟨y, fun j hj => ?_⟩
        have := hat j hj
        rwa [add_at, add_at] at this
      obtain ⟨l, hll, hp⟩ := list_of each
      exact ⟨some ⟨ab, ao, none⟩, l, _, by rw [hll], fun i y hy => ⟨ab, ao, rfl, hp i y hy⟩, .inr ⟨_, rfl, by rw [hll]; exact hl, by rw [← maxLen_eq]; exact hm⟩⟩
    · obtain rfl : len = 0 := by omega
      exact ⟨some a, [], _, rfl, fun i x h => by simp at h, .inr ⟨a, rfl, hl, by rw [← maxLen_eq]; exact hm⟩⟩
theorem open_voices {fuel : Nat} {cs : List Value} {x : DataW H × List MemPlace} (h : DataW.trod enc Try.prog w base (fun _ => true) held fuel 26 cs = some x) :
    ∃ (o : Option Addr) (vs : List (List Nt)) (cap : Nat), cs = [.slice o vs.length cap] ∧ VoicesIn w o vs ∧ vs.length ≤ 9223372036854775807 := by
  rcases open_slice Try.underlying26 h with ⟨rfl, rfl⟩ | ⟨a, len, cap, m, n, D, Pl, rfl, hb, hl, hm, hmm, rfl, hx⟩
  · exact ⟨none, [], 0, rfl, fun i x h => by simp at h, by simp⟩
  · simp only [if_true] at hmm
    subst hmm
    have hs : 0 < len → a.spot = none := fun h0 => by
      obtain ⟨cs', hc, ht⟩ := hx 0 (by omega)
      obtain ⟨ol, l, cp, rfl, hr, hf⟩ := open_notes ht
      rw [cellsNotes] at hc
      obtain ⟨_, _, hat⟩ := World.cells?_some hc
      have h1 : w.cell? ((a.add (0 * 1)).add 0) = some (.slice ol l.length cp) := (hat 0 (by decide)).trans rfl
      have h2 := World.cell?_spot h1
      simpa [Addr.add] using h2
    by_cases h0 : 0 < len
    · have hs := hs h0
      obtain ⟨ab, ao, sp⟩ := a
      simp only at hs
      subst hs
      have each : ∀ i, i < len → ∃ l : List Nt, ∃ (ol : Option Addr) (cp : Nat), w.cell? ⟨ab, ao + i, none⟩ = some (.slice ol l.length cp) ∧ RowAt w encN 6 ol l ∧ NotesForm ol l.length cp := by
        intro i hi
        obtain ⟨cs', hc, ht⟩ := hx i (by omega)
        obtain ⟨ol, l, cp, rfl, hr, hf⟩ := open_notes ht
        rw [cellsNotes] at hc
        obtain ⟨_, _, hat⟩ := World.cells?_some hc
        refine ⟨l, ol, cp, ?_, hr, hf⟩
        have := (hat 0 (by decide)).trans rfl
        rw [add_at, add_at, Nat.mul_one, Nat.add_zero] at this
        exact this
      obtain ⟨vs, hvl, hp⟩ := list_of each
      refine ⟨some ⟨ab, ao, none⟩, vs, _, by rw [hvl], fun k l hk => ?_, by rw [hvl, ← maxLen_eq]; omega⟩
      obtain ⟨ol, cp, h1, h3, h4⟩ := hp k l hk
      exact ⟨ab, ao, ol, cp, rfl, h1, h3, h4⟩
    · obtain rfl : len = 0 := by omega
      exact ⟨some a, [], _, rfl, fun i x h => by simp at h, by simp⟩
end
end Go.Proofs.Ytdlbopaefkbmhaa
