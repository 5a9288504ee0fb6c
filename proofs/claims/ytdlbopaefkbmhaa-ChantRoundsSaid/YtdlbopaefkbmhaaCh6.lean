/- Stage 31: some; Sounding, the program's and the document's. -/
import Derived.Test.YtdlbopaefkbmhaaCh5
namespace Go.Proofs.Ytdlbopaefkbmhaa
set_option linter.unusedVariables false
set_option linter.unusedSimpArgs false
open Go Go.RowKit Go.Shelf
set_option maxRecDepth 100000

/-- Voices that came in. -/
def VoicesIn (w : World) (o : Option Addr) (vs : List (List Nt)) : Prop := ∀ k l, vs[k]? = some l → ∃ g off ol cap, o = some ⟨g, off, none⟩ ∧ w.cell? ⟨g, off + k, none⟩ = some (.slice ol l.length cap) ∧ RowAt w encN 6 ol l ∧ ((ol = none ∧ cap = 0 ∧ l.length = 0) ∨ ∃ a, ol = some a ∧ l.length ≤ cap ∧ cap ≤ 9223372036854775807)
theorem VoicesIn.at (w : World) {o : Option Addr} {vs : List (List Nt)} (h : VoicesIn w o vs) : VoicesAt w o vs := fun k l hk => by
  obtain ⟨g, off, ol, cap, h1, h2, h3, _⟩ := h k l hk
  exact ⟨g, off, ol, cap, h1, h2, h3⟩
def someV (vs : List (List Nt)) : List (List Nt) := (vs.take 17).map (List.take 60)
theorem someV_len (vs : List (List Nt)) : (someV vs).length = min 17 vs.length := by simp [someV]
theorem someV_get {vs : List (List Nt)} {k : Nat} {l : List Nt} (h : (someV vs)[k]? = some l) : ∃ l0, vs[k]? = some l0 ∧ l = l0.take 60 ∧ k < 17 := by
  unfold someV at h
  rw [List.getElem?_map, List.getElem?_take] at h
  by_cases hk : k < 17
  · rw [if_pos hk] at h
    cases e : vs[k]? with
    | none => rw [e] at h; cases h
    | some l0 => rw [e] at h; cases h; exact ⟨l0, rfl, rfl, hk⟩
  · rw [if_neg hk] at h; cases h
theorem some_tot (vs : List (List Nt)) : tot (someV vs) ≤ 1020 := by
  have h : ∀ (l : List (List Nt)), (∀ x ∈ l, x.length ≤ 60) → tot l ≤ l.length * 60 := by
    intro l
    induction l with
    | nil => intro _; simp [tot]
    | cons a l ih =>
      intro h
      have h1 := ih fun x hx => h x (List.mem_cons_of_mem _ hx)
      have h2 := h a List.mem_cons_self
      have : tot (a :: l) = a.length + tot l := by simp [tot]
      rw [this, List.length_cons]; omega
  have h1 := h (someV vs) (fun x hx => by
    obtain ⟨k, hk⟩ := List.getElem?_of_mem hx
    obtain ⟨l0, _, rfl, _⟩ := someV_get hk
    simp; omega)
  have := someV_len vs
  omega
theorem rowAt_take {w : World} {o : Option Addr} {l : List Nt} (h : RowAt w encN 6 o l) (n : Nat) : RowAt w encN 6 o (l.take n) := fun i x hi => by
  rw [List.getElem?_take] at hi
  by_cases hk : i < n
  · rw [if_pos hk] at hi; exact h i x hi
  · rw [if_neg hk] at hi; cases hi

theorem infoNotes : (Try.prog.info? 22).map (fun i => (i.zero, i.size, i.bytes)) = some (some (.slice none 0 0), 1, 24) := by kernel_rfl

/-- What is collected. -/
def SvOK (w : World) (vs : List (List Nt)) (k : Nat) (sv : List Value) : Prop := sv.length = k ∧ ∀ i l, i < k → vs[i]? = some l → ∃ ol cp, sv[i]? = some (.slice ol (min l.length 60) cp) ∧ RowAt w encN 6 ol l
theorem SvOK.next {w : World} {vs : List (List Nt)} {k : Nat} {sv : List Value} {l : List Nt} {ol : Option Addr} {cp : Nat} (h : SvOK w vs k sv) (hl : vs[k]? = some l) (hr : RowAt w encN 6 ol l) : SvOK w vs (k + 1) (sv ++ [.slice ol (min l.length 60) cp]) := by
  refine ⟨by simp [h.1], fun i l' hi hl' => ?_⟩
  by_cases hik : i < k
  · obtain ⟨ol', cp', h1, h2⟩ := h.2 i l' hik hl'
    exact ⟨ol', cp', by rw [List.getElem?_append_left (by rw [h.1]; exact hik)]; exact h1, h2⟩
  · obtain rfl : i = k := by omega
    rw [hl] at hl'
    cases hl'
    exact ⟨ol, cp, by rw [List.getElem?_append_right (by rw [h.1]; omega), h.1]; simp, hr⟩
theorem SvOK.voices {w w' : World} {vs : List (List Nt)} {base cap k : Nat} {o : Option Addr} {sv : List Value} (h : SvOK w vs k sv) (hk : k = min 17 vs.length) (hown : w'.ownsRow base 22 1 (.slice o k cap) k sv) (hB : Below w.heap.size w w') : VoicesAt w' o (someV vs) := by
  intro i l hi
  obtain ⟨l0, hl0, rfl, hi17⟩ := someV_get hi
  have hil : i < vs.length := (List.getElem?_eq_some_iff.1 hl0).1
  obtain ⟨ol, cp, h1, h2⟩ := h.2 i l0 (by omega) hl0
  obtain ⟨o', cap', e', ho⟩ := own_slice hown
  obtain ⟨g, hg⟩ := ho (by omega)
  cases e'
  subst hg
  refine ⟨g, 0, ol, cp, rfl, ?_, rowAt_take (h2.below encN_len (by decide) hB) 60⟩
  rw [Nat.zero_add]
  have hc := hown.cellAt i (by omega)
  rw [hc, h1, List.length_take, Nat.min_comm]

def SoI (vs : List (List Nt)) (w : World) (i out : Value) (wr : World) : Prop := ∃ (k : Nat) (v : Value) (sv : List Value), i = .int .i64 k ∧ v = out ∧ k ≤ min 17 vs.length ∧ SvOK w vs k sv ∧ wr.ownsRow w.heap.size 22 1 v k sv ∧ Below w.heap.size w wr

end Go.Proofs.Ytdlbopaefkbmhaa
