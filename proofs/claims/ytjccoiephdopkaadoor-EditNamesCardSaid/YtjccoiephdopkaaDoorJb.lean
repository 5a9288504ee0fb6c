/- Stage 27: two changes laid one behind the other, and carried over each other, byte by byte. -/
import Derived.Test.YtjccoiephdopkaaDoorJa
namespace Go.Proofs.YtjccoiephdopkaaDoor
set_option linter.unusedVariables false
set_option linter.unusedSimpArgs false
open Go Go.RowKit Go.Shelf
set_option maxRecDepth 100000

/-- One change behind the other. -/
def compA : List Atm → List Atm → Option (List Atm)
  | .D c :: x, y => (compA x y).map (.D c :: ·)
  | x, .P c :: y => (compA x y).map (.P c :: ·)
  | .K :: x, .K :: y => (compA x y).map (.K :: ·)
  | .K :: x, .D c :: y => (compA x y).map (.D c :: ·)
  | .P c :: x, .K :: y => (compA x y).map (.P c :: ·)
  | .P c :: x, .D d :: y => if c = d then compA x y else none
  | _, _ => some []
termination_by x y => x.length + y.length
/-- Two changes carried over each other: the first over the second, the second over the first. -/
def carrA : List Atm → List Atm → Option (List Atm × List Atm)
  | .P c :: x, y => (carrA x y).map fun r => (.P c :: r.1, .K :: r.2)
  | x, .P c :: y => (carrA x y).map fun r => (.K :: r.1, .P c :: r.2)
  | .K :: x, .K :: y => (carrA x y).map fun r => (.K :: r.1, .K :: r.2)
  | .D c :: x, .K :: y => (carrA x y).map fun r => (.D c :: r.1, r.2)
  | .K :: x, .D c :: y => (carrA x y).map fun r => (r.1, .D c :: r.2)
  | .D c :: x, .D d :: y => if c = d then carrA x y else none
  | _, _ => some ([], [])
termination_by x y => x.length + y.length

theorem run_P {c : UInt8} {l : List Atm} {s t r : List UInt8} (h : runA (.P c :: l) s = some (t, r)) : ∃ t', t = c :: t' ∧ runA l s = some (t', r) := by
  simp only [runA, Option.map_eq_some_iff] at h
  obtain ⟨q, hq, e⟩ := h
  cases e
  exact ⟨_, rfl, hq⟩
theorem run_K {l : List Atm} {s t r : List UInt8} (h : runA (.K :: l) s = some (t, r)) : ∃ c s' t', s = c :: s' ∧ t = c :: t' ∧ runA l s' = some (t', r) := by
  cases s with
  | nil => cases h
  | cons c s =>
    simp only [runA, Option.map_eq_some_iff] at h
    obtain ⟨q, hq, e⟩ := h
    cases e
    exact ⟨_, _, _, rfl, rfl, hq⟩
theorem run_D {d : UInt8} {l : List Atm} {s t r : List UInt8} (h : runA (.D d :: l) s = some (t, r)) : ∃ s', s = d :: s' ∧ runA l s' = some (t, r) := by
  cases s with
  | nil => cases h
  | cons c s =>
    simp only [runA] at h
    split at h
    · rename_i e; subst e; exact ⟨_, rfl, h⟩
    · cases h
theorem run_nil {s t r : List UInt8} (h : runA [] s = some (t, r)) : t = [] ∧ r = s := by
  simp only [runA, Option.some.injEq, Prod.mk.injEq] at h
  exact ⟨h.1.symm, h.2.symm⟩
theorem run_Pi (c : UInt8) {l : List Atm} {s t r : List UInt8} (h : runA l s = some (t, r)) : runA (.P c :: l) s = some (c :: t, r) := by simp [runA, h]
theorem run_Ki (c : UInt8) {l : List Atm} {s t r : List UInt8} (h : runA l s = some (t, r)) : runA (.K :: l) (c :: s) = some (c :: t, r) := by simp [runA, h]
theorem run_Di (c : UInt8) {l : List Atm} {s t r : List UInt8} (h : runA l s = some (t, r)) : runA (.D c :: l) (c :: s) = some (t, r) := by simp [runA, h]
theorem run_end {l : List Atm} {t : List UInt8} (h : runA l [] = some (t, [])) : inA l = 0 := by
  have := (run_len h).1; simp at this; omega
theorem cP {c : UInt8} {x y C : List Atm} (h : compA x y = some C) (hx : ∀ (c : UInt8) (z : List Atm), x = .D c :: z → False) : compA x (.P c :: y) = some (.P c :: C) := by
  rw [compA.eq_2 x c y hx, h]; rfl
theorem kP {c : UInt8} {x y U V : List Atm} (h : carrA x y = some (U, V)) (hx : ∀ (c : UInt8) (z : List Atm), x = .P c :: z → False) : carrA x (.P c :: y) = some (.K :: U, .P c :: V) := by
  rw [carrA.eq_2 x c y hx, h]; rfl
/-- Laid one behind the other, two changes do what they do one behind the other. -/
theorem comp_run : ∀ (n : Nat) (X Y : List Atm) (s t w : List UInt8), X.length + Y.length ≤ n → runA X s = some (t, []) → runA Y t = some (w, []) → ∃ C, compA X Y = some C ∧ runA C s = some (w, [])
  | n, .D c :: X, Y, s, t, w, hn, hX, hY => by
    obtain ⟨s', rfl, h⟩ := run_D hX
    match n, hn with
    | 0, hn => simp at hn
    | n + 1, hn =>
      obtain ⟨C, h1, h2⟩ := comp_run n X Y s' t w (by simp at hn; omega) h hY
      exact ⟨.D c :: C, by rw [compA, h1]; rfl, run_Di c h2⟩
  | n, [], .P c :: Y, s, t, w, hn, hX, hY => by
    obtain ⟨w', rfl, h⟩ := run_P hY
    match n, hn with
    | 0, hn => simp at hn
    | n + 1, hn =>
      obtain ⟨C, h1, h2⟩ := comp_run n [] Y s t w' (by simp at hn ⊢; omega) hX h
      exact ⟨.P c :: C, cP h1 (by intro c x e; cases e), run_Pi c h2⟩
  | n, .K :: X, .P c :: Y, s, t, w, hn, hX, hY => by
    obtain ⟨w', rfl, h⟩ := run_P hY
    match n, hn with
    | 0, hn => simp at hn
    | n + 1, hn =>
      obtain ⟨C, h1, h2⟩ := comp_run n (.K :: X) Y s t w' (by simp at hn ⊢; omega) hX h
      exact ⟨.P c :: C, cP h1 (by intro c x e; cases e), run_Pi c h2⟩
  | n, .P d :: X, .P c :: Y, s, t, w, hn, hX, hY => by
    obtain ⟨w', rfl, h⟩ := run_P hY
    match n, hn with
    | 0, hn => simp at hn
    | n + 1, hn =>
      obtain ⟨C, h1, h2⟩ := comp_run n (.P d :: X) Y s t w' (by simp at hn ⊢; omega) hX h
      exact ⟨.P c :: C, cP h1 (by intro c x e; cases e), run_Pi c h2⟩
  | n, .K :: X, .K :: Y, s, t, w, hn, hX, hY => by
    obtain ⟨c, s', t', rfl, rfl, h⟩ := run_K hX
    obtain ⟨c2, t2, w', e, rfl, g⟩ := run_K hY
    cases e
    match n, hn with
    | 0, hn => simp at hn
    | n + 1, hn =>
      obtain ⟨C, h1, h2⟩ := comp_run n X Y s' _ w' (by simp at hn ⊢; omega) h g
      exact ⟨.K :: C, by rw [compA, h1]; rfl, run_Ki c h2⟩
  | n, .K :: X, .D d :: Y, s, t, w, hn, hX, hY => by
    obtain ⟨c, s', t', rfl, rfl, h⟩ := run_K hX
    obtain ⟨t2, e, g⟩ := run_D hY
    cases e
    match n, hn with
    | 0, hn => simp at hn
    | n + 1, hn =>
      obtain ⟨C, h1, h2⟩ := comp_run n X Y s' _ w (by simp at hn ⊢; omega) h g
      exact ⟨.D d :: C, by rw [compA, h1]; rfl, run_Di d h2⟩
  | n, .P c :: X, .K :: Y, s, t, w, hn, hX, hY => by
    obtain ⟨t', rfl, h⟩ := run_P hX
    obtain ⟨c2, t2, w', e, rfl, g⟩ := run_K hY
    cases e
    match n, hn with
    | 0, hn => simp at hn
    | n + 1, hn =>
      obtain ⟨C, h1, h2⟩ := comp_run n X Y s _ w' (by simp at hn ⊢; omega) h g
      exact ⟨.P c :: C, by rw [compA, h1]; rfl, run_Pi c h2⟩
  | n, .P c :: X, .D d :: Y, s, t, w, hn, hX, hY => by
    obtain ⟨t', rfl, h⟩ := run_P hX
    obtain ⟨t2, e, g⟩ := run_D hY
    cases e
    match n, hn with
    | 0, hn => simp at hn
    | n + 1, hn =>
      obtain ⟨C, h1, h2⟩ := comp_run n X Y s _ w (by simp at hn ⊢; omega) h g
      exact ⟨C, by rw [compA, if_pos rfl, h1], h2⟩
  | n, [], [], s, t, w, hn, hX, hY => by
    obtain ⟨rfl, rfl⟩ := run_nil hX
    obtain ⟨rfl, _⟩ := run_nil hY
    exact ⟨[], by simp [compA], rfl⟩
  | n, [], .K :: Y, s, t, w, hn, hX, hY => by
    obtain ⟨rfl, rfl⟩ := run_nil hX
    obtain ⟨_, _, _, e, _⟩ := run_K hY
    cases e
  | n, [], .D d :: Y, s, t, w, hn, hX, hY => by
    obtain ⟨rfl, rfl⟩ := run_nil hX
    obtain ⟨_, e, _⟩ := run_D hY
    cases e
  | n, .K :: X, [], s, t, w, hn, hX, hY => by
    obtain ⟨c, s', t', rfl, rfl, h⟩ := run_K hX
    have := (run_nil hY).2
    cases this
  | n, .P c :: X, [], s, t, w, hn, hX, hY => by
    obtain ⟨t', rfl, h⟩ := run_P hX
    have := (run_nil hY).2
    cases this
/-- Carried over each other, two changes come to one text. -/
theorem carr_run : ∀ (n : Nat) (X Y : List Atm) (s t u : List UInt8), X.length + Y.length ≤ n → runA X s = some (t, []) → runA Y s = some (u, []) →
    ∃ U V w, carrA X Y = some (U, V) ∧ runA V t = some (w, []) ∧ runA U u = some (w, []) ∧ w.length ≤ t.length + u.length
  | n, .P c :: X, Y, s, t, u, hn, hX, hY => by
    obtain ⟨t', rfl, h⟩ := run_P hX
    match n, hn with
    | 0, hn => simp at hn
    | n + 1, hn =>
      obtain ⟨U, V, w, h1, h2, h3, h4⟩ := carr_run n X Y s t' u (by simp at hn; omega) h hY
      exact ⟨.P c :: U, .K :: V, c :: w, by rw [carrA, h1]; rfl, run_Ki c h2, run_Pi c h3, by simp; omega⟩
  | n, [], .P c :: Y, s, t, u, hn, hX, hY => by
    obtain ⟨u', rfl, h⟩ := run_P hY
    match n, hn with
    | 0, hn => simp at hn
    | n + 1, hn =>
      obtain ⟨U, V, w, h1, h2, h3, h4⟩ := carr_run n [] Y s t u' (by simp at hn ⊢; omega) hX h
      exact ⟨.K :: U, .P c :: V, c :: w, kP h1 (by intro c x e; cases e), run_Pi c h2, run_Ki c h3, by simp; omega⟩
  | n, .K :: X, .P c :: Y, s, t, u, hn, hX, hY => by
    obtain ⟨u', rfl, h⟩ := run_P hY
    match n, hn with
    | 0, hn => simp at hn
    | n + 1, hn =>
      obtain ⟨U, V, w, h1, h2, h3, h4⟩ := carr_run n (.K :: X) Y s t u' (by simp at hn ⊢; omega) hX h
      exact ⟨.K :: U, .P c :: V, c :: w, kP h1 (by intro c x e; cases e), run_Pi c h2, run_Ki c h3, by simp; omega⟩
  | n, .D d :: X, .P c :: Y, s, t, u, hn, hX, hY => by
    obtain ⟨u', rfl, h⟩ := run_P hY
    match n, hn with
    | 0, hn => simp at hn
    | n + 1, hn =>
      obtain ⟨U, V, w, h1, h2, h3, h4⟩ := carr_run n (.D d :: X) Y s t u' (by simp at hn ⊢; omega) hX h
      exact ⟨.K :: U, .P c :: V, c :: w, kP h1 (by intro c x e; cases e), run_Pi c h2, run_Ki c h3, by simp; omega⟩
  | n, .K :: X, .K :: Y, s, t, u, hn, hX, hY => by
    obtain ⟨c, s', t', rfl, rfl, h⟩ := run_K hX
    obtain ⟨c2, s2, u', e, rfl, g⟩ := run_K hY
    cases e
    match n, hn with
    | 0, hn => simp at hn
    | n + 1, hn =>
      obtain ⟨U, V, w, h1, h2, h3, h4⟩ := carr_run n X Y _ t' u' (by simp at hn ⊢; omega) h g
      exact ⟨.K :: U, .K :: V, c :: w, by rw [carrA, h1]; rfl, run_Ki c h2, run_Ki c h3, by simp; omega⟩
  | n, .D d :: X, .K :: Y, s, t, u, hn, hX, hY => by
    obtain ⟨s', rfl, h⟩ := run_D hX
    obtain ⟨c2, s2, u', e, rfl, g⟩ := run_K hY
    cases e
    match n, hn with
    | 0, hn => simp at hn
    | n + 1, hn =>
      obtain ⟨U, V, w, h1, h2, h3, h4⟩ := carr_run n X Y _ t u' (by simp at hn ⊢; omega) h g
      exact ⟨.D d :: U, V, w, by rw [carrA, h1]; rfl, h2, run_Di d h3, by simp; omega⟩
  | n, .K :: X, .D d :: Y, s, t, u, hn, hX, hY => by
    obtain ⟨s', rfl, g⟩ := run_D hY
    obtain ⟨c2, s2, t', e, rfl, h⟩ := run_K hX
    cases e
    match n, hn with
    | 0, hn => simp at hn
    | n + 1, hn =>
      obtain ⟨U, V, w, h1, h2, h3, h4⟩ := carr_run n X Y _ t' u (by simp at hn ⊢; omega) h g
      exact ⟨U, .D d :: V, w, by rw [carrA, h1]; rfl, run_Di d h2, h3, by simp; omega⟩
  | n, .D c :: X, .D d :: Y, s, t, u, hn, hX, hY => by
    obtain ⟨s', rfl, h⟩ := run_D hX
    obtain ⟨s2, e, g⟩ := run_D hY
    cases e
    match n, hn with
    | 0, hn => simp at hn
    | n + 1, hn =>
      obtain ⟨U, V, w, h1, h2, h3, h4⟩ := carr_run n X Y _ t u (by simp at hn ⊢; omega) h g
      exact ⟨U, V, w, by rw [carrA, if_pos rfl, h1], h2, h3, h4⟩
  | n, [], [], s, t, u, hn, hX, hY => by
    obtain ⟨rfl, rfl⟩ := run_nil hX
    obtain ⟨rfl, _⟩ := run_nil hY
    exact ⟨[], [], [], by simp [carrA], rfl, rfl, by simp⟩
  | n, [], .K :: Y, s, t, u, hn, hX, hY => by
    obtain ⟨rfl, rfl⟩ := run_nil hX
    obtain ⟨_, _, _, e, _⟩ := run_K hY
    cases e
  | n, [], .D d :: Y, s, t, u, hn, hX, hY => by
    obtain ⟨rfl, rfl⟩ := run_nil hX
    obtain ⟨_, e, _⟩ := run_D hY
    cases e
  | n, .K :: X, [], s, t, u, hn, hX, hY => by
    obtain ⟨rfl, rfl⟩ := run_nil hY
    obtain ⟨_, _, _, e, _⟩ := run_K hX
    cases e
  | n, .D d :: X, [], s, t, u, hn, hX, hY => by
    obtain ⟨rfl, rfl⟩ := run_nil hY
    obtain ⟨_, e, _⟩ := run_D hX
    cases e
end Go.Proofs.YtjccoiephdopkaaDoor
