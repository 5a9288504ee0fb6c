/- Several texts in one. -/
import Derived.Test.YtjccoiephdopkaaZ02
import Derived.Test.YtjccoiephdopkaaZ06
/- Stage 27: two changes laid one behind the other, and carried over each other, byte by byte. -/
namespace Go.Proofs.Ytjccoiephdopkaa
set_option linter.unusedVariables false
set_option linter.unusedSimpArgs false
open Go Go.RowKit Go.Shelf
set_option maxRecDepth 100000

/-- One change behind the other. -/
def compA : List Atm → List Atm → Option (List Atm)
  | .D c :: x, y => (compA x y).map (.D c :: ·)
  | x, .P c :: y => (compA x y).map (.P c :: ·)
  | .K :: x, .K :: y => (compA x y).map (.K :: ·)
  | .K :: x, .D c :: y => (compA x y).map (.D c :: ·)
  | .P c :: x, .K :: y => (compA x y).map (.P c :: ·)
  | .P c :: x, .D d :: y => if c = d then compA x y else none
  | _, _ => some []
termination_by x y => x.length + y.length
/-- Two changes carried over each other: the first over the second, the second over the first. -/
def carrA : List Atm → List Atm → Option (List Atm × List Atm)
  | .P c :: x, y => (carrA x y).map fun r => (.P c :: r.1, .K :: r.2)
  | x, .P c :: y => (carrA x y).map fun r => (.K :: r.1, .P c :: r.2)
  | .K :: x, .K :: y => (carrA x y).map fun r => (.K :: r.1, .K :: r.2)
  | .D c :: x, .K :: y => (carrA x y).map fun r => (.D c :: r.1, r.2)
  | .K :: x, .D c :: y => (carrA x y).map fun r => (r.1, .D c :: r.2)
  | .D c :: x, .D d :: y => if c = d then carrA x y else none
  | _, _ => some ([], [])
termination_by x y => x.length + y.length

theorem run_P {c : UInt8} {l : List Atm} {s t r : List UInt8} (h : runA (.P c :: l) s = some (t, r)) : ∃ t', t = c :: t' ∧ runA l s = some (t', r) := by
  simp only [runA, Option.map_eq_some_iff] at h
  obtain ⟨q, hq, e⟩ := h
  cases e
  exact ⟨_, rfl, hq⟩
theorem run_K {l : List Atm} {s t r : List UInt8} (h : runA (.K :: l) s = some (t, r)) : ∃ c s' t', s = c :: s' ∧ t = c :: t' ∧ runA l s' = some (t', r) := by
  cases s with
  | nil => cases h
  | cons c s =>
    simp only [runA, Option.map_eq_some_iff] at h
    obtain ⟨q, hq, e⟩ := h
    cases e
    exact ⟨_, _, _, rfl, rfl, hq⟩
theorem run_D {d : UInt8} {l : List Atm} {s t r : List UInt8} (h : runA (.D d :: l) s = some (t, r)) : ∃ s', s = d :: s' ∧ runA l s' = some (t, r) := by
  cases s with
  | nil => cases h
  | cons c s =>
    simp only [runA] at h
    split at h
    · rename_i e; subst e; exact ⟨_, rfl, h⟩
    · cases h
theorem run_nil {s t r : List UInt8} (h : runA [] s = some (t, r)) : t = [] ∧ r = s := by
  simp only [runA, Option.some.injEq, Prod.mk.injEq] at h
  exact ⟨h.1.symm, h.2.symm⟩
theorem run_Pi (c : UInt8) {l : List Atm} {s t r : List UInt8} (h : runA l s = some (t, r)) : runA (.P c :: l) s = some (c :: t, r) := by simp [runA, h]
theorem run_Ki (c : UInt8) {l : List Atm} {s t r : List UInt8} (h : runA l s = some (t, r)) : runA (.K :: l) (c :: s) = some (c :: t, r) := by simp [runA, h]
theorem run_Di (c : UInt8) {l : List Atm} {s t r : List UInt8} (h : runA l s = some (t, r)) : runA (.D c :: l) (c :: s) = some (t, r) := by simp [runA, h]
theorem run_end {l : List Atm} {t : List UInt8} (h : runA l [] = some (t, [])) : inA l = 0 := by
  have := (run_len h).1; simp at this; omega
theorem cP {c : UInt8} {x y C : List Atm} (h : compA x y = some C) (hx : ∀ (c : UInt8) (z : List Atm), x = .D c :: z → False) : compA x (.P c :: y) = some (.P c :: C) := by
  rw [compA.eq_2 x c y hx, h]; rfl
theorem kP {c : UInt8} {x y U V : List Atm} (h : carrA x y = some (U, V)) (hx : ∀ (c : UInt8) (z : List Atm), x = .P c :: z → False) : carrA x (.P c :: y) = some (.K :: U, .P c :: V) := by
  rw [carrA.eq_2 x c y hx, h]; rfl
/-- Laid one behind the other, two changes do what they do one behind the other. -/
theorem comp_run : ∀ (n : Nat) (X Y : List Atm) (s t w : List UInt8), X.length + Y.length ≤ n → runA X s = some (t, []) → runA Y t = some (w, []) → ∃ C, compA X Y = some C ∧ runA C s = some (w, [])
  | n, .D c :: X, Y, s, t, w, hn, hX, hY => by
    obtain ⟨s', rfl, h⟩ := run_D hX
    match n, hn with
    | 0, hn => simp at hn
    | n + 1, hn =>
      obtain ⟨C, h1, h2⟩ := comp_run n X Y s' t w (by simp at hn; omega) h hY
      exact ⟨.D c :: C, by rw [compA, h1]; rfl, run_Di c h2⟩
  | n, [], .P c :: Y, s, t, w, hn, hX, hY => by
    obtain ⟨w', rfl, h⟩ := run_P hY
    match n, hn with
    | 0, hn => simp at hn
    | n + 1, hn =>
      obtain ⟨C, h1, h2⟩ := comp_run n [] Y s t w' (by simp at hn ⊢; omega) hX h
      exact ⟨.P c :: C, cP h1 (by intro c x e; cases e), run_Pi c h2⟩
  | n, .K :: X, .P c :: Y, s, t, w, hn, hX, hY => by
    obtain ⟨w', rfl, h⟩ := run_P hY
    match n, hn with
    | 0, hn => simp at hn
    | n + 1, hn =>
      obtain ⟨C, h1, h2⟩ := comp_run n (.K :: X) Y s t w' (by simp at hn ⊢; omega) hX h
      exact ⟨.P c :: C, cP h1 (by intro c x e; cases e), run_Pi c h2⟩
  | n, .P d :: X, .P c :: Y, s, t, w, hn, hX, hY => by
    obtain ⟨w', rfl, h⟩ := run_P hY
    match n, hn with
    | 0, hn => simp at hn
    | n + 1, hn =>
      obtain ⟨C, h1, h2⟩ := comp_run n (.P d :: X) Y s t w' (by simp at hn ⊢; omega) hX h
      exact ⟨.P c :: C, cP h1 (by intro c x e; cases e), run_Pi c h2⟩
  | n, .K :: X, .K :: Y, s, t, w, hn, hX, hY => by
    obtain ⟨c, s', t', rfl, rfl, h⟩ := run_K hX
    obtain ⟨c2, t2, w', e, rfl, g⟩ := run_K hY
    cases e
    match n, hn with
    | 0, hn => simp at hn
    | n + 1, hn =>
      obtain ⟨C, h1, h2⟩ := comp_run n X Y s' _ w' (by simp at hn ⊢; omega) h g
      exact ⟨.K :: C, by rw [compA, h1]; rfl, run_Ki c h2⟩
  | n, .K :: X, .D d :: Y, s, t, w, hn, hX, hY => by
    obtain ⟨c, s', t', rfl, rfl, h⟩ := run_K hX
    obtain ⟨t2, e, g⟩ := run_D hY
    cases e
    match n, hn with
    | 0, hn => simp at hn
    | n + 1, hn =>
      obtain ⟨C, h1, h2⟩ := comp_run n X Y s' _ w (by simp at hn ⊢; omega) h g
      exact ⟨.D d :: C, by rw [compA, h1]; rfl, run_Di d h2⟩
  | n, .P c :: X, .K :: Y, s, t, w, hn, hX, hY => by
    obtain ⟨t', rfl, h⟩ := run_P hX
    obtain ⟨c2, t2, w', e, rfl, g⟩ := run_K hY
    cases e
    match n, hn with
    | 0, hn => simp at hn
    | n + 1, hn =>
      obtain ⟨C, h1, h2⟩ := comp_run n X Y s _ w' (by simp at hn ⊢; omega) h g
      exact ⟨.P c :: C, by rw [compA, h1]; rfl, run_Pi c h2⟩
  | n, .P c :: X, .D d :: Y, s, t, w, hn, hX, hY => by
    obtain ⟨t', rfl, h⟩ := run_P hX
    obtain ⟨t2, e, g⟩ := run_D hY
    cases e
    match n, hn with
    | 0, hn => simp at hn
    | n + 1, hn =>
      obtain ⟨C, h1, h2⟩ := comp_run n X Y s _ w (by simp at hn ⊢; omega) h g
      exact ⟨C, by rw [compA, if_pos rfl, h1], h2⟩
  | n, [], [], s, t, w, hn, hX, hY => by
    obtain ⟨rfl, rfl⟩ := run_nil hX
    obtain ⟨rfl, _⟩ := run_nil hY
    exact ⟨[], by simp [compA], rfl⟩
  | n, [], .K :: Y, s, t, w, hn, hX, hY => by
    obtain ⟨rfl, rfl⟩ := run_nil hX
    obtain ⟨_, _, _, e, _⟩ := run_K hY
    cases e
  | n, [], .D d :: Y, s, t, w, hn, hX, hY => by
    obtain ⟨rfl, rfl⟩ := run_nil hX
    obtain ⟨_, e, _⟩ := run_D hY
    cases e
  | n, .K :: X, [], s, t, w, hn, hX, hY => by
    obtain ⟨c, s', t', rfl, rfl, h⟩ := run_K hX
    have := (run_nil hY).2
    cases this
  | n, .P c :: X, [], s, t, w, hn, hX, hY => by
    obtain ⟨t', rfl, h⟩ := run_P hX
    have := (run_nil hY).2
    cases this
/-- Carried over each other, two changes come to one text. -/
theorem carr_run : ∀ (n : Nat) (X Y : List Atm) (s t u : List UInt8), X.length + Y.length ≤ n → runA X s = some (t, []) → runA Y s = some (u, []) →
    ∃ U V w, carrA X Y = some (U, V) ∧ runA V t = some (w, []) ∧ runA U u = some (w, []) ∧ w.length ≤ t.length + u.length
  | n, .P c :: X, Y, s, t, u, hn, hX, hY => by
    obtain ⟨t', rfl, h⟩ := run_P hX
    match n, hn with
    | 0, hn => simp at hn
    | n + 1, hn =>
      obtain ⟨U, V, w, h1, h2, h3, h4⟩ := carr_run n X Y s t' u (by simp at hn; omega) h hY
      exact ⟨.P c :: U, .K :: V, c :: w, by rw [carrA, h1]; rfl, run_Ki c h2, run_Pi c h3, by simp; omega⟩
  | n, [], .P c :: Y, s, t, u, hn, hX, hY => by
    obtain ⟨u', rfl, h⟩ := run_P hY
    match n, hn with
    | 0, hn => simp at hn
    | n + 1, hn =>
      obtain ⟨U, V, w, h1, h2, h3, h4⟩ := carr_run n [] Y s t u' (by simp at hn ⊢; omega) hX h
      exact ⟨.K :: U, .P c :: V, c :: w, kP h1 (by intro c x e; cases e), run_Pi c h2, run_Ki c h3, by simp; omega⟩
  | n, .K :: X, .P c :: Y, s, t, u, hn, hX, hY => by
    obtain ⟨u', rfl, h⟩ := run_P hY
    match n, hn with
    | 0, hn => simp at hn
    | n + 1, hn =>
      obtain ⟨U, V, w, h1, h2, h3, h4⟩ := carr_run n (.K :: X) Y s t u' (by simp at hn ⊢; omega) hX h
      exact ⟨.K :: U, .P c :: V, c :: w, kP h1 (by intro c x e; cases e), run_Pi c h2, run_Ki c h3, by simp; omega⟩
  | n, .D d :: X, .P c :: Y, s, t, u, hn, hX, hY => by
    obtain ⟨u', rfl, h⟩ := run_P hY
    match n, hn with
    | 0, hn => simp at hn
    | n + 1, hn =>
      obtain ⟨U, V, w, h1, h2, h3, h4⟩ := carr_run n (.D d :: X) Y s t u' (by simp at hn ⊢; omega) hX h
      exact ⟨.K :: U, .P c :: V, c :: w, kP h1 (by intro c x e; cases e), run_Pi c h2, run_Ki c h3, by simp; omega⟩
  | n, .K :: X, .K :: Y, s, t, u, hn, hX, hY => by
    obtain ⟨c, s', t', rfl, rfl, h⟩ := run_K hX
    obtain ⟨c2, s2, u', e, rfl, g⟩ := run_K hY
    cases e
    match n, hn with
    | 0, hn => simp at hn
    | n + 1, hn =>
      obtain ⟨U, V, w, h1, h2, h3, h4⟩ := carr_run n X Y _ t' u' (by simp at hn ⊢; omega) h g
      exact ⟨.K :: U, .K :: V, c :: w, by rw [carrA, h1]; rfl, run_Ki c h2, run_Ki c h3, by simp; omega⟩
  | n, .D d :: X, .K :: Y, s, t, u, hn, hX, hY => by
    obtain ⟨s', rfl, h⟩ := run_D hX
    obtain ⟨c2, s2, u', e, rfl, g⟩ := run_K hY
    cases e
    match n, hn with
    | 0, hn => simp at hn
    | n + 1, hn =>
      obtain ⟨U, V, w, h1, h2, h3, h4⟩ := carr_run n X Y _ t u' (by simp at hn ⊢; omega) h g
      exact ⟨.D d :: U, V, w, by rw [carrA, h1]; rfl, h2, run_Di d h3, by simp; omega⟩
  | n, .K :: X, .D d :: Y, s, t, u, hn, hX, hY => by
    obtain ⟨s', rfl, g⟩ := run_D hY
    obtain ⟨c2, s2, t', e, rfl, h⟩ := run_K hX
    cases e
    match n, hn with
    | 0, hn => simp at hn
    | n + 1, hn =>
      obtain ⟨U, V, w, h1, h2, h3, h4⟩ := carr_run n X Y _ t' u (by simp at hn ⊢; omega) h g
      exact ⟨U, .D d :: V, w, by rw [carrA, h1]; rfl, run_Di d h2, h3, by simp; omega⟩
  | n, .D c :: X, .D d :: Y, s, t, u, hn, hX, hY => by
    obtain ⟨s', rfl, h⟩ := run_D hX
    obtain ⟨s2, e, g⟩ := run_D hY
    cases e
    match n, hn with
    | 0, hn => simp at hn
    | n + 1, hn =>
      obtain ⟨U, V, w, h1, h2, h3, h4⟩ := carr_run n X Y _ t u (by simp at hn ⊢; omega) h g
      exact ⟨U, V, w, by rw [carrA, if_pos rfl, h1], h2, h3, h4⟩
  | n, [], [], s, t, u, hn, hX, hY => by
    obtain ⟨rfl, rfl⟩ := run_nil hX
    obtain ⟨rfl, _⟩ := run_nil hY
    exact ⟨[], [], [], by simp [carrA], rfl, rfl, by simp⟩
  | n, [], .K :: Y, s, t, u, hn, hX, hY => by
    obtain ⟨rfl, rfl⟩ := run_nil hX
    obtain ⟨_, _, _, e, _⟩ := run_K hY
    cases e
  | n, [], .D d :: Y, s, t, u, hn, hX, hY => by
    obtain ⟨rfl, rfl⟩ := run_nil hX
    obtain ⟨_, e, _⟩ := run_D hY
    cases e
  | n, .K :: X, [], s, t, u, hn, hX, hY => by
    obtain ⟨rfl, rfl⟩ := run_nil hY
    obtain ⟨_, _, _, e, _⟩ := run_K hX
    cases e
  | n, .D d :: X, [], s, t, u, hn, hX, hY => by
    obtain ⟨rfl, rfl⟩ := run_nil hY
    obtain ⟨_, e, _⟩ := run_D hX
    cases e
end Go.Proofs.Ytjccoiephdopkaa

/- Stage 27: the cursor: kind, left. -/
namespace Go.Proofs.Ytjccoiephdopkaa
set_option linter.unusedVariables false
set_option linter.unusedSimpArgs false
open Go Go.RowKit Go.Shelf
set_option maxRecDepth 100000

def kindC : List Sp → Nat
  | [] => 0
  | x :: _ => kindN x
/-- How many bytes a step has. -/
def szS (x : Sp) : Nat := x.k.toNat + x.d.size + x.p.size
def leftC (u : Nat) : List Sp → Nat
  | [] => 0
  | x :: _ => szS x - u
theorem row_head {W : World} {o : Option Addr} {x : Sp} {l : List Sp} (h : RowAt W encS 3 o (x :: l)) : ∃ g off, o = some ⟨g, off, none⟩ ∧ W.cell? ⟨g, off, none⟩ = some (.int .i64 x.k) ∧ W.cell? ⟨g, off + 1, none⟩ = some (.string x.d) ∧ W.cell? ⟨g, off + 2, none⟩ = some (.string x.p) := by
  obtain ⟨g, off, e, hc⟩ := h 0 x rfl
  have h0 := hc 0 (by decide)
  have h1 := hc 1 (by decide)
  have h2 := hc 2 (by decide)
  simp only [Nat.zero_mul, Nat.add_zero] at h0 h1 h2
  exact ⟨g, off, e, h0, h1, h2⟩
end Go.Proofs.Ytjccoiephdopkaa

/- Stage 27: Sizes of the document. -/
namespace Go.Proofs.Ytjccoiephdopkaa
set_option linter.unusedVariables false
set_option linter.unusedSimpArgs false
open Go Go.RowKit Go.Shelf
set_option maxRecDepth 100000

def szD : Option (Nat × Nat) → Value
  | none => .tuple #[.int .i64 0, .int .i64 0, .bool false]
  | some (f, t) => .tuple #[.int .i64 f, .int .i64 t, .bool true]
theorem kind_three (k : Int) (d p : ByteArray) : (kindN ⟨k, d, p⟩ = 0) ∨ (0 < k ∧ d = .empty ∧ p = .empty ∧ kindN ⟨k, d, p⟩ = 1) ∨ (k = 0 ∧ p = .empty ∧ d.size ≠ 0 ∧ kindN ⟨k, d, p⟩ = 2) ∨ (k = 0 ∧ d = .empty ∧ p.size ≠ 0 ∧ kindN ⟨k, d, p⟩ = 3) := by
  have ed : d.size = 0 → d = .empty := fun h => (emp_or d).resolve_right (fun hh => hh.1 h)
  have ep : p.size = 0 → p = .empty := fun h => (emp_or p).resolve_right (fun hh => hh.1 h)
  unfold kindN
  split
  · rename_i h; exact .inr (.inl ⟨h.1, ed h.2.1, ep h.2.2, rfl⟩)
  · split
    · rename_i h; exact .inr (.inr (.inl ⟨h.1, ep h.2.2, h.2.1, rfl⟩))
    · split
      · rename_i h; exact .inr (.inr (.inr ⟨h.1, ed h.2.1, h.2.2, rfl⟩))
      · exact .inl rfl
theorem emp_list : ByteArray.empty.toList = [] := by rw [ByteArray.toList_eq]; rfl
set_option maxHeartbeats 8000000 in
theorem sizesD_any (l : List Sp) (o : Option Addr) (c : Nat) (hn : l.length ≤ 9223372036854775807) (ho : OkS l) (w : World) (hr : RowAt w encS 3 o l) :
    Calls Try.prog 10 #[.slice o l.length c] w fun e w' => e = .returned (szD (sizeG l 0 0)) ∧ Below w.heap.size w w' := by
  go_enter Try.func10, Try.ntmps10
  go_wp2
  go_loopw [5, 6, 7] (fun a b i W => ∃ (f t k : Nat), a = .int .i64 f ∧ b = .int .i64 t ∧ i = .int .i64 k ∧ k ≤ l.length ∧ f ≤ 65536 ∧ t ≤ 65536 ∧ sizeG (l.drop k) f t = sizeG l 0 0 ∧ Below w.heap.size w W) (fun _ _ i _ => l.length - (intOf i).toNat)
  case atStart => exact ⟨0, 0, 0, rfl, rfl, rfl, by omega, by omega, by omega, rfl, Below.refl _ _⟩
  case round =>
    obtain ⟨f, t, k, rfl, rfl, rfl, hk, hf, ht, hsz, hB⟩ := hrel
    by_cases hlt : k < l.length
    · obtain ⟨x, hx⟩ : ∃ x, l[k]? = some x := ⟨_, List.getElem?_eq_getElem hlt⟩
      obtain ⟨g, off, rfl, hc⟩ := hr.below encS_len (by decide) hB k x hx
      obtain ⟨q0, q1, q2⟩ := get3 (l := l) hc
      obtain ⟨x1, x2, x3, x4⟩ := ho x (List.mem_of_getElem? hx)
      have hd : l.drop k = x :: l.drop (k + 1) := (List.drop_eq_getElem_cons hlt).trans (by rw [(List.getElem?_eq_some_iff.1 hx).2])
      rw [hd, sizeG] at hsz
      obtain ⟨kk, d, p⟩ := x
      simp only at x1 x2 x3 x4 q0 q1 q2
      have hb := (Below.refl wr.heap.size wr).alloc (Nat.le_refl _) (.cells #[.int .i64 kk, .string d, .string p] 54)
      have HS := Lib.hid (And.intro hsz (hB.trans (hb.mono hB.size)))
      have hkl : (k : Int) < (l.length : Int) := by omega
      have j5 : IntKind.i64.wrap ((k : Int) + 1) = ((k + 1 : Nat) : Int) := by rw [IntWalk.i64_in _ (by omega)]; omega
      clear hsz hB hx hc hd hr hb
      by_cases hq : kindN ⟨kk, d, p⟩ = 0
      · have HQ := Lib.hid hq
        unfold kindN at hq
        rcases Int.lt_trichotomy kk 0 with h0 | h0 | h0
        all_goals (rcases emp_or d with rfl | ⟨d0, d1, d2, d3⟩)
        all_goals (rcases emp_or p with rfl | ⟨p0, p1, p2, p3⟩)
        all_goals (first
          | (exfalso; subst h0; simp_all; done)
          | (exfalso; have h9 := hq; simp_all; done)
          | (clear hq
             first
             | subst h0
             | (have k1 : ¬ 0 < kk := by omega
                have k2 : (kk == 0) = false := by rw [beq_eq_false_iff_ne]; omega
                have k3 : ¬ kk = 0 := by omega)
             | (have k2 : (kk == 0) = false := by rw [beq_eq_false_iff_ne]; omega
                have k3 : ¬ kk = 0 := by omega)
             go_wp2
             refine bodyPost_ret (results_tmp3 rfl _ _ _) rfl ?_
             refine ⟨?_, HS.out.2⟩
             rw [← HS.out.1, if_pos (Or.inl HQ.out)]
             rfl))
      · have HQ := Lib.hid hq
        have hk3 := kind_three kk d p
        have hkp := kind_pos hq
        simp only at hkp
        clear hq
        obtain ⟨kn, rfl⟩ : ∃ kn : Nat, kk = kn := ⟨kk.toNat, by omega⟩
        rcases hk3 with h | ⟨h0, hd, hp, _⟩ | ⟨h0, hp, hd, _⟩ | ⟨h0, hd, hp, _⟩
        · exact absurd h HQ.out
        · have a1 : decide ((0 : Int) < (kn : Int)) = true := decide_eq_true h0
          have a2 : decide (0 < kn) = true := decide_eq_true (by omega)
          have a3 : ((kn : Int) == 0) = false := by rw [beq_eq_false_iff_ne]; omega
          have a4 : (kn == 0) = false := by rw [beq_eq_false_iff_ne]; omega
          have a5 : ¬ kn = 0 := by omega
          have d1 : (d.toList == []) = true := by rw [hd, emp_list]; rfl
          have d2 : d.toList.isEmpty = true := by rw [hd, emp_list]; rfl
          have p1 : (p.toList == []) = true := by rw [hp, emp_list]; rfl
          have p2 : p.toList.isEmpty = true := by rw [hp, emp_list]; rfl
          clear h0 hd hp hkp
          by_cases h6 : 65536 < kn
          · have e3 : decide ((65536 : Int) < (kn : Int)) = true := decide_eq_true (by omega)
            have e3' : decide (65536 < kn) = true := decide_eq_true (by omega)
            go_wp2
            refine bodyPost_ret (results_tmp3 rfl _ _ _) rfl ?_
            refine ⟨?_, HS.out.2⟩
            rw [← HS.out.1, if_pos (Or.inr (by show (65536 : Int) < (kn : Int); omega))]
            rfl
          · have e3 : decide ((65536 : Int) < (kn : Int)) = false := decide_eq_false (by omega)
            have e3' : decide (65536 < kn) = false := decide_eq_false (by omega)
            obtain ⟨D, hD⟩ : ∃ D, f + kn = D := ⟨_, rfl⟩
            obtain ⟨F, hF⟩ : ∃ F, f + kn + d.size = F := ⟨_, rfl⟩
            obtain ⟨E, hE⟩ : ∃ E, t + kn = E := ⟨_, rfl⟩
            obtain ⟨T, hT⟩ : ∃ T, t + kn + p.size = T := ⟨_, rfl⟩
            have j1 : IntKind.i64.wrap ((f : Int) + (kn : Int)) = (D : Int) := by rw [IntWalk.i64_in _ (by omega)]; omega
            have j2 : IntKind.i64.wrap ((D : Int) + (d.size : Int)) = (F : Int) := by rw [IntWalk.i64_in _ (by omega)]; omega
            have j3 : IntKind.i64.wrap ((t : Int) + (kn : Int)) = (E : Int) := by rw [IntWalk.i64_in _ (by omega)]; omega
            have j4 : IntKind.i64.wrap ((E : Int) + (p.size : Int)) = (T : Int) := by rw [IntWalk.i64_in _ (by omega)]; omega
            have hS1 := HS.out.1
            rw [if_neg (by intro h; rcases h with h | h; exact HQ.out h; exact absurd h (by show ¬ (65536 : Int) < (kn : Int); omega))] at hS1
            simp only [Int.toNat_natCast, hF, hT] at hS1
            have HS3 := Lib.hid hS1
            clear hS1 hD hF hE hT x1 x2 x3 x4
            by_cases hF6 : 65536 < F
            · have e4 : decide ((65536 : Int) < (F : Int)) = true := decide_eq_true (by omega)
              go_wp2
              refine bodyPost_ret (results_tmp3 rfl _ _ _) rfl ?_
              refine ⟨?_, HS.out.2⟩
              rw [← HS3.out, if_pos (Or.inl hF6)]
              rfl
            · have e4 : decide ((65536 : Int) < (F : Int)) = false := decide_eq_false (by omega)
              by_cases hT6 : 65536 < T
              · have e5 : decide ((65536 : Int) < (T : Int)) = true := decide_eq_true (by omega)
                go_wp2
                refine bodyPost_ret (results_tmp3 rfl _ _ _) rfl ?_
                refine ⟨?_, HS.out.2⟩
                rw [← HS3.out, if_pos (Or.inr hT6)]
                rfl
              · have e5 : decide ((65536 : Int) < (T : Int)) = false := decide_eq_false (by omega)
                have HFT : Hid (sizeG (l.drop (k + 1)) F T = sizeG l 0 0) := Lib.hid (by rw [← HS3.out, if_neg (by omega)])
                go_wp2
                go_roundw
                case rel => exact ⟨F, T, k + 1, rfl, rfl, by go_num, by omega, by omega, by omega, HFT.out, HS.out.2⟩
                case measure => simp [intOf] <;> omega
        · have a1 : decide ((0 : Int) < (kn : Int)) = false := decide_eq_false (by omega)
          have a2 : decide (0 < kn) = false := decide_eq_false (by omega)
          have a3 : ((kn : Int) == 0) = true := by rw [beq_iff_eq]; omega
          have a4 : (kn == 0) = true := by rw [beq_iff_eq]; omega
          have d0 := (emp_or d).resolve_left (fun e => hd (by rw [e]; rfl))
          obtain ⟨_, d1, d2, d3⟩ := d0
          have p1 : (p.toList == []) = true := by rw [hp, emp_list]; rfl
          have p2 : p.toList.isEmpty = true := by rw [hp, emp_list]; rfl
          clear h0 hd hp hkp
          by_cases h6 : 65536 < kn
          · have e3 : decide ((65536 : Int) < (kn : Int)) = true := decide_eq_true (by omega)
            have e3' : decide (65536 < kn) = true := decide_eq_true (by omega)
            go_wp2
            refine bodyPost_ret (results_tmp3 rfl _ _ _) rfl ?_
            refine ⟨?_, HS.out.2⟩
            rw [← HS.out.1, if_pos (Or.inr (by show (65536 : Int) < (kn : Int); omega))]
            rfl
          · have e3 : decide ((65536 : Int) < (kn : Int)) = false := decide_eq_false (by omega)
            have e3' : decide (65536 < kn) = false := decide_eq_false (by omega)
            obtain ⟨D, hD⟩ : ∃ D, f + kn = D := ⟨_, rfl⟩
            obtain ⟨F, hF⟩ : ∃ F, f + kn + d.size = F := ⟨_, rfl⟩
            obtain ⟨E, hE⟩ : ∃ E, t + kn = E := ⟨_, rfl⟩
            obtain ⟨T, hT⟩ : ∃ T, t + kn + p.size = T := ⟨_, rfl⟩
            have j1 : IntKind.i64.wrap ((f : Int) + (kn : Int)) = (D : Int) := by rw [IntWalk.i64_in _ (by omega)]; omega
            have j2 : IntKind.i64.wrap ((D : Int) + (d.size : Int)) = (F : Int) := by rw [IntWalk.i64_in _ (by omega)]; omega
            have j3 : IntKind.i64.wrap ((t : Int) + (kn : Int)) = (E : Int) := by rw [IntWalk.i64_in _ (by omega)]; omega
            have j4 : IntKind.i64.wrap ((E : Int) + (p.size : Int)) = (T : Int) := by rw [IntWalk.i64_in _ (by omega)]; omega
            have hS1 := HS.out.1
            rw [if_neg (by intro h; rcases h with h | h; exact HQ.out h; exact absurd h (by show ¬ (65536 : Int) < (kn : Int); omega))] at hS1
            simp only [Int.toNat_natCast, hF, hT] at hS1
            have HS3 := Lib.hid hS1
            clear hS1 hD hF hE hT x1 x2 x3 x4
            by_cases hF6 : 65536 < F
            · have e4 : decide ((65536 : Int) < (F : Int)) = true := decide_eq_true (by omega)
              go_wp2
              refine bodyPost_ret (results_tmp3 rfl _ _ _) rfl ?_
              refine ⟨?_, HS.out.2⟩
              rw [← HS3.out, if_pos (Or.inl hF6)]
              rfl
            · have e4 : decide ((65536 : Int) < (F : Int)) = false := decide_eq_false (by omega)
              by_cases hT6 : 65536 < T
              · have e5 : decide ((65536 : Int) < (T : Int)) = true := decide_eq_true (by omega)
                go_wp2
                refine bodyPost_ret (results_tmp3 rfl _ _ _) rfl ?_
                refine ⟨?_, HS.out.2⟩
                rw [← HS3.out, if_pos (Or.inr hT6)]
                rfl
              · have e5 : decide ((65536 : Int) < (T : Int)) = false := decide_eq_false (by omega)
                have HFT : Hid (sizeG (l.drop (k + 1)) F T = sizeG l 0 0) := Lib.hid (by rw [← HS3.out, if_neg (by omega)])
                go_wp2
                go_roundw
                case rel => exact ⟨F, T, k + 1, rfl, rfl, by go_num, by omega, by omega, by omega, HFT.out, HS.out.2⟩
                case measure => simp [intOf] <;> omega
        · have a1 : decide ((0 : Int) < (kn : Int)) = false := decide_eq_false (by omega)
          have a2 : decide (0 < kn) = false := decide_eq_false (by omega)
          have a3 : ((kn : Int) == 0) = true := by rw [beq_iff_eq]; omega
          have a4 : (kn == 0) = true := by rw [beq_iff_eq]; omega
          have p0 := (emp_or p).resolve_left (fun e => hp (by rw [e]; rfl))
          obtain ⟨_, p1, p2, p3⟩ := p0
          have d1 : (d.toList == []) = true := by rw [hd, emp_list]; rfl
          have d2 : d.toList.isEmpty = true := by rw [hd, emp_list]; rfl
          clear h0 hd hp hkp
          by_cases h6 : 65536 < kn
          · have e3 : decide ((65536 : Int) < (kn : Int)) = true := decide_eq_true (by omega)
            have e3' : decide (65536 < kn) = true := decide_eq_true (by omega)
            go_wp2
            refine bodyPost_ret (results_tmp3 rfl _ _ _) rfl ?_
            refine ⟨?_, HS.out.2⟩
            rw [← HS.out.1, if_pos (Or.inr (by show (65536 : Int) < (kn : Int); omega))]
            rfl
          · have e3 : decide ((65536 : Int) < (kn : Int)) = false := decide_eq_false (by omega)
            have e3' : decide (65536 < kn) = false := decide_eq_false (by omega)
            obtain ⟨D, hD⟩ : ∃ D, f + kn = D := ⟨_, rfl⟩
            obtain ⟨F, hF⟩ : ∃ F, f + kn + d.size = F := ⟨_, rfl⟩
            obtain ⟨E, hE⟩ : ∃ E, t + kn = E := ⟨_, rfl⟩
            obtain ⟨T, hT⟩ : ∃ T, t + kn + p.size = T := ⟨_, rfl⟩
            have j1 : IntKind.i64.wrap ((f : Int) + (kn : Int)) = (D : Int) := by rw [IntWalk.i64_in _ (by omega)]; omega
            have j2 : IntKind.i64.wrap ((D : Int) + (d.size : Int)) = (F : Int) := by rw [IntWalk.i64_in _ (by omega)]; omega
            have j3 : IntKind.i64.wrap ((t : Int) + (kn : Int)) = (E : Int) := by rw [IntWalk.i64_in _ (by omega)]; omega
            have j4 : IntKind.i64.wrap ((E : Int) + (p.size : Int)) = (T : Int) := by rw [IntWalk.i64_in _ (by omega)]; omega
            have hS1 := HS.out.1
            rw [if_neg (by intro h; rcases h with h | h; exact HQ.out h; exact absurd h (by show ¬ (65536 : Int) < (kn : Int); omega))] at hS1
            simp only [Int.toNat_natCast, hF, hT] at hS1
            have HS3 := Lib.hid hS1
            clear hS1 hD hF hE hT x1 x2 x3 x4
            by_cases hF6 : 65536 < F
            · have e4 : decide ((65536 : Int) < (F : Int)) = true := decide_eq_true (by omega)
              go_wp2
              refine bodyPost_ret (results_tmp3 rfl _ _ _) rfl ?_
              refine ⟨?_, HS.out.2⟩
              rw [← HS3.out, if_pos (Or.inl hF6)]
              rfl
            · have e4 : decide ((65536 : Int) < (F : Int)) = false := decide_eq_false (by omega)
              by_cases hT6 : 65536 < T
              · have e5 : decide ((65536 : Int) < (T : Int)) = true := decide_eq_true (by omega)
                go_wp2
                refine bodyPost_ret (results_tmp3 rfl _ _ _) rfl ?_
                refine ⟨?_, HS.out.2⟩
                rw [← HS3.out, if_pos (Or.inr hT6)]
                rfl
              · have e5 : decide ((65536 : Int) < (T : Int)) = false := decide_eq_false (by omega)
                have HFT : Hid (sizeG (l.drop (k + 1)) F T = sizeG l 0 0) := Lib.hid (by rw [← HS3.out, if_neg (by omega)])
                go_wp2
                go_roundw
                case rel => exact ⟨F, T, k + 1, rfl, rfl, by go_num, by omega, by omega, by omega, HFT.out, HS.out.2⟩
                case measure => simp [intOf] <;> omega
    · obtain rfl : k = l.length := by omega
      rw [List.drop_length, sizeG] at hsz
      have HS := Lib.hid (And.intro hsz hB)
      clear hsz hB hr
      go_wp2
      refine bodyPost_ret (results_tmp3 rfl _ _ _) rfl ?_
      exact ⟨by rw [← HS.out.1]; rfl, HS.out.2⟩
end Go.Proofs.Ytjccoiephdopkaa

/- Stage 27: the cursor: take. -/
namespace Go.Proofs.Ytjccoiephdopkaa
set_option linter.unusedVariables false
set_option linter.unusedSimpArgs false
open Go Go.RowKit Go.Shelf
set_option maxRecDepth 100000

/-- All stays but one block. -/
structure KpC (C : Nat) (W W' : World) : Prop where
  os : W'.os = W.os
  tape : W'.tape = W.tape
  output : W'.output = W.output
  size : W.heap.size ≤ W'.heap.size
  blk : ∀ q, q < W.heap.size → q ≠ C → W'.heap[q]? = W.heap[q]?
theorem KpC.of_below {C : Nat} {W X : World} (hb : Below W.heap.size W X) : KpC C W X := ⟨hb.os, hb.tape, hb.output, hb.size, fun q hq _ => hb.block q hq⟩
theorem KpC.trans {C : Nat} {X Y Z : World} (h : KpC C X Y) (g : KpC C Y Z) : KpC C X Z :=
  ⟨g.os.trans h.os, g.tape.trans h.tape, g.output.trans h.output, Nat.le_trans h.size g.size, fun q hq hB => (g.blk q (Nat.lt_of_lt_of_le hq h.size) hB).trans (h.blk q hq hB)⟩
theorem KpC.set (C o : Nat) (v : Value) (W : World) : KpC C W (W.setCell ⟨C, o, none⟩ v) := ⟨rfl, rfl, rfl, by simp, fun q hq hB => Below.heap_setCell _ _ _ _ (fun e => hB e)⟩
/-- What a step hands back of its bytes. -/
def takeS (x : Sp) (u n : Nat) : ByteArray := if kindN x = 2 then x.d.extract u (u + n) else if kindN x = 3 then x.p.extract u (u + n) else .empty
theorem row_tail {w : World} {g off : Nat} {x : Sp} {l : List Sp} (h : RowAt w encS 3 (some ⟨g, off, none⟩) (x :: l)) : RowAt w encS 3 (some ⟨g, off + 3, none⟩) l := by
  intro i y hi
  obtain ⟨g', off', e, hc⟩ := h (i + 1) y hi
  cases e
  refine ⟨g, off + 3, rfl, fun j hj => ?_⟩
  rw [← hc j hj, Nat.succ_mul]
  congr 2
  omega
end Go.Proofs.Ytjccoiephdopkaa

/- Stage 27: the cursor, byte by byte: what is left of a change; rows of equal bytes at once. -/
namespace Go.Proofs.Ytjccoiephdopkaa
set_option linter.unusedVariables false
set_option linter.unusedSimpArgs false
open Go Go.RowKit Go.Shelf
set_option maxRecDepth 100000

/-- What is left of a change. -/
def restC (l : List Sp) (u : Nat) : List Atm := (atL l).drop u
def okSp (x : Sp) : Prop := kindN x ≠ 0 ∧ 0 ≤ x.k ∧ x.k ≤ 65536 ∧ x.d.size ≤ 65536 ∧ x.p.size ≤ 65536
structure CuV (l : List Sp) (u : Nat) : Prop where
  ok : ∀ x ∈ l, okSp x
  nil : l = [] → u = 0
  lt : ∀ x r, l = x :: r → u < szS x
  len : l.length ≤ 1000000
theorem atS_len (x : Sp) : (atS x).length = szS x := by
  simp only [atS, szS, List.length_append, List.length_replicate, List.length_map, bL_len]; omega
theorem bL_ext (s : ByteArray) (a n : Nat) : bL (s.extract a (a + n)) = ((bL s).drop a).take n := by
  simp [bL, ByteArray.data_extract, List.extract]
theorem kinds (x : Sp) (h : okSp x) : (kindN x = 1 ∧ atS x = List.replicate (szS x) .K ∧ 0 < szS x) ∨ (kindN x = 2 ∧ atS x = (bL x.d).map .D ∧ szS x = x.d.size ∧ 0 < szS x) ∨ (kindN x = 3 ∧ atS x = (bL x.p).map .P ∧ szS x = x.p.size ∧ 0 < szS x) := by
  obtain ⟨k, d, p⟩ := x
  rcases kind_three k d p with h0 | ⟨h1, h2, h3, h4⟩ | ⟨h1, h2, h3, h4⟩ | ⟨h1, h2, h3, h4⟩
  · exact absurd h0 h.1
  · subst h2; subst h3
    refine .inl ⟨h4, ?_, ?_⟩
    · simp [atS, szS, emp_size, bL_emp]
    · simp only [szS, emp_size]; omega
  · subst h1; subst h2
    exact .inr (.inl ⟨h4, by simp [atS, bL_emp], by simp [szS, emp_size], by simp only [szS, emp_size]; omega⟩)
  · subst h1; subst h2
    exact .inr (.inr ⟨h4, by simp [atS, bL_emp], by simp [szS, emp_size], by simp only [szS, emp_size]; omega⟩)
theorem rest_nil : restC [] 0 = [] := rfl
theorem rest_split {x : Sp} {l : List Sp} {u n : Nat} (h : u + n ≤ szS x) : restC (x :: l) u = ((atS x).drop u).take n ++ restC (x :: l) (u + n) := by
  have e : atL (x :: l) = atS x ++ atL l := rfl
  unfold restC
  have h1 : (atS x ++ atL l).drop u = (atS x).drop u ++ atL l := List.drop_append_of_le_length (by rw [atS_len]; omega)
  rw [e, ← List.drop_drop, h1]
  have h2 : ((atS x).drop u).take n = ((atS x).drop u ++ atL l).take n := (List.take_append_of_le_length (by rw [List.length_drop, atS_len]; omega)).symm
  rw [h2]
  exact (List.take_append_drop n _).symm
theorem rest_next {x : Sp} {l : List Sp} : restC (x :: l) (szS x) = restC l 0 := by
  have e : atL (x :: l) = atS x ++ atL l := rfl
  unfold restC
  rw [e, ← atS_len, List.drop_left]; rfl
/-- What a take hands back, and what is left then. -/
def Chk (k : Nat) (s : ByteArray) (n : Nat) (A B : List Atm) : Prop :=
  (k = 1 ∧ A = List.replicate n .K ++ B) ∨ (k = 2 ∧ (bL s).length = n ∧ A = (bL s).map .D ++ B) ∨ (k = 3 ∧ (bL s).length = n ∧ A = (bL s).map .P ++ B)
theorem chk_of {x : Sp} {l : List Sp} {u n : Nat} (hx : okSp x) (h : u + n ≤ szS x) : Chk (kindN x) (takeS x u n) n (restC (x :: l) u) (restC (x :: l) (u + n)) := by
  rw [rest_split h]
  rcases kinds x hx with ⟨h1, h2, h3⟩ | ⟨h1, h2, h3, h4⟩ | ⟨h1, h2, h3, h4⟩
  · refine .inl ⟨h1, ?_⟩
    rw [h2, List.drop_replicate, List.take_replicate, Nat.min_eq_left (by omega)]
  · have e : takeS x u n = x.d.extract u (u + n) := by unfold takeS; rw [if_pos h1]
    refine .inr (.inl ⟨h1, ?_, ?_⟩)
    · rw [e, bL_ext, List.length_take, List.length_drop, bL_len]; omega
    · rw [e, bL_ext, h2, ← List.map_drop, ← List.map_take]
  · have e : takeS x u n = x.p.extract u (u + n) := by unfold takeS; rw [if_neg (by omega), if_pos h1]
    refine .inr (.inr ⟨h1, ?_, ?_⟩)
    · rw [e, bL_ext, List.length_take, List.length_drop, bL_len]; omega
    · rw [e, bL_ext, h2, ← List.map_drop, ← List.map_take]
/-- What a cursor's kind tells. -/
theorem kind_rest {l : List Sp} {u : Nat} (h : CuV l u) : (kindC l = 0 ∧ l = [] ∧ restC l u = []) ∨ (kindC l = 1 ∧ 0 < leftC u l ∧ ∃ r, restC l u = .K :: r) ∨ (kindC l = 2 ∧ 0 < leftC u l ∧ ∃ c r, restC l u = .D c :: r) ∨ (kindC l = 3 ∧ 0 < leftC u l ∧ ∃ c r, restC l u = .P c :: r) := by
  cases l with
  | nil => rw [h.nil rfl]; exact .inl ⟨rfl, rfl, rfl⟩
  | cons x l =>
    have hlt := h.lt x l rfl
    have hc := chk_of (l := l) (h.ok x (by simp)) (u := u) (n := 1) (by omega)
    have hl : 0 < leftC u (x :: l) := by show 0 < szS x - u; omega
    right
    rcases hc with ⟨h1, h2⟩ | ⟨h1, h2, h3⟩ | ⟨h1, h2, h3⟩
    · exact .inl ⟨h1, hl, _, h2⟩
    · obtain ⟨c, hc⟩ := List.length_eq_one_iff.1 h2
      rw [hc] at h3
      exact .inr (.inl ⟨h1, hl, _, _, h3⟩)
    · obtain ⟨c, hc⟩ := List.length_eq_one_iff.1 h2
      rw [hc] at h3
      exact .inr (.inr ⟨h1, hl, _, _, h3⟩)
/-- How far a cursor has to go. -/
def muC (W : World) (C : Nat) : Nat :=
  match W.cell? ⟨C, 0, none⟩, W.cell? ⟨C, 1, none⟩ with
  | some (.slice _ n _), some (.int _ u) => n * 1000000 - u.toNat
  | _, _ => 0
theorem comp_D (c : UInt8) (x y : List Atm) : compA (.D c :: x) y = (compA x y).map (.D c :: ·) := by rw [compA]
theorem comp_P (c : UInt8) (x y : List Atm) (hx : ∀ (c : UInt8) (z : List Atm), x = .D c :: z → False) : compA x (.P c :: y) = (compA x y).map (.P c :: ·) := compA.eq_2 x c y hx
theorem map_app {A : Type} (a : A) (b : List A) (o : Option (List A)) : (o.map (b ++ ·)).map (a :: ·) = o.map ((a :: b) ++ ·) := by cases o <;> rfl
theorem comp_Ds (ds : List UInt8) (x y : List Atm) : compA (ds.map .D ++ x) y = (compA x y).map (ds.map .D ++ ·) := by
  induction ds with
  | nil => cases h : compA x y <;> simp [h]
  | cons c ds ih => rw [List.map_cons, List.cons_append, comp_D, ih, map_app]
theorem comp_Ps (ps : List UInt8) (x y : List Atm) (hx : ∀ (c : UInt8) (z : List Atm), x = .D c :: z → False) : compA x (ps.map .P ++ y) = (compA x y).map (ps.map .P ++ ·) := by
  induction ps with
  | nil => cases h : compA x y <;> simp [h]
  | cons c ps ih => rw [List.map_cons, List.cons_append, comp_P _ _ _ hx, ih, map_app]
theorem comp_KK (n : Nat) (x y : List Atm) : compA (List.replicate n .K ++ x) (List.replicate n .K ++ y) = (compA x y).map (List.replicate n .K ++ ·) := by
  induction n with
  | zero => cases h : compA x y <;> simp [h]
  | succ n ih => rw [List.replicate_succ, List.cons_append, List.cons_append, compA, ih, map_app]
theorem comp_KD (ds : List UInt8) (x y : List Atm) : compA (List.replicate ds.length .K ++ x) (ds.map .D ++ y) = (compA x y).map (ds.map .D ++ ·) := by
  induction ds with
  | nil => cases h : compA x y <;> simp [h]
  | cons c ds ih => rw [List.map_cons, List.length_cons, List.replicate_succ, List.cons_append, List.cons_append, compA, ih, map_app]
theorem comp_PK (ps : List UInt8) (x y : List Atm) : compA (ps.map .P ++ x) (List.replicate ps.length .K ++ y) = (compA x y).map (ps.map .P ++ ·) := by
  induction ps with
  | nil => cases h : compA x y <;> simp [h]
  | cons c ps ih => rw [List.map_cons, List.length_cons, List.replicate_succ, List.cons_append, List.cons_append, compA, ih, map_app]
theorem comp_PD : ∀ (ps ds : List UInt8) (x y : List Atm), ps.length = ds.length → compA (ps.map .P ++ x) (ds.map .D ++ y) = if ps = ds then compA x y else none
  | [], [], x, y, _ => by simp
  | [], d :: ds, _, _, h => by simp at h
  | c :: ps, [], _, _, h => by simp at h
  | c :: ps, d :: ds, x, y, h => by
    rw [List.map_cons, List.map_cons, List.cons_append, List.cons_append, compA, comp_PD ps ds x y (by simpa using h)]
    by_cases e : c = d
    · subst e; simp
    · simp [e]
end Go.Proofs.Ytjccoiephdopkaa

/- Stage 27: may. -/
namespace Go.Proofs.Ytjccoiephdopkaa
set_option linter.unusedVariables false
set_option linter.unusedSimpArgs false
open Go Go.RowKit Go.Shelf
set_option maxRecDepth 100000

/-- A change as it came in. -/
structure Ch where
  o : Option Addr
  l : List Sp
  c : Nat
def encC (x : Ch) : List Value := [.slice x.o x.l.length x.c]
theorem encC_len (x : Ch) : (encC x).length = 1 := rfl
def mayB : List Ch → Bool
  | [] => true
  | x :: r => (sizeG x.l 0 0).isSome && mayB r
set_option maxHeartbeats 4000000 in
theorem may_any (ls : List Ch) (o : Option Addr) (c : Nat) (hn : ls.length ≤ 1000) (w : World) (hr : RowAt w encC 1 o ls) (hx : ∀ x ∈ ls, x.l.length ≤ 9223372036854775807 ∧ OkS x.l ∧ RowAt w encS 3 x.o x.l) :
    Calls Try.prog 25 #[.slice o ls.length c] w fun e w' => e = .returned (.bool (mayB ls)) ∧ Below w.heap.size w w' := by
  have HX := Lib.hid (And.intro hr hx)
  clear hr hx
  go_enter Try.func25, Try.ntmps25
  go_wp2
  go_loopw [10] (fun i W => ∃ (k : Nat), i = .int .i64 k ∧ k ≤ ls.length ∧ mayB (ls.drop k) = mayB ls ∧ Below w.heap.size w W) (fun i _ => ls.length - (intOf i).toNat)
  case atStart => exact ⟨0, rfl, by omega, rfl, Below.refl _ _⟩
  case round =>
    obtain ⟨k, rfl, hk, hm, hB⟩ := hrel
    by_cases hlt : k < ls.length
    · obtain ⟨x, hx⟩ : ∃ x, ls[k]? = some x := ⟨_, List.getElem?_eq_getElem hlt⟩
      obtain ⟨g, off, rfl, hc⟩ := HX.out.1.below encC_len (by decide) hB k x hx
      have q0 := hc 0 (by decide)
      simp only [Nat.mul_one, Nat.add_zero] at q0
      replace q0 : wr.cell? ⟨g, off + k, none⟩ = some (.slice x.o x.l.length x.c) := q0
      obtain ⟨h1, h2, h3⟩ := HX.out.2 x (List.mem_of_getElem? hx)
      have cS := sizes_any x.l x.o x.c h1 h2 wr (h3.below encS_len (by decide) hB)
      have hd : ls.drop k = x :: ls.drop (k + 1) := (List.drop_eq_getElem_cons hlt).trans (by rw [(List.getElem?_eq_some_iff.1 hx).2])
      rw [hd, mayB] at hm
      have hkl : (k : Int) < (ls.length : Int) := by omega
      have j5 : IntKind.i64.wrap ((k : Int) + 1) = ((k + 1 : Nat) : Int) := by rw [IntWalk.i64_in _ (by omega)]; omega
      have HM := Lib.hid (And.intro hm hB)
      clear hm hB hc hx hd h1 h2 h3
      cases hsz : sizeG x.l 0 0 with
      | none =>
        rw [hsz] at cS
        have HZ := Lib.hid hsz
        clear hsz
        go_wp2_with (fail)
        refine cS.mono ?_
        rintro e W1 ⟨rfl, hb1⟩
        simp only [szV]
        have HB := Lib.hid (HM.out.2.trans (hb1.mono HM.out.2.size))
        clear hb1
        go_wp2
        go_ret
        refine ⟨?_, HB.out⟩
        rw [← HM.out.1, HZ.out]
        rfl
      | some ft =>
        obtain ⟨f, t⟩ := ft
        rw [hsz] at cS
        have HZ := Lib.hid hsz
        clear hsz
        go_wp2_with (fail)
        refine cS.mono ?_
        rintro e W1 ⟨rfl, hb1⟩
        simp only [szV]
        have HB := Lib.hid (HM.out.2.trans (hb1.mono HM.out.2.size))
        clear hb1
        go_wp2
        go_roundw
        case rel => exact ⟨k + 1, by go_num, by omega, by rw [← HM.out.1, HZ.out]; rfl, HB.out⟩
        case measure => simp [intOf] <;> omega
    · obtain rfl : k = ls.length := by omega
      rw [List.drop_length] at hm
      have HM := Lib.hid (And.intro hm hB)
      clear hm hB
      go_wp2
      go_ret
      exact ⟨by rw [← HM.out.1]; rfl, HM.out.2⟩
end Go.Proofs.Ytjccoiephdopkaa

/- Stage 27: two cursors and a maker, side by side. -/
namespace Go.Proofs.Ytjccoiephdopkaa
set_option linter.unusedVariables false
set_option linter.unusedSimpArgs false
open Go Go.RowKit Go.Shelf
set_option maxRecDepth 100000

theorem KpC.grown {C : Nat} {W X : World} (h : KpC C W X) : W.grownBy X (some C) :=
  ⟨h.os, h.tape, h.output, h.size, fun q hq hn => h.blk q hq (fun e => hn (by rw [e]))⟩
theorem MkB.keptC {W X : World} {B b C : Nat} {vo vp vd : Value} {m : Mk} (h : MkB W B b vo vp vd m) (hk : KpC C W X) (hC : C < B) : MkB X B b vo vp vd m := by
  have hb := h.bb
  have hn := h.n3 (q := C) (by omega)
  have hg := hk.grown
  exact ⟨(hk.blk B h.blk.lt (by omega)).trans h.blk, h.ro.kept hg (.inr (fun e => hn.1 e.symm)), h.rp.kept hg (.inr (fun e => hn.2.1 e.symm)), h.rd.kept hg (.inr (fun e => hn.2.2 e.symm)), h.ap, hb, Nat.le_trans h.bw hk.size⟩
theorem fd_bd (A : List Atm) : (fdL A mk0).out.length + (fdL A mk0).kept + (fdL A mk0).put.size + (fdL A mk0).drop.size ≤ A.length := by
  obtain ⟨h1, h2⟩ := den_fdL A OkM.new
  have h3 := h2.len
  have e : denM mk0 = [] := rfl
  rw [e, List.nil_append] at h3
  have key : ∀ l : List Sp, (∀ x ∈ l, kindN x ≠ 0) → l.length ≤ (atL l).length := by
    intro l
    induction l with
    | nil => intro _; simp
    | cons x l ih =>
      intro hx
      have e : atL (x :: l) = atS x ++ atL l := rfl
      have h5 := kind_one (hx x (by simp))
      have h6 := ih (fun y hy => hx y (by simp [hy]))
      rw [e, List.length_append, atS_len, List.length_cons]
      unfold szS; omega
  have h4 := key _ h1.nz
  unfold denM at h3
  simp only [List.length_append, List.length_replicate, List.length_map, bL_len] at h3
  omega
section
variable {w0 : World} {C1 C2 B b : Nat} {W : World} {l1 l2 : List Sp} {u1 u2 : Nat} {m : Mk}
theorem left_ok {l : List Sp} {u : Nat} (h : CuV l u) : (∀ x ∈ l, 0 ≤ x.k ∧ x.k ≤ 65536 ∧ x.d.size ≤ 65536 ∧ x.p.size ≤ 65536) ∧ u ≤ leftC 0 l ∧ u ≤ 1000000 ∧ leftC u l ≤ 196608 := by
  refine ⟨fun x hx => (h.ok x hx).2, ?_⟩
  cases l with
  | nil => rw [h.nil rfl]; exact ⟨Nat.zero_le _, Nat.zero_le _, Nat.zero_le _⟩
  | cons x l =>
    have h1 := h.lt x l rfl
    have h2 : szS x ≤ 196608 := by unfold szS; obtain ⟨_, _, _, _, _⟩ := h.ok x (by simp); omega
    exact ⟨by show u ≤ szS x - 0; omega, by omega, by show szS x - u ≤ _; omega⟩
/-- What a take does to what is left. -/
def TkR (l : List Sp) (u n : Nat) (s : ByteArray) (l' : List Sp) (u' : Nat) : Prop :=
  CuV l' u' ∧ Chk (kindC l) s n (restC l u) (restC l' u') ∧ (0 < n → l'.length * 1000000 - u' < l.length * 1000000 - u)
end
end Go.Proofs.Ytjccoiephdopkaa
