/- Stage 27: mathematics: a change said place by place; more places, no less. -/
import Derived.Test.YtepbplmggladfaaHm
namespace Go.Proofs.Ytepbplmggladfaa
set_option linter.unusedVariables false
set_option linter.unusedSimpArgs false
open Go Go.RowKit Go.Shelf
set_option maxRecDepth 100000

/-- What the document's Move sums up. -/
def sD (Ps : List ByteArray) (Ds : List Bool) (a : Nat) (bh : Bool) : Nat → Nat
  | 0 => 0
  | q + 1 => sD Ps Ds a bh q + (if q < a ∨ bh = true then (Ps[q]?.getD .empty).size else 0) + (if q < a ∧ Ds[q]?.getD false = false then 1 else 0)
theorem sD_put {Ps : List ByteArray} {Ds : List Bool} {a g : Nat} {bh : Bool} {x s : ByteArray} (h : Ps[g]? = some x) : ∀ q, sD (Ps.set g (x ++ s)) Ds a bh q = sD Ps Ds a bh q + (if g < q ∧ (g < a ∨ bh = true) then s.size else 0)
  | 0 => by simp [sD]
  | q + 1 => by
    have ih := sD_put (Ds := Ds) (a := a) (bh := bh) (s := s) h q
    have hl := (List.getElem?_eq_some_iff.1 h).1
    unfold sD
    rw [ih]
    by_cases e : g = q
    · subst e
      rw [List.getElem?_set_self hl, h]
      simp only [Option.getD_some, ByteArray.size_append, Nat.lt_irrefl, false_and, if_false, Nat.add_zero]
      by_cases h1 : g < a ∨ bh = true
      · have e1 : (if g < a ∨ bh = true then x.size + s.size else 0) = x.size + s.size := if_pos h1
        have e2 : (if g < a ∨ bh = true then x.size else 0) = x.size := if_pos h1
        have e3 : (if g < g + 1 ∧ (g < a ∨ bh = true) then s.size else 0) = s.size := if_pos ⟨Nat.lt_succ_self g, h1⟩
        rw [e1, e2, e3]; omega
      · have e1 : (if g < a ∨ bh = true then x.size + s.size else 0) = 0 := if_neg h1
        have e2 : (if g < a ∨ bh = true then x.size else 0) = 0 := if_neg h1
        have e3 : (if g < g + 1 ∧ (g < a ∨ bh = true) then s.size else 0) = 0 := if_neg fun h2 => h1 h2.2
        rw [e1, e2, e3]; omega
    · rw [List.getElem?_set_ne (fun h => e h)]
      have h3 : (g < q + 1 ∧ (g < a ∨ bh = true)) ↔ (g < q ∧ (g < a ∨ bh = true)) := ⟨fun h => ⟨by omega, h.2⟩, fun h => ⟨by omega, h.2⟩⟩
      simp only [h3]; omega
theorem sD_drop {Ps : List ByteArray} {Ds : List Bool} {a g : Nat} {bh : Bool} (h : Ds[g]? = some false) : ∀ q, sD Ps (Ds.set g true) a bh q + (if g < q ∧ g < a then 1 else 0) = sD Ps Ds a bh q
  | 0 => by simp [sD]
  | q + 1 => by
    have ih := sD_drop (Ps := Ps) (a := a) (bh := bh) h q
    have hl := (List.getElem?_eq_some_iff.1 h).1
    unfold sD
    by_cases e : g = q
    · subst e
      rw [List.getElem?_set_self hl, h]
      simp only [Option.getD_some, Nat.lt_irrefl, false_and, if_false, Nat.add_zero] at ih ⊢
      by_cases h1 : g < a
      · simp [h1]; omega
      · simp [h1]; omega
    · rw [List.getElem?_set_ne (fun h => e h)]
      have h3 : (g < q + 1 ∧ g < a) ↔ (g < q ∧ g < a) := by omega
      simp only [h3]; omega
theorem sD_new (fr a : Nat) (bh : Bool) (ha : a ≤ fr) : ∀ q, q ≤ fr + 1 → sD (List.replicate (fr + 1) .empty) (List.replicate fr false) a bh q = min q a
  | 0, _ => by simp [sD]
  | q + 1, hq => by
    unfold sD
    rw [sD_new fr a bh ha q (by omega), List.getElem?_replicate, List.getElem?_replicate]
    have h0 : q < fr + 1 := by omega
    by_cases h1 : q < a
    · have h2 : q < fr := by omega
      simp [h0, h1, h2, emp_size]; omega
    · simp [h0, h1, emp_size]; omega
/-- What holds of a change said so far. -/
structure SayP (fr : Nat) (Ps : List ByteArray) (Ds : List Bool) (pl gp : Nat) (N : Nat → Bool → Nat) : Prop where
  lP : Ps.length = fr + 1
  lD : Ds.length = fr
  gl : gp ≤ pl
  pf : pl ≤ fr
  cl : ∀ i, pl ≤ i → i < fr → Ds[i]? = some false
  sm : ∀ a bh, a ≤ fr → sD Ps Ds a bh (a + 1) = N a bh + (a - pl)
theorem SayP.new (fr : Nat) : SayP fr (List.replicate (fr + 1) .empty) (List.replicate fr false) 0 0 (fun _ _ => 0) :=
  ⟨by simp, by simp, by omega, by omega, fun i _ h => by rw [List.getElem?_replicate, if_pos h], fun a bh ha => by rw [sD_new fr a bh ha _ (by omega)]; omega⟩
theorem SayP.put {fr : Nat} {Ps : List ByteArray} {Ds : List Bool} {pl gp : Nat} {N : Nat → Bool → Nat} (h : SayP fr Ps Ds pl gp N) {x : ByteArray} (hx : Ps[gp]? = some x) (s : ByteArray) : SayP fr (Ps.set gp (x ++ s)) Ds pl gp (fun a bh => N a bh + cnt a bh gp s.size) := by
  refine ⟨by rw [List.length_set]; exact h.lP, h.lD, h.gl, h.pf, h.cl, fun a bh ha => ?_⟩
  rw [sD_put hx, h.sm a bh ha]
  unfold cnt
  by_cases h1 : gp < a ∨ (gp = a ∧ bh = true)
  · rw [if_pos h1, if_pos (by rcases h1 with h1 | h1; exact ⟨by omega, .inl h1⟩; exact ⟨by omega, .inr h1.2⟩)]; omega
  · rw [if_neg h1, if_neg (by rintro ⟨h2, h3⟩; apply h1; rcases h3 with h3 | h3; exact .inl h3; by_cases h4 : gp < a; exact .inl h4; exact .inr ⟨by omega, h3⟩)]; omega
theorem SayP.drop {fr : Nat} {Ps : List ByteArray} {Ds : List Bool} {pl gp : Nat} {N : Nat → Bool → Nat} (h : SayP fr Ps Ds pl gp N) (hp : pl < fr) : SayP fr Ps (Ds.set pl true) (pl + 1) gp N := by
  have hf := h.cl pl (Nat.le_refl _) hp
  refine ⟨h.lP, by rw [List.length_set]; exact h.lD, by have := h.gl; omega, hp, fun i hi h2 => by rw [List.getElem?_set_ne (by omega)]; exact h.cl i (by omega) h2, fun a bh ha => ?_⟩
  have h1 := sD_drop (Ps := Ps) (a := a) (bh := bh) hf (a + 1)
  rw [h.sm a bh ha] at h1
  by_cases h2 : pl < a
  · rw [if_pos ⟨by omega, h2⟩] at h1; omega
  · rw [if_neg (fun h3 => h2 h3.2)] at h1; omega
theorem SayP.keep {fr : Nat} {Ps : List ByteArray} {Ds : List Bool} {pl gp : Nat} {N : Nat → Bool → Nat} (h : SayP fr Ps Ds pl gp N) (k : Nat) (hp : pl + k ≤ fr) : SayP fr Ps Ds (pl + k) (pl + k) (fun a bh => N a bh + min k (a - pl)) :=
  ⟨h.lP, h.lD, Nat.le_refl _, hp, fun i hi h2 => h.cl i (by omega) h2, fun a bh ha => by rw [h.sm a bh ha]; omega⟩

theorem mv_pl (a a' : Nat) (bh bh' : Bool) : ∀ (l : List Sp) (u v : Mv), u.pl = v.pl → u.gp = v.gp → (l.foldl (mvG a bh) u).pl = (l.foldl (mvG a' bh') v).pl ∧ (l.foldl (mvG a bh) u).gp = (l.foldl (mvG a' bh') v).gp
  | [], _, _, h, g => ⟨h, g⟩
  | x :: l, u, v, h, g => by
    rw [List.foldl_cons, List.foldl_cons]
    exact mv_pl a a' bh bh' l _ _ (by simp only [mvG]; rw [h]) (by simp only [mvG]; rw [h, g])
theorem mv_mono {a a' : Nat} {bh bh' : Bool} (ha : a ≤ a') (hc : ∀ g s, cnt a bh g s ≤ cnt a' bh' g s) : ∀ (l : List Sp) (u v : Mv), u.pl = v.pl → u.gp = v.gp → u.n ≤ v.n → (l.foldl (mvG a bh) u).n ≤ (l.foldl (mvG a' bh') v).n
  | [], _, _, _, _, h => h
  | x :: l, u, v, h, g, hn => by
    rw [List.foldl_cons, List.foldl_cons]
    refine mv_mono ha hc l _ _ (by simp only [mvG]; rw [h]) (by simp only [mvG]; rw [h, g]) ?_
    simp only [mvG]
    have := hc v.gp x.p.size
    rw [g, h]; omega
theorem mv_true (a : Nat) (bh : Bool) (l : List Sp) : (l.foldl (mvG a bh) ⟨0, 0, 0⟩).n ≤ (l.foldl (mvG a true) ⟨0, 0, 0⟩).n :=
  mv_mono (Nat.le_refl _) (fun g s => by unfold cnt; split <;> split <;> simp_all <;> omega) l _ _ rfl rfl (Nat.le_refl _)
theorem mv_next (a : Nat) (l : List Sp) : (l.foldl (mvG a true) ⟨0, 0, 0⟩).n ≤ (l.foldl (mvG (a + 1) false) ⟨0, 0, 0⟩).n :=
  mv_mono (Nat.le_succ _) (fun g s => by unfold cnt; split <;> split <;> simp_all <;> omega) l _ _ rfl rfl (Nat.le_refl _)
/-- Of a change that may be each step may be, and the places are as many as its bytes. -/
theorem sizeG_ok : ∀ (l : List Sp) (f t F T : Nat), sizeG l f t = some (F, T) → f ≤ 65536 → t ≤ 65536 → (∀ x ∈ l, kindN x ≠ 0 ∧ x.k ≤ 65536) ∧ F ≤ 65536 ∧ T ≤ 65536 ∧ f ≤ F ∧ ∀ a bh g n, (l.foldl (mvG a bh) ⟨f, g, n⟩).pl = F
  | [], f, t, F, T, h, hf, ht => by
    simp only [sizeG, Option.some.injEq, Prod.mk.injEq] at h
    obtain ⟨rfl, rfl⟩ := h
    exact ⟨(fun _ h => by cases h), hf, ht, Nat.le_refl _, fun _ _ _ _ => rfl⟩
  | x :: l, f, t, F, T, h, hf, ht => by
    unfold sizeG at h
    split at h
    · cases h
    · rename_i h1
      split at h
      · cases h
      · rename_i h2
        obtain ⟨i1, i2, i3, i4, i5⟩ := sizeG_ok l _ _ F T h (by omega) (by omega)
        refine ⟨fun y hy => ?_, i2, i3, by omega, fun a bh g n => ?_⟩
        · rcases List.mem_cons.1 hy with rfl | hy
          · exact ⟨fun e => h1 (.inl e), by omega⟩
          · exact i1 y hy
        · rw [List.foldl_cons]
          exact i5 a bh _ _
end Go.Proofs.Ytepbplmggladfaa
