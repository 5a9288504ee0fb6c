/- Places: a loop over Each; the place of a line and a column. -/
import Derived.Test.YtjlfdoonhfkabaaQp
namespace Go.Proofs.Ytjlfdoonhfkabaa
set_option linter.unusedVariables false
set_option linter.unusedSimpArgs false
open Go Go.RowKit Go.Shelf
set_option maxRecDepth 100000
attribute [local go_sem] Oper.semAt_some

/-- A loop 'for p := range m.Each()', p in a variable of its own in each round (slot v). -/
theorem range_each {g : Operand} {q : Tmp} {assign body : Code} {Q : Exit → Act → World → Prop} {a : Act} {w : World} (v : Nat) (s : ByteArray) (hs : s.size ≤ 65536) (B m n0 : Nat) (W0 : World) (hM : MapAt s m W0) (hn0 : W0.heap.size = n0) (hS : Same n0 W0 w) (hn : n0 ≤ w.heap.size)
    (hB : Boxed w B 23 (.pointer (some ⟨m, 0, none⟩))) (hg : a.eval g = .func (.func 43) #[] #[.pointer (some ⟨B, 0, none⟩)])
    (I : List Nat → World → Prop) (Ix : Code → List Nat → World → Prop) (hI : AbX w.heap.size FrE I) (hIx : ∀ c, AbX w.heap.size FrE (Ix c)) (h0 : I [] w)
    (hassign : ∀ (l x : Nat) (W : World) (K : Act → World → Prop),
      K { tmps := (a.tmps.setIfInBounds q (.agg (plA (pK s x)))).setIfInBounds v (.pointer (some ⟨W.heap.size, 0, none⟩)), defers := [] } (W.alloc (.cells (plA (pK s x)) 28)) →
      assign.wpIn (Fence.wide.inRound l) 9 Try.prog (Exit.then K (fun _ _ _ => False)) { tmps := a.tmps.setIfInBounds q (.agg (plA (pK s x))), defers := [] } W)
    (hbody : ∀ (l x Bx : Nat) (W : World), I (List.range x) W → w.heap.size ≤ Bx → W.heap[Bx]? = some (.cells (plA (pK s x)) 28) → x ≤ nP s →
      body.wpIn (Fence.wide.inRound l) 9 Try.prog (ownPostG w.heap.size (KpE B n0) I Ix (List.range x ++ [x]) W) { tmps := (a.tmps.setIfInBounds q (.agg (plA (pK s x)))).setIfInBounds v (.pointer (some ⟨Bx, 0, none⟩)), defers := [] } W)
    (hdone : ∀ (D : Nat) (W : World), w.heap.size ≤ D → I (List.range (nP s + 1)) W → W.heap[D]? = some (.deferred (some [])) → Q .normal { a with defers := { target := .collected D, args := #[] } :: a.defers } W)
    (hstop : ∀ (D : Nat) (c : Code) (pre : List Nat) (W : World), w.heap.size ≤ D → pre <+: List.range (nP s + 1) → Ix c pre W → W.heap[D]? = some (.deferred (some [])) → c.wpIn Fence.wide 11 Try.prog Q { a with defers := { target := .collected D, args := #[] } :: a.defers } W) :
    (Code.rangeFunc g #[q] assign body).wpIn Fence.wide 11 Try.prog Q a w := by
  have enters := enters_of Try.func43 (by kernel_rfl) rfl
  refine wpIn_range_d (n := 11) (gf := 43) (lb := #[.pointer (some ⟨B, 0, none⟩)]) (encs := fun k : Nat => #[plV (pK s k)]) (Kp := KpE B n0) (Fr := FrE) (S := fun xs => xs = List.range (nP s + 1)) (Sp := fun pre => pre <+: List.range (nP s + 1)) (Due := fun pre x => pre = List.range x) (N := nP s + 1) rfl (by omega) hg trivial (fun _ _ => enters _ _)
    (fun l J Jx W hW hJ hJx hY h0 => each1 l B m n0 s hs W0 hM hn0 J Jx W (hS.trans (fun k hk => hW.block k (by omega))) (Nat.le_trans hn hW.size) hJ hJx ((show Blk _ _ _ _ from hB).below' hW) hY h0)
    (fun W r o h1 h2 => ⟨o, h1, h2⟩) kpE_t (kpE_b hB.lt hn) (fun _ => rfl)
    (fun pre W => I pre W ∧ w.heap.size ≤ W.heap.size) Ix (hI.and (fun _ _ _ _ hs hg _ => Nat.le_trans hs hg.size)) hIx ⟨h0, Nat.le_refl _⟩
    (fun x a' W => ∃ Bx, w.heap.size ≤ Bx ∧ W.heap[Bx]? = some (.cells (plA (pK s x)) 28) ∧ a' = { tmps := (a.tmps.setIfInBounds q (.agg (plA (pK s x)))).setIfInBounds v (.pointer (some ⟨Bx, 0, none⟩)), defers := [] }) ?_ ?_ ?_ ?_ ?_
  · rintro x a' _ W W' row ⟨Bx, h1, h2, h3⟩ hg hr
    refine ⟨Bx, h1, (hg.block Bx (Array.getElem?_eq_some_iff.1 h2).1 ?_).trans h2, h3⟩
    intro e
    obtain ⟨_, o, ho, hc⟩ := hr Bx e.symm
    rw [h2] at ho; cases ho; cases hc
  · rintro l pre x W K ⟨hi, hsz⟩ hK
    have e0 : ((#[q].zip (#[plV (pK s x)] : Array Value)).foldl (fun t (p, v) => t.setIfInBounds p v) a.tmps) = a.tmps.setIfInBounds q (.agg (plA (pK s x))) := by simp [plV_A]
    rw [e0]
    exact hassign l x W K (hK _ _ ((KeepsOthers.alloc _ _).from _) ⟨⟨KeepsWalks.alloc _ _, Below.heap_alloc W _ _ (Nat.lt_of_lt_of_le hB.lt hsz)⟩, fun k hk => Below.heap_alloc W _ k (by omega)⟩ ⟨hI.alloc _ hi, by simp; omega⟩ ⟨W.heap.size, hsz, World.alloc_heap_new W _, rfl⟩)
  · rintro l pre x a' W _ ⟨hi, hsz⟩ ⟨Bx, h1, h2, rfl⟩ hlen rfl
    rw [List.length_range] at hlen
    refine wpIn_mono (hbody l x Bx W hi h1 h2 (by omega)) ?_
    rintro e a3 W3 hp
    cases e with
    | normal => exact ⟨hp.1, hp.2.1, hp.2.2, Nat.le_trans hsz hp.1.size⟩
    | ret => exact hp
    | exit id => exact hp
    | goto t => exact hp
    | panic ch => exact hp
    | outgrown => exact hp
  · rintro D xs W hD rfl ⟨hi, _⟩ hk
    exact hdone D W hD hi hk
  · exact hstop

/-- Place number x: its line, and where that begins. -/
theorem place_row {s : ByteArray} {x : Nat} (hx : x ≤ nP s) : ∃ fr tt ee j, (rws s)[(pK s x).l]? = some (fr, tt, ee) ∧ j ≤ x ∧ (pK s j).b = fr ∧ (pK s x).c = x - j := by
  have hc := rows_count s
  have hl := pK_l_le s hx
  obtain ⟨⟨fr, tt, ee⟩, hr⟩ : ∃ r, (rws s)[(pK s x).l]? = some r := ⟨_, List.getElem?_eq_getElem (by omega)⟩
  obtain ⟨⟨j, g, j2, hO⟩, hnx, hlast, hz⟩ := rows_at hr
  have hjj := hO.ln j (Nat.le_refl _) (by have := hO.hj; have := hO.hg; omega)
  -- x is not ahead of the line's first place
  have h1 : j ≤ x := by
    rcases Nat.lt_or_ge x j with h | h
    · exfalso
      obtain ⟨i, rfl⟩ : ∃ i, j = i + 1 := ⟨j - 1, by omega⟩
      have h2 := pK_l_le s (show x ≤ i by omega)
      cases h3 : nlAt s (pK s i).b with
      | false => have := (pK_next h3).2; omega
      | true => have := (pK_line h3).1; omega
    · exact h
  -- nor behind its last
  have h2 : x < j2 := by
    by_cases h0 : ee = 0
    · have := (hO.nz h0).1; omega
    · obtain ⟨n1, n2⟩ := hO.nx h0
      rcases Nat.lt_or_ge x j2 with h | h
      · exact h
      · exfalso
        have hkl : (pK s x).l + 1 < (rws s).length := by
          have h3 := fun h => h0 (hlast.1 h)
          have h4 := (List.getElem?_eq_some_iff.1 hr).1
          omega
        obtain ⟨⟨fr', tt', ee'⟩, hr'⟩ : ∃ r, (rws s)[(pK s x).l + 1]? = some r := ⟨_, List.getElem?_eq_getElem hkl⟩
        obtain ⟨⟨j', g', j2', hO'⟩, _⟩ := rows_at hr'
        have h5 := hnx fr' tt' ee' hr'
        have hjj' := hO'.ln j' (Nat.le_refl _) (by have := hO'.hj; have := hO'.hg; omega)
        have h6 : j' = j2 := by
          rcases Nat.lt_trichotomy j' j2 with h | h | h
          · have := pK_b_lt s h; rw [hO'.bj] at this; omega
          · exact h
          · have := pK_b_lt s h; rw [hO'.bj] at this; omega
        subst h6
        have := pK_l_le s h
        omega
  exact ⟨fr, tt, ee, j, hr, h1, hO.bj, (hO.ln x h1 h2).2⟩
end Go.Proofs.Ytjlfdoonhfkabaa
