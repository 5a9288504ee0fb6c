/- PlaceTells: what is asked of the map and of the document, side by side. -/
import Derived.Test.YtjlfdoonhfkabaaRb2
import Derived.Test.YtjlfdoonhfkabaaRs
import Derived.Test.YtjlfdoonhfkabaaEr
import Derived.Test.YtjlfdoonhfkabaaOneA
namespace Go.Proofs.Ytjlfdoonhfkabaa
set_option linter.unusedVariables false
set_option linter.unusedSimpArgs false
open Go Go.RowKit Go.Shelf
set_option maxRecDepth 100000

def EO (e : Int) (ok : Bool) : Prop := (ok = true ∧ e = 0) ∨ (ok = false ∧ e = 5)
theorem q_byte (s : ByteArray) (hs : s.size ≤ 65536) (x : Int) : ∃ (z0 z1 z2 z3 z4 zi e : Int) (ok : Bool),
    (∀ m W, MapAt s m W → Calls Try.prog 17 #[.pointer (some ⟨m, 0, none⟩), .int .i64 x] W fun E w' => E = .returned (.tuple #[.agg #[.int .i64 z0, .int .i64 z1, .int .i64 z2, .int .i64 z3, .int .i64 z4], .int .i64 zi, .int .i64 e]) ∧ Below W.heap.size W w') ∧
    (∀ W, Calls Try.prog 27 #[.string s, .int .i64 x] W fun E w' => E = .returned (.tuple #[.agg #[.int .i64 z0, .int .i64 z1, .int .i64 z2, .int .i64 z3, .int .i64 z4], .int .i64 zi, .bool ok]) ∧ Below W.heap.size W w') ∧ EO e ok := by
  by_cases h : x < 0 ∨ (s.size : Int) < x
  · exact ⟨0, 0, 0, 0, 0, 0, 5, false, fun m W hM => byte_err s hs m W hM x h, fun W => rByte_err s W x h, .inr ⟨rfl, rfl⟩⟩
  · obtain ⟨n, rfl⟩ : ∃ n : Nat, x = n := ⟨x.toNat, by omega⟩
    have hn : n ≤ s.size := by omega
    obtain ⟨j, hj, _, h1, h2⟩ := cntP_spec (s := s) (q := fun p => decide (p.b ≤ n)) (fun i k hik hk h => by rw [decide_eq_true_eq] at h ⊢; have := pK_b_le s hik; omega) (by simp [pK])
    simp only [decide_eq_true_eq, decide_eq_false_iff_not, Nat.not_le] at h1 h2
    exact ⟨_, _, _, _, _, _, 0, true, fun m W hM => byte_any s hs m W hM n hn j hj h1 h2, fun W => rByte_ok s hs W n hn j hj h1 h2, .inl ⟨rfl, rfl⟩⟩
theorem q_unit (s : ByteArray) (hs : s.size ≤ 65536) (x : Int) : ∃ (z0 z1 z2 z3 z4 zi e : Int) (ok : Bool),
    (∀ m W, MapAt s m W → Calls Try.prog 19 #[.pointer (some ⟨m, 0, none⟩), .int .i64 x] W fun E w' => E = .returned (.tuple #[.agg #[.int .i64 z0, .int .i64 z1, .int .i64 z2, .int .i64 z3, .int .i64 z4], .int .i64 zi, .int .i64 e]) ∧ Below W.heap.size W w') ∧
    (∀ W, Calls Try.prog 29 #[.string s, .int .i64 x] W fun E w' => E = .returned (.tuple #[.agg #[.int .i64 z0, .int .i64 z1, .int .i64 z2, .int .i64 z3, .int .i64 z4], .int .i64 zi, .bool ok]) ∧ Below W.heap.size W w') ∧ EO e ok := by
  by_cases h : x < 0 ∨ ((pK s (nP s)).u : Int) < x
  · exact ⟨0, 0, 0, 0, 0, 0, 5, false, fun m W hM => unit_err s hs m W hM x h, fun W => rUnit_err s hs W x h, .inr ⟨rfl, rfl⟩⟩
  · obtain ⟨n, rfl⟩ : ∃ n : Nat, x = n := ⟨x.toNat, by omega⟩
    have hn : n ≤ (pK s (nP s)).u := by omega
    obtain ⟨j, hj, _, h1, h2⟩ := cntP_spec (s := s) (q := fun p => decide (p.u ≤ n)) (fun i k hik hk h => by rw [decide_eq_true_eq] at h ⊢; have := pK_u_le s hik; omega) (by simp [pK])
    simp only [decide_eq_true_eq, decide_eq_false_iff_not, Nat.not_le] at h1 h2
    exact ⟨_, _, _, _, _, _, 0, true, fun m W hM => unit_any s hs m W hM n hn j hj h1 h2, fun W => rUnit_ok s hs W n hn j hj h1 h2, .inl ⟨rfl, rfl⟩⟩
theorem q_rune (s : ByteArray) (hs : s.size ≤ 65536) (x : Int) : ∃ (z0 z1 z2 z3 z4 e : Int) (ok : Bool),
    (∀ m W, MapAt s m W → Calls Try.prog 18 #[.pointer (some ⟨m, 0, none⟩), .int .i64 x] W fun E w' => E = .returned (.tuple #[.agg #[.int .i64 z0, .int .i64 z1, .int .i64 z2, .int .i64 z3, .int .i64 z4], .int .i64 e]) ∧ Below W.heap.size W w') ∧
    (∀ W, Calls Try.prog 28 #[.string s, .int .i64 x] W fun E w' => E = .returned (.tuple #[.agg #[.int .i64 z0, .int .i64 z1, .int .i64 z2, .int .i64 z3, .int .i64 z4], .bool ok]) ∧ Below W.heap.size W w') ∧ EO e ok := by
  by_cases h : x < 0 ∨ (nP s : Int) < x
  · exact ⟨0, 0, 0, 0, 0, 5, false, fun m W hM => rune_err s hs m W hM x h, fun W => rRune_err s hs W x h, .inr ⟨rfl, rfl⟩⟩
  · obtain ⟨n, rfl⟩ : ∃ n : Nat, x = n := ⟨x.toNat, by omega⟩
    exact ⟨_, _, _, _, _, 0, true, fun m W hM => rune_any s hs m W hM n (by omega), fun W => rRune_ok s hs W n (by omega), .inl ⟨rfl, rfl⟩⟩
theorem q_span (s : ByteArray) (hs : s.size ≤ 65536) (x : Int) : ∃ (z0 z1 zi e : Int) (ok : Bool),
    (∀ m W, MapAt s m W → Calls Try.prog 21 #[.pointer (some ⟨m, 0, none⟩), .int .i64 x] W fun E w' => E = .returned (.tuple #[.agg #[.int .i64 z0, .int .i64 z1], .int .i64 zi, .int .i64 e]) ∧ Below W.heap.size W w') ∧
    (∀ W, Calls Try.prog 31 #[.string s, .int .i64 x] W fun E w' => E = .returned (.tuple #[.agg #[.int .i64 z0, .int .i64 z1], .int .i64 zi, .bool ok]) ∧ Below W.heap.size W w') ∧ EO e ok := by
  by_cases h : x < 0 ∨ ((rws s).length : Int) ≤ x
  · exact ⟨0, 0, 0, 5, false, fun m W hM => span_err s hs m W hM x h, fun W => rSpan_err s hs W x h, .inr ⟨rfl, rfl⟩⟩
  · obtain ⟨n, rfl⟩ : ∃ n : Nat, x = n := ⟨x.toNat, by omega⟩
    obtain ⟨⟨fr, tt, ee⟩, hr⟩ : ∃ r, (rws s)[n]? = some r := ⟨_, List.getElem?_eq_getElem (by omega)⟩
    exact ⟨_, _, _, 0, true, fun m W hM => span_any s hs m W hM n fr tt ee hr, fun W => rSpan_ok s hs W n fr tt ee hr, .inl ⟨rfl, rfl⟩⟩
theorem first_is {s : ByteArray} {j i : Nat} (h : (pK s i).b = (pK s j).b) : i = j := by
  rcases Nat.lt_trichotomy i j with h1 | h1 | h1
  · have := pK_b_lt s h1; omega
  · exact h1
  · have := pK_b_lt s h1; omega
theorem q_line (s : ByteArray) (hs : s.size ≤ 65536) (x y : Int) (hy : y < 9223372036854775808) : ∃ (z0 z1 z2 z3 z4 e : Int) (ok : Bool),
    (∀ m W, MapAt s m W → Calls Try.prog 20 #[.pointer (some ⟨m, 0, none⟩), .int .i64 x, .int .i64 y] W fun E w' => E = .returned (.tuple #[.agg #[.int .i64 z0, .int .i64 z1, .int .i64 z2, .int .i64 z3, .int .i64 z4], .int .i64 e]) ∧ Below W.heap.size W w') ∧
    (∀ W, Calls Try.prog 30 #[.string s, .int .i64 x, .int .i64 y] W fun E w' => E = .returned (.tuple #[.agg #[.int .i64 z0, .int .i64 z1, .int .i64 z2, .int .i64 z3, .int .i64 z4], .bool ok]) ∧ Below W.heap.size W w') ∧ EO e ok := by
  have hrc := rows_count s
  by_cases h : x < 0 ∨ ((rws s).length : Int) ≤ x ∨ y < 0
  · refine ⟨0, 0, 0, 0, 0, 5, false, fun m W hM => line_err s hs m W hM x y h, fun W => rLine_no s hs W x y (fun i hi h9 => ?_), .inr ⟨rfl, rfl⟩⟩
    have := pK_l_le s hi
    omega
  · obtain ⟨k, rfl⟩ : ∃ n : Nat, x = n := ⟨x.toNat, by omega⟩
    obtain ⟨c, rfl⟩ : ∃ n : Nat, y = n := ⟨y.toNat, by omega⟩
    obtain ⟨⟨fr, tt, ee⟩, hr⟩ : ∃ r, (rws s)[k]? = some r := ⟨_, List.getElem?_eq_getElem (by omega)⟩
    obtain ⟨⟨j, g, j2, hO⟩, _⟩ := rows_at hr
    have hjn : j ≤ nP s := by have := hO.hj; have := hO.hg; have := hO.h2; omega
    have hj1 : (pK s j).b ≤ fr := by rw [hO.bj]; exact Nat.le_refl _
    have hj2 : j < nP s → fr < (pK s (j + 1)).b := fun _ => by rw [← hO.bj]; exact pK_b_succ s j
    have huniq : ∀ i, i ≤ nP s → (pK s i).l = k → (pK s i).c = i - j ∧ j ≤ i := fun i hi hl => by
      obtain ⟨fr', tt', ee', j', hr', h1, h2, h3⟩ := place_row hi
      rw [hl, hr] at hr'
      cases hr'
      have : j' = j := first_is (by rw [h2, hO.bj])
      subst this
      exact ⟨h3, h1⟩
    by_cases hm : j + c ≤ nP s ∧ (pK s (j + c)).l = k
    · obtain ⟨m1, m2⟩ := hm
      have h5 := (huniq _ m1 m2).1
      refine ⟨_, _, _, _, _, 0, true, fun m W hM => line_any s hs m W hM k fr tt ee hr j hjn hj1 hj2 c m1 m2, fun W => rLine_ok s hs W k c (j + c) m1 (by omega) (by omega) (fun i hi h9 => ?_), .inl ⟨rfl, rfl⟩⟩
      have := huniq i (by omega) (by omega)
      omega
    · refine ⟨0, 0, 0, 0, 0, 5, false, fun m W hM => line_far s hs m W hM k fr tt ee hr j hjn hj1 hj2 c (by omega) (by omega) ?_, fun W => rLine_no s hs W k c (fun i hi h9 => ?_), .inr ⟨rfl, rfl⟩⟩
      · by_cases h6 : j + c ≤ nP s
        · exact .inr ⟨j + c, h6, by omega, fun h7 => hm ⟨h6, h7⟩⟩
        · exact .inl (by omega)
      · have h6 := huniq i hi (by omega)
        have h7 : i = j + c := by omega
        subst h7
        exact hm ⟨hi, by omega⟩

def Cuts (p : Prop) : Prop := p
/-- A region of an order that is one, walked to its end once. -/
theorem wpIn_cutR {F : Fence} {n : Nat} {P : Program} (id : Nat) {ops : Array Oper} {b : Bool} {Q : Exit → Act → World → Prop} {a : Act} {w : World} {α : Type} (T : α → World → Prop) (L : α → List (Nat × Value)) (h1 : Cuts ((Code.region id ops b).wpIn F n P (CutV T L a) a w)) (h2 : ∀ v w', T v w' → Q .normal (putsG a (L v)) w') : (Code.region id ops b).wpIn F n P Q a w :=
  wpIn_mono h1 (fun _ _ _ ⟨he, v, ha, ht⟩ => he ▸ ha ▸ h2 v _ ht)
theorem cutV_mk {T : (Nat → Value) → World → Prop} {L : (Nat → Value) → List (Nat × Value)} {a a' : Act} {w : World} (h : a' = putsG a (L (fun i => a'.tmps.getD i undef))) (hT : T (fun i => a'.tmps.getD i undef) w) : CutV T L a .normal a' w := ⟨rfl, _, h, hT⟩
end Go.Proofs.Ytjlfdoonhfkabaa
