/- The document's Places of layer 2: what the line ends and the pieces say of the places. -/
import Derived.Test.YtjlfdoonhfkabaaRe
import Derived.Test.YtjlfdoonhfkabaaQq
import Derived.Test.YtjlfdoonhfkabaaCg
namespace Go.Proofs.Ytjlfdoonhfkabaa
set_option linter.unusedVariables false
set_option linter.unusedSimpArgs false
open Go Go.RowKit Go.Shelf
set_option maxRecDepth 100000

theorem ens_len (s : ByteArray) : (ens s).length = (pK s (nP s)).l := by
  show ((rws s).dropLast.map _).length = _
  rw [List.length_map, List.length_dropLast, rows_count]; rfl
theorem ens_get {s : ByteArray} {L f t : Nat} (h : (ens s)[L]? = some (f, t)) : ∃ fr ee, (rws s)[L]? = some (fr, f, ee) ∧ t = f + ee ∧ L + 1 < (rws s).length := by
  have hl : L < (ens s).length := (List.getElem?_eq_some_iff.1 h).1
  have hc := rows_count s
  rw [ens_len] at hl
  have h2 : (((rws s).dropLast.map fun r => (r.2.1, r.2.1 + r.2.2)) : List (Nat × Nat))[L]? = some (f, t) := h
  rw [List.getElem?_map, List.getElem?_dropLast, if_pos (by omega)] at h2
  obtain ⟨⟨fr, tt, ee⟩, h3, h4⟩ := Option.map_eq_some_iff.1 h2
  simp only [Prod.mk.injEq] at h4
  obtain ⟨rfl, rfl⟩ := h4
  exact ⟨fr, ee, h3, rfl, by omega⟩
/-- A line end that ends where place number i stands: the line behind it begins there. -/
theorem ens_to {s : ByteArray} {L f t i : Nat} (h : (ens s)[L]? = some (f, t)) (hi : i ≤ nP s) (ht : t = (pK s i).b) : (pK s i).l = L + 1 ∧ (pK s i).c = 0 := by
  obtain ⟨fr, ee, h1, h2, h3⟩ := ens_get h
  obtain ⟨⟨fr', tt', ee'⟩, h4⟩ : ∃ r, (rws s)[L + 1]? = some r := ⟨_, List.getElem?_eq_getElem h3⟩
  have h5 := (rows_at h1).2.1 _ _ _ h4
  obtain ⟨⟨j, g, j2, hO⟩, _⟩ := rows_at h4
  have h6 := hO.ln j (Nat.le_refl _) (by have := hO.hj; have := hO.hg; omega)
  have h7 : j = i := by
    have h8 := hO.bj
    rcases Nat.lt_trichotomy j i with h | h | h
    · have := pK_b_lt s h; omega
    · exact h
    · have := pK_b_lt s h; omega
  subst h7
  exact ⟨h6.1, by omega⟩
/-- Behind a line end the next line begins. -/
theorem ens_at {s : ByteArray} {i : Nat} (hi : i + 1 ≤ nP s) (h : nlAt s (pK s i).b = true) : ∃ f, (ens s)[(pK s i).l]? = some (f, (pK s (i + 1)).b) := by
  obtain ⟨h1, h2⟩ := pK_line h
  have hc := rows_count s
  have hl := pK_l_le s hi
  obtain ⟨⟨fr, tt, ee⟩, hr⟩ : ∃ r, (rws s)[(pK s i).l]? = some r := ⟨_, List.getElem?_eq_getElem (by omega)⟩
  obtain ⟨fr', tt', ee', j, h3, h4, h5, h6⟩ := place_row hi
  rw [h1] at h3
  have h7 := (rows_at hr).2.1 _ _ _ h3
  have h8 : j = i + 1 := by omega
  subst h8
  refine ⟨tt, ?_⟩
  show (((rws s).dropLast.map fun r => (r.2.1, r.2.1 + r.2.2)) : List (Nat × Nat))[(pK s i).l]? = _
  rw [List.getElem?_map, List.getElem?_dropLast, if_pos (by omega), hr]
  simp only [Option.map_some, h5, h7]
theorem posns_get (s : ByteArray) {k : Nat} (h : k < nP s) : (posns s)[k]? = some (pK s k).b := by
  obtain ⟨pre, h1, h2, h3⟩ := pK_split s k (by omega)
  rw [h1, posG_cons s _ (pK_lt s k h), List.getElem?_append_right (by omega), h2, Nat.sub_self]; rfl
/-- Piece number k, where it lies. -/
theorem pc_at {s : ByteArray} {e : TypeId} {base g cap n k : Nat} {W : World} (h : W.ownsRow base e 3 (.slice (some ⟨g, 0, none⟩) n cap) n (q4 ((posns s).map (pHalf s)))) (hn : nP s = n) (hk : k < n) :
    W.cell? ⟨g, k * 3, none⟩ = some (.int .i64 (pK s k).b) ∧ W.cell? ⟨g, k * 3 + 1, none⟩ = some (.int .i64 (wd s (pK s k).b)) ∧ W.cell? ⟨g, k * 3 + 2, none⟩ = some (.int .i32 (rn s (pK s k).b : Nat)) := by
  have hp := posns_get s (show k < nP s by omega)
  have hl : (posns s).length = n := hn
  have e1 : (posns s).map (pHalf s) = ((posns s).take k).map (pHalf s) ++ ((pK s k).b, wd s (pK s k).b, rn s (pK s k).b) :: ((posns s).drop (k + 1)).map (pHalf s) := by
    have h1 : posns s = (posns s).take k ++ (pK s k).b :: (posns s).drop (k + 1) := by
      obtain ⟨h2, h3⟩ := List.getElem?_eq_some_iff.1 hp
      rw [← h3, List.getElem_cons_drop, List.take_append_drop]
    conv => lhs; rw [h1]
    rw [List.map_append, List.map_cons]; rfl
  rw [e1] at h
  have h2 := q4_at _ _ _ _ _ h (by simp; omega)
  rw [show (((posns s).take k).map (pHalf s)).length = k by simp; omega] at h2
  exact h2

set_option maxHeartbeats 1000000 in
theorem units_any (a b r : Nat) (w : World) : Calls Try.prog 45 #[.agg #[.int .i64 a, .int .i64 b, .int .i32 r]] w fun e w' => e = .returned (.int .i64 (if 65535 < r then 2 else 1 : Nat)) ∧ Below w.heap.size w w' := by
  by_cases h : 65535 < r
  · rw [if_pos h]
    have d : decide ((65535 : Int) < (r : Int)) = true := decide_eq_true (by omega)
    go_enter Try.func45, Try.ntmps45
    go_wp2
    go_ret
    exact ⟨rfl, (Below.refl _ w).alloc (Nat.le_refl _) _⟩
  · rw [if_neg h]
    have d : decide ((65535 : Int) < (r : Int)) = false := decide_eq_false (by omega)
    go_enter Try.func45, Try.ntmps45
    go_wp2
    go_ret
    exact ⟨rfl, (Below.refl _ w).alloc (Nat.le_refl _) _⟩
end Go.Proofs.Ytjlfdoonhfkabaa
