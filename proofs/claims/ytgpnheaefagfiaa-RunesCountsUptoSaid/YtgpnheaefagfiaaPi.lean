/- RunesCounts: two lists of numbers, two lists of parts, held against each other. -/
import Derived.Test.YtgpnheaefagfiaaBk
import Derived.BigQuiet
namespace Go.Proofs.Ytgpnheaefagfiaa
set_option linter.unusedVariables false
set_option linter.unusedSimpArgs false
open Go Go.RowKit
set_option maxRecDepth 100000

def InRelP (n : Nat) (w : World) (i : Value) (wr : World) : Prop := ∃ k : Nat, i = .int .i64 k ∧ k ≤ n ∧ Below w.heap.size w wr

set_option maxHeartbeats 1000000 in
theorem ints_any (L : List Nat) (v1 v2 : Value) (b1 b2 : Nat) (hL : L.length ≤ 281474976710656) (w : World) (h1 : w.ownsRow b1 3 1 v1 L.length (ints L)) (h2 : w.ownsRow b2 3 1 v2 L.length (ints L)) :
    Calls Try.prog 28 #[v1, v2] w fun e w' => e = .returned (.bool true) ∧ Below w.heap.size w w' := by
  obtain ⟨n, hn⟩ : ∃ n, L.length = n := ⟨_, rfl⟩
  obtain ⟨o1, c1, rfl, ho1⟩ := own_slice h1
  obtain ⟨o2, c2, rfl, ho2⟩ := own_slice h2
  rw [hn] at h1 h2 hL ho1 ho2 ⊢
  have HN := Lib.hid hn
  clear hn
  go_enter Try.func28, Try.ntmps28
  go_wp2
  go_loopw [13] (fun i wr => InRelP n w i wr) (fun i _ => n - (intOf i).toNat)
  case atStart => exact ⟨0, rfl, Nat.zero_le _, Below.refl _ _⟩
  case round =>
    obtain ⟨k, rfl, hk, hB⟩ := hrel
    by_cases hlt : k < n
    · obtain ⟨g1, rfl⟩ := ho1 (by omega)
      obtain ⟨g2, rfl⟩ := ho2 (by omega)
      obtain ⟨p, hpk⟩ : ∃ p, L[k]? = some p := ⟨_, List.getElem?_eq_getElem (by rw [HN.out]; exact hlt)⟩
      have q1 := nth_int (own_below h1 hB) HN.out k hlt p hpk
      have q2 := nth_int (own_below h2 hB) HN.out k hlt p hpk
      have hlti : (k : Int) < (n : Int) := by omega
      go_wp2
      go_quiet (fail)
      go_wp2
      go_roundw
      case rel => exact ⟨k + 1, by go_num, by omega, hB.trans ⟨rfl, rfl, rfl, Nat.le_refl _, fun _ _ => rfl⟩⟩
      case measure => simp [intOf]; omega
    · have hkn : k = n := by omega
      subst hkn
      go_wp2
      go_ret
      exact ⟨rfl, hB⟩

/-- Parts as they lie. -/
def pts (l : List (Nat × Nat × Bool)) : List Value := l.flatMap fun x => [.int .i64 (x.1 : Nat), .int .i64 (x.2.1 : Nat), .bool x.2.2]
theorem pts_snoc (l : List (Nat × Nat × Bool)) (f t : Nat) (b : Bool) : pts (l ++ [(f, t, b)]) = pts l ++ [.int .i64 (f : Nat), .int .i64 (t : Nat), .bool b] := by simp [pts]
theorem pts_len (l : List (Nat × Nat × Bool)) : (pts l).length = l.length * 3 := by
  induction l with
  | nil => rfl
  | cons x l ih => simp only [pts, List.flatMap_cons, List.length_append] at ih ⊢; rw [ih]; simp; omega
theorem nth_pt {l : List (Nat × Nat × Bool)} {e : TypeId} {base g cap n : Nat} {w : World} (h : w.ownsRow base e 3 (.slice (some ⟨g, 0, none⟩) n cap) n (pts l)) (hn : l.length = n) (k : Nat) (hk : k < n) (f t : Nat) (b : Bool) (hp : l[k]? = some (f, t, b)) :
    w.cell? ⟨g, k * 3, none⟩ = some (.int .i64 (f : Nat)) ∧ w.cell? ⟨g, k * 3 + 1, none⟩ = some (.int .i64 (t : Nat)) ∧ w.cell? ⟨g, k * 3 + 2, none⟩ = some (.bool b) := by
  have hc := fun j (hj : j < n * 3) => h.cellAt j hj
  have hs : l = l.take k ++ (f, t, b) :: l.drop (k + 1) := by
    have h1 : k < l.length := by omega
    rw [List.getElem?_eq_getElem h1] at hp
    rw [← Option.some.inj hp, List.getElem_cons_drop, List.take_append_drop]
  have hpcs : pts l = pts (l.take k) ++ ([.int .i64 (f : Nat), .int .i64 (t : Nat), .bool b] ++ pts (l.drop (k + 1))) := by
    conv => lhs; rw [hs]
    simp [pts]
  have hl : (pts (l.take k)).length = k * 3 := by rw [pts_len, List.length_take]; omega
  refine ⟨?_, ?_, ?_⟩
  · rw [hc _ (by omega), hpcs, List.getElem?_append_right (by omega), show k * 3 - (pts (l.take k)).length = 0 by omega]; rfl
  · rw [hc _ (by omega), hpcs, List.getElem?_append_right (by omega), show k * 3 + 1 - (pts (l.take k)).length = 1 by omega]; rfl
  · rw [hc _ (by omega), hpcs, List.getElem?_append_right (by omega), show k * 3 + 2 - (pts (l.take k)).length = 2 by omega]; rfl

set_option maxHeartbeats 1000000 in
theorem parts_any (L : List (Nat × Nat × Bool)) (v1 v2 : Value) (b1 b2 : Nat) (hL : L.length ≤ 281474976710656) (w : World) (h1 : w.ownsRow b1 51 3 v1 L.length (pts L)) (h2 : w.ownsRow b2 51 3 v2 L.length (pts L)) :
    Calls Try.prog 29 #[v1, v2] w fun e w' => e = .returned (.bool true) ∧ Below w.heap.size w w' := by
  obtain ⟨n, hn⟩ : ∃ n, L.length = n := ⟨_, rfl⟩
  obtain ⟨o1, c1, rfl, ho1⟩ := own_slice h1
  obtain ⟨o2, c2, rfl, ho2⟩ := own_slice h2
  rw [hn] at h1 h2 hL ho1 ho2 ⊢
  have HN := Lib.hid hn
  clear hn
  go_enter Try.func29, Try.ntmps29
  go_wp2
  go_loopw [13] (fun i wr => InRelP n w i wr) (fun i _ => n - (intOf i).toNat)
  case atStart => exact ⟨0, rfl, Nat.zero_le _, Below.refl _ _⟩
  case round =>
    obtain ⟨k, rfl, hk, hB⟩ := hrel
    by_cases hlt : k < n
    · obtain ⟨g1, rfl⟩ := ho1 (by omega)
      obtain ⟨g2, rfl⟩ := ho2 (by omega)
      obtain ⟨⟨f, t, b⟩, hpk⟩ : ∃ p, L[k]? = some p := ⟨_, List.getElem?_eq_getElem (by rw [HN.out]; exact hlt)⟩
      obtain ⟨q1, q2, q3⟩ := nth_pt (own_below h1 hB) HN.out k hlt f t b hpk
      obtain ⟨r1, r2, r3⟩ := nth_pt (own_below h2 hB) HN.out k hlt f t b hpk
      have hlti : (k : Int) < (n : Int) := by omega
      go_wp2
      go_quiet (fail)
      go_wp2
      go_roundw
      case rel => exact ⟨k + 1, by go_num, by omega, hB.trans ⟨rfl, rfl, rfl, Nat.le_refl _, fun _ _ => rfl⟩⟩
      case measure => simp [intOf]; omega
    · have hkn : k = n := by omega
      subst hkn
      go_wp2
      go_ret
      exact ⟨rfl, hB⟩
end Go.Proofs.Ytgpnheaefagfiaa
