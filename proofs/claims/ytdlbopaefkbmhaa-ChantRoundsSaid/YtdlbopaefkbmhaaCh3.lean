/- Stage 31: rows of structs, voices; tooMany. -/
import Derived.Test.YtdlbopaefkbmhaaCh2
namespace Go.Proofs.Ytdlbopaefkbmhaa
set_option linter.unusedVariables false
set_option linter.unusedSimpArgs false
open Go Go.RowKit Go.Shelf
set_option maxRecDepth 100000

section
variable {α : Type} {enc : α → List Value} {k : Nat}
theorem fl_len (hk : ∀ x, (enc x).length = k) (l : List α) : (l.flatMap enc).length = l.length * k := by
  induction l with
  | nil => simp
  | cons x l ih => simp only [List.flatMap_cons, List.length_append, List.length_cons, hk, ih, Nat.succ_mul]; omega
theorem fl_get (hk : ∀ x, (enc x).length = k) {l : List α} {i j : Nat} {x : α} (h : l[i]? = some x) (hj : j < k) : (l.flatMap enc)[i * k + j]? = (enc x)[j]? := by
  induction l generalizing i with
  | nil => simp at h
  | cons y l ih =>
    rw [List.flatMap_cons]
    cases i with
    | zero =>
      simp at h; subst h
      rw [List.getElem?_append_left (by rw [hk]; omega)]; simp
    | succ i =>
      have h' := ih (i := i) (by simpa using h)
      rw [List.getElem?_append_right (by rw [hk, Nat.succ_mul]; omega), hk]
      rw [show (i + 1) * k + j - k = i * k + j by rw [Nat.succ_mul]; omega]
      exact h'

/-- A list of structs lies from an address on. -/
def RowAt (w : World) (enc : α → List Value) (k : Nat) (o : Option Addr) (l : List α) : Prop := ∀ i x, l[i]? = some x → ∃ g off, o = some ⟨g, off, none⟩ ∧ ∀ j, j < k → w.cell? ⟨g, off + i * k + j, none⟩ = (enc x)[j]?
theorem RowAt.below (hk : ∀ x, (enc x).length = k) (hk0 : 0 < k) {w w' : World} {o : Option Addr} {l : List α} (h : RowAt w enc k o l) (hb : Below w.heap.size w w') : RowAt w' enc k o l := by
  intro i x hi
  obtain ⟨g, off, ho, hc⟩ := h i x hi
  have h0 := hc 0 hk0
  rw [List.getElem?_eq_getElem (by rw [hk]; exact hk0)] at h0
  have hg := lt_cell h0
  exact ⟨g, off, ho, fun j hj => by rw [hb.cell (p := ⟨g, off + i * k + j, none⟩) hg]; exact hc j hj⟩
theorem RowAt.lt (hk : ∀ x, (enc x).length = k) (hk0 : 0 < k) {w : World} {g off : Nat} {l : List α} (h : RowAt w enc k (some ⟨g, off, none⟩) l) (hl : l ≠ []) : g < w.heap.size := by
  obtain ⟨x, r, rfl⟩ := List.exists_cons_of_ne_nil hl
  obtain ⟨g', off', ho, hc⟩ := h 0 x rfl
  cases ho
  have h0 := hc 0 hk0
  rw [List.getElem?_eq_getElem (by rw [hk]; exact hk0)] at h0
  exact lt_cell h0
theorem RowAt.of_own (hk : ∀ x, (enc x).length = k) {w : World} {base n cap : Nat} {e : TypeId} {o : Option Addr} {l : List α} (h : w.ownsRow base e k (.slice o n cap) n (l.flatMap enc)) (hn : l.length = n) : RowAt w enc k o l := by
  intro i x hi
  have hl : i < l.length := (List.getElem?_eq_some_iff.1 hi).1
  obtain ⟨o', cap', e', ho⟩ := own_slice h
  obtain ⟨g, hg⟩ := ho (by omega)
  cases e'
  subst hg
  refine ⟨g, 0, rfl, fun j hj => ?_⟩
  have hb : i * k + j < n * k := by
    have : (i + 1) * k ≤ n * k := Nat.mul_le_mul_right _ (by omega)
    rw [Nat.succ_mul] at this; omega
  rw [Nat.zero_add]
  exact (h.cellAt _ hb).trans (fl_get hk hi hj)
theorem RowAt.nil {w : World} : RowAt w enc k none ([] : List α) := fun i x h => by simp at h
end

theorem encN_len (x : Nt) : (encN x).length = 6 := rfl
theorem encS_len (x : Sg) : (encS x).length = 8 := rfl
/-- Voices lie from an address on. -/
def VoicesAt (w : World) (o : Option Addr) (vs : List (List Nt)) : Prop := ∀ k l, vs[k]? = some l → ∃ g off ol cap, o = some ⟨g, off, none⟩ ∧ w.cell? ⟨g, off + k, none⟩ = some (.slice ol l.length cap) ∧ RowAt w encN 6 ol l
theorem VoicesAt.below {w w' : World} {o : Option Addr} {vs : List (List Nt)} (h : VoicesAt w o vs) (hb : Below w.heap.size w w') : VoicesAt w' o vs := by
  intro k l hk
  obtain ⟨g, off, ol, cap, ho, hc, hr⟩ := h k l hk
  exact ⟨g, off, ol, cap, ho, by rw [hb.cell (p := ⟨g, off + k, none⟩) (lt_cell hc)]; exact hc, hr.below encN_len (by decide) hb⟩

theorem take_nextL {α : Type} {l : List α} {k : Nat} {p : α} (h : l[k]? = some p) : l.take (k + 1) = l.take k ++ [p] := by
  rw [List.take_add_one, h]; rfl
def voiceS (v : Nat) (l : List Nt) : List Sg := l.zipIdx.map fun p => ⟨v, p.2, p.1⟩
def allS (vs : List (List Nt)) : List Sg := (vs.zipIdx.map fun p => voiceS p.2 p.1).flatten
def tot (vs : List (List Nt)) : Nat := (vs.map List.length).sum
theorem voiceS_len (v : Nat) (l : List Nt) : (voiceS v l).length = l.length := by simp [voiceS]
theorem voiceS_take {v : Nat} {l : List Nt} {j : Nat} {x : Nt} (h : l[j]? = some x) : voiceS v (l.take (j + 1)) = voiceS v (l.take j) ++ [⟨v, j, x⟩] := by
  have hl := (List.getElem?_eq_some_iff.1 h).1
  rw [take_nextL h]
  unfold voiceS
  rw [List.zipIdx_append, List.map_append]
  simp [List.length_take, Nat.min_eq_left (Nat.le_of_lt hl)]
theorem allS_take {vs : List (List Nt)} {k : Nat} {l : List Nt} (h : vs[k]? = some l) : allS (vs.take (k + 1)) = allS (vs.take k) ++ voiceS k l := by
  have hl := (List.getElem?_eq_some_iff.1 h).1
  rw [take_nextL h]
  unfold allS
  rw [List.zipIdx_append, List.map_append, List.flatten_append]
  simp [List.length_take, Nat.min_eq_left (Nat.le_of_lt hl)]
theorem tot_take {vs : List (List Nt)} {k : Nat} {l : List Nt} (h : vs[k]? = some l) : tot (vs.take (k + 1)) = tot (vs.take k) + l.length := by
  rw [take_nextL h]; simp [tot]
theorem allS_len (vs : List (List Nt)) (k : Nat) : (allS (vs.take k)).length = tot (vs.take k) := by
  induction k with
  | zero => rfl
  | succ k ih =>
    cases h : vs[k]? with
    | none =>
      have := List.getElem?_eq_none_iff.1 h
      rw [List.take_of_length_le (by omega)]
      rw [List.take_of_length_le (by omega)] at ih
      exact ih
    | some l => rw [allS_take h, tot_take h, List.length_append, ih, voiceS_len]
theorem tot_le (vs : List (List Nt)) (k : Nat) : tot (vs.take k) ≤ tot vs := by
  have h : ∀ a b : List (List Nt), tot (a ++ b) = tot a + tot b := fun a b => by simp [tot]
  have : tot vs = tot (vs.take k) + tot (vs.drop k) := by rw [← h, List.take_append_drop]
  omega
def tooB (vs : List (List Nt)) : Bool := decide (16 < vs.length) || decide (65536 < tot vs)

set_option maxHeartbeats 1000000 in
theorem tooMany_any (vs : List (List Nt)) (o : Option Addr) (cap : Nat) (hn : vs.length ≤ 4398046511104) (ht : tot vs ≤ 4398046511104) (w : World) (hv : VoicesAt w o vs) :
    Calls Try.prog 20 #[.slice o vs.length cap] w fun e w' => e = .returned (.bool (tooB vs)) ∧ w' = w := by
  obtain ⟨n, hnn⟩ : ∃ n, vs.length = n := ⟨_, rfl⟩
  obtain ⟨b, hb⟩ : ∃ b, tooB vs = b := ⟨_, rfl⟩
  rw [hnn] at hn ⊢
  rw [hb]
  have HN := Lib.hid (And.intro hnn hb)
  clear hnn hb
  go_enter Try.func20, Try.ntmps20
  go_wp2
  go_loop [8, 3] (fun i s => ∃ k : Nat, k ≤ n ∧ i = .int .i64 k ∧ s = .int .i64 (tot (vs.take k) : Nat)) (fun i _ => n - (intOf i).toNat)
  case atStart => exact ⟨0, by omega, rfl, rfl⟩
  case round =>
    obtain ⟨k, hk, rfl, rfl⟩ := hrel
    by_cases hlt : k < n
    · obtain ⟨l, hl⟩ : ∃ l, vs[k]? = some l := ⟨_, List.getElem?_eq_getElem (by rw [HN.out.1]; exact hlt)⟩
      obtain ⟨g, off, ol, cp, rfl, hc, _⟩ := hv k l hl
      have hs := tot_take hl
      have hle := tot_le vs (k + 1)
      obtain ⟨t, ht'⟩ : ∃ t, tot (vs.take k) = t := ⟨_, rfl⟩
      rw [ht'] at hs ⊢
      have hb : t + l.length ≤ 4398046511104 := by omega
      have HS := Lib.hid hs
      clear hs hle ht' hv
      go_wp2
      go_round
      case rel => exact ⟨k + 1, by omega, by go_num, by rw [HS.out]; go_num⟩
      case measure => simp [intOf]; omega
    · obtain rfl : k = n := by omega
      have htk : tot (vs.take k) = tot vs := by rw [List.take_of_length_le (by rw [HN.out.1]; omega)]
      obtain ⟨t, ht'⟩ : ∃ t, tot vs = t := ⟨_, rfl⟩
      rw [htk, ht']
      rw [ht'] at ht
      have hx := HN.out
      unfold tooB at hx
      rw [hx.1, ht'] at hx
      have HX := Lib.hid hx.2
      clear htk ht' hx hv
      by_cases h1 : 16 < k
      · have e1 : decide ((16 : Int) < (k : Int)) = true := decide_eq_true (by omega)
        have e2 : decide (16 < k) = true := decide_eq_true h1
        go_wp2
        go_ret
        exact ⟨by rw [← HX.out]; simp [h1], rfl⟩
      · have e1 : decide ((16 : Int) < (k : Int)) = false := decide_eq_false (by omega)
        have e2 : decide (16 < k) = false := decide_eq_false h1
        obtain ⟨q, hq⟩ : ∃ q, decide (65536 < t) = q := ⟨_, rfl⟩
        have HQ := Lib.hid hq
        go_wp2
        go_ret
        exact ⟨by rw [← HX.out]; simp [h1]; omega, rfl⟩
end Go.Proofs.Ytdlbopaefkbmhaa
