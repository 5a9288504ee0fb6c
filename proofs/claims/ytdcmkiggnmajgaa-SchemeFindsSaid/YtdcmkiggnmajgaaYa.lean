/- Stage 16: keys: where each is met first; slices.Index of texts. -/
import Derived.Test.YtdcmkiggnmajgaaVu
import Derived.Test.YtdcmkiggnmajgaaV2
import Derived.BigQuiet
import Derived.Deep.QuietTactic
namespace Go.Proofs.Ytdcmkiggnmajgaa
set_option linter.unusedVariables false
set_option linter.unusedSimpArgs false
open Go Go.RowKit Go.Shelf
set_option maxRecDepth 100000

def encT (s : ByteArray) : List Value := [.string s]
theorem encT_len (s : ByteArray) : (encT s).length = 1 := rfl
/-- Where a key is met first. -/
def kIx : List ByteArray → ByteArray → Nat
  | [], _ => 0
  | x :: r, s => if x = s then 0 else kIx r s + 1
theorem kIx_le : ∀ {ks : List ByteArray} {i : Nat} {s : ByteArray}, ks[i]? = some s → kIx ks s ≤ i ∧ ks[kIx ks s]? = some s
  | [], i, s, h => by simp at h
  | x :: r, i, s, h => by
    unfold kIx
    by_cases e : x = s
    · rw [if_pos e]; subst e; exact ⟨Nat.zero_le _, rfl⟩
    · rw [if_neg e]
      cases i with
      | zero => simp at h; exact absurd h e
      | succ i =>
        simp only [List.getElem?_cons_succ] at h
        have := kIx_le h
        exact ⟨by omega, by rw [List.getElem?_cons_succ]; exact this.2⟩
theorem kIx_not : ∀ {ks : List ByteArray} {j : Nat} {s y : ByteArray}, j < kIx ks s → ks[j]? = some y → y ≠ s
  | [], j, s, y, _, h => by simp at h
  | x :: r, j, s, y, hj, h => by
    unfold kIx at hj
    by_cases e : x = s
    · rw [if_pos e] at hj; omega
    · rw [if_neg e] at hj
      cases j with
      | zero => simp at h; rw [← h]; exact e
      | succ j =>
        simp only [List.getElem?_cons_succ] at h
        exact kIx_not (by omega) h
theorem kIx_inj {ks : List ByteArray} {i j : Nat} {s t : ByteArray} (hs : ks[i]? = some s) (ht : ks[j]? = some t) : kIx ks s = kIx ks t ↔ s = t := by
  constructor
  · intro h
    have h1 := (kIx_le hs).2
    have h2 := (kIx_le ht).2
    rw [h, h2] at h1
    cases h1; rfl
  · intro h; rw [h]
/-- The keys as lines: the class is where the key is met first. -/
def keyL (ks : List ByteArray) : List Rh := ks.map fun s => ⟨(kIx ks s : Nat), 0⟩
theorem keyL_len (ks : List ByteArray) : (keyL ks).length = ks.length := by simp [keyL]
theorem keyL_at {ks : List ByteArray} {i : Nat} {s : ByteArray} (h : ks[i]? = some s) : (keyL ks)[i]? = some ⟨(kIx ks s : Nat), 0⟩ := by simp [keyL, h]
theorem keyL_fidx {ks : List ByteArray} {i : Nat} {s : ByteArray} (h : ks[i]? = some s) : fidx (keyL ks) 0 ((kIx ks s : Nat) : Int) = ((kIx ks s : Nat) : Int) := by
  obtain ⟨h1, h2⟩ := kIx_le h
  obtain ⟨f, hf, hfk, ⟨y, hy, hyc⟩, _⟩ := fidx_at (keyL_at h2)
  simp only at hf hyc
  rw [hf]
  have hfl := (List.getElem?_eq_some_iff.1 hy).1
  rw [keyL_len] at hfl
  obtain ⟨z, hz⟩ : ∃ z, ks[f]? = some z := ⟨_, List.getElem?_eq_getElem hfl⟩
  have hy' := keyL_at hz
  rw [hy] at hy'
  cases hy'
  simp only at hyc
  have := (kIx_le hz).1
  omega
theorem keyL_can {ks : List ByteArray} {i : Nat} {s : ByteArray} (h : ks[i]? = some s) : canC (keyL ks) ⟨(kIx ks s : Nat), 0⟩ = (cntF (keyL ks) (kIx ks s) : Nat) := by
  unfold canC
  rw [if_neg (by simp)]
  simp only [keyL_fidx h, Int.toNat_natCast]

theorem str_ne {s x : ByteArray} (h : s ≠ x) : (s.toList == x.toList) = false := by rw [beq_eq_false_iff_ne]; exact fun e => h (by apply ByteArray.ext; apply Array.ext'; simpa [ByteArray.toList_eq] using e)
/-- What slices.Index tells. -/
def ixR (ks : List ByteArray) (s : ByteArray) : Int := if kIx ks s < ks.length then (kIx ks s : Nat) else -1
theorem kIx_full : ∀ (ks : List ByteArray) (s : ByteArray), kIx ks s ≤ ks.length
  | [], _ => Nat.le_refl _
  | x :: r, s => by
    unfold kIx
    split
    · omega
    · have := kIx_full r s
      simp only [List.length_cons]; omega
theorem kIx_ge {ks : List ByteArray} {s : ByteArray} {k : Nat} (h : ∀ j y, j < k → ks[j]? = some y → y ≠ s) (hk : k ≤ ks.length) : k ≤ kIx ks s := by
  rcases Nat.lt_or_ge (kIx ks s) k with h1 | h1
  · exfalso
    have h2 : kIx ks s < ks.length := by omega
    have key : ∀ (ks : List ByteArray), kIx ks s < ks.length → ks[kIx ks s]? = some s := by
      intro ks
      induction ks with
      | nil => intro h; simp at h
      | cons x r ih =>
        intro h
        unfold kIx at h ⊢
        split at h
        · next e => rw [if_pos e, e]; rfl
        · next e => rw [if_neg e, List.getElem?_cons_succ]; exact ih (by simp only [List.length_cons] at h; omega)
    exact h _ _ h1 (key ks h2) rfl
  · exact h1

set_option maxHeartbeats 4000000 in
theorem index_any (ks : List ByteArray) (s : ByteArray) (o : Option Addr) (c : Nat) (hn : ks.length ≤ 9223372036854775807) (w : World) (hr : RowAt w encT 1 o ks) :
    Calls Try.prog 60 #[.slice o ks.length c, .string s] w fun e w' => e = .returned (.int .i64 (ixR ks s)) ∧ w' = w := by
  go_enter Try.func60, Try.ntmps60
  go_wp2
  go_loopw [8] (fun i X => ∃ k : Nat, i = .int .i64 k ∧ k ≤ ks.length ∧ X = w ∧ ∀ j y, j < k → ks[j]? = some y → y ≠ s) (fun i _ => ks.length - (intOf i).toNat)
  case atStart => exact ⟨0, rfl, Nat.zero_le _, rfl, fun j y h => by omega⟩
  case round =>
    obtain ⟨k, rfl, hk, hw, hne⟩ := hrel
    subst hw
    have HN := Lib.hid hne
    clear hne
    by_cases hlt : k < ks.length
    · obtain ⟨x, hx⟩ : ∃ x, ks[k]? = some x := ⟨_, List.getElem?_eq_getElem hlt⟩
      obtain ⟨g, off, rfl, hc⟩ := hr k x hx
      have q0 := hc 0 (by decide)
      simp only [encT, List.getElem?_cons_zero, Nat.add_zero, Nat.mul_one] at q0
      have HX := Lib.hid hx
      clear hc hx
      by_cases he : x = s
      · subst he
        have hix : ixR ks x = (k : Int) := by
          have h1 := kIx_le HX.out
          have h2 := kIx_ge HN.out hk
          have h3 : kIx ks x = k := by omega
          unfold ixR
          rw [h3, if_pos hlt]
        go_wp2
        go_ret
        exact ⟨by rw [hix]; rfl, rfl⟩
      · have e1 : (s.toList == x.toList) = false := str_ne (fun h => he h.symm)
        go_wp2
        go_roundw
        case rel =>
          refine ⟨k + 1, by go_num, by omega, trivial, fun j y hj hy => ?_⟩
          rcases (by omega : j < k ∨ j = k) with h | rfl
          · exact HN.out j y h hy
          · have := HX.out
            rw [hy] at this
            cases this
            exact he
        case measure => simp [intOf]; omega
    · obtain rfl : k = ks.length := by omega
      have hix : ixR ks s = -1 := by
        have h2 := kIx_ge HN.out hk
        unfold ixR
        rw [if_neg (by omega)]
      go_wp2
      go_ret
      exact ⟨by rw [hix]; rfl, rfl⟩
end Go.Proofs.Ytdcmkiggnmajgaa
