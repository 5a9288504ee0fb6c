/- RunesGo: the text of a text's runes. Plain facts. -/
import Derived.Test.YtgpnheaefagfiaaFm
import Derived.Test.YtgpnheaefagfiaaMd
import Derived.Test.YtgpnheaefagfiaaOf
import Derived.Test.YtgpnheaefagfiaaRt
namespace Go.Proofs.Ytgpnheaefagfiaa
set_option linter.unusedVariables false
set_option linter.unusedSimpArgs false
open Go
set_option maxRecDepth 100000

/-- The runes of a text, as numbers. -/
def rnZ (s : ByteArray) (l : List Nat) : List Int := l.map fun i => ((rn s i : Nat) : Int)

theorem mend_piece (s : ByteArray) (i : Nat) (hi : i < s.size) : mendF s ⟨#[239, 191, 189]⟩ i = Utf8.encode ((rn s i : Nat) : Int) := by
  cases hb : bk s i with
  | true =>
    rw [mendF_t hb, (bk_rn s i hb).1]
    kernel_rfl
  | false =>
    have h1 := (bk_not s i).1 hb
    have h2 := enc_of_form s i hi h1
    have h3 : wd s i = lenN s i := by unfold wd; rw [if_neg h1]
    rw [mendF_f hb, h3, h2.2.2]

theorem enc_cons (z : Int) (zs : List Int) : (encA (z :: zs)).data.toList = (Utf8.encode z).data.toList ++ (encA zs).data.toList := by
  rw [enc_nums, encA, encA, List.flatMap_cons]
  simp [strOfNums]

theorem mend_text (s : ByteArray) : ∀ l : List Nat, (∀ i ∈ l, i < s.size) → catB (mendF s ⟨#[239, 191, 189]⟩) l = encA (rnZ s l) := by
  intro l
  induction l with
  | nil => intro _; rfl
  | cons i l ih =>
    intro h
    have h1 := ih (fun j hj => h j (List.mem_cons_of_mem _ hj))
    have h2 := enc_cons ((rn s i : Nat) : Int) (rnZ s l)
    apply ByteArray.ext
    apply Array.ext'
    have h3 : (catB (mendF s ⟨#[239, 191, 189]⟩) (i :: l)).data.toList = (mendF s ⟨#[239, 191, 189]⟩ i).data.toList ++ (catB (mendF s ⟨#[239, 191, 189]⟩) l).data.toList := by simp [catB]
    rw [h3, mend_piece s i (h i List.mem_cons_self), h1]
    exact h2.symm

/-- Mend by U+FFFD is the text of the runes. -/
theorem mend_runes (s : ByteArray) : catB (mendF s ⟨#[239, 191, 189]⟩) (posns s) = encA (rnZ s (posns s)) := mend_text s _ fun i hi => (posG_ge s 0 i hi).2

theorem catB_cons (f : Nat → ByteArray) (i : Nat) (l : List Nat) : catB f (i :: l) = f i ++ catB f l := by
  apply ByteArray.ext
  apply Array.ext'
  simp [catB]

theorem mend_size (s : ByteArray) : ∀ d i : Nat, s.size - i = d → i ≤ s.size → (catB (mendF s ⟨#[239, 191, 189]⟩) (posG s i)).size = (s.size - i) + 2 * ((posG s i).filter (bk s)).length := by
  intro d
  induction d using Nat.strongRecOn with
  | _ d ih =>
    intro i hd hi
    by_cases hlt : i < s.size
    · have hw := wd_fits s i hlt
      have h1 := wd_pos s i
      have h := ih (s.size - (i + wd s i)) (by omega) (i + wd s i) rfl (by omega)
      have hc : (catB (mendF s ⟨#[239, 191, 189]⟩) (i :: posG s (i + wd s i))).size = (mendF s ⟨#[239, 191, 189]⟩ i).size + (catB (mendF s ⟨#[239, 191, 189]⟩) (posG s (i + wd s i))).size := by
        rw [catB_cons, ByteArray.size_append]
      rw [posG_cons s i hlt, hc, h]
      cases hb : bk s i with
      | true =>
        rw [mendF_t hb, List.filter_cons, if_pos hb, (bk_rn s i hb).2] at *
        rw [List.length_cons, show (⟨#[239, 191, 189]⟩ : ByteArray).size = 3 from rfl]
        omega
      | false =>
        rw [mendF_f hb, List.filter_cons, if_neg (by rw [hb]; simp), ByteArray.size_extract]
        omega
    · rw [posG_end s i (by omega)]
      show 0 = _
      simp; omega

theorem mend_whole (s : ByteArray) : ∀ d i : Nat, s.size - i = d → i ≤ s.size → (∀ j ∈ posG s i, bk s j = false) → catB (mendF s ⟨#[239, 191, 189]⟩) (posG s i) = s.extract i s.size := by
  intro d
  induction d using Nat.strongRecOn with
  | _ d ih =>
    intro i hd hi hall
    by_cases hlt : i < s.size
    · have hw := wd_fits s i hlt
      have h1 := wd_pos s i
      rw [posG_cons s i hlt] at hall ⊢
      have h := ih (s.size - (i + wd s i)) (by omega) (i + wd s i) rfl (by omega) (fun j hj => hall j (List.mem_cons_of_mem _ hj))
      have hb := hall i List.mem_cons_self
      have hc : catB (mendF s ⟨#[239, 191, 189]⟩) (i :: posG s (i + wd s i)) = mendF s ⟨#[239, 191, 189]⟩ i ++ catB (mendF s ⟨#[239, 191, 189]⟩) (posG s (i + wd s i)) := by
        apply ByteArray.ext
        apply Array.ext'
        simp [catB]
      rw [hc, h, mendF_f hb]
      apply ByteArray.ext
      simp only [ByteArray.data_append, ByteArray.data_extract]
      rw [Array.extract_append_extract]
      congr 1 <;> omega
    · rw [posG_end s i (by omega)]
      apply ByteArray.ext
      apply Array.ext'
      simp [catB]; omega

/-- A text's runes make the text again just if no piece is broken. -/
theorem runes_text (s : ByteArray) : encA (rnZ s (posns s)) = s ↔ allR s = true := by
  rw [← mend_runes, posns_G]
  constructor
  · intro h
    have hs := mend_size s _ 0 rfl (Nat.zero_le _)
    rw [h] at hs
    have h0 : ((posG s 0).filter (bk s)).length = 0 := by omega
    unfold allR
    rw [posns_G, List.all_eq_true]
    intro j hj
    cases hb : bk s j with
    | false => rfl
    | true =>
      have : j ∈ (posG s 0).filter (bk s) := List.mem_filter.2 ⟨hj, hb⟩
      rw [List.length_eq_zero_iff.1 h0] at this
      cases this
  · intro h
    unfold allR at h
    rw [posns_G, List.all_eq_true] at h
    rw [mend_whole s _ 0 rfl (Nat.zero_le _) (fun j hj => by have := h j hj; simpa using this)]
    apply ByteArray.ext
    simp [ByteArray.data_extract]
end Go.Proofs.Ytgpnheaefagfiaa
