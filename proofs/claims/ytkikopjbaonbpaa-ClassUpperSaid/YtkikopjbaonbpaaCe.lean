/- Layer 3: the kinds of a text's pieces, as Go's own range goes through it. -/
import Derived.Test.YtkikopjbaonbpaaLawCase
import Derived.Test.YtkikopjbaonbpaaFm
namespace Go.Proofs.Ytkikopjbaonbpaa
set_option linter.unusedVariables false
set_option linter.unusedSimpArgs false
open Go Go.RowKit Go.Shelf
set_option maxRecDepth 100000

theorem enc_size (r : Int) (h : noR r = false) : (Utf8.encode r).size = widZ r := by
  rw [enc_nums, strOfNums_size]
  unfold encL widZ
  have h2 := h
  rw [noR_not] at h2
  rw [if_neg (by rw [h]; simp), if_neg h2]
  (repeat' split) <;> rfl
theorem noR_rn (s : ByteArray) (i : Nat) (hi : i < s.size) : noR (rn s i) = false := by
  have := valid_rn s i hi
  rw [valid_iff] at this
  rw [noR_not]; omega
theorem enc_rn (s : ByteArray) (i : Nat) (hi : i < s.size) : (Utf8.encode (rn s i)).size = widZ (rn s i) := enc_size _ (noR_rn s i hi)
theorem enc_lost : Utf8.encode 65533 = ⟨#[239, 191, 189]⟩ := by kernel_rfl
theorem lost_form (s : ByteArray) (i : Nat) (hi : i < s.size) (h : rn s i = 65533) (hb : bk s i = false) : wd s i = 3 ∧ i + 3 ≤ s.size ∧ s.extract i (i + 3) = ⟨#[239, 191, 189]⟩ := by
  have hw := wid_rn s i hi hb
  rw [h] at hw
  have h3 : wd s i = 3 := hw.symm
  have hf := wd_fits s i hi
  have hl := (bk_not s i).1 hb
  have hwl : wd s i = lenN s i := by unfold wd; rw [if_neg hl]
  have he := enc_of_form s i hi hl
  refine ⟨h3, by omega, ?_⟩
  rw [h] at he
  rw [← hwl, h3] at he
  rw [← enc_lost]
  simp_all
theorem lost_bytes (s : ByteArray) (i : Nat) (hi : i < s.size) (hb : bk s i = true) (h3 : i + 3 ≤ s.size) : s.extract i (i + 3) ≠ ⟨#[239, 191, 189]⟩ := by
  intro he
  have := form_of_enc s i 3 65533 (by omega) (by omega) h3 (by decide) (by decide) (by rw [he, enc_lost])
  have h0 := (bk_iff s i).1 hb
  omega

theorem lost_list {x : ByteArray} (h : x = ⟨#[239, 191, 189]⟩) : (!(x.toList == [239, 191, 189])) = false := by rw [h]; kernel_rfl
theorem lost_list_not {x : ByteArray} (h : x ≠ ⟨#[239, 191, 189]⟩) : (!(x.toList == [239, 191, 189])) = true := by
  rw [Bool.not_eq_true', beq_eq_false_iff_ne]
  intro he
  exact h (by apply ByteArray.ext; apply Array.ext'; simpa [ByteArray.toList_eq] using he)

theorem kind_11 (r : Int) : (kindZ r == 11) = false := by
  rw [beq_eq_false_iff_ne]
  unfold kindZ
  (repeat' split) <;> decide

def PiRel (s : ByteArray) (w : World) (it : Nat) (v : Value) (wr : World) : Prop :=
  ∃ pos : Nat, v = .int .i64 pos ∧ pos ≤ s.size ∧ wr.heap[it]? = some (.stringIter s pos) ∧ Below w.heap.size w wr

theorem pi_next {s : ByteArray} {w wr P w1 w2 : World} {pos W1 : Nat} {cs : Array Value} {T : TypeId} {x y : Value} (hit1 : P.heap[w.heap.size]? = some (.stringIter s (pos + W1))) (hB1 : Below w.heap.size w P)
    (hb1 : Below (P.alloc (.cells cs T)).heap.size (P.alloc (.cells cs T)) w1) (hb2 : Below ((w1.setCell ⟨P.heap.size, 0, none⟩ x).setCell ⟨P.heap.size, 1, none⟩ y).heap.size ((w1.setCell ⟨P.heap.size, 0, none⟩ x).setCell ⟨P.heap.size, 1, none⟩ y) w2)
    (HM : Hid (s.size - (pos + W1) < s.size - wr.iterPos w.heap.size)) (hwf : pos + W1 ≤ s.size) (q : Int) (hq : q = ((pos + W1 : Nat) : Int)) :
    PiRel s w w.heap.size (.int .i64 q) w2 ∧ s.size - w2.iterPos w.heap.size < s.size - wr.iterPos w.heap.size := by
  have hlt : w.heap.size < P.heap.size := (Array.getElem?_eq_some_iff.1 hit1).1
  have hz := hB1.size
  have i1 : w1.heap[w.heap.size]? = some (.stringIter s (pos + W1)) := (hb1.block _ (by simp; omega)).trans ((Below.heap_alloc P _ _ hlt).trans hit1)
  have hlt1 : w.heap.size < w1.heap.size := (Array.getElem?_eq_some_iff.1 i1).1
  have i2 : w2.heap[w.heap.size]? = some (.stringIter s (pos + W1)) := by
    refine (hb2.block _ (by simp; omega)).trans ?_
    rw [Below.heap_setCell _ _ _ _ (by dsimp only; omega), Below.heap_setCell _ _ _ _ (by dsimp only; omega)]
    exact i1
  have B1 := (hB1.alloc hB1.size (.cells cs T)).trans (hb1.mono (by simp; omega))
  have B2 := ((B1.setCell (p := ⟨P.heap.size, 0, none⟩) (by dsimp only; omega) x).setCell (p := ⟨P.heap.size, 1, none⟩) (by dsimp only; omega) y).trans (hb2.mono (by have := B1.size; simp; omega))
  refine ⟨⟨pos + W1, by rw [hq], hwf, i2, B2⟩, ?_⟩
  have := HM.out
  simp only [World.iterPos, i2] at this ⊢
  exact this

end Go.Proofs.Ytkikopjbaonbpaa
