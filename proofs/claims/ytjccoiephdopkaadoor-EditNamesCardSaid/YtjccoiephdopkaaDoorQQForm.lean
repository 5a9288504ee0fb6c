/- The form that begins at a place, as the document's own answer finds it. -/
import Derived.Test.YtjccoiephdopkaaDoorQQEnc
import Derived.Deep.Light
import Derived.Deep.RegionHeld3
import Derived.BigQuiet
import Derived.Deep.QuietTactic
namespace Go.Proofs.YtjccoiephdopkaaDoor.SQ
set_option linter.unusedVariables false
set_option linter.unusedSimpArgs false
open Go Go.RowKit
set_option maxRecDepth 100000

theorem below_drewN {B : Nat} {a w : World} (h : Below B a w) (n : Nat) : Below B a (w.drewN n) := h.trans ⟨rfl, rfl, rfl, Nat.le_refl _, fun _ _ => rfl⟩

/-- The forms of fewer than n bytes are ruled out. -/
def outF (s : ByteArray) (i n : Nat) : Prop := ∀ m, 1 ≤ m → m < n → isF s i m = false
theorem outF_next {s : ByteArray} {i n k : Nat} (h : outF s i n) (hk : k = n + 1) (h' : isF s i n = false) : outF s i k := by
  intro m h1 h2
  by_cases e : m = n
  · rw [e]; exact h'
  · exact h m h1 (by omega)

/-- Between two rounds of the document's Form. -/
def FmRel (s : ByteArray) (i : Nat) (w : World) (v : Value) (wr : World) : Prop := ∃ n : Nat, v = .int .i64 n ∧ 1 ≤ n ∧ n ≤ 5 ∧ Below w.heap.size w wr ∧ outF s i n

theorem fmRel_next {s : ByteArray} {i n k : Nat} {w w1 : World} {z : Int} (h1 : 1 ≤ n) (h4 : n ≤ 4) (ho : Hid (outF s i n)) (hk : k = n + 1) (hz : z = k) (h' : isF s i n = false) (hB : Below w.heap.size w w1) : FmRel s i w (.int .i64 z) w1 :=
  ⟨k, by rw [hz], by omega, by omega, hB, outF_next ho.out hk h'⟩

theorem fm_none {s : ByteArray} {i n : Nat} (hi : i < s.size) (ho : Hid (outF s i n)) (hn : n = 5 ∨ s.size < i + n) : fmR s i = 0 ∧ lenN s i = 0 := by
  have := lenN_of_none s i n hi ho.out hn
  exact ⟨by rw [fmR, if_pos this], this⟩

theorem fm_some {s : ByteArray} {i n : Nat} {R : Int} (h1 : 1 ≤ n) (hn : n ≤ 4) (hf : i + n ≤ s.size) (hno : Hid (noR R = false)) (hw : Hid (widZ R = n)) (he : Hid (Utf8.encode R = s.extract i (i + n))) : fmR s i = R ∧ lenN s i = n := by
  obtain ⟨_, h2, h3⟩ := form_of_enc s i n R h1 hn hf hno.out hw.out he.out
  exact ⟨by rw [fmR, if_neg (by omega)]; exact h2, h3⟩

end Go.Proofs.YtjccoiephdopkaaDoor.SQ
