/- A text from a place on: what stands there is what stood in the whole. Plain facts. -/
import Derived.Test.YtjccoiephdopkaaDoorBd
namespace Go.Proofs.YtjccoiephdopkaaDoor
set_option linter.unusedVariables false
set_option linter.unusedSimpArgs false
open Go

theorem tl_size (s : ByteArray) (n : Nat) : (s.extract n s.size).size = s.size - n := by rw [ByteArray.size_extract]; omega
theorem tl_bt (s : ByteArray) (n j : Nat) : bt (s.extract n s.size) j = bt s (n + j) := by
  unfold bt
  congr 1
  show (s.extract n s.size).data[j]! = s.data[n + j]!
  simp only [getElem!_def, ByteArray.data_extract, Array.getElem?_extract]
  by_cases h : n + j < s.size
  · rw [if_pos (by simp; omega)]
  · rw [if_neg (by simp; omega), Array.getElem?_eq_none (by simpa using h)]
theorem tl_fit (s : ByteArray) (n j m : Nat) : ∀ f k, fitFrom (s.extract n s.size) j m f k = fitFrom s (n + j) m f k := by
  intro f
  induction f with
  | zero => intro k; rfl
  | succ f ih =>
    intro k
    unfold fitFrom
    rw [tl_bt, tl_bt, ih, show n + (j + k) = n + j + k by omega]
theorem tl_len (s : ByteArray) (n j : Nat) : lenN (s.extract n s.size) j = lenN s (n + j) := by
  unfold lenN fitN
  rw [tl_fit, tl_bt, tl_size, show s.size - n - j = s.size - (n + j) by omega]
theorem tl_rd (s : ByteArray) (n j m : Nat) : ∀ k, rdN (s.extract n s.size) j m k = rdN s (n + j) m k := by
  intro k
  induction k with
  | zero => rfl
  | succ k ih =>
    match k, ih with
    | 0, _ => show hdN (bt (s.extract n s.size) j) m = hdN (bt s (n + j)) m; rw [tl_bt]
    | k + 1, ih => rw [rdN_succ (s.extract n s.size) j m (k + 1) (by omega), rdN_succ s (n + j) m (k + 1) (by omega), ih, tl_bt, show n + (j + (k + 1)) = n + j + (k + 1) by omega]
theorem tl_wd (s : ByteArray) (n j : Nat) : wd (s.extract n s.size) j = wd s (n + j) := by unfold wd; rw [tl_len]
theorem tl_rn (s : ByteArray) (n j : Nat) : rn (s.extract n s.size) j = rn s (n + j) := by unfold rn; rw [tl_len, tl_rd]
theorem tl_bk (s : ByteArray) (n j : Nat) : bk (s.extract n s.size) j = bk s (n + j) := by unfold bk; rw [tl_len]
end Go.Proofs.YtjccoiephdopkaaDoor
