/- Stage 27: the program's reader: what it stands at. -/
import Derived.Test.YtjccoiephdopkaaDoorAo
namespace Go.Proofs.YtjccoiephdopkaaDoor
set_option linter.unusedVariables false
set_option linter.unusedSimpArgs false
open Go Go.RowKit Go.Shelf
set_option maxRecDepth 100000

/-- The reader in memory. -/
def RdB (W : World) (B : Nat) (s : ByteArray) (p f t : Nat) : Prop := Blk W B #[.string s, .int .i64 p, .int .i64 f, .int .i64 t] 76
/-- The byte that stands at p; a nought at the end. -/
def lkN (s : ByteArray) (p : Nat) : Nat := if p < s.size then bt s p else 0
theorem look_any {B p f t : Nat} {s : ByteArray} {w : World} (h : RdB w B s p f t) (hp : p ≤ s.size) (hs : s.size ≤ 9223372036854775807) :
    Calls Tryd.prog 37 #[.pointer (some ⟨B, 0, none⟩)] w fun e w' => e = .returned (.int .u8 (lkN s p)) ∧ ∃ n, w' = w.drewN n := by
  have c0 := h.cell 0
  have c1 := h.cell 1
  simp only [List.getElem?_toArray, List.getElem?_cons_zero, List.getElem?_cons_succ] at c0 c1
  clear h
  by_cases hq : p < s.size
  · have h1 : ¬ (p : Int) = (s.size : Int) := by omega
    have h2 : ¬ p = s.size := by omega
    have e : lkN s p = bt s p := if_pos hq
    have e2 : bt s p = (s[p]'hq).toNat := (bt_get s p hq).symm
    have HE := Lib.hid (And.intro e e2)
    clear e e2 hp
    go_enter Tryd.func37, Tryd.ntmps37
    go_wp2
    go_quiet ((fail))
    go_wp2
    go_quiet ((fail))
    go_wp2
    go_ret
    exact ⟨by rw [HE.out.1, HE.out.2]; rfl, _, World.drewN_drewN _ _ _⟩
  · obtain rfl : p = s.size := by omega
    have e : lkN s s.size = 0 := if_neg (Nat.lt_irrefl _)
    have HE := Lib.hid e
    clear e hp hq
    go_enter Tryd.func37, Tryd.ntmps37
    go_wp2
    go_quiet ((fail))
    go_wp2
    go_ret
    exact ⟨by rw [HE.out]; rfl, _, rfl⟩
theorem bad_any (p : Nat) (w : World) : Calls Tryd.prog 38 #[.int .i64 p] w fun e w' => e = .returned (.agg #[.int .i64 271, .int .i64 p]) ∧ Below w.heap.size w w' := by
  go_enter Tryd.func38, Tryd.ntmps38
  go_wp2
  refine bodyPost_ret (v := .agg #[.int .i64 271, .int .i64 p]) (by simp [results, Tryd.f38, go_sem]) rfl ⟨rfl, ?_⟩
  exact (Below.refl _ _).alloc (Nat.le_refl _) _
theorem RdB.drew {w : World} {B p f t : Nat} {s : ByteArray} (h : RdB w B s p f t) (n : Nat) : RdB (w.drewN n) B s p f t := h
theorem RdB.step {w : World} {B p f t : Nat} {s : ByteArray} (h : RdB w B s p f t) (q : Nat) : RdB (w.setCell ⟨B, 1, none⟩ (.int .i64 q)) B s q f t := Blk.set h 1 _
end Go.Proofs.YtjccoiephdopkaaDoor
