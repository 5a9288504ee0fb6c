/- Stage 27: the document's Say: what it makes. -/
import Derived.Test.YtepbplmggladfaaHo
import Derived.Test.YtepbplmggladfaaHr
import Derived.Test.YtepbplmggladfaaCg
namespace Go.Proofs.Ytepbplmggladfaa
set_option linter.unusedVariables false
set_option linter.unusedSimpArgs false
open Go Go.RowKit Go.Shelf
set_option maxRecDepth 100000

theorem infoStr : (Try.prog.info? 9).map (fun i => (i.zero, i.size, i.bytes)) = some (some (.string .empty), 1, 16) := by kernel_rfl
theorem infoBool : (Try.prog.info? 4).map (fun i => (i.zero, i.size, i.bytes)) = some (some (.bool false), 1, 1) := by kernel_rfl
theorem make_strs (w : World) (n : Nat) (h : n ≤ 1000000) : (Instr.makeSlice 45 (.int .i64 (n : Int)) (.int .i64 (n : Int))).run Try.prog w = .ok (.slice (some ⟨w.heap.size, 0, none⟩) n n) (w.alloc (.cells (madeCells #[.string .empty] n) 9)) := by
  obtain ⟨i0, hi, hz0, hz1, hz2⟩ := info_parts infoStr
  have := run_make (P := Try.prog) w 45 9 i0 (.string .empty) Try.underlying45 hi hz0 .i64 .i64 n n (by omega) (by omega) (by rw [hz2]; omega) (by omega)
  rw [hz1, Nat.mul_one] at this
  exact this
theorem make_bools (w : World) (n : Nat) (h : n ≤ 1000000) : (Instr.makeSlice 46 (.int .i64 (n : Int)) (.int .i64 (n : Int))).run Try.prog w = .ok (.slice (some ⟨w.heap.size, 0, none⟩) n n) (w.alloc (.cells (madeCells #[.bool false] n) 4)) := by
  obtain ⟨i0, hi, hz0, hz1, hz2⟩ := info_parts infoBool
  have := run_make (P := Try.prog) w 46 4 i0 (.bool false) Try.underlying46 hi hz0 .i64 .i64 n n (by omega) (by omega) (by rw [hz2]; omega) (by omega)
  rw [hz1, Nat.mul_one] at this
  exact this
theorem made_one (v : Value) (n : Nat) : (madeCells #[v] n).toList = List.replicate n v := by
  apply List.ext_getElem?
  intro i
  simp only [madeCells]
  by_cases hi : i < n <;> simp [hi, List.getElem?_replicate, Nat.mod_one]
theorem flat_rep {α : Type} (f : α → List Value) (x : α) (v : Value) (h : f x = [v]) (n : Nat) : (List.replicate n x).flatMap f = List.replicate n v := by
  induction n with
  | zero => rfl
  | succ n ih => rw [List.replicate_succ, List.flatMap_cons, ih, h, List.replicate_succ]; rfl
theorem rowP0 (X : World) (b F : Nat) (hb : b ≤ X.heap.size) (hF : F ≤ 65536) : (X.alloc (.cells (madeCells #[.string .empty] (F + 1)) 9)).ownsRow b 9 1 (.slice (some ⟨X.heap.size, 0, none⟩) (F + 1) (F + 1)) (F + 1) ((List.replicate (F + 1) ByteArray.empty).flatMap encP) := by
  have h := World.ownsRow_lit (base := b) (e := 9) (size := 1) X (madeCells #[.string .empty] (F + 1)) (F + 1) hb (by unfold maxLen; omega) (by rw [size_madeCells]; omega)
  rw [made_one, ← flat_rep encP .empty (.string .empty) rfl] at h
  exact h
theorem rowD0 (X : World) (b F : Nat) (hb : b ≤ X.heap.size) (hF : F ≤ 65536) : (X.alloc (.cells (madeCells #[.bool false] F) 4)).ownsRow b 4 1 (.slice (some ⟨X.heap.size, 0, none⟩) F F) F ((List.replicate F false).flatMap encO) := by
  have h := World.ownsRow_lit (base := b) (e := 4) (size := 1) X (madeCells #[.bool false] F) F hb (by unfold maxLen; omega) (by rw [size_madeCells]; omega)
  rw [made_one, ← flat_rep encO false (.bool false) rfl] at h
  exact h
theorem rowB0 (X : World) (b F : Nat) (hb : b ≤ X.heap.size) (hF : F ≤ 65536) : (X.alloc (.cells (madeCells #[.int .u8 0] F) 5)).ownsRow b 5 1 (.slice (some ⟨X.heap.size, 0, none⟩) F F) F (List.replicate F (.int .u8 0)) := by
  have h := World.ownsRow_lit (base := b) (e := 5) (size := 1) X (madeCells #[.int .u8 0] F) F hb (by unfold maxLen; omega) (by rw [size_madeCells]; omega)
  rw [made_one] at h
  exact h
theorem row_set3 {X : World} {b6 base n : Nat} {cs : Array Value} {e : TypeId} {v : Value} {xs : List Value} (hb : Blk X b6 cs 49) (h : X.ownsRow base e 1 v n xs) (hte : 49 ≠ e) (v0 v1 v2 : Value) :
    (((X.setCell ⟨b6, 0, none⟩ v0).setCell ⟨b6, 1, none⟩ v1).setCell ⟨b6, 2, none⟩ v2).ownsRow base e 1 v n xs := by
  have hne : v.ownBlock = none ∨ v.ownBlock ≠ some b6 := .inr fun e1 => Blk.not_row hb hte h e1.symm
  exact ((h.kept (grownBy_setCell X b6 0 v0) hne).kept (grownBy_setCell _ b6 1 v1) hne).kept (grownBy_setCell _ b6 2 v2) hne
/-- What Say has made. -/
def SayK (X : World) (W : World) (F gP gD gB b6 : Nat) (Ps : List ByteArray) (Ds : List Bool) (xs : List Value) : Prop :=
  Blk X b6 #[.slice (some ⟨gP, 0, none⟩) (F + 1) (F + 1), .slice (some ⟨gD, 0, none⟩) F F, .slice (some ⟨gB, 0, none⟩) F F] 49 ∧ X.ownsRow W.heap.size 9 1 (.slice (some ⟨gP, 0, none⟩) (F + 1) (F + 1)) (F + 1) (Ps.flatMap encP) ∧
  X.ownsRow W.heap.size 4 1 (.slice (some ⟨gD, 0, none⟩) F F) F (Ds.flatMap encO) ∧ X.ownsRow W.heap.size 5 1 (.slice (some ⟨gB, 0, none⟩) F F) F xs ∧ Below W.heap.size W X
theorem say_cut {X W : World} {F gP gD gB b6 : Nat} {Ps : List ByteArray} {Ds : List Bool} {xs : List Value} (hb6 : W.heap.size ≤ b6) (bk : Blk X b6 #[.slice none 0 0, .slice none 0 0, .slice none 0 0] 49) (rP : X.ownsRow W.heap.size 9 1 (.slice (some ⟨gP, 0, none⟩) (F + 1) (F + 1)) (F + 1) (Ps.flatMap encP))
    (rD : X.ownsRow W.heap.size 4 1 (.slice (some ⟨gD, 0, none⟩) F F) F (Ds.flatMap encO)) (rB : X.ownsRow W.heap.size 5 1 (.slice (some ⟨gB, 0, none⟩) F F) F xs) (T0 : Below W.heap.size W X) :
    SayK (((X.setCell ⟨b6, 0, none⟩ (.slice (some ⟨gP, 0, none⟩) (F + 1) (F + 1))).setCell ⟨b6, 1, none⟩ (.slice (some ⟨gD, 0, none⟩) F F)).setCell ⟨b6, 2, none⟩ (.slice (some ⟨gB, 0, none⟩) F F)) W F gP gD gB b6 Ps Ds xs := by
  have h := ((bk.set 0 (.slice (some ⟨gP, 0, none⟩) (F + 1) (F + 1))).set 1 (.slice (some ⟨gD, 0, none⟩) F F)).set 2 (.slice (some ⟨gB, 0, none⟩) F F)
  simp only [List.setIfInBounds_toArray, List.set_cons_zero, List.set_cons_succ] at h
  exact ⟨h, row_set3 bk rP (by decide) _ _ _, row_set3 bk rD (by decide) _ _ _, row_set3 bk rB (by decide) _ _ _, ((T0.setCell (p := ⟨b6, 0, none⟩) hb6 _).setCell (p := ⟨b6, 1, none⟩) hb6 _).setCell (p := ⟨b6, 2, none⟩) hb6 _⟩
end Go.Proofs.Ytepbplmggladfaa
