/- PlaceKnown: the law's call. -/
import Derived.Test.YtjlfdoonhfkabaaNil
import Derived.Test.YtjlfdoonhfkabaaMv3
import Derived.Test.YtjlfdoonhfkabaaQj
import Derived.Test.YtjlfdoonhfkabaaQq
namespace Go.Proofs.Ytjlfdoonhfkabaa
set_option linter.unusedVariables false
set_option linter.unusedSimpArgs false
open Go Go.RowKit Go.Shelf
set_option maxRecDepth 100000
attribute [local go_sem] Oper.semAt_some undef

theorem tee_0 : pK tee 0 = ⟨0, 0, 0, 0, 0⟩ := by kernel_rfl
theorem tee_1 : pK tee 1 = ⟨1, 1, 1, 0, 1⟩ := by kernel_rfl
theorem tee_2 : pK tee 2 = ⟨3, 2, 2, 0, 2⟩ := by kernel_rfl
theorem tee_3 : pK tee 3 = ⟨4, 3, 3, 0, 3⟩ := by kernel_rfl
theorem tee_h : tee.size ≤ 65536 := by rw [tee_s]; decide
theorem known0 (m : Nat) (W : World) (h : MapAt tee m W) : Calls Try.prog 15 #[.pointer (some ⟨m, 0, none⟩), .int .i64 1, .int .i64 3, .int .i64 1] W fun e w' => e = .returned (.tuple #[.agg #[.int .i64 6, .int .i64 5, .int .i64 5, .int .i64 1, .int .i64 1], .int .i64 0]) ∧ Below W.heap.size W w' := by
  have h1 := move_line tee tee_h m W h 1 1 (by rw [tee_s]; decide) (by rw [tee_n]; decide) (by rw [tee_1]; decide) (fun _ => by rw [tee_2]; decide) 1 5 (fun W hM => by rw [tee_1]; exact down_any tee tee_h m W hM 1 1 1 0 1 (by decide) (by decide) 1 1 5 10 1 (by decide) (by rw [tee_r]; rfl) 4 6 (by rw [tee_n]; decide) (by rw [tee_n]; decide) (by rw [tee_4]) (by rw [tee_6]))
  rw [tee_5] at h1
  exact h1
theorem known1 (m : Nat) (W : World) (h : MapAt tee m W) : Calls Try.prog 15 #[.pointer (some ⟨m, 0, none⟩), .int .i64 0, .int .i64 1, .int .i64 3] W fun e w' => e = .returned (.tuple #[.agg #[.int .i64 4, .int .i64 3, .int .i64 3, .int .i64 0, .int .i64 3], .int .i64 0]) ∧ Below W.heap.size W w' := by
  have h1 := move_rune tee tee_h m W h 0 0 (by rw [tee_s]; decide) (by rw [tee_n]; decide) (by rw [tee_0]; decide) (fun _ => by rw [tee_1]; decide) (3)
  rw [show clampI 0 (3) (nP tee) = 3 by rw [tee_n]; decide, tee_3] at h1
  exact h1
theorem known2 (m : Nat) (W : World) (h : MapAt tee m W) : Calls Try.prog 15 #[.pointer (some ⟨m, 0, none⟩), .int .i64 8, .int .i64 1, .int .i64 (-1)] W fun e w' => e = .returned (.tuple #[.agg #[.int .i64 5, .int .i64 4, .int .i64 4, .int .i64 1, .int .i64 0], .int .i64 0]) ∧ Below W.heap.size W w' := by
  have h1 := move_rune tee tee_h m W h 8 5 (by rw [tee_s]; decide) (by rw [tee_n]; decide) (by rw [tee_5]; decide) (fun _ => by rw [tee_6]; decide) (-1)
  rw [show clampI 5 (-1) (nP tee) = 4 by rw [tee_n]; decide, tee_4] at h1
  exact h1
theorem known3 (m : Nat) (W : World) (h : MapAt tee m W) : Calls Try.prog 15 #[.pointer (some ⟨m, 0, none⟩), .int .i64 0, .int .i64 3, .int .i64 9] W fun e w' => e = .returned (.tuple #[.agg #[.int .i64 11, .int .i64 7, .int .i64 8, .int .i64 2, .int .i64 0], .int .i64 0]) ∧ Below W.heap.size W w' := by
  have h1 := move_line tee tee_h m W h 0 0 (by rw [tee_s]; decide) (by rw [tee_n]; decide) (by rw [tee_0]; decide) (fun _ => by rw [tee_1]; decide) 9 7 (fun W hM => by rw [tee_0]; have h2 := down_hi tee tee_h m W hM 0 0 0 0 0 (by decide) 9 (by decide) (by rw [tee_r]; decide); rw [tee_n] at h2; exact h2)
  rw [tee_7] at h1
  exact h1
theorem known4 (m : Nat) (W : World) (h : MapAt tee m W) : Calls Try.prog 15 #[.pointer (some ⟨m, 0, none⟩), .int .i64 4, .int .i64 3, .int .i64 1] W fun e w' => e = .returned (.tuple #[.agg #[.int .i64 10, .int .i64 6, .int .i64 7, .int .i64 1, .int .i64 2], .int .i64 0]) ∧ Below W.heap.size W w' := by
  have h1 := move_line tee tee_h m W h 4 3 (by rw [tee_s]; decide) (by rw [tee_n]; decide) (by rw [tee_3]; decide) (fun _ => by rw [tee_4]; decide) 1 6 (fun W hM => by rw [tee_3]; exact down_any tee tee_h m W hM 4 3 3 0 3 (by decide) (by decide) 1 1 5 10 1 (by decide) (by rw [tee_r]; rfl) 4 6 (by rw [tee_n]; decide) (by rw [tee_n]; decide) (by rw [tee_4]) (by rw [tee_6]))
  rw [tee_6] at h1
  exact h1
theorem known5 (m : Nat) (W : World) (h : MapAt tee m W) : Calls Try.prog 15 #[.pointer (some ⟨m, 0, none⟩), .int .i64 0, .int .i64 4, .int .i64 1] W fun e w' => e = .returned (.tuple #[.agg #[.int .i64 0, .int .i64 0, .int .i64 0, .int .i64 0, .int .i64 0], .int .i64 2]) ∧ Below W.heap.size W w' := by
  exact move_way m W 0 4 1 (by decide) (by decide) (by decide)
theorem known6 (m : Nat) (W : World) (h : MapAt tee m W) : Calls Try.prog 15 #[.pointer (some ⟨m, 0, none⟩), .int .i64 12, .int .i64 1, .int .i64 0] W fun e w' => e = .returned (.tuple #[.agg #[.int .i64 0, .int .i64 0, .int .i64 0, .int .i64 0, .int .i64 0], .int .i64 5]) ∧ Below W.heap.size W w' := by
  exact move_at tee tee_h m W h 12 1 0 (.inr (by rw [tee_s]; decide)) (.inl rfl)

/-- A loop over no map. -/
theorem range_nil {g : Operand} {q : Tmp} {assign body : Code} {Q : Exit → Act → World → Prop} {a : Act} {w : World} (B : Nat)
    (hB : Boxed w B 23 (.pointer none)) (hg : a.eval g = .func (.func 43) #[] #[.pointer (some ⟨B, 0, none⟩)])
    (I : World → Prop) (hI : AbX w.heap.size FrE (fun (_ : List Empty) => I)) (h0 : I w)
    (hdone : ∀ (D : Nat) (W : World), w.heap.size ≤ D → I W → W.heap[D]? = some (.deferred (some [])) → Q .normal { a with defers := { target := .collected D, args := #[] } :: a.defers } W) :
    (Code.rangeFunc g #[q] assign body).wpIn Fence.wide 11 Try.prog Q a w := by
  have enters := enters_of Try.func43 (by kernel_rfl) rfl
  refine wpIn_range_d (α := Empty) (n := 11) (gf := 43) (lb := #[.pointer (some ⟨B, 0, none⟩)]) (encs := fun k => k.elim) (Kp := KpE B 0) (Fr := FrE) (S := fun xs => xs = []) (Sp := fun _ => False) (Due := fun _ _ => False) (N := 0) rfl (by omega) hg trivial (fun _ _ => enters _ _)
    (fun l J Jx W hW hJ hJx hY h0 => (each1_nil _ B W ((show Blk _ _ _ _ from hB).below' hW |>.cell 0)).mono (fun e W' ⟨h1, h2⟩ => ⟨h1, .inl ⟨[], rfl, h2 ▸ h0⟩⟩))
    (fun W r o h1 h2 => ⟨o, h1, h2⟩) kpE_t (kpE_b hB.lt (Nat.zero_le _)) (fun x => x.elim)
    (fun _ W => I W) (fun _ _ _ => False) hI (fun _ _ _ _ _ hs _ _ => hs) h0
    (fun x _ _ => x.elim) (fun x => x.elim) (fun _ _ x => x.elim) (fun _ _ x => x.elim) (fun D xs W hD _ hi hk => hdone D W hD hi hk) (fun _ _ _ _ _ h => h.elim)
end Go.Proofs.Ytjlfdoonhfkabaa
