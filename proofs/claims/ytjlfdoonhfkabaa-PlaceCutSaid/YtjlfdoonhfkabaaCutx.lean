/- PlaceCut: the law's call, errors. -/
import Derived.Test.YtjlfdoonhfkabaaCut0
namespace Go.Proofs.Ytjlfdoonhfkabaa
set_option linter.unusedVariables false
set_option linter.unusedSimpArgs false
open Go Go.RowKit Go.Shelf
set_option maxRecDepth 100000
attribute [local go_sem] Oper.semAt_some undef

set_option maxHeartbeats 8000000 in
theorem cut_err (s : ByteArray) (hs : s.size ≤ 65536) (k : Int) (hk : k < 0 ∨ (nP s : Int) < k) (w : World) : CallsIn Fence.wide 11 Try.prog 11 #[.string s, .int .i64 k] w fun e w' => e = .returned (.bool true) ∧ Below w.heap.size w w' := by
  have hnP := nP_le s
  refine callsIn_of_wp_marks Try.func11 rfl trivial ?_ rfl
  simp only [Try.ntmps11, List.size_toArray, List.length_cons, List.length_nil, Nat.reduceAdd, Nat.reduceSub, Array.replicate_succ, Array.replicate_zero, List.push_toArray, List.append_toArray, List.nil_append, List.cons_append]
  have hF : ∀ f, Fence.wide.fn f := fun _ => trivial
  have b0 := Blk.new w #[.bool false] 4
  have bB : Below w.heap.size w (w.alloc (.cells #[.bool false] 4)) := (Below.refl _ w).alloc (Nat.le_refl _) _
  gi_wp2_with fail
  refine (callsIn_wide.2 (works_any _)).mono ?_
  rintro e w1 ⟨rfl, hb1⟩
  have b1 := b0.below' hb1
  have hB1 := bB.trans (hb1.mono bB.size)
  gi_wp2_with fail
  refine (callsIn_wide.2 (callsIn_wide.1 (new_in s hs _))).mono ?_
  rintro e w2 ⟨m, rfl, hM, hb2⟩
  have b2 := (b1.below' hb2).alloc (.cells #[.pointer (some ⟨m, 0, none⟩)] 23)
  have hB2 := hB1.trans (hb2.mono hB1.size)
  have hq2 : Below w2.heap.size w2 (w2.alloc (.cells #[.pointer (some ⟨m, 0, none⟩)] 23)) := (Below.refl _ w2).alloc (Nat.le_refl _) _
  have hM2 := mapAt_below hM hq2
  have hB3 := hB2.alloc hB2.size (.cells #[.pointer (some ⟨m, 0, none⟩)] 23)
  gi_wp2_with fail
  refine (callsIn_wide.2 (rune_err s hs m _ hM2 k hk)).mono ?_
  rintro e w3 ⟨rfl, hb3⟩
  have b3 := (b2.below' hb3).alloc (.cells #[.int .i64 0, .int .i64 0, .int .i64 0, .int .i64 0, .int .i64 0] 28)
  have hB4 := hB3.trans (hb3.mono hB3.size)
  have hB5 := hB4.alloc hB4.size (.cells #[.int .i64 0, .int .i64 0, .int .i64 0, .int .i64 0, .int .i64 0] 28)
  gi_wp2_with fail
  refine (callsIn_wide.2 (works_any _)).mono ?_
  rintro e w4 ⟨rfl, hb4⟩
  have b4 := b3.below' hb4
  have hB6 := hB5.trans (hb4.mono hB5.size)
  have c1 := b4.cell
  have c2 := b4.frozen
  have c3 := b4.lt
  gi_wp2
  exact ⟨.bool true, by simp [results, Try.f11, go_sem, c1, c3], rfl, hB6.setCell (p := ⟨_, 0, none⟩) (by dsimp only; omega) _⟩

end Go.Proofs.Ytjlfdoonhfkabaa
