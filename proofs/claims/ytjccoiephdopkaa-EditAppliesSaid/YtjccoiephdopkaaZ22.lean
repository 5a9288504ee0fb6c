/- Several texts in one. -/
import Derived.Test.YtjccoiephdopkaaZ03
import Derived.Test.YtjccoiephdopkaaZ12
import Derived.Test.YtjccoiephdopkaaZ08
import Derived.Test.YtjccoiephdopkaaZ20
import Derived.Test.YtjccoiephdopkaaZ06
import Derived.Test.YtjccoiephdopkaaZ02
/- Stage 27: a change of the document's, as the program has it. -/
namespace Go.Proofs.Ytjccoiephdopkaa
set_option linter.unusedVariables false
set_option linter.unusedSimpArgs false
open Go Go.RowKit Go.Shelf
set_option maxRecDepth 100000

theorem infoApiStep : (Try.prog.info? 29).map (fun i => (i.zero, i.size, i.bytes)) = some (some (.agg #[.int .i64 0, .string .empty, .string .empty]), 3, 40) := by kernel_rfl
set_option maxHeartbeats 4000000 in
theorem back_any (l : List Sp) (o : Option Addr) (c : Nat) (hn : l.length ≤ 1000000) (w : World) (hr : RowAt w encS 3 o l) :
    Calls Try.prog 12 #[.slice o l.length c] w fun e w' => ∃ v, e = .returned v ∧ w'.ownsRow w.heap.size 29 3 v l.length (l.flatMap encS) ∧ Below w.heap.size w w' := by
  obtain ⟨j0, hj, hy0, hy1, hy2⟩ := info_parts infoApiStep
  go_enter Try.func12, Try.ntmps12
  have HR := Lib.hid (And.intro hr hn)
  clear hr
  have HB0 := Lib.hid (Below.refl w.heap.size w)
  go_wp2
  go_loopw [3, 4] (fun v i W => ∃ k : Nat, i = .int .i64 k ∧ k ≤ l.length ∧ W.ownsRow w.heap.size 29 3 v k ((l.take k).flatMap encS) ∧ Below w.heap.size w W) (fun _ i _ => l.length - (intOf i).toNat)
  case atStart => exact ⟨0, rfl, by omega, World.ownsRow_nil _ _ _ _, HB0.out⟩
  case round =>
    obtain ⟨k, rfl, hk, hown, hB⟩ := hrel
    by_cases hlt : k < l.length
    · obtain ⟨x, hx⟩ : ∃ x, l[k]? = some x := ⟨_, List.getElem?_eq_getElem hlt⟩
      obtain ⟨g, off, rfl, hc⟩ := HR.out.1.below encS_len (by decide) hB k x hx
      obtain ⟨q0, q1, q2⟩ := get3 (l := l) hc
      obtain ⟨kk, d, p⟩ := x
      simp only at q0 q1 q2
      have htk : (l.take (k + 1)).flatMap encS = (l.take k).flatMap encS ++ [.int .i64 kk, .string d, .string p] := by rw [List.take_add_one, hx]; simp [encS]
      have hkl : (k : Int) < (l.length : Int) := by omega
      have hk0 : (0 : Int) ≤ (k : Int) := by omega
      have j5 : IntKind.i64.wrap ((k : Int) + 1) = ((k + 1 : Nat) : Int) := by rw [IntWalk.i64_in _ (by omega)]; omega
      have HH := Lib.hid (And.intro hown (And.intro hB htk))
      obtain ⟨ov, cv, rfl, _⟩ := own_slice hown
      clear hown hB hx hc htk
      go_wp2
      refine wp_region_noPanic ?_
      refine wp_region_g (S := untilG [18] (fun X => Below wr.heap.size wr X)) (by kernel_rfl) ?_
      obtain ⟨X0, hX0⟩ : ∃ Z, wr.drew = Z := ⟨_, rfl⟩
      have T0 : Below wr.heap.size wr X0 := hX0 ▸ (Below.refl wr.heap.size wr).drew
      rw [hX0]
      clear hX0
      refine wpAnyG_take [0, 18, 19] (i := 0) (v := (.slice ov k cv)) rfl (by kernel_rfl) (by kernel_rfl) (by kernel_rfl) (by kernel_rfl) (by kernel_rfl) (by kernel_rfl) (by kernel_rfl) (by kernel_rfl) (fun _ _ _ h => h) (Or.inl ⟨by rfl, ?hy⟩) T0 ?_
      case hy =>
        intro X hX
        go_simp
      try simp only [Act.put, List.getElem_toArray, List.getElem_cons_zero, List.getElem_cons_succ, List.setIfInBounds_toArray, List.set_cons_zero, List.set_cons_succ]
      refine wpAnyG_take [1, 3, 4, 5, 16, 17, 18, 19] (i := 1) (v := (.slice (some ⟨g, off, none⟩) l.length c)) rfl (by kernel_rfl) (by kernel_rfl) (by kernel_rfl) (by kernel_rfl) (by kernel_rfl) (by kernel_rfl) (by kernel_rfl) (by kernel_rfl) (fun _ _ _ h => h) (Or.inl ⟨by rfl, ?hy⟩) T0 ?_
      case hy =>
        intro X hX
        go_simp
      try simp only [Act.put, List.getElem_toArray, List.getElem_cons_zero, List.getElem_cons_succ, List.setIfInBounds_toArray, List.set_cons_zero, List.set_cons_succ]
      refine wpAnyG_take [2, 3, 4, 5, 16, 17, 18, 19] (i := 2) (v := (.int .i64 k)) rfl (by kernel_rfl) (by kernel_rfl) (by kernel_rfl) (by kernel_rfl) (by kernel_rfl) (by kernel_rfl) (by kernel_rfl) (by kernel_rfl) (fun _ _ _ h => h) (Or.inl ⟨by rfl, ?hy⟩) T0 ?_
      case hy =>
        intro X hX
        go_simp
      try simp only [Act.put, List.getElem_toArray, List.getElem_cons_zero, List.getElem_cons_succ, List.setIfInBounds_toArray, List.set_cons_zero, List.set_cons_succ]
      refine wpAnyG_take [3, 4, 5, 16, 17, 18, 19] (i := 3) (v := (.pointer (some ⟨g, off + k * 3, none⟩))) rfl (by kernel_rfl) (by kernel_rfl) (by kernel_rfl) (by kernel_rfl) (by kernel_rfl) (by kernel_rfl) (by kernel_rfl) (by kernel_rfl) (fun _ _ _ h => h) (Or.inl ⟨by rfl, ?hy⟩) T0 ?_
      case hy =>
        intro X hX
        go_simp
      try simp only [Act.put, List.getElem_toArray, List.getElem_cons_zero, List.getElem_cons_succ, List.setIfInBounds_toArray, List.set_cons_zero, List.set_cons_succ]
      refine wpAnyG_take [4, 5, 16, 17, 18, 19] (i := 4) (v := (.pointer (some ⟨g, off + k * 3, none⟩))) rfl (by kernel_rfl) (by kernel_rfl) (by kernel_rfl) (by kernel_rfl) (by kernel_rfl) (by kernel_rfl) (by kernel_rfl) (by kernel_rfl) (fun _ _ _ h => h) (Or.inl ⟨by rfl, ?hy⟩) T0 ?_
      case hy =>
        intro X hX
        go_simp
      try simp only [Act.put, List.getElem_toArray, List.getElem_cons_zero, List.getElem_cons_succ, List.setIfInBounds_toArray, List.set_cons_zero, List.set_cons_succ]
      refine wpAnyG_take [5, 16, 17, 18, 19] (i := 5) (v := (.int .i64 kk)) rfl (by kernel_rfl) (by kernel_rfl) (by kernel_rfl) (by kernel_rfl) (by kernel_rfl) (by kernel_rfl) (by kernel_rfl) (by kernel_rfl) (fun _ _ _ h => h) (Or.inl ⟨by rfl, ?hy⟩) T0 ?_
      case hy =>
        intro X hX
        have e0 := at_below q0 hX
        go_simp
      try simp only [Act.put, List.getElem_toArray, List.getElem_cons_zero, List.getElem_cons_succ, List.setIfInBounds_toArray, List.set_cons_zero, List.set_cons_succ]
      refine wpAnyG_take [6, 8, 9, 10, 16, 17, 18, 19] (i := 6) (v := (.slice (some ⟨g, off, none⟩) l.length c)) rfl (by kernel_rfl) (by kernel_rfl) (by kernel_rfl) (by kernel_rfl) (by kernel_rfl) (by kernel_rfl) (by kernel_rfl) (by kernel_rfl) (fun _ _ _ h => h) (Or.inl ⟨by rfl, ?hy⟩) T0 ?_
      case hy =>
        intro X hX
        go_simp
      try simp only [Act.put, List.getElem_toArray, List.getElem_cons_zero, List.getElem_cons_succ, List.setIfInBounds_toArray, List.set_cons_zero, List.set_cons_succ]
      refine wpAnyG_take [7, 8, 9, 10, 16, 17, 18, 19] (i := 7) (v := (.int .i64 k)) rfl (by kernel_rfl) (by kernel_rfl) (by kernel_rfl) (by kernel_rfl) (by kernel_rfl) (by kernel_rfl) (by kernel_rfl) (by kernel_rfl) (fun _ _ _ h => h) (Or.inl ⟨by rfl, ?hy⟩) T0 ?_
      case hy =>
        intro X hX
        go_simp
      try simp only [Act.put, List.getElem_toArray, List.getElem_cons_zero, List.getElem_cons_succ, List.setIfInBounds_toArray, List.set_cons_zero, List.set_cons_succ]
      refine wpAnyG_take [8, 9, 10, 16, 17, 18, 19] (i := 8) (v := (.pointer (some ⟨g, off + k * 3, none⟩))) rfl (by kernel_rfl) (by kernel_rfl) (by kernel_rfl) (by kernel_rfl) (by kernel_rfl) (by kernel_rfl) (by kernel_rfl) (by kernel_rfl) (fun _ _ _ h => h) (Or.inl ⟨by rfl, ?hy⟩) T0 ?_
      case hy =>
        intro X hX
        go_simp
      try simp only [Act.put, List.getElem_toArray, List.getElem_cons_zero, List.getElem_cons_succ, List.setIfInBounds_toArray, List.set_cons_zero, List.set_cons_succ]
      refine wpAnyG_take [9, 10, 16, 17, 18, 19] (i := 9) (v := (.pointer (some ⟨g, off + k * 3 + 1, none⟩))) rfl (by kernel_rfl) (by kernel_rfl) (by kernel_rfl) (by kernel_rfl) (by kernel_rfl) (by kernel_rfl) (by kernel_rfl) (by kernel_rfl) (fun _ _ _ h => h) (Or.inl ⟨by rfl, ?hy⟩) T0 ?_
      case hy =>
        intro X hX
        go_simp
      try simp only [Act.put, List.getElem_toArray, List.getElem_cons_zero, List.getElem_cons_succ, List.setIfInBounds_toArray, List.set_cons_zero, List.set_cons_succ]
      refine wpAnyG_take [10, 16, 17, 18, 19] (i := 10) (v := (.string d)) rfl (by kernel_rfl) (by kernel_rfl) (by kernel_rfl) (by kernel_rfl) (by kernel_rfl) (by kernel_rfl) (by kernel_rfl) (by kernel_rfl) (fun _ _ _ h => h) (Or.inl ⟨by rfl, ?hy⟩) T0 ?_
      case hy =>
        intro X hX
        have e0 := at_below q1 hX
        go_simp
      try simp only [Act.put, List.getElem_toArray, List.getElem_cons_zero, List.getElem_cons_succ, List.setIfInBounds_toArray, List.set_cons_zero, List.set_cons_succ]
      refine wpAnyG_take [11, 13, 14, 15, 16, 17, 18, 19] (i := 11) (v := (.slice (some ⟨g, off, none⟩) l.length c)) rfl (by kernel_rfl) (by kernel_rfl) (by kernel_rfl) (by kernel_rfl) (by kernel_rfl) (by kernel_rfl) (by kernel_rfl) (by kernel_rfl) (fun _ _ _ h => h) (Or.inl ⟨by rfl, ?hy⟩) T0 ?_
      case hy =>
        intro X hX
        go_simp
      try simp only [Act.put, List.getElem_toArray, List.getElem_cons_zero, List.getElem_cons_succ, List.setIfInBounds_toArray, List.set_cons_zero, List.set_cons_succ]
      refine wpAnyG_take [12, 13, 14, 15, 16, 17, 18, 19] (i := 12) (v := (.int .i64 k)) rfl (by kernel_rfl) (by kernel_rfl) (by kernel_rfl) (by kernel_rfl) (by kernel_rfl) (by kernel_rfl) (by kernel_rfl) (by kernel_rfl) (fun _ _ _ h => h) (Or.inl ⟨by rfl, ?hy⟩) T0 ?_
      case hy =>
        intro X hX
        go_simp
      try simp only [Act.put, List.getElem_toArray, List.getElem_cons_zero, List.getElem_cons_succ, List.setIfInBounds_toArray, List.set_cons_zero, List.set_cons_succ]
      refine wpAnyG_take [13, 14, 15, 16, 17, 18, 19] (i := 13) (v := (.pointer (some ⟨g, off + k * 3, none⟩))) rfl (by kernel_rfl) (by kernel_rfl) (by kernel_rfl) (by kernel_rfl) (by kernel_rfl) (by kernel_rfl) (by kernel_rfl) (by kernel_rfl) (fun _ _ _ h => h) (Or.inl ⟨by rfl, ?hy⟩) T0 ?_
      case hy =>
        intro X hX
        go_simp
      try simp only [Act.put, List.getElem_toArray, List.getElem_cons_zero, List.getElem_cons_succ, List.setIfInBounds_toArray, List.set_cons_zero, List.set_cons_succ]
      refine wpAnyG_take [14, 15, 16, 17, 18, 19] (i := 14) (v := (.pointer (some ⟨g, off + k * 3 + 2, none⟩))) rfl (by kernel_rfl) (by kernel_rfl) (by kernel_rfl) (by kernel_rfl) (by kernel_rfl) (by kernel_rfl) (by kernel_rfl) (by kernel_rfl) (fun _ _ _ h => h) (Or.inl ⟨by rfl, ?hy⟩) T0 ?_
      case hy =>
        intro X hX
        go_simp
      try simp only [Act.put, List.getElem_toArray, List.getElem_cons_zero, List.getElem_cons_succ, List.setIfInBounds_toArray, List.set_cons_zero, List.set_cons_succ]
      refine wpAnyG_take [15, 16, 17, 18, 19] (i := 15) (v := (.string p)) rfl (by kernel_rfl) (by kernel_rfl) (by kernel_rfl) (by kernel_rfl) (by kernel_rfl) (by kernel_rfl) (by kernel_rfl) (by kernel_rfl) (fun _ _ _ h => h) (Or.inl ⟨by rfl, ?hy⟩) T0 ?_
      case hy =>
        intro X hX
        have e0 := at_below q2 hX
        go_simp
      try simp only [Act.put, List.getElem_toArray, List.getElem_cons_zero, List.getElem_cons_succ, List.setIfInBounds_toArray, List.set_cons_zero, List.set_cons_succ]
      refine wpAnyG_take [16, 17, 18, 19] (i := 16) (v := (.agg #[.int .i64 kk, .string d, .string p])) rfl (by kernel_rfl) (by kernel_rfl) (by kernel_rfl) (by kernel_rfl) (by kernel_rfl) (by kernel_rfl) (by kernel_rfl) (by kernel_rfl) (fun _ _ _ h => h) (Or.inl ⟨by rfl, ?hy⟩) T0 ?_
      case hy =>
        intro X hX
        go_simp
      try simp only [Act.put, List.getElem_toArray, List.getElem_cons_zero, List.getElem_cons_succ, List.setIfInBounds_toArray, List.set_cons_zero, List.set_cons_succ]
      refine wpAnyG_all (rs := [17]) (by kernel_rfl) (by simp) ?_
      intro i hi
      simp only [List.mem_cons, List.not_mem_nil, or_false] at hi
      subst hi
      refine wpOp_now rfl rfl ?_
      go_simp
      have hown0 := own_below HH.out.1 T0
      have T1 := T0.alloc T0.size (.cells #[.int .i64 kk, .string d, .string p] 29)
      have hown1 := hown0.alloc (.cells #[.int .i64 kk, .string d, .string p] 29)
      have hnew := World.alloc_heap_new X0 (.cells #[.int .i64 kk, .string d, .string p] 29)
      have hXw : w.heap.size ≤ X0.heap.size := Nat.le_trans HH.out.2.1.size T0.size
      refine ⟨fun _ => T1, ?_⟩
      try simp only [Act.put, List.getElem_toArray, List.getElem_cons_zero, List.getElem_cons_succ, List.setIfInBounds_toArray, List.set_cons_zero, List.set_cons_succ]
      refine wpAnyG_all (rs := [18]) (by kernel_rfl) (by simp) ?_
      intro i hi
      simp only [List.mem_cons, List.not_mem_nil, or_false] at hi
      subst hi
      refine wpOp_now rfl rfl ?_
      refine opwp_append _ _ 22 rfl w.heap.size 29 j0 (.agg #[.int .i64 0, .string .empty, .string .empty]) 3 40 Try.underlying22 hj hy0 hy1 hy2 rfl (by decide) _ _ _ rfl hown1 ⟨X0.heap.size, 0, none⟩ 1 1 [.int .i64 kk, .string d, .string p] rfl rfl (World.news_of_block (cs := #[.int .i64 kk, .string d, .string p]) (t := 29) (fr := (0, 0)) hnew) (fun x hx => by simp at hx; rcases hx with rfl | rfl | rfl <;> rfl) (by unfold maxLen; omega) (by omega) (by simp; omega) ?_
      intro v3 w3 hown3 hg3
      have hB3 : Below w.heap.size w w3 := (HH.out.2.1.trans (T1.mono HH.out.2.1.size)).grown hg3 (by simp; omega) (fun r e => (hown1.lt r e).1)
      rw [← HH.out.2.2] at hown3
      refine ⟨fun h => (nomatch (show (false : Bool) = true from h)), ?_⟩
      try simp only [Act.put, List.getElem_toArray, List.getElem_cons_zero, List.getElem_cons_succ, List.setIfInBounds_toArray, List.set_cons_zero, List.set_cons_succ]
      refine wpAnyG_all (rs := [19]) (by kernel_rfl) (by simp) ?_
      intro i hi
      simp only [List.mem_cons, List.not_mem_nil, or_false] at hi
      subst hi
      refine wpOp_now rfl rfl ?_
      go_simp
      refine ⟨fun h => (nomatch (show (false : Bool) = true from h)), ?_⟩
      refine wpAnyG_done (by kernel_rfl) ?_ _
      refine NoPanic.normal ?_
      have HE := Lib.hid (And.intro hown3 hB3)
      clear hown3 hB3 hg3 hown0 hown1 T0 T1 hnew
      go_wp2
      go_roundw
      case rel => exact ⟨k + 1, by go_num, by omega, HE.out.1, HE.out.2⟩
      case measure => simp [intOf] <;> omega
    · obtain rfl : k = l.length := by omega
      rw [List.take_length] at hown
      have HH := Lib.hid (And.intro hown hB)
      clear hown hB
      go_wp2
      go_ret
      exact ⟨_, rfl, HH.out.1, HH.out.2⟩
end Go.Proofs.Ytjccoiephdopkaa

/- Stage 27: Carry. -/
namespace Go.Proofs.Ytjccoiephdopkaa
set_option linter.unusedVariables false
set_option linter.unusedSimpArgs false
open Go Go.RowKit Go.Shelf
set_option maxRecDepth 100000

/-- What Carry hands back of two changes of as many bytes. -/
def CarrR (l1 l2 : List Sp) (w : World) (e : Ending) (w' : World) : Prop :=
  (carrA (atL (plainM l1)) (atL (plainM l2)) = none ∧ e = .returned (.tuple #[.slice none 0 0, .slice none 0 0, .int .i64 270]) ∧ Below w.heap.size w w') ∨
  (∃ U V, carrA (atL (plainM l1)) (atL (plainM l2)) = some (U, V) ∧ U.length ≤ 300000 ∧ V.length ≤ 300000 ∧
    ((65536 < outA U ∧ e = .returned (.tuple #[.slice none 0 0, .slice none 0 0, .int .i64 3]) ∧ Below w.heap.size w w') ∨
     (outA U ≤ 65536 ∧ ∃ v1 v2, e = .returned (.tuple #[v1, v2, .int .i64 0]) ∧ w'.ownsRow w.heap.size 29 3 v1 (nfA U).length ((nfA U).flatMap encS) ∧ w'.ownsRow w.heap.size 29 3 v2 (nfA V).length ((nfA V).flatMap encS) ∧ (∀ q, v1.ownBlock = some q → v2.ownBlock ≠ some q) ∧ Below w.heap.size w w')))
end Go.Proofs.Ytjccoiephdopkaa

/- Stage 27: Compose. -/
namespace Go.Proofs.Ytjccoiephdopkaa
set_option linter.unusedVariables false
set_option linter.unusedSimpArgs false
open Go Go.RowKit Go.Shelf
set_option maxRecDepth 100000

/-- What Compose hands back of two changes that may be laid together. -/
def CompR (l1 l2 : List Sp) (w : World) (e : Ending) (w' : World) : Prop :=
  (compA (atL (plainM l1)) (atL (plainM l2)) = none ∧ e = .returned (.tuple #[.slice none 0 0, .int .i64 270]) ∧ Below w.heap.size w w') ∨
  (∃ C v, compA (atL (plainM l1)) (atL (plainM l2)) = some C ∧ C.length ≤ 1000000 ∧ e = .returned (.tuple #[v, .int .i64 0]) ∧ w'.ownsRow w.heap.size 29 3 v (nfA C).length ((nfA C).flatMap encS) ∧ Below w.heap.size w w')
end Go.Proofs.Ytjccoiephdopkaa

/- Stage 27: same, own; Carry and Compose, whatever comes in. -/
namespace Go.Proofs.Ytjccoiephdopkaa
set_option linter.unusedVariables false
set_option linter.unusedSimpArgs false
open Go Go.RowKit Go.Shelf
set_option maxRecDepth 100000

set_option maxHeartbeats 8000000 in
theorem same_any (l : List Sp) (o1 o2 : Option Addr) (c1 c2 : Nat) (hn : l.length ≤ 9223372036854775807) (w : World) (h1 : RowAt w encS 3 o1 l) (h2 : RowAt w encS 3 o2 l) :
    Calls Try.prog 16 #[.slice o1 l.length c1, .slice o2 l.length c2] w fun e w' => e = .returned (.bool true) ∧ Below w.heap.size w w' := by
  have HR := Lib.hid (And.intro h1 h2)
  clear h1 h2
  have e0 : ((l.length : Int) == (l.length : Int)) = true := beq_self_eq_true _
  go_enter Try.func16, Try.ntmps16
  go_wp2
  go_loopw [5] (fun i W => ∃ (k : Nat), i = .int .i64 k ∧ k ≤ l.length ∧ Below w.heap.size w W) (fun i _ => l.length - (intOf i).toNat)
  case atStart => exact ⟨0, rfl, by omega, Below.refl _ _⟩
  case round =>
    obtain ⟨k, rfl, hk, hB⟩ := hrel
    by_cases hlt : k < l.length
    · obtain ⟨x, hx⟩ : ∃ x, l[k]? = some x := ⟨_, List.getElem?_eq_getElem hlt⟩
      obtain ⟨g, off, rfl, hc⟩ := HR.out.1.below encS_len (by decide) hB k x hx
      obtain ⟨q0, q1, q2⟩ := get3 (l := l) hc
      obtain ⟨g', off', rfl, hc'⟩ := HR.out.2.below encS_len (by decide) hB k x hx
      obtain ⟨r0, r1, r2⟩ := get3 (l := l) hc'
      obtain ⟨xk, xd, xp⟩ := x
      simp only at q0 q1 q2 r0 r1 r2
      have ek : (xk == xk) = true := beq_self_eq_true _
      have ed : (xd.toList == xd.toList) = true := beq_self_eq_true _
      have ep : (xp.toList == xp.toList) = true := beq_self_eq_true _
      have hkl : (k : Int) < (l.length : Int) := by omega
      have j5 : IntKind.i64.wrap ((k : Int) + 1) = ((k + 1 : Nat) : Int) := by rw [IntWalk.i64_in _ (by omega)]; omega
      have HB := Lib.hid hB
      clear hB hc hc' hx
      go_wp2
      go_quiet (fail)
      generalize hU : World.drewN wr _ = U
      have HU := Lib.hid (HB.out.trans ((hU ▸ below_drewN _ _ : Below wr.heap.size wr U).mono HB.out.size))
      clear hU q0 q1 q2 r0 r1 r2
      go_wp2
      go_roundw
      case rel => exact ⟨k + 1, by go_num, by omega, HU.out⟩
      case measure => simp [intOf] <;> omega
    · obtain rfl : k = l.length := by omega
      have HB := Lib.hid hB
      clear hB
      go_wp2
      go_ret
      exact ⟨rfl, HB.out⟩
/-- All but one row is as it was. -/
structure KpV (v : Value) (W W' : World) : Prop where
  os : W'.os = W.os
  tape : W'.tape = W.tape
  output : W'.output = W.output
  size : W.heap.size ≤ W'.heap.size
  blk : ∀ q, q < W.heap.size → some q ≠ v.ownBlock → W'.heap[q]? = W.heap[q]?
theorem KpV.refl (v : Value) (W : World) : KpV v W W := ⟨rfl, rfl, rfl, Nat.le_refl _, fun _ _ _ => rfl⟩
theorem KpV.set {v : Value} {W X : World} (h : KpV v W X) {g : Nat} (hg : v.ownBlock = some g) (o : Nat) (u : Value) : KpV v W (X.setCell ⟨g, o, none⟩ u) :=
  ⟨h.os, h.tape, h.output, by simpa using h.size, fun q hq hn => (Below.heap_setCell _ _ _ _ (fun e => hn (by rw [hg]; exact congrArg some e))).trans (h.blk q hq hn)⟩
theorem own_full {W : World} {b n c : Nat} {e : TypeId} {sz : Nat} {o : Option Addr} {xs : List Value} (h : W.ownsRow b e sz (.slice o n c) n xs) : ∃ ys, W.ownsRow b e sz (.slice o c c) c ys := by
  rcases h.2 with ⟨e1, h0⟩ | ⟨g', c', cur, e1, hb, hg, h1, h2, h3, h4⟩
  · simp only [Value.slice.injEq] at e1
    obtain ⟨rfl, _, rfl⟩ := e1
    exact ⟨[], World.ownsRow_nil _ _ _ _⟩
  · simp only [Value.slice.injEq] at e1
    obtain ⟨rfl, _, rfl⟩ := e1
    exact ⟨cur.toList, by rw [Array.length_toList, h3], .inr ⟨g', c, cur, rfl, hb, hg, Nat.le_refl _, h2, h3, by rw [List.take_of_length_le (by rw [Array.length_toList, h3]; exact Nat.le_refl _)]⟩⟩
def spoiltB : ByteArray := ⟨#[115, 112, 111, 105, 108, 116]⟩
end Go.Proofs.Ytjccoiephdopkaa

/- Stage 27: Apply at the law's constant; live. -/
namespace Go.Proofs.Ytjccoiephdopkaa
set_option linter.unusedVariables false
set_option linter.unusedSimpArgs false
open Go Go.RowKit Go.Shelf
set_option maxRecDepth 100000

def L3 : List Sp := [⟨1, .empty, .empty⟩, ⟨0, ⟨#[98]⟩, .empty⟩, ⟨0, .empty, ⟨#[99]⟩⟩]
theorem sizeL3 : sizeG L3 0 0 = some (2, 2) := by rfl
theorem okL3 : OkS L3 := by
  intro x hx
  simp only [L3, List.mem_cons, List.not_mem_nil, or_false] at hx
  rcases hx with rfl | rfl | rfl
  all_goals exact ⟨by decide, by decide, by decide, by decide⟩
def stA : Nat → Nat × ByteArray
  | 0 => (0, .empty)
  | 1 => (1, ⟨#[97]⟩)
  | 2 => (2, ⟨#[97]⟩)
  | _ => (2, ⟨#[97, 99]⟩)
theorem infoByteH : (Try.prog.info? 5).map (fun i => (i.zero, i.size, i.bytes)) = some (some (.int .u8 0), 1, 1) := by kernel_rfl
set_option maxHeartbeats 4000000 in
theorem apply_live (o : Option Addr) (c : Nat) (w : World) (hr : RowAt w encS 3 o L3) :
    Calls Try.prog 8 #[.string ⟨#[97, 98]⟩, .slice o 3 c] w fun e w' => e = .returned (.tuple #[.string ⟨#[97, 99]⟩, .int .i64 0]) ∧ Below w.heap.size w w' := by
  obtain ⟨i0, hi, hz0, hz1, hz2⟩ := info_parts infoByteH
  have cS := sizes_any L3 o c (by decide) okL3 w hr
  rw [sizeL3] at cS
  have HR := Lib.hid hr
  clear hr
  go_enter Try.func8, Try.ntmps8
  go_wp2_with (fail)
  refine cS.mono ?_
  rintro e W ⟨rfl, hB⟩
  simp only [szV]
  have HB := Lib.hid hB
  clear hB cS
  have hmk := run_make (P := Try.prog) W 41 5 i0 (.int .u8 0) Try.underlying41 hi hz0 .i64 .i64 0 2 (by omega) (by omega) (by rw [hz2]; omega) (by omega)
  have hrow0 : (W.alloc (.cells (madeCells #[Value.int .u8 0] 2) 5)).ownsRow w.heap.size 5 1 (.slice (some ⟨W.heap.size, 0, none⟩) 0 2) 0 (Lib.strCells .empty) :=
    ⟨rfl, .inr ⟨W.heap.size, 2, _, rfl, HB.out.size, World.alloc_heap_new W _, by omega, by unfold maxLen; omega, by rw [size_madeCells], rfl⟩⟩
  have hb0 := HB.out.alloc HB.out.size (.cells (madeCells #[Value.int .u8 0] 2) 5)
  have H0 := Lib.hid (And.intro hrow0 hb0)
  clear hrow0 hb0
  go_wp2
  go_loopw [9, 10, 32] (fun v a i X => ∃ k : Nat, i = .int .i64 k ∧ k ≤ 3 ∧ a = .int .i64 (stA k).1 ∧ X.ownsRow w.heap.size 5 1 v (stA k).2.size (Lib.strCells (stA k).2) ∧ Below w.heap.size w X) (fun _ _ i _ => 3 - (intOf i).toNat)
  case atStart => exact ⟨0, rfl, by omega, rfl, H0.out.1, H0.out.2⟩
  case round =>
    obtain ⟨k, rfl, hk, rfl, hown, hX⟩ := hrel
    rcases (by omega : k = 0 ∨ k = 1 ∨ k = 2 ∨ k = 3) with hk | hk | hk | hk
    · obtain ⟨g, off, rfl, hc⟩ := HR.out.below encS_len (by decide) hX k ⟨1, .empty, .empty⟩ (by rw [hk]; rfl)
      obtain ⟨q0, q1, q2⟩ := get3 (l := L3) hc
      have hkl : (k : Int) < 3 := by omega
      have hkl2 : k < 3 := by omega
      have j5 : IntKind.i64.wrap ((k : Int) + 1) = ((k + 1 : Nat) : Int) := by rw [IntWalk.i64_in _ (by omega)]; omega
      have e1 : stA k = (0, .empty) := by rw [hk]; rfl
      have e2 : stA (k + 1) = (1, ⟨#[97]⟩) := by rw [hk]; rfl
      rw [e1] at hown ⊢
      simp only at q0 q1 q2 hown ⊢
      have n := Blk.new wr #[.int .i64 1, .string .empty, .string .empty] 29
      have hb := (Below.refl wr.heap.size wr).alloc (Nat.le_refl _) (.cells #[.int .i64 1, .string .empty, .string .empty] 29)
      have HK := Lib.hid (And.intro e2 (And.intro hown (And.intro hX (And.intro n hb))))
      obtain ⟨ov, cv, rfl, _⟩ := own_slice hown
      clear hown hX hc hk e1 e2 n hb
      have hx1 : ((⟨#[97, 98]⟩ : ByteArray).extract 1 2).toList = [98] := by rw [ByteArray.toList_eq]; rfl
      go_wp2
      go_quiet (fail)
      generalize hU : World.drewN _ _ = U
      have hbU := HK.out.2.2.2.2.trans ((hU ▸ below_drewN _ _ : Below (wr.alloc (.cells #[.int .i64 1, .string .empty, .string .empty] 29)).heap.size (wr.alloc (.cells #[.int .i64 1, .string .empty, .string .empty] 29)) U).mono (by simp))
      have nU := HK.out.2.2.2.1.below' (hU ▸ below_drewN _ _ : Below (wr.alloc (.cells #[.int .i64 1, .string .empty, .string .empty] 29)).heap.size (wr.alloc (.cells #[.int .i64 1, .string .empty, .string .empty] 29)) U)
      obtain ⟨B, hBq⟩ : ∃ B, wr.heap.size = B := ⟨_, rfl⟩
      have hBu : w.heap.size ≤ U.heap.size := Nat.le_trans HK.out.2.2.1.size hbU.size
      have rU := own_below HK.out.2.1 hbU
      have HU := Lib.hid (And.intro (HK.out.2.2.1.trans (hbU.mono HK.out.2.2.1.size)) (And.intro rU nU))
      rw [hBq] at nU ⊢
      have u0 := nU.cell 0
      have u1 := nU.cell 1
      have u2 := nU.cell 2
      simp only [List.getElem?_toArray, List.getElem?_cons_succ, List.getElem?_cons_zero] at u0 u1 u2
      have NU := Lib.hid nU
      clear hU hbU nU hBq q0 q1 q2
      go_wp2_with (first | (at_builtin; refine Lib.wpList_append_own_string _ rfl _ _ 41 9 rfl w.heap.size 5 i0 Try.underlying41 Try.underlying9 hi hz0 hz1 hz2 _ _ _ rfl r2 _ rfl (by unfold maxLen; decide) (by decide) (Nat.le_trans hBu g2.size) ?_; intro v3 w3 r3 g3 hz9; clear hz9; have n3 := n2.kept g3 (n2.not_row (by decide) r2); have y0 := n3.cell 0; have y1 := n3.cell 1; have y2 := n3.cell 2; simp only [List.getElem?_toArray, List.getElem?_cons_succ, List.getElem?_cons_zero] at y0 y1 y2) | (at_builtin; refine Lib.wpList_append_own_string _ rfl _ _ 41 9 rfl w.heap.size 5 i0 Try.underlying41 Try.underlying9 hi hz0 hz1 hz2 _ _ _ rfl rU _ rfl (by unfold maxLen; decide) (by decide) hBu ?_; intro v2 w2 r2 g2 hz9; clear hz9; have n2 := NU.out.kept g2 (Blk.not_row NU.out (by decide) rU); have z0 := n2.cell 0; have z1 := n2.cell 1; have z2 := n2.cell 2; simp only [List.getElem?_toArray, List.getElem?_cons_succ, List.getElem?_cons_zero] at z0 z1 z2))
      have HG := Lib.hid (And.intro r3 (And.intro g2 g3))
      clear r3 g2 g3
      go_simp
      trace_state
      go_roundw
      case rel =>
        refine ⟨_, _, _, _, _, _, ?_, rfl, rfl, rfl, rfl, rfl, rfl⟩
        exact ⟨k + 1, by go_num, by omega, by rw [HK.out.1]; rfl, by rw [HK.out.1]; exact HG.out.1, (HU.out.1.grown HG.out.2.1 HU.out.1.size (fun r e => (rU.lt r e).1)).grown HG.out.2.2 (Nat.le_trans HU.out.1.size HG.out.2.1.size) (fun r e => (r2.lt r e).1)⟩
      case measure => simp [intOf] <;> omega
    · obtain ⟨g, off, rfl, hc⟩ := HR.out.below encS_len (by decide) hX k ⟨0, ⟨#[98]⟩, .empty⟩ (by rw [hk]; rfl)
      obtain ⟨q0, q1, q2⟩ := get3 (l := L3) hc
      have hkl : (k : Int) < 3 := by omega
      have hkl2 : k < 3 := by omega
      have j5 : IntKind.i64.wrap ((k : Int) + 1) = ((k + 1 : Nat) : Int) := by rw [IntWalk.i64_in _ (by omega)]; omega
      have e1 : stA k = (1, ⟨#[97]⟩) := by rw [hk]; rfl
      have e2 : stA (k + 1) = (2, ⟨#[97]⟩) := by rw [hk]; rfl
      rw [e1] at hown ⊢
      simp only at q0 q1 q2 hown ⊢
      have n := Blk.new wr #[.int .i64 0, .string ⟨#[98]⟩, .string .empty] 29
      have hb := (Below.refl wr.heap.size wr).alloc (Nat.le_refl _) (.cells #[.int .i64 0, .string ⟨#[98]⟩, .string .empty] 29)
      have HK := Lib.hid (And.intro e2 (And.intro hown (And.intro hX (And.intro n hb))))
      obtain ⟨ov, cv, rfl, _⟩ := own_slice hown
      clear hown hX hc hk e1 e2 n hb
      have hx1 : ((⟨#[97, 98]⟩ : ByteArray).extract 1 2).toList = [98] := by rw [ByteArray.toList_eq]; rfl
      go_wp2
      go_quiet (fail)
      generalize hU : World.drewN _ _ = U
      have hbU := HK.out.2.2.2.2.trans ((hU ▸ below_drewN _ _ : Below (wr.alloc (.cells #[.int .i64 0, .string ⟨#[98]⟩, .string .empty] 29)).heap.size (wr.alloc (.cells #[.int .i64 0, .string ⟨#[98]⟩, .string .empty] 29)) U).mono (by simp))
      have nU := HK.out.2.2.2.1.below' (hU ▸ below_drewN _ _ : Below (wr.alloc (.cells #[.int .i64 0, .string ⟨#[98]⟩, .string .empty] 29)).heap.size (wr.alloc (.cells #[.int .i64 0, .string ⟨#[98]⟩, .string .empty] 29)) U)
      obtain ⟨B, hBq⟩ : ∃ B, wr.heap.size = B := ⟨_, rfl⟩
      have hBu : w.heap.size ≤ U.heap.size := Nat.le_trans HK.out.2.2.1.size hbU.size
      have rU := own_below HK.out.2.1 hbU
      have HU := Lib.hid (And.intro (HK.out.2.2.1.trans (hbU.mono HK.out.2.2.1.size)) (And.intro rU nU))
      rw [hBq] at nU ⊢
      have u0 := nU.cell 0
      have u1 := nU.cell 1
      have u2 := nU.cell 2
      simp only [List.getElem?_toArray, List.getElem?_cons_succ, List.getElem?_cons_zero] at u0 u1 u2
      have NU := Lib.hid nU
      clear hU hbU nU hBq q0 q1 q2
      go_wp2_with (first | (at_builtin; refine Lib.wpList_append_own_string _ rfl _ _ 41 9 rfl w.heap.size 5 i0 Try.underlying41 Try.underlying9 hi hz0 hz1 hz2 _ _ _ rfl r2 _ rfl (by unfold maxLen; decide) (by decide) (Nat.le_trans hBu g2.size) ?_; intro v3 w3 r3 g3 hz9; clear hz9; have n3 := n2.kept g3 (n2.not_row (by decide) r2); have y0 := n3.cell 0; have y1 := n3.cell 1; have y2 := n3.cell 2; simp only [List.getElem?_toArray, List.getElem?_cons_succ, List.getElem?_cons_zero] at y0 y1 y2) | (at_builtin; refine Lib.wpList_append_own_string _ rfl _ _ 41 9 rfl w.heap.size 5 i0 Try.underlying41 Try.underlying9 hi hz0 hz1 hz2 _ _ _ rfl rU _ rfl (by unfold maxLen; decide) (by decide) hBu ?_; intro v2 w2 r2 g2 hz9; clear hz9; have n2 := NU.out.kept g2 (Blk.not_row NU.out (by decide) rU); have z0 := n2.cell 0; have z1 := n2.cell 1; have z2 := n2.cell 2; simp only [List.getElem?_toArray, List.getElem?_cons_succ, List.getElem?_cons_zero] at z0 z1 z2))
      have HG := Lib.hid (And.intro r3 (And.intro g2 g3))
      clear r3 g2 g3
      go_simp
      trace_state
      go_roundw
      case rel =>
        refine ⟨_, _, _, _, _, _, ?_, rfl, rfl, rfl, rfl, rfl, rfl⟩
        exact ⟨k + 1, by go_num, by omega, by rw [HK.out.1]; rfl, by rw [HK.out.1]; exact HG.out.1, (HU.out.1.grown HG.out.2.1 HU.out.1.size (fun r e => (rU.lt r e).1)).grown HG.out.2.2 (Nat.le_trans HU.out.1.size HG.out.2.1.size) (fun r e => (r2.lt r e).1)⟩
      case measure => simp [intOf] <;> omega
    · obtain ⟨g, off, rfl, hc⟩ := HR.out.below encS_len (by decide) hX k ⟨0, .empty, ⟨#[99]⟩⟩ (by rw [hk]; rfl)
      obtain ⟨q0, q1, q2⟩ := get3 (l := L3) hc
      have hkl : (k : Int) < 3 := by omega
      have hkl2 : k < 3 := by omega
      have j5 : IntKind.i64.wrap ((k : Int) + 1) = ((k + 1 : Nat) : Int) := by rw [IntWalk.i64_in _ (by omega)]; omega
      have e1 : stA k = (2, ⟨#[97]⟩) := by rw [hk]; rfl
      have e2 : stA (k + 1) = (2, ⟨#[97, 99]⟩) := by rw [hk]; rfl
      rw [e1] at hown ⊢
      simp only at q0 q1 q2 hown ⊢
      have n := Blk.new wr #[.int .i64 0, .string .empty, .string ⟨#[99]⟩] 29
      have hb := (Below.refl wr.heap.size wr).alloc (Nat.le_refl _) (.cells #[.int .i64 0, .string .empty, .string ⟨#[99]⟩] 29)
      have HK := Lib.hid (And.intro e2 (And.intro hown (And.intro hX (And.intro n hb))))
      obtain ⟨ov, cv, rfl, _⟩ := own_slice hown
      clear hown hX hc hk e1 e2 n hb
      have hx1 : ((⟨#[97, 98]⟩ : ByteArray).extract 1 2).toList = [98] := by rw [ByteArray.toList_eq]; rfl
      go_wp2
      go_quiet (fail)
      generalize hU : World.drewN _ _ = U
      have hbU := HK.out.2.2.2.2.trans ((hU ▸ below_drewN _ _ : Below (wr.alloc (.cells #[.int .i64 0, .string .empty, .string ⟨#[99]⟩] 29)).heap.size (wr.alloc (.cells #[.int .i64 0, .string .empty, .string ⟨#[99]⟩] 29)) U).mono (by simp))
      have nU := HK.out.2.2.2.1.below' (hU ▸ below_drewN _ _ : Below (wr.alloc (.cells #[.int .i64 0, .string .empty, .string ⟨#[99]⟩] 29)).heap.size (wr.alloc (.cells #[.int .i64 0, .string .empty, .string ⟨#[99]⟩] 29)) U)
      obtain ⟨B, hBq⟩ : ∃ B, wr.heap.size = B := ⟨_, rfl⟩
      have hBu : w.heap.size ≤ U.heap.size := Nat.le_trans HK.out.2.2.1.size hbU.size
      have rU := own_below HK.out.2.1 hbU
      have HU := Lib.hid (And.intro (HK.out.2.2.1.trans (hbU.mono HK.out.2.2.1.size)) (And.intro rU nU))
      rw [hBq] at nU ⊢
      have u0 := nU.cell 0
      have u1 := nU.cell 1
      have u2 := nU.cell 2
      simp only [List.getElem?_toArray, List.getElem?_cons_succ, List.getElem?_cons_zero] at u0 u1 u2
      have NU := Lib.hid nU
      clear hU hbU nU hBq q0 q1 q2
      go_wp2_with (first | (at_builtin; refine Lib.wpList_append_own_string _ rfl _ _ 41 9 rfl w.heap.size 5 i0 Try.underlying41 Try.underlying9 hi hz0 hz1 hz2 _ _ _ rfl r2 _ rfl (by unfold maxLen; decide) (by decide) (Nat.le_trans hBu g2.size) ?_; intro v3 w3 r3 g3 hz9; clear hz9; have n3 := n2.kept g3 (n2.not_row (by decide) r2); have y0 := n3.cell 0; have y1 := n3.cell 1; have y2 := n3.cell 2; simp only [List.getElem?_toArray, List.getElem?_cons_succ, List.getElem?_cons_zero] at y0 y1 y2) | (at_builtin; refine Lib.wpList_append_own_string _ rfl _ _ 41 9 rfl w.heap.size 5 i0 Try.underlying41 Try.underlying9 hi hz0 hz1 hz2 _ _ _ rfl rU _ rfl (by unfold maxLen; decide) (by decide) hBu ?_; intro v2 w2 r2 g2 hz9; clear hz9; have n2 := NU.out.kept g2 (Blk.not_row NU.out (by decide) rU); have z0 := n2.cell 0; have z1 := n2.cell 1; have z2 := n2.cell 2; simp only [List.getElem?_toArray, List.getElem?_cons_succ, List.getElem?_cons_zero] at z0 z1 z2))
      have HG := Lib.hid (And.intro r3 (And.intro g2 g3))
      clear r3 g2 g3
      go_simp
      trace_state
      go_roundw
      case rel =>
        refine ⟨_, _, _, _, _, _, ?_, rfl, rfl, rfl, rfl, rfl, rfl⟩
        exact ⟨k + 1, by go_num, by omega, by rw [HK.out.1]; rfl, by rw [HK.out.1]; exact HG.out.1, (HU.out.1.grown HG.out.2.1 HU.out.1.size (fun r e => (rU.lt r e).1)).grown HG.out.2.2 (Nat.le_trans HU.out.1.size HG.out.2.1.size) (fun r e => (r2.lt r e).1)⟩
      case measure => simp [intOf] <;> omega
    · have e1 : stA k = (2, ⟨#[97, 99]⟩) := by rw [hk]; rfl
      have hkl : ¬ (k : Int) < 3 := by omega
      have hkl2 : ¬ k < 3 := by omega
      rw [e1] at hown
      simp only at hown
      have hconv := conv_own rfl hown
      have HK := Lib.hid hX
      clear hown hX hk e1
      go_wp2
      refine bodyPost_ret (results_tmp2 rfl _ _ _) rfl ?_
      exact ⟨rfl, HK.out⟩
theorem row9 {w : World} {g : Nat} {t : TypeId} (h : w.heap[g]? = some (.cells #[.int .i64 1, .string .empty, .string .empty, .int .i64 0, .string ⟨#[98]⟩, .string .empty, .int .i64 0, .string .empty, .string ⟨#[99]⟩] t (0, 0))) : RowAt w encS 3 (some ⟨g, 0, none⟩) L3 := by
  intro i x hi
  have hl : i < 3 := (List.getElem?_eq_some_iff.1 hi).1
  refine ⟨g, 0, rfl, fun j hj => ?_⟩
  have hc : ∀ o, w.cell? ⟨g, o, none⟩ = (#[.int .i64 1, .string .empty, .string .empty, .int .i64 0, .string ⟨#[98]⟩, .string .empty, .int .i64 0, .string .empty, .string ⟨#[99]⟩] : Array Value)[o]? := fun o => Blk.cell (t := t) h o
  rw [hc]
  rcases (by omega : i = 0 ∨ i = 1 ∨ i = 2) with rfl | rfl | rfl <;> cases hi <;> rcases (by omega : j = 0 ∨ j = 1 ∨ j = 2) with rfl | rfl | rfl <;> rfl
theorem live_any (w : World) : Calls Try.prog 4 #[] w fun e w' => e = .returned (.bool true) ∧ Below w.heap.size w w' := by
  have hb := (Below.refl w.heap.size w).alloc (Nat.le_refl _) (.cells #[.int .i64 1, .string .empty, .string .empty, .int .i64 0, .string ⟨#[98]⟩, .string .empty, .int .i64 0, .string .empty, .string ⟨#[99]⟩] 29)
  have cA := apply_live (some ⟨w.heap.size, 0, none⟩) 3 (w.alloc (.cells #[.int .i64 1, .string .empty, .string .empty, .int .i64 0, .string ⟨#[98]⟩, .string .empty, .int .i64 0, .string .empty, .string ⟨#[99]⟩] 29)) (row9 (World.alloc_heap_new w _))
  go_enter Try.func4, Try.ntmps4
  go_wp2_with (fail)
  refine cA.mono ?_
  rintro e W ⟨rfl, hB⟩
  have HB := Lib.hid (hb.trans (hB.mono (by simp)))
  clear hB hb cA
  go_wp2
  go_ret
  exact ⟨rfl, HB.out⟩
end Go.Proofs.Ytjccoiephdopkaa
