/- What runes.To answers: the runes of a text's pieces, in new memory. -/
import Derived.Test.YtaogmmhkpknkmaaSeqA
import Derived.Test.YtaogmmhkpknkmaaEnds
import Derived.Lib.OthersKept
namespace Go.Proofs.Ytaogmmhkpknkmaa
set_option linter.unusedVariables false
set_option linter.unusedSimpArgs false
open Go Go.RowKit
set_option maxRecDepth 100000

/-- The runes of a list of pieces. -/
def rns (s : ByteArray) (l : List Nat) : List Value := l.map fun (i : Nat) => Value.int .i32 (rn s i : Nat)
theorem rns_snoc (s : ByteArray) (l : List Nat) (i : Nat) : rns s (l ++ [i]) = rns s l ++ [.int .i32 (rn s i : Nat)] := by simp [rns]

theorem infoR : (Try.prog.info? 21).map (fun i => (i.zero, i.size, i.bytes)) = some (some (.int .i32 0), 1, 4) := by kernel_rfl

def ToPost (s : ByteArray) (w : World) (e : Ending) (w' : World) : Prop :=
  ∃ v, e = .returned v ∧ w'.ownsRow w.heap.size 21 1 v (posns s).length (rns s (posns s)) ∧ Below w.heap.size w w'

/-- Between two rounds of To. -/
def ToRel (s : ByteArray) (w : World) (v : Value) (wr : World) : Prop :=
  ∃ (pre : List Nat) (pos : Nat), posns s = pre ++ posG s pos ∧ wr.heap[w.heap.size]? = some (.stringIter s pos) ∧ wr.ownsRow w.heap.size 21 1 v pre.length (rns s pre) ∧ Below w.heap.size w wr

theorem own_iter {w : World} {b : Nat} {e : TypeId} {sz n : Nat} {v : Value} {xs : List Value} (h : w.ownsRow b e sz v n xs) {it : Nat} {s : ByteArray} {pos : Nat} (hi : w.heap[it]? = some (.stringIter s pos)) : v.ownBlock = none ∨ v.ownBlock ≠ some it := by
  rcases h.2 with ⟨rfl, _⟩ | ⟨g, c, cur, rfl, _, hg, _⟩
  · exact .inl rfl
  · right
    simp only [Value.ownBlock, ne_eq, Option.some.injEq]
    intro e
    rw [e, hi] at hg
    cases hg

theorem iter_grown {w w' : World} {b : Nat} {e : TypeId} {sz n : Nat} {v : Value} {xs : List Value} (h : w.ownsRow b e sz v n xs) {it : Nat} {s : ByteArray} {pos : Nat} (hi : w.heap[it]? = some (.stringIter s pos)) (hg : w.grownBy w' v.ownBlock) : w'.heap[it]? = some (.stringIter s pos) := by
  rw [hg.block it (Array.getElem?_eq_some_iff.1 hi).1 (fun e => by
    rcases own_iter h hi with h | h
    · rw [h] at e; cases e
    · exact h e.symm)]
  exact hi

set_option maxHeartbeats 1000000 in
theorem to_big (s : ByteArray) (hs : (posns s).length ≤ 35184372087808) (w : World) :
    Calls Try.prog 12 #[.string s] w (ToPost s w) := by
  obtain ⟨i0, hi, hz0, hz1, hz2⟩ := info_parts infoR
  go_enter Try.func12, Try.ntmps12
  go_wp2
  go_loopw [3] (fun v wr => ToRel s w v wr) (fun _ wr => s.size - wr.iterPos w.heap.size)
  case atStart => exact ⟨[], 0, by simp [posns_G], World.iter_heap w s 0, World.ownsRow_nil _ _ _ _, (Below.refl _ _).alloc (Nat.le_refl _) _⟩
  case round =>
    obtain ⟨pre, pos, hpp, hit, hv, hB⟩ := hrel
    by_cases hps : pos < s.size
    · have hnx : ∀ ty, (Instr.next (.pointer (some ⟨w.heap.size, 0, none⟩)) true ty).run Try.prog wr = _ := fun ty => Lib.run_next_any_at wr w.heap.size s pos ty hit hps
      rw [dec_eq s pos hps] at hnx
      have hit1 := Lib.iterAt_heap wr w.heap.size s pos (pos + wd s pos) hit
      have hv1 := hv.kept (grown_iterAt wr w.heap.size s (pos + wd s pos)) (own_iter hv hit)
      have hB1 : Below w.heap.size w (wr.iterAt w.heap.size s (pos + wd s pos)) := Lib.below_iterAt hB (Nat.le_refl _) s _
      have hmeas : s.size - (pos + wd s pos) < s.size - wr.iterPos w.heap.size := by
        have := wd_pos s pos
        simp only [World.iterPos, hit]; omega
      have hlen : pre.length < s.size := by
        have h1 := posns_len s
        rw [hpp, posG_cons s pos hps] at h1
        simp at h1; omega
      have hlen2 : pre.length < (posns s).length := by
        rw [hpp, posG_cons s pos hps]
        simp
      have hlen3 : pre.length < 35184372087808 := by omega
      clear hlen2
      have hpp2 : posns s = (pre ++ [pos]) ++ posG s (pos + wd s pos) := by rw [hpp, posG_cons s pos hps]; simp
      obtain ⟨P, hP⟩ : ∃ P, wr.iterAt w.heap.size s (pos + wd s pos) = P := ⟨_, rfl⟩
      rw [hP] at hnx hit1 hv1 hB1
      clear hP
      have hlt : w.heap.size < P.heap.size := (Array.getElem?_eq_some_iff.1 hit1).1
      have HP := Lib.hid hpp2
      have HM := Lib.hid hmeas
      clear hpp hpp2 hmeas hit hv hB
      go_wp2_with (at_builtin; refine wpList_append_own _ rfl _ _ 22 rfl w.heap.size 21 i0 (.int .i32 0) 1 4 Try.underlying22 hi hz0 hz1 hz2 rfl (by decide) _ _ _ rfl (hv1.alloc _) ⟨P.heap.size, 0, none⟩ 1 1 [.int .i32 (rn s pos : Nat)] rfl rfl (cell_one_new _ _ _) (fun x hx => by simp at hx; subst hx; rfl) (by unfold maxLen; omega) (by omega) (by have := hB1.size; simp; omega) ?_; intro v' w2 hown' hgrow _)
      have hit2 : w2.heap[w.heap.size]? = some (.stringIter s (pos + wd s pos)) := iter_grown (hv1.alloc _) ((Below.heap_alloc _ _ _ hlt).trans hit1) hgrow
      go_roundw
      case rel => exact ⟨pre ++ [pos], pos + wd s pos, HP.out, hit2, by rw [rns_snoc, List.length_append]; exact hown', (hB1.alloc hB1.size _).grown hgrow (by have := hB1.size; simp; omega) (fun j hj => (hv1.lt j hj).1)⟩
      case measure => simp only [World.iterPos, hit2]; exact HM.out
    · have he := posG_end s pos (by omega)
      rw [he, List.append_nil] at hpp
      have hnx := fun ty => Lib.run_next_end_at (P := Try.prog) wr w.heap.size s pos ty hit (by omega)
      go_wp2
      go_ret
      exact ⟨_, rfl, by rw [hpp]; exact hv, hB⟩
theorem to_any (s : ByteArray) (hs : s.size ≤ 4194304) (w : World) :
    Calls Try.prog 12 #[.string s] w (ToPost s w) := to_big s (by have := posns_len s; omega) w
end Go.Proofs.Ytaogmmhkpknkmaa
