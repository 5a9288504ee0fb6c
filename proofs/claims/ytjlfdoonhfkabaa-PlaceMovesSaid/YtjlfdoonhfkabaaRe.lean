/- The document's Ends of layer 2: the line ends of a text. -/
import Derived.Test.YtjlfdoonhfkabaaRp
namespace Go.Proofs.Ytjlfdoonhfkabaa
set_option linter.unusedVariables false
set_option linter.unusedSimpArgs false
open Go Go.RowKit Go.Shelf
set_option maxRecDepth 100000

/-- The line ends from i on; all. -/
def enA (s : ByteArray) (b i : Nat) : List (Nat × Nat) := (rwA s b i).dropLast.map fun r => (r.2.1, r.2.1 + r.2.2)
def ens (s : ByteArray) : List (Nat × Nat) := enA s 0 0
theorem enA_end (s : ByteArray) (b i : Nat) (h : s.size ≤ i) : enA s b i = [] := by unfold enA; rw [rwA_end s b i h]; rfl
theorem enA_on (s : ByteArray) (b i : Nat) (h : i < s.size) (he : lnE s i = 0) : enA s b i = enA s b (i + 1) := by unfold enA; rw [rwA_on s b i h he]
theorem rwG_ne (s : ByteArray) : ∀ f b i, rwG s f b i ≠ [] := by
  intro f
  induction f with
  | zero => intro b i; simp [rwG]
  | succ f ih =>
    intro b i
    unfold rwG
    repeat' split
    all_goals first | exact ih _ _ | simp
theorem enA_line (s : ByteArray) (b i : Nat) (h : i < s.size) (he : lnE s i ≠ 0) : enA s b i = (i, i + lnE s i) :: enA s (i + lnE s i) (i + lnE s i) := by
  unfold enA
  rw [rwA_line s b i h he, List.dropLast_cons_of_ne_nil (show rwA s (i + lnE s i) (i + lnE s i) ≠ [] from rwG_ne s _ _ _)]
  rfl
def enC (l : List (Nat × Nat)) : List Value := l.flatMap fun x => [.int .i64 (x.1 : Nat), .int .i64 (x.2 : Nat)]
theorem enC_app (a : List (Nat × Nat)) (i n : Nat) : enC (a ++ [(i, i + n)]) = enC a ++ [.int .i64 i, .int .i64 ((i : Int) + n)] := by simp [enC]
theorem enC_len (l : List (Nat × Nat)) : (enC l).length = l.length * 2 := by
  induction l with
  | nil => rfl
  | cons x l ih => simp only [enC, List.flatMap_cons, List.length_append, List.length_cons, List.length_nil] at ih ⊢; omega
theorem enC_get : ∀ (l : List (Nat × Nat)) (k : Nat) (r : Nat × Nat), l[k]? = some r → (enC l)[k * 2]? = some (.int .i64 r.1) ∧ (enC l)[k * 2 + 1]? = some (.int .i64 r.2)
  | [], k, r, h => by simp at h
  | x :: l, 0, r, h => by
    simp at h; subst h
    exact ⟨rfl, rfl⟩
  | x :: l, k + 1, r, h => by
    have h' := enC_get l k r (by simpa using h)
    have e : enC (x :: l) = [.int .i64 x.1, .int .i64 x.2] ++ enC l := by simp [enC]
    rw [e]
    refine ⟨?_, ?_⟩
    · rw [List.getElem?_append_right (by simp; omega)]; simpa [show (k + 1) * 2 - 2 = k * 2 by omega] using h'.1
    · rw [List.getElem?_append_right (by simp; omega)]; simpa [show (k + 1) * 2 + 1 - 2 = k * 2 + 1 by omega] using h'.2
theorem infoE : (Try.prog.info? 37).map (fun i => (i.zero, i.size, i.bytes)) = some (some (.agg #[.int .i64 0, .int .i64 0]), 2, 16) := by kernel_rfl

def EnRel (s : ByteArray) (w : World) (l iv : Value) (wr : World) : Prop :=
  ∃ (b i : Nat) (pre : List (Nat × Nat)), iv = .int .i64 i ∧ i ≤ s.size ∧ ens s = pre ++ enA s b i ∧ wr.ownsRow w.heap.size 37 2 l pre.length (enC pre) ∧ pre.length ≤ i ∧ Below w.heap.size w wr

set_option maxHeartbeats 8000000 in
theorem ends_any (s : ByteArray) (hs : s.size ≤ 65536) (w : World) : Calls Try.prog 26 #[.string s] w fun e w' => ∃ v, e = .returned v ∧ w'.ownsRow w.heap.size 37 2 v (ens s).length (enC (ens s)) ∧ Below w.heap.size w w' := by
  obtain ⟨i0, hi, hz0, hz1, hz2⟩ := info_parts infoE
  go_enter Try.func26, Try.ntmps26
  go_wp2
  go_loopw [3, 4] (fun l iv wr => EnRel s w l iv wr) (fun _ iv _ => s.size - (intOf iv).toNat)
  case atStart => exact ⟨0, 0, [], rfl, Nat.zero_le _, rfl, World.ownsRow_nil _ _ _ _, Nat.zero_le _, Below.refl _ _⟩
  case round =>
    obtain ⟨b, i, pre, rfl, his, hE, hown, hpl, hB⟩ := hrel
    obtain ⟨n, hn⟩ : ∃ n, pre.length = n := ⟨_, rfl⟩
    rw [hn] at hown hpl
    have HP := Lib.hid hn
    have HE := Lib.hid hE
    clear hn hE
    obtain ⟨o, c, rfl, _⟩ := own_slice hown
    by_cases hlt : i < s.size
    · have hbs := bt_get s i hlt
      have hbl := bt_lt s i
      have j0 : (0 : Int) ≤ (i : Int) := by omega
      have j1 : (i : Int) < (s.size : Int) := by omega
      have w1 : IntKind.i64.wrap ((i : Int) + 1) = (i : Int) + 1 := IntWalk.i64_in _ (by omega)
      have w2 : IntKind.i64.wrap ((i : Int) + 2) = (i : Int) + 2 := IntWalk.i64_in _ (by omega)
      have w3 : IntKind.i64.wrap ((i : Int) + 1 + 1) = (i : Int) + 1 + 1 := IntWalk.i64_in _ (by omega)
      by_cases h10 : bt s i = 10
      · have hA : enA s b i = (i, i + 1) :: enA s (i + 1) (i + 1) := by
          have h1 : lnE s i = 1 := by unfold lnE; rw [if_pos h10]
          have := enA_line s b i hlt (by omega)
          rw [h1] at this; exact this
        have HA := Lib.hid hA
        rw [h10] at hbs
        clear hA h10 hbl
        go_wp2_with (at_builtin; refine wpList_append_own _ rfl _ _ 53 rfl w.heap.size 37 i0 (.agg #[.int .i64 0, .int .i64 0]) 2 16 Try.underlying53 hi hz0 hz1 hz2 rfl (by decide) (.slice o n c) _ _ rfl (hown.alloc _) ⟨wr.heap.size, 0, none⟩ 1 1 [.int .i64 i, .int .i64 ((i : Int) + 1)] rfl rfl (World.news_of_block (cs := #[.int .i64 i, .int .i64 ((i : Int) + 1)]) (t := 37) (fr := (0, 0)) (World.alloc_heap_new wr _)) (fun x hx => by simp at hx; rcases hx with rfl | rfl <;> rfl) (by unfold maxLen; omega) (by omega) (by have := hB.size; simp; omega) ?_; intro v' w2 hown' hgrow _; obtain ⟨o', c', rfl, _⟩ := own_slice hown')
        go_roundw
        case rel =>
          refine ⟨i + 1, i + 1, pre ++ [(i, i + 1)], by first | rfl | trivial | go_num, by omega, ?_, ?_, by rw [List.length_append, HP.out]; simp; omega, (hB.alloc hB.size _).grown hgrow (by have := hB.size; simp; omega) (fun j hj => (hown.lt j hj).1)⟩
          · rw [HE.out, HA.out, List.append_assoc]; rfl
          · rw [enC_app, List.length_append, HP.out]
            exact hown'
        case measure => simp [intOf]; omega
      · by_cases h13 : bt s i = 13
        · rw [h13] at hbs
          by_cases hlf : lfAt s (i + 1) = true
          · have hA : enA s b i = (i, i + 2) :: enA s (i + 2) (i + 2) := by
              have h1 : lnE s i = 2 := by unfold lnE; rw [if_neg h10, if_pos h13, if_pos hlf]
              have := enA_line s b i hlt (by omega)
              rw [h1] at this; exact this
            have HA := Lib.hid hA
            simp only [lfAt, Bool.and_eq_true, decide_eq_true_eq, beq_iff_eq] at hlf
            obtain ⟨k1, k2⟩ := hlf
            have hcs := bt_get s (i + 1) k1
            rw [k2] at hcs
            have j2 : (i : Int) + 1 < (s.size : Int) := by omega
            have j3 : (0 : Int) ≤ (i : Int) + 1 := by omega
            have j4 : ((i : Int) + 1).toNat = i + 1 := by omega
            clear hA h10 h13 hbl k2
            go_wp2_with (at_builtin; refine wpList_append_own _ rfl _ _ 53 rfl w.heap.size 37 i0 (.agg #[.int .i64 0, .int .i64 0]) 2 16 Try.underlying53 hi hz0 hz1 hz2 rfl (by decide) (.slice o n c) _ _ rfl (hown.alloc _) ⟨wr.heap.size, 0, none⟩ 1 1 [.int .i64 i, .int .i64 ((i : Int) + 2)] rfl rfl (World.news_of_block (cs := #[.int .i64 i, .int .i64 ((i : Int) + 2)]) (t := 37) (fr := (0, 0)) (World.alloc_heap_new wr _)) (fun x hx => by simp at hx; rcases hx with rfl | rfl <;> rfl) (by unfold maxLen; omega) (by omega) (by have := hB.size; simp; omega) ?_; intro v' w2 hown' hgrow _; obtain ⟨o', c', rfl, _⟩ := own_slice hown')
            go_roundw
            case rel =>
              refine ⟨i + 2, i + 2, pre ++ [(i, i + 2)], by first | rfl | trivial | go_num, by omega, ?_, ?_, by rw [List.length_append, HP.out]; simp; omega, (hB.alloc hB.size _).grown hgrow (by have := hB.size; simp; omega) (fun j hj => (hown.lt j hj).1)⟩
              · rw [HE.out, HA.out, List.append_assoc]; rfl
              · rw [enC_app, List.length_append, HP.out]
                exact hown'
            case measure => simp [intOf]; omega
          · have hA : enA s b i = (i, i + 1) :: enA s (i + 1) (i + 1) := by
              have h1 : lnE s i = 1 := by unfold lnE; rw [if_neg h10, if_pos h13, if_neg hlf]
              have := enA_line s b i hlt (by omega)
              rw [h1] at this; exact this
            have HA := Lib.hid hA
            by_cases k1 : i + 1 < s.size
            · have hcs := bt_get s (i + 1) k1
              have hcl := bt_lt s (i + 1)
              have k2 : ((bt s (i + 1) : Int) == 10) = false := by
                rw [beq_eq_false_iff_ne]
                intro h
                apply hlf
                simp only [lfAt, Bool.and_eq_true, decide_eq_true_eq, beq_iff_eq]
                exact ⟨k1, by omega⟩
              have k3 : ¬ (bt s (i + 1) : Int) = 10 := by rw [beq_eq_false_iff_ne] at k2; exact k2
              have j2 : (i : Int) + 1 < (s.size : Int) := by omega
              have j3 : (0 : Int) ≤ (i : Int) + 1 := by omega
              have j4 : ((i : Int) + 1).toNat = i + 1 := by omega
              obtain ⟨bx, hbx⟩ : ∃ x, bt s (i + 1) = x := ⟨_, rfl⟩
              rw [hbx] at hcs hcl k2 k3
              clear hA h10 h13 hbl hbx hlf
              go_wp2_with (at_builtin; refine wpList_append_own _ rfl _ _ 53 rfl w.heap.size 37 i0 (.agg #[.int .i64 0, .int .i64 0]) 2 16 Try.underlying53 hi hz0 hz1 hz2 rfl (by decide) (.slice o n c) _ _ rfl (hown.alloc _) ⟨wr.heap.size, 0, none⟩ 1 1 [.int .i64 i, .int .i64 ((i : Int) + 1)] rfl rfl (World.news_of_block (cs := #[.int .i64 i, .int .i64 ((i : Int) + 1)]) (t := 37) (fr := (0, 0)) (World.alloc_heap_new wr _)) (fun x hx => by simp at hx; rcases hx with rfl | rfl <;> rfl) (by unfold maxLen; omega) (by omega) (by have := hB.size; simp; omega) ?_; intro v' w2 hown' hgrow _; obtain ⟨o', c', rfl, _⟩ := own_slice hown')
              go_roundw
              case rel =>
                refine ⟨i + 1, i + 1, pre ++ [(i, i + 1)], by first | rfl | trivial | go_num, by omega, ?_, ?_, by rw [List.length_append, HP.out]; simp; omega, (hB.alloc hB.size _).grown hgrow (by have := hB.size; simp; omega) (fun j hj => (hown.lt j hj).1)⟩
                · rw [HE.out, HA.out, List.append_assoc]; rfl
                · rw [enC_app, List.length_append, HP.out]
                  exact hown'
              case measure => simp [intOf]; omega
            · have j2 : ¬ (i : Int) + 1 < (s.size : Int) := by omega
              have j5 : decide ((i : Int) + 1 < (s.size : Int)) = false := decide_eq_false j2
              clear hA h10 h13 hbl hlf
              go_wp2_with (at_builtin; refine wpList_append_own _ rfl _ _ 53 rfl w.heap.size 37 i0 (.agg #[.int .i64 0, .int .i64 0]) 2 16 Try.underlying53 hi hz0 hz1 hz2 rfl (by decide) (.slice o n c) _ _ rfl (hown.alloc _) ⟨wr.heap.size, 0, none⟩ 1 1 [.int .i64 i, .int .i64 ((i : Int) + 1)] rfl rfl (World.news_of_block (cs := #[.int .i64 i, .int .i64 ((i : Int) + 1)]) (t := 37) (fr := (0, 0)) (World.alloc_heap_new wr _)) (fun x hx => by simp at hx; rcases hx with rfl | rfl <;> rfl) (by unfold maxLen; omega) (by omega) (by have := hB.size; simp; omega) ?_; intro v' w2 hown' hgrow _; obtain ⟨o', c', rfl, _⟩ := own_slice hown')
              go_roundw
              case rel =>
                refine ⟨i + 1, i + 1, pre ++ [(i, i + 1)], by first | rfl | trivial | go_num, by omega, ?_, ?_, by rw [List.length_append, HP.out]; simp; omega, (hB.alloc hB.size _).grown hgrow (by have := hB.size; simp; omega) (fun j hj => (hown.lt j hj).1)⟩
                · rw [HE.out, HA.out, List.append_assoc]; rfl
                · rw [enC_app, List.length_append, HP.out]
                  exact hown'
              case measure => simp [intOf]; omega
        · have hA : enA s b i = enA s b (i + 1) := enA_on s b i hlt (lnE_0 h10 h13)
          have HA := Lib.hid hA
          have e1 : ((bt s i : Int) == 10) = false := by rw [beq_eq_false_iff_ne]; omega
          have e2 : ((bt s i : Int) == 13) = false := by rw [beq_eq_false_iff_ne]; omega
          have e3 : ¬ (bt s i : Int) = 10 := by omega
          have e4 : ¬ (bt s i : Int) = 13 := by omega
          obtain ⟨bx, hbx⟩ : ∃ x, bt s i = x := ⟨_, rfl⟩
          rw [hbx] at hbs hbl e1 e2 e3 e4
          clear hA h10 h13 hbx
          go_wp2
          go_roundw
          case rel => exact ⟨b, i + 1, pre, by first | rfl | trivial | go_num, by omega, by rw [HE.out, HA.out], by rw [HP.out]; exact hown, by rw [HP.out]; omega, hB⟩
          case measure => simp [intOf]; omega
    · have hA := enA_end s b i (by omega)
      have hE2 := HE.out
      rw [hA, List.append_nil] at hE2
      have HE2 := Lib.hid hE2
      clear hA hE2
      go_wp2
      go_ret
      exact ⟨_, rfl, by rw [HE2.out, HP.out]; exact hown, hB⟩
end Go.Proofs.Ytjlfdoonhfkabaa
