/- ClassUpper: the law's call. -/
import Derived.Test.YtkikopjbaonbpaaTvU
import Derived.Test.YtkikopjbaonbpaaTvL
import Derived.Test.YtkikopjbaonbpaaTyU
import Derived.Test.YtkikopjbaonbpaaTyL
namespace Go.Proofs.Ytkikopjbaonbpaa
set_option linter.unusedVariables false
set_option linter.unusedSimpArgs false
open Go Go.RowKit
set_option maxRecDepth 100000

theorem lowerText_any (s : ByteArray) (hs : s.size ≤ 17179869184) (w : World) :
    Calls Try.prog 12 #[.string s] w fun e w' => e = .returned (.string (txL s)) ∧ Below w.heap.size w w' := by
  have cT := turnL_any s hs
  have ht : (⟨(tuS s lwG (posns s)).2.toArray⟩ : ByteArray) = txL s := tuS_units s lwG
  obtain ⟨t, hx⟩ : ∃ t, txL s = t := ⟨_, rfl⟩
  rw [hx] at ht ⊢
  rw [ht] at cT
  clear ht hx
  go_enter Try.func12, Try.ntmps12
  go_wp2_with (go_at_call 21; refine (cT _).mono ?_; rintro e w1 ⟨rfl, hb1⟩)
  go_ret
  exact ⟨rfl, hb1⟩
theorem upperText_any (s : ByteArray) (hs : s.size ≤ 17179869184) (w : World) :
    Calls Try.prog 10 #[.string s] w fun e w' => e = .returned (.string (txU s)) ∧ Below w.heap.size w w' := by
  have cT := turnU_any s hs
  have ht : (⟨(tuS s upG (posns s)).2.toArray⟩ : ByteArray) = txU s := tuS_units s upG
  obtain ⟨t, hx⟩ : ∃ t, txU s = t := ⟨_, rfl⟩
  rw [hx] at ht ⊢
  rw [ht] at cT
  clear ht hx
  go_enter Try.func10, Try.ntmps10
  go_wp2_with (go_at_call 21; refine (cT _).mono ?_; rintro e w1 ⟨rfl, hb1⟩)
  go_ret
  exact ⟨rfl, hb1⟩
theorem lowerD_text (s : ByteArray) (hs : s.size ≤ 17179869184) (w : World) :
    Calls Try.prog 18 #[.string s] w fun e w' => e = .returned (.string (txL s)) ∧ Below w.heap.size w w' := by
  have h := lowTD_any s hs w
  have ht : (⟨(tuS s lwG (posns s)).2.toArray⟩ : ByteArray) = txL s := tuS_units s lwG
  rw [ht] at h
  exact h
theorem upperD_text (s : ByteArray) (hs : s.size ≤ 17179869184) (w : World) :
    Calls Try.prog 11 #[.string s] w fun e w' => e = .returned (.string (txU s)) ∧ Below w.heap.size w w' := by
  have h := upTD_any s hs w
  have ht : (⟨(tuS s upG (posns s)).2.toArray⟩ : ByteArray) = txU s := tuS_units s upG
  rw [ht] at h
  exact h

def dotB (s : ByteArray) (l : List Nat) : Bool := l.any fun i => rn s i == 304
theorem dot_t {s : ByteArray} {i : Nat} (h : rn s i = 304) (l : List Nat) : dotB s (l ++ [i]) = true := by simp [dotB, h]
theorem dot_f {s : ByteArray} {i : Nat} (h : rn s i ≠ 304) (l : List Nat) : dotB s (l ++ [i]) = dotB s l := by simp [dotB, h]
theorem dot_up {s : ByteArray} {i : Nat} {l : List Nat} (h : dotB s l = true) : dotB s (l ++ [i]) = true := by
  unfold dotB at h ⊢
  rw [List.any_append, h]; rfl
def UpRelD (s : ByteArray) (V : World) (v : Value) (wr : World) : Prop :=
  ∃ (d : List Nat) (pos : Nat), posns s = d ++ posG s pos ∧ v = .bool (dotB s d) ∧ wr.heap[V.heap.size]? = some (.stringIter s pos) ∧ Below V.heap.size V wr

set_option maxHeartbeats 4000000 in
theorem classUpper_any (s : ByteArray) (hs : 2 * s.size ≤ 2147483647) (w : World) :
    Calls Try.prog 4 #[.string s] w fun e w' => e = .returned (.bool true) ∧ Below w.heap.size w w' := by
  have cB := beyond_any (2 * (s.size : Int)) (by omega)
  have hlU := tx_len s upG upG_le
  have hlL := tx_len s lwG lwG_le
  have cU1 := upperText_any s (by omega)
  have cD1 := upperD_text s (by omega)
  have cL1 := lowerText_any s (by omega)
  have cU2 := upperText_any (txU s) (by show (outU upG false (units s)).size ≤ _; omega)
  rw [up_up] at cU2
  have cU3 := upperText_any (txL s) (by show (outU lwG false (units s)).size ≤ _; omega)
  have hul := up_low s
  obtain ⟨X, hX⟩ : ∃ X, txU (txL s) = X := ⟨_, rfl⟩
  rw [hX] at cU3 hul
  obtain ⟨U, hU⟩ : ∃ U, txU s = U := ⟨_, rfl⟩
  rw [hU] at cU1 cD1 cU2 hul
  obtain ⟨L, hL⟩ : ∃ L, txL s = L := ⟨_, rfl⟩
  rw [hL] at cL1 cU3
  have HUL := Lib.hid hul
  clear hlU hlL hul hX hU hL
  have m1 := trivial
  go_enter Try.func4, Try.ntmps4
  go_wp2_with (first | (go_at_call 6; refine (live_any _).mono ?_; rintro e w' ⟨rfl, rfl⟩) | (go_at_call 9; refine (cB _).mono ?_; rintro e w' ⟨rfl, rfl⟩) | (go_at_call 10; clear m1; refine (cU1 _).mono ?_; rintro e w1 ⟨rfl, hb1⟩) | (go_at_call 11; refine (cD1 _).mono ?_; rintro e w2 ⟨rfl, hb2⟩) | (go_at_call 10; refine (cU2 _).mono ?_; rintro e w3 ⟨rfl, hb3⟩))
  have B3 := hb1.trans ((hb2.mono hb1.size).trans (hb3.mono (Nat.le_trans hb1.size hb2.size)))
  go_loopw [4] (fun v wr => UpRelD s w3 v wr) (fun _ wr => s.size - wr.iterPos w3.heap.size)
  case atStart => exact ⟨[], 0, by simp [posns_G], rfl, World.iter_heap w3 s 0, (Below.refl _ _).alloc (Nat.le_refl _) _⟩
  case round =>
    obtain ⟨d, pos, hd, rfl, hit, hB⟩ := hrel
    by_cases hps : pos < s.size
    · have hnx : ∀ ty, (Instr.next (.pointer (some ⟨w3.heap.size, 0, none⟩)) true ty).run Try.prog wr = _ := fun ty => Lib.run_next_any_at wr w3.heap.size s pos ty hit hps
      rw [dec_eq s pos hps] at hnx
      have hit1 := Lib.iterAt_heap wr w3.heap.size s pos (pos + wd s pos) hit
      have hB1 : Below w3.heap.size w3 (wr.iterAt w3.heap.size s (pos + wd s pos)) := Lib.below_iterAt hB (Nat.le_refl _) s _
      have hmeas : s.size - (pos + wd s pos) < s.size - wr.iterPos w3.heap.size := by
        have := wd_pos s pos
        simp only [World.iterPos, hit]; omega
      have hd2 : posns s = (d ++ [pos]) ++ posG s (pos + wd s pos) := by rw [hd, posG_cons s pos hps]; simp
      obtain ⟨P, hP⟩ : ∃ P, wr.iterAt w3.heap.size s (pos + wd s pos) = P := ⟨_, rfl⟩
      rw [hP] at hnx hit1 hB1
      have HM := Lib.hid hmeas
      have HD := Lib.hid hd2
      clear hP hmeas hit hB hd hd2
      cases hq : dotB s d with
      | true =>
        have HQ := Lib.hid (dot_up (i := pos) hq)
        clear hq
        go_wp2
        go_roundw
        case rel => exact ⟨_, _, HD.out, by rw [HQ.out], hit1, hB1⟩
        case measure => simp only [World.iterPos, hit1]; exact HM.out
      | false =>
        by_cases h4 : rn s pos = 304
        · have HQ := Lib.hid (dot_t h4 d)
          rw [h4] at hnx
          clear hq h4
          go_wp2
          go_roundw
          case rel => exact ⟨_, _, HD.out, by rw [HQ.out], hit1, hB1⟩
          case measure => simp only [World.iterPos, hit1]; exact HM.out
        · have HQ : Hid (dotB s (d ++ [pos]) = false) := Lib.hid ((dot_f h4 d).trans hq)
          have h4b : ((rn s pos : Int) == 304) = false := by rw [beq_eq_false_iff_ne]; omega
          clear hq h4
          go_wp2
          go_roundw
          case rel => exact ⟨_, _, HD.out, by rw [HQ.out], hit1, hB1⟩
          case measure => simp only [World.iterPos, hit1]; exact HM.out
    · have hnx : ∀ ty, (Instr.next (.pointer (some ⟨w3.heap.size, 0, none⟩)) true ty).run Try.prog wr = _ := fun ty => Lib.run_next_end_at wr w3.heap.size s pos ty hit hps
      rw [posG_end s pos (by omega), List.append_nil] at hd
      have B4 := B3.trans (hB.mono B3.size)
      cases hq : dotB s d with
      | true =>
        clear hd hq hit
        go_wp2
        go_ret
        exact ⟨rfl, B4⟩
      | false =>
        have hXU : X = U := by
          refine HUL.out (fun u hu => ?_)
          unfold units at hu
          obtain ⟨i, hi, rfl⟩ := List.mem_map.1 hu
          rw [hd] at hi
          intro h
          have : dotB s d = true := by
            unfold dotB
            rw [List.any_eq_true]
            exact ⟨i, hi, by rw [beq_iff_eq]; exact h⟩
          rw [hq] at this; cases this
        subst hXU
        clear hd hq hit
        go_wp2_with (first | (go_at_call 12; refine (cL1 _).mono ?_; rintro e w4 ⟨rfl, hb4⟩) | (go_at_call 10; refine (cU3 _).mono ?_; rintro e w5 ⟨rfl, hb5⟩))
        go_ret
        exact ⟨rfl, B4.trans ((hb4.mono B4.size).trans (hb5.mono (Nat.le_trans B4.size hb4.size)))⟩

theorem classUpper_all (s : ByteArray) (hz : s.size ≤ 140737488351232) (w : World) :
    Calls Try.prog 4 #[.string s] w fun e w' => e = .returned (.bool true) ∧ Below w.heap.size w w' := by
  by_cases hs : 2 * s.size ≤ 2147483647
  · exact classUpper_any s hs w
  · have cB := beyond_yes (2 * (s.size : Int)) (by omega)
    have hwr : IntKind.i64.wrap (2 * (s.size : Int)) = 2 * (s.size : Int) := IntWalk.i64_in _ (by omega)
    go_enter Try.func4, Try.ntmps4
    go_wp2_with (first | (go_at_call 6; refine (live_any _).mono ?_; rintro e w' ⟨rfl, rfl⟩) | (go_at_call 9; refine (cB _).mono ?_; rintro e w' ⟨rfl, rfl⟩))
    go_ret
    exact ⟨rfl, Below.refl _ _⟩
end Go.Proofs.Ytkikopjbaonbpaa
