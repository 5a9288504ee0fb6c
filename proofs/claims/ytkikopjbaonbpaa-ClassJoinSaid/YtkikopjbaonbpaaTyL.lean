/- Layer 3: the document's LowerText. -/
import Derived.Test.YtkikopjbaonbpaaTx
namespace Go.Proofs.Ytkikopjbaonbpaa
set_option linter.unusedVariables false
set_option linter.unusedSimpArgs false
open Go Go.RowKit Go.Shelf
set_option maxRecDepth 100000

def TyLRel (s : ByteArray) (B : List Nat → List UInt8) (n : Nat) (pv : Value) (w : World) (o i : Value) (wr : World) : Prop :=
  ∃ k : Nat, i = .int .i64 k ∧ k ≤ n ∧ wr.ownsRow w.heap.size 5 1 o (B ((posns s).take k)).length (Lib.strCells ⟨(B ((posns s).take k)).toArray⟩) ∧ wr.ownsRow w.heap.size 31 4 pv n (pcs s (posns s)) ∧ Below w.heap.size w wr

theorem tyL_next {s : ByteArray} {B : List Nat → List UInt8} {n k nb m9 : Nat} {pv v i : Value} {w w9 : World} {t : ByteArray}
    (HB : Hid (B ((posns s).take (k + 1)) = B ((posns s).take k) ++ t.data.toList)) (Hb : Hid ((B ((posns s).take k)).length = nb)) (HM : Hid (nb + t.size = m9))
    (hown : w9.ownsRow w.heap.size 5 1 v m9 (Lib.strCells ⟨(B ((posns s).take k)).toArray⟩ ++ Lib.strCells t)) (hk : k < n)
    (hp : w9.ownsRow w.heap.size 31 4 pv n (pcs s (posns s))) (hB : Below w.heap.size w w9) (hi : i = .int .i64 ((k + 1 : Nat) : Int)) : TyLRel s B n pv w v i w9 := by
  refine ⟨k + 1, hi, hk, ?_, hp, hB⟩
  rw [HB.out, cells_app, show (B ((posns s).take k) ++ t.data.toList).length = m9 by rw [List.length_append, Hb.out, Array.length_toList, ← HM.out]; rfl]
  exact hown

set_option maxHeartbeats 4000000 in
theorem lowTD_any (s : ByteArray) (hs : s.size ≤ 17179869184) (w : World) :
    Calls Try.prog 18 #[.string s] w fun e w' => e = .returned (.string ⟨(tuS s lwG (posns s)).2.toArray⟩) ∧ Below w.heap.size w w' := by
  obtain ⟨i0, hi, hz0, hz1, hz2⟩ := info_parts infoU8
  have hpl := posns_len s
  obtain ⟨B, hB0⟩ : ∃ B : List Nat → List UInt8, (fun d => (tuS s lwG d).2) = B := ⟨_, rfl⟩
  have hBl : ∀ d, (B d).length ≤ 4 * d.length := fun d => by rw [← hB0]; exact tuS_len s _ lwG_le d
  have hBs : ∀ d i, B (d ++ [i]) = B d ++ (tuF s lwG (ledS s d) i).data.toList := fun d i => by rw [← hB0]; exact tuS_2 s _ d i
  have hBf : (tuS s lwG (posns s)).2 = B (posns s) := by rw [← hB0]
  have hBn : B [] = [] := by rw [← hB0]; rfl
  rw [hBf]
  clear hB0 hBf
  have HBl := Lib.hid hBl
  have HBs := Lib.hid hBs
  have HBn := Lib.hid hBn
  clear hBl hBs hBn
  have cP := piecesD_any s hs
  go_enter Try.func18, Try.ntmps18
  go_wp2_with (first | (go_at_call 14; refine (cP _).mono ?_; rintro e w1 ⟨pv, rfl, hown, hb1⟩; obtain ⟨o, cap, rfl, ho⟩ := own_slice hown))
  obtain ⟨n, hn⟩ : ∃ n, (posns s).length = n := ⟨_, rfl⟩
  have HN := Lib.hid hn
  simp only [hn] at hown hpl ho ⊢
  clear hn
  go_loopw [4, 5] (fun q i wr => TyLRel s B n (.slice o n cap) w q i wr) (fun _ i _ => n - (intOf i).toNat)
  case atStart => exact ⟨0, rfl, Nat.zero_le _, by rw [List.take_zero, HBn.out]; exact World.ownsRow_nil _ _ _ _, hown, hb1⟩
  case round =>
    clear hown hb1
    obtain ⟨k, rfl, hk, hv, hp, hB⟩ := hrel
    obtain ⟨oq, cq, rfl, _⟩ := own_slice hv
    by_cases hlt : k < n
    · obtain ⟨gp, rfl⟩ := ho (by omega)
      obtain ⟨p, hpk⟩ : ∃ p, (posns s)[k]? = some p := ⟨_, List.getElem?_eq_getElem (by rw [HN.out]; exact hlt)⟩
      obtain ⟨d0, d1, d2, d3⟩ := nth_cells hp HN.out k hlt p hpk
      have hlti : (k : Int) < (n : Int) := by omega
      have hnb0 := HBl.out ((posns s).take k)
      rw [List.length_take] at hnb0
      have hnext := HBs.out ((posns s).take k) p
      rw [← take_next hpk] at hnext
      obtain ⟨nb, hnb⟩ : ∃ nb, (B ((posns s).take k)).length = nb := ⟨_, rfl⟩
      have Hb := Lib.hid hnb
      rw [hnb] at hv hnb0 ⊢
      have hnb8 : nb ≤ 68719476736 := by omega
      clear hnb hnb0
      have cLow := fun (w' : World) (h : w'.ownsRow w.heap.size 31 4 (.slice (some ⟨gp, 0, none⟩) n cap) n (pcs s (posns s))) => lowD_any s hs k n HN hlt (some ⟨gp, 0, none⟩) cap w.heap.size p hpk w' h
      have hle4 := tuF_le s lwG lwG_le (ledS s ((posns s).take k)) p
      obtain ⟨t, ht⟩ : ∃ t, tuF s lwG (ledS s ((posns s).take k)) p = t := ⟨_, rfl⟩
      rw [ht] at cLow hnext hle4
      have HB := Lib.hid hnext
      clear hpk ht hnext
      go_wp2_with (first | (go_at_call 31; refine (cLow _ hp).mono ?_; rintro e w3 ⟨rfl, hb3⟩; have hp3 := own_below hp hb3; have hv3 := own_below hv hb3; have hs4 := hb3.size) | (at_builtin; refine Lib.wpList_append_own_string _ rfl _ _ 39 9 rfl w.heap.size 5 i0 Try.underlying39 Try.underlying9 hi hz0 hz1 hz2 _ _ _ rfl (hv3) (t) rfl (by unfold maxLen; omega) (by omega) (by have := hB.size; omega) ?_; intro v9 w9 hown9 hgrow9 _; obtain ⟨m9, hm9⟩ : ∃ m, nb + t.size = m := ⟨_, rfl⟩; rw [hm9] at hown9; have HM9 := Lib.hid hm9; clear hm9; obtain ⟨o9, c9, rfl, _⟩ := own_slice hown9))
      have B9 := (hB.trans (hb3.mono hB.size)).grown hgrow9 (by have := hB.size; omega) (fun j hj => (hv3.lt j hj).1)
      have hp9 := hp3.kept hgrow9 (rows_apart hp3 hv3 (by decide))
      go_roundw
      case rel => exact tyL_next HB Hb HM9 hown9 hlt hp9 B9 (by go_num)
      case measure => simp [intOf]; omega
    · have hkn : k = n := by omega
      subst hkn
      rw [← HN.out, List.take_length] at hv
      rw [show ((posns s).take k) = posns s by rw [← HN.out, List.take_length]]
      have hcv := conv_own (s := ⟨(B (posns s)).toArray⟩) (by show (B (posns s)).toArray.size = _; rw [List.size_toArray]) hv
      obtain ⟨nb, hnb⟩ : ∃ nb, (B (posns s)).length = nb := ⟨_, rfl⟩
      rw [hnb] at hv hcv ⊢
      clear hnb
      go_wp2
      go_ret
      exact ⟨rfl, hB⟩
end Go.Proofs.Ytkikopjbaonbpaa
