/- Layer 3: the document's UpperText. -/
import Derived.Test.YtkikopjbaonbpaaTc
namespace Go.Proofs.Ytkikopjbaonbpaa
set_option linter.unusedVariables false
set_option linter.unusedSimpArgs false
open Go Go.RowKit Go.Shelf
set_option maxRecDepth 100000

def TyURel (s : ByteArray) (B : List Nat → List UInt8) (n : Nat) (pv : Value) (w : World) (o i : Value) (wr : World) : Prop :=
  ∃ k : Nat, i = .int .i64 k ∧ k ≤ n ∧ wr.ownsRow w.heap.size 5 1 o (B ((posns s).take k)).length (Lib.strCells ⟨(B ((posns s).take k)).toArray⟩) ∧ wr.ownsRow w.heap.size 31 4 pv n (pcs s (posns s)) ∧ Below w.heap.size w wr

theorem tyU_next {s : ByteArray} {B : List Nat → List UInt8} {n k nb m9 : Nat} {pv v i : Value} {w w9 : World} {t : ByteArray}
    (HB : Hid (B ((posns s).take (k + 1)) = B ((posns s).take k) ++ t.data.toList)) (Hb : Hid ((B ((posns s).take k)).length = nb)) (HM : Hid (nb + t.size = m9))
    (hown : w9.ownsRow w.heap.size 5 1 v m9 (Lib.strCells ⟨(B ((posns s).take k)).toArray⟩ ++ Lib.strCells t)) (hk : k < n)
    (hp : w9.ownsRow w.heap.size 31 4 pv n (pcs s (posns s))) (hB : Below w.heap.size w w9) (hi : i = .int .i64 ((k + 1 : Nat) : Int)) : TyURel s B n pv w v i w9 := by
  refine ⟨k + 1, hi, hk, ?_, hp, hB⟩
  rw [HB.out, cells_app, show (B ((posns s).take k) ++ t.data.toList).length = m9 by rw [List.length_append, Hb.out, Array.length_toList, ← HM.out]; rfl]
  exact hown

set_option maxHeartbeats 4000000 in
theorem upTD_any (s : ByteArray) (hs : s.size ≤ 17179869184) (w : World) :
    Calls Try.prog 11 #[.string s] w fun e w' => e = .returned (.string ⟨(tuS s upG (posns s)).2.toArray⟩) ∧ Below w.heap.size w w' := by
  obtain ⟨i0, hi, hz0, hz1, hz2⟩ := info_parts infoU8
  have hpl := posns_len s
  obtain ⟨B, hB0⟩ : ∃ B : List Nat → List UInt8, (fun d => (tuS s upG d).2) = B := ⟨_, rfl⟩
  have hBl : ∀ d, (B d).length ≤ 4 * d.length := fun d => by rw [← hB0]; exact tuS_len s _ upG_le d
  have hBs : ∀ d i, B (d ++ [i]) = B d ++ (tuF s upG (ledS s d) i).data.toList := fun d i => by rw [← hB0]; exact tuS_2 s _ d i
  have hBf : (tuS s upG (posns s)).2 = B (posns s) := by rw [← hB0]
  have hBn : B [] = [] := by rw [← hB0]; rfl
  rw [hBf]
  clear hB0 hBf
  have HBl := Lib.hid hBl
  have HBs := Lib.hid hBs
  have HBn := Lib.hid hBn
  clear hBl hBs hBn
  have cP := piecesD_any s hs
  go_enter Try.func11, Try.ntmps11
  go_wp2_with (first | (go_at_call 14; refine (cP _).mono ?_; rintro e w1 ⟨pv, rfl, hown, hb1⟩; obtain ⟨o, cap, rfl, ho⟩ := own_slice hown))
  obtain ⟨n, hn⟩ : ∃ n, (posns s).length = n := ⟨_, rfl⟩
  have HN := Lib.hid hn
  simp only [hn] at hown hpl ho ⊢
  clear hn
  go_loopw [4, 5] (fun q i wr => TyURel s B n (.slice o n cap) w q i wr) (fun _ i _ => n - (intOf i).toNat)
  case atStart => exact ⟨0, rfl, Nat.zero_le _, by rw [List.take_zero, HBn.out]; exact World.ownsRow_nil _ _ _ _, hown, hb1⟩
  case round =>
    clear hown hb1
    obtain ⟨k, rfl, hk, hv, hp, hB⟩ := hrel
    obtain ⟨oq, cq, rfl, _⟩ := own_slice hv
    by_cases hlt : k < n
    · obtain ⟨gp, rfl⟩ := ho (by omega)
      obtain ⟨p, hpk⟩ : ∃ p, (posns s)[k]? = some p := ⟨_, List.getElem?_eq_getElem (by rw [HN.out]; exact hlt)⟩
      obtain ⟨d0, d1, d2, d3⟩ := nth_cells hp HN.out k hlt p hpk
      have hlti : (k : Int) < (n : Int) := by omega
      have hnb0 := HBl.out ((posns s).take k)
      rw [List.length_take] at hnb0
      have hnext := HBs.out ((posns s).take k) p
      rw [← take_next hpk] at hnext
      obtain ⟨nb, hnb⟩ : ∃ nb, (B ((posns s).take k)).length = nb := ⟨_, rfl⟩
      have Hb := Lib.hid hnb
      rw [hnb] at hv hnb0 ⊢
      have hnb8 : nb ≤ 68719476736 := by omega
      clear hnb hnb0
      cases hle : leB (rn s p) with
      | false =>
        have hkn := kind_not hle
        have htu := tuF_f (g := upG) hle (ledS s ((posns s).take k))
        rw [htu] at hnext
        have hps := (posG_ge s 0 p (List.mem_of_getElem? hpk)).2
        have hwf := wd_fits s p hps
        have hw4 := wd_le s p
        have k2 : (0 : Int) ≤ (p : Int) := by omega
        have k3 : (p : Int) ≤ (p : Int) + (wd s p : Nat) := by omega
        have k4 : (p : Int) + (wd s p : Nat) ≤ (s.size : Int) := by omega
        have k6 : ((p : Int) + (wd s p : Nat)).toNat = p + wd s p := by omega
        have hle4 : (s.extract p (p + wd s p)).size ≤ 4 := by rw [ByteArray.size_extract]; omega
        have HB := Lib.hid hnext
        cases hbk : bk s p with
        | true =>
          rw [hbk] at d3
          clear hpk hle hbk htu hnext
          go_wp2_with (first | (go_at_call 15; refine (ofD_t _ _ _ _).mono ?_; rintro e w2 ⟨rfl, hb2⟩; have b1 : Blk w2 wr.heap.size #[.int .i64 p, .int .i64 (wd s p : Nat), .int .i32 (rn s p : Nat), .bool true] 31 := (Blk.new wr _ _).below' hb2; have x0 : w2.cell? ⟨wr.heap.size, 0, none⟩ = some (.int .i64 p) := b1.cell 0; have x1 : w2.cell? ⟨wr.heap.size, 1, none⟩ = some (.int .i64 (wd s p : Nat)) := b1.cell 1; have l1 := b1.lt; have hp2 := own_below (hp.alloc _) hb2; have hv2 := own_below (hv.alloc _) hb2; have hs3 : wr.heap.size < w2.heap.size := l1; have hb2' : Below wr.heap.size wr w2 := ((Below.refl _ _).alloc (Nat.le_refl _) _).trans (hb2.mono (by simp))) | (at_builtin; refine Lib.wpList_append_own_string _ rfl _ _ 39 9 rfl w.heap.size 5 i0 Try.underlying39 Try.underlying9 hi hz0 hz1 hz2 _ _ _ rfl (hv2) (s.extract p (p + wd s p)) rfl (by unfold maxLen; omega) (by omega) (by have := hB.size; omega) ?_; intro v9 w9 hown9 hgrow9 _; obtain ⟨m9, hm9⟩ : ∃ m, nb + (s.extract p (p + wd s p)).size = m := ⟨_, rfl⟩; rw [hm9] at hown9; have HM9 := Lib.hid hm9; clear hm9; obtain ⟨o9, c9, rfl, _⟩ := own_slice hown9))
          have B9 := (hB.trans (hb2'.mono hB.size)).grown hgrow9 (by have := hB.size; omega) (fun j hj => (hv2.lt j hj).1)
          have hp9 := hp2.kept hgrow9 (rows_apart hp2 hv2 (by decide))
          go_roundw
          case rel => exact tyU_next HB Hb HM9 hown9 hlt hp9 B9 (by go_num)
          case measure => simp [intOf]; omega
        | false =>
          rw [hbk] at d3
          have cO := ofD_f p (wd s p : Nat) (rn s p : Nat)
          obtain ⟨K, hKd⟩ : ∃ K, kindZ (rn s p) = K := ⟨_, rfl⟩
          rw [hKd] at cO hkn
          clear hKd
          clear hpk hle hbk htu hnext
          go_wp2_with (first | (go_at_call 15; refine (cO _).mono ?_; rintro e w2 ⟨rfl, hb2⟩; have b1 : Blk w2 wr.heap.size #[.int .i64 p, .int .i64 (wd s p : Nat), .int .i32 (rn s p : Nat), .bool false] 31 := (Blk.new wr _ _).below' hb2; have x0 : w2.cell? ⟨wr.heap.size, 0, none⟩ = some (.int .i64 p) := b1.cell 0; have x1 : w2.cell? ⟨wr.heap.size, 1, none⟩ = some (.int .i64 (wd s p : Nat)) := b1.cell 1; have l1 := b1.lt; have hp2 := own_below (hp.alloc _) hb2; have hv2 := own_below (hv.alloc _) hb2; have hs3 : wr.heap.size < w2.heap.size := l1; have hb2' : Below wr.heap.size wr w2 := ((Below.refl _ _).alloc (Nat.le_refl _) _).trans (hb2.mono (by simp))) | (at_builtin; refine Lib.wpList_append_own_string _ rfl _ _ 39 9 rfl w.heap.size 5 i0 Try.underlying39 Try.underlying9 hi hz0 hz1 hz2 _ _ _ rfl (hv2) (s.extract p (p + wd s p)) rfl (by unfold maxLen; omega) (by omega) (by have := hB.size; omega) ?_; intro v9 w9 hown9 hgrow9 _; obtain ⟨m9, hm9⟩ : ∃ m, nb + (s.extract p (p + wd s p)).size = m := ⟨_, rfl⟩; rw [hm9] at hown9; have HM9 := Lib.hid hm9; clear hm9; obtain ⟨o9, c9, rfl, _⟩ := own_slice hown9))
          have B9 := (hB.trans (hb2'.mono hB.size)).grown hgrow9 (by have := hB.size; omega) (fun j hj => (hv2.lt j hj).1)
          have hp9 := hp2.kept hgrow9 (rows_apart hp2 hv2 (by decide))
          go_roundw
          case rel => exact tyU_next HB Hb HM9 hown9 hlt hp9 B9 (by go_num)
          case measure => simp [intOf]; omega
      | true =>
        have hbk := bk_letter hle
        rw [hbk] at d3
        have cO := ofD_f p (wd s p : Nat) (rn s p : Nat)
        rw [kind_letter hle] at cO
        have cU := upperD_any (rn s p)
        have htu := tuF_t (g := upG) hle (ledS s ((posns s).take k))
        rw [htu] at hnext
        by_cases h2 : rn s p = 223
        · rw [h2] at hnext d2
          have hnext2 : B ((posns s).take (k + 1)) = B ((posns s).take k) ++ (⟨#[83, 83]⟩ : ByteArray).data.toList := hnext
          have HB := Lib.hid hnext2
          rw [h2] at cO
          clear hpk hle hbk htu hnext hnext2 cU
          go_wp2_with (first | (go_at_call 15; refine (cO _).mono ?_; rintro e w2 ⟨rfl, hb2⟩; have b1 : Blk w2 wr.heap.size #[.int .i64 p, .int .i64 (wd s p : Nat), .int .i32 223, .bool false] 31 := (Blk.new wr _ _).below' hb2; have x2 : w2.cell? ⟨wr.heap.size, 2, none⟩ = some (.int .i32 223) := b1.cell 2; have l1 := b1.lt; have hp2 := own_below (hp.alloc _) hb2; have hv2 := own_below (hv.alloc _) hb2; have hs3 : wr.heap.size < w2.heap.size := l1; have hb2' : Below wr.heap.size wr w2 := ((Below.refl _ _).alloc (Nat.le_refl _) _).trans (hb2.mono (by simp))) | (at_builtin; refine wpList_append_own _ rfl _ _ 39 rfl w.heap.size 5 i0 (.int .u8 0) 1 1 Try.underlying39 hi hz0 hz1 hz2 rfl (by decide) _ _ _ rfl (hv2.alloc _) ⟨w2.heap.size, 0, none⟩ 2 2 [.int .u8 83, .int .u8 83] rfl rfl (World.news_of_block (cs := #[.int .u8 83, .int .u8 83]) (t := 5) (fr := (0, 0)) (World.alloc_heap_new w2 _)) (fun x hx => by simp at hx; rcases hx with rfl | rfl <;> rfl) (by unfold maxLen; omega) (by omega) (by have := hB.size; simp; omega) ?_; intro v9 w9 hown9 hgrow9 _; obtain ⟨m9, hm9⟩ : ∃ m, nb + 2 = m := ⟨_, rfl⟩; rw [hm9] at hown9; have HM9 : Hid (nb + (⟨#[83, 83]⟩ : ByteArray).size = m9) := Lib.hid hm9; clear hm9; obtain ⟨o9, c9, rfl, _⟩ := own_slice hown9))
          have B9 := ((hB.trans (hb2'.mono hB.size)).alloc (by have := hB.size; omega) (.cells #[.int .u8 83, .int .u8 83] 5)).grown hgrow9 (by have := hB.size; simp; omega) (fun j hj => (hv2.lt j hj).1)
          have hp9 := (hp2.alloc (.cells #[.int .u8 83, .int .u8 83] 5)).kept hgrow9 (rows_apart hp2 hv2 (by decide))
          go_roundw
          case rel => exact tyU_next HB Hb HM9 hown9 hlt hp9 B9 (by go_num)
          case measure => simp [intOf]; omega
        · have h2b : ((rn s p : Int) == 223) = false := by rw [beq_eq_false_iff_ne]; omega
          have hup : upG (rn s p) (ledS s ((posns s).take k)) (((rn s p : Int) == 931) && folS s (posG s (p + wd s p))) = Utf8.encode (upZ (rn s p)) := by unfold upG; rw [if_neg (by omega)]
          rw [hup] at hnext
          have hle4 := enc_le (upZ (rn s p))
          obtain ⟨x, hx⟩ : ∃ x, upZ (rn s p) = x := ⟨_, rfl⟩
          rw [hx] at cU hnext hle4
          have hle5 : Unit → (Utf8.encode x).size ≤ 4 := fun _ => hle4
          have HB := Lib.hid hnext
          clear hpk hle hbk hx htu hnext hup hle4 h2
          go_wp2_with (first | (go_at_call 15; refine (cO _).mono ?_; rintro e w2 ⟨rfl, hb2⟩; have b1 : Blk w2 wr.heap.size #[.int .i64 p, .int .i64 (wd s p : Nat), .int .i32 (rn s p : Nat), .bool false] 31 := (Blk.new wr _ _).below' hb2; have x2 : w2.cell? ⟨wr.heap.size, 2, none⟩ = some (.int .i32 (rn s p : Nat)) := b1.cell 2; have l1 := b1.lt; have hp2 := own_below (hp.alloc _) hb2; have hv2 := own_below (hv.alloc _) hb2; have hs3 : wr.heap.size < w2.heap.size := l1; have hb2' : Below wr.heap.size wr w2 := ((Below.refl _ _).alloc (Nat.le_refl _) _).trans (hb2.mono (by simp))) | (go_at_call 24; refine (cU _).mono ?_; rintro e w' ⟨rfl, rfl⟩) | (at_builtin; have hle6 := hle5 (); refine Lib.wpList_append_own_string _ rfl _ _ 39 9 rfl w.heap.size 5 i0 Try.underlying39 Try.underlying9 hi hz0 hz1 hz2 _ _ _ rfl (hv2) (Utf8.encode x) rfl (by unfold maxLen; omega) (by omega) (by have := hB.size; omega) ?_; intro v9 w9 hown9 hgrow9 _; obtain ⟨m9, hm9⟩ : ∃ m, nb + (Utf8.encode x).size = m := ⟨_, rfl⟩; rw [hm9] at hown9; have HM9 := Lib.hid hm9; clear hm9; obtain ⟨o9, c9, rfl, _⟩ := own_slice hown9))
          have B9 := (hB.trans (hb2'.mono hB.size)).grown hgrow9 (by have := hB.size; omega) (fun j hj => (hv2.lt j hj).1)
          have hp9 := hp2.kept hgrow9 (rows_apart hp2 hv2 (by decide))
          go_roundw
          case rel => exact tyU_next HB Hb HM9 hown9 hlt hp9 B9 (by go_num)
          case measure => simp [intOf]; omega
    · have hkn : k = n := by omega
      subst hkn
      rw [← HN.out, List.take_length] at hv
      rw [show ((posns s).take k) = posns s by rw [← HN.out, List.take_length]]
      have hcv := conv_own (s := ⟨(B (posns s)).toArray⟩) (by show (B (posns s)).toArray.size = _; rw [List.size_toArray]) hv
      obtain ⟨nb, hnb⟩ : ∃ nb, (B (posns s)).length = nb := ⟨_, rfl⟩
      rw [hnb] at hv hcv ⊢
      clear hnb
      go_wp2
      go_ret
      exact ⟨rfl, hB⟩
end Go.Proofs.Ytkikopjbaonbpaa
