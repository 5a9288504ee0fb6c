/- Layer 3: class.turn, by canticle/class.UpperText$1. -/
import Derived.Test.YtkikopjbaonbpaaTc
namespace Go.Proofs.Ytkikopjbaonbpaa
set_option linter.unusedVariables false
set_option linter.unusedSimpArgs false
open Go Go.RowKit Go.Shelf
set_option maxRecDepth 100000

set_option maxHeartbeats 4000000 in
theorem turnU_any (s : ByteArray) (hs : s.size ≤ 17179869184) (w : World) :
    Calls Try.prog 21 #[.string s, .func (.func 22) #[] #[]] w fun e w' => e = .returned (.string ⟨(tuS s upG (posns s)).2.toArray⟩) ∧ Below w.heap.size w w' := by
  obtain ⟨i0, hi, hz0, hz1, hz2⟩ := info_parts infoU8
  have hG := upG_le
  have hpl := posns_len s
  obtain ⟨B, hB0⟩ : ∃ B : List Nat → List UInt8, (fun d => (tuS s upG d).2) = B := ⟨_, rfl⟩
  have hBl : ∀ d, (B d).length ≤ 4 * d.length := fun d => by rw [← hB0]; exact tuS_len s _ hG d
  have hBs : ∀ d i, B (d ++ [i]) = B d ++ (tuF s upG (ledS s d) i).data.toList := fun d i => by rw [← hB0]; exact tuS_2 s _ d i
  have hBr : ∀ e d F pos, posG s F = e ++ posG s pos → F ≤ s.size → pos ≤ s.size → (∀ i ∈ e, leB (rn s i) = false) → B (d ++ e) = B d ++ (s.extract F pos).data.toList ∧ F ≤ pos := fun e d F pos a b c h => by rw [← hB0]; exact tuS_raw s _ e d F pos a b c h
  have hBf : (tuS s upG (posns s)).2 = B (posns s) := by rw [← hB0]
  have hBn : B [] = [] := by rw [← hB0]; rfl
  rw [hBf]
  clear hB0 hBf hG
  have HBl := Lib.hid hBl
  have HBs := Lib.hid hBs
  have HBr := Lib.hid hBr
  have HBn := Lib.hid hBn
  have HPL := Lib.hid hpl
  clear hBl hBs hBr hBn hpl
  go_enter Try.func21, Try.ntmps21
  go_wp2_with (at_make; refine wpList_make_own _ rfl _ _ 39 rfl w.heap.size 5 i0 (.int .u8 0) 1 Try.underlying39 hi hz0 hz1 .i64 .i64 s.size s.size rfl rfl rfl (by rw [hz2]; omega) (by unfold maxLen; omega) (Nat.le_refl _) ?_; intro w1 hrow1 hg1)
  have hBw1 : Below w.heap.size w w1 := (Below.refl _ w).grown hg1 (Nat.le_refl _) (fun k e => by cases e)
  go_loopw [5, 6, 7] (fun o led fr wr => TuRel s B w w1.heap.size o led fr wr) (fun _ _ _ wr => s.size - wr.iterPos w1.heap.size)
  case atStart =>
    refine ⟨[], [], 0, 0, by simp [posns_G], rfl, (fun i hi => by cases hi), Nat.zero_le _, Nat.zero_le _, rfl, rfl, ?_, World.iter_heap w1 s 0, hBw1.alloc hBw1.size _⟩
    rw [HBn.out]
    exact hrow1.alloc _
  case round =>
    clear hrow1
    obtain ⟨d, e, F, pos, hd, he, hno, hF, hpos, rfl, rfl, hown, hit, hB⟩ := hrel
    have hFp := (HBr.out e d F pos he hF hpos hno)
    obtain ⟨o, cap, rfl, ho⟩ := own_slice hown
    by_cases hps : pos < s.size
    · have hnx : ∀ ty, (Instr.next (.pointer (some ⟨w1.heap.size, 0, none⟩)) true ty).run Try.prog wr = _ := fun ty => Lib.run_next_any_at wr w1.heap.size s pos ty hit hps
      rw [dec_eq s pos hps] at hnx
      have hit1 := Lib.iterAt_heap wr w1.heap.size s pos (pos + wd s pos) hit
      have hB1 : Below w.heap.size w (wr.iterAt w1.heap.size s (pos + wd s pos)) := Lib.below_iterAt hB hBw1.size s _
      have hmeas : s.size - (pos + wd s pos) < s.size - wr.iterPos w1.heap.size := by
        have := wd_pos s pos
        simp only [World.iterPos, hit]; omega
      have ownP := hown.kept (grown_iterAt wr w1.heap.size s (pos + wd s pos)) (.inr (fun e => iter_not_row hit hown e.symm))
      have hwf := wd_fits s pos hps
      have hcons := posG_cons s pos hps
      have hdl : d.length + e.length + 1 ≤ s.size := by
        have h1 := HPL.out
        rw [hd, he, hcons] at h1
        simp at h1; omega
      have hBd := HBl.out d
      have hBde := HBl.out (d ++ e)
      rw [List.length_append] at hBde
      have hw4 := wd_le s pos
      obtain ⟨P, hP⟩ : ∃ P, wr.iterAt w1.heap.size s (pos + wd s pos) = P := ⟨_, rfl⟩
      rw [hP] at hnx hit1 hB1 ownP
      have hlt1 : w1.heap.size < P.heap.size := (Array.getElem?_eq_some_iff.1 hit1).1
      have HM := Lib.hid hmeas
      have hs1 := hBw1.size
      have cK := kind_any (rn s pos)
      cases hle : leB (rn s pos) with
      | false =>
        have hkn := kind_not hle
        have hno2 : ∀ i ∈ e ++ [pos], leB (rn s i) = false := fun i hi => by
          rcases List.mem_append.1 hi with h | h
          · exact hno i h
          · rw [List.mem_singleton.1 h]; exact hle
        have he2 : posG s F = (e ++ [pos]) ++ posG s (pos + wd s pos) := by rw [he, hcons]; simp
        have hled := led_raw s d e pos hle
        obtain ⟨K, hKd⟩ : ∃ K, kindZ (rn s pos) = K := ⟨_, rfl⟩
        rw [hKd] at cK hkn hled
        have HD := Lib.hid hd
        have HE := Lib.hid he2
        have HN := Lib.hid hno2
        clear hP hmeas hit hB hd he hno hno2 he2 hle hKd hcons hown
        cases hL : ledS s (d ++ e) with
        | false =>
          rw [hL] at hled
          have HL := Lib.hid hled
          clear hled hL
          go_wp2_with (go_at_call 16; refine (cK _).mono ?_; rintro e w' ⟨rfl, rfl⟩)
          go_roundw
          case rel => exact ⟨d, e ++ [pos], F, pos + wd s pos, HD.out, HE.out, HN.out, hF, hwf, rfl, by rw [HL.out]; rfl, ownP, hit1, hB1⟩
          case measure => simp only [World.iterPos, hit1]; exact HM.out
        | true =>
          rw [hL, Bool.true_and] at hled
          have HL := Lib.hid hled
          clear hled hL
          go_wp2_with (go_at_call 16; refine (cK _).mono ?_; rintro e w' ⟨rfl, rfl⟩)
          go_roundw
          case rel => exact ⟨d, e ++ [pos], F, pos + wd s pos, HD.out, HE.out, HN.out, hF, hwf, rfl, by rw [HL.out], ownP, hit1, hB1⟩
          case measure => simp only [World.iterPos, hit1]; exact HM.out
      | true =>
        have hled : ledS s ((d ++ e) ++ [pos]) = true := by rw [ledS_snoc, ledU_t hle]
        have hout := HBs.out (d ++ e) pos
        rw [tuF_t hle, hFp.1] at hout
        have hd2 : posns s = ((d ++ e) ++ [pos]) ++ posG s (pos + wd s pos) := by rw [hd, he, hcons]; simp
        have hwid := letter_wid hps hle
        have hFl := hFp.2
        have cW := width_any (rn s pos)
        rw [hwid] at cW
        rw [kind_letter hle] at cK
        have cA := ahead_any s (pos + wd s pos) hwf
        obtain ⟨L, hL⟩ : ∃ L, ledS s (d ++ e) = L := ⟨_, rfl⟩
        obtain ⟨Fo, hFo⟩ : ∃ Fo, folS s (posG s (pos + wd s pos)) = Fo := ⟨_, rfl⟩
        obtain ⟨W1, hW1⟩ : ∃ W1, wd s pos = W1 := ⟨_, rfl⟩
        obtain ⟨R, hR⟩ : ∃ R, rn s pos = R := ⟨_, rfl⟩
        rw [hL] at hout ⊢
        rw [hFo] at hout cA
        rw [hW1] at hnx hit1 hwf hd2 cW cA HM hw4
        rw [hR] at hnx cW cK hout
        have hX : (s.extract F pos).size ≤ 17179869184 := by rw [ByteArray.size_extract]; omega
        have HD := Lib.hid hd2
        have HO := Lib.hid hout
        have HL := Lib.hid hled
        have HF := Lib.hid hFl
        have k2 : (0 : Int) ≤ (F : Int) := by omega
        have k3 : (F : Int) ≤ (pos : Int) := by omega
        have k4 : (pos : Int) ≤ (s.size : Int) := by omega
        have k5 : ((pos : Int) + (W1 : Int)) ≤ (s.size : Int) := by omega
        have k6 : ((pos : Int) + (W1 : Int)).toNat = pos + W1 := by omega
        have k7 : (0 : Int) ≤ ((pos : Int) + (W1 : Int)) := by omega
        obtain ⟨n, hn⟩ : ∃ n, (B d).length = n := ⟨_, rfl⟩
        rw [hn] at ownP hBd ⊢
        have Hn := Lib.hid hn
        have hn8 : n ≤ 68719476736 := by omega
        have hg4 : ∀ a b c, (upG a b c).size ≤ 4 := upG_le
        clear hP hmeas hit hB hd he hno hcons hown hFp hFl hd2 hled hout hL hFo hW1 hR hwid hle hn hBde hBd
        have HG := Lib.hid hg4
        clear hg4
        by_cases h931 : R = 931
        · subst h931
          have cT := upT_any 931 L Fo
          have hg5 := HG.out 931 L Fo
          obtain ⟨t, ht⟩ : ∃ t, upG 931 L Fo = t := ⟨_, rfl⟩
          rw [ht] at cT hg5
          have HT := Lib.hid ht
          clear ht
          have mk := trivial
          go_wp2_with (first | (go_at_call 16; refine (cK _).mono ?_; rintro e w' ⟨rfl, rfl⟩) | (go_at_call 28; refine (cW _).mono ?_; rintro e w' ⟨rfl, rfl⟩) | (at_builtin; clear mk; refine Lib.wpList_append_own_string _ rfl _ _ 39 9 rfl w.heap.size 5 i0 Try.underlying39 Try.underlying9 hi hz0 hz1 hz2 _ _ _ rfl ownP (s.extract F pos) rfl (by unfold maxLen; omega) (by omega) (by have := hB1.size; omega) ?_; intro v2 w2 hown2 hgrow2 _; obtain ⟨m2, hm2⟩ : ∃ m, n + (s.extract F pos).size = m := ⟨_, rfl⟩; rw [hm2] at hown2; have HM2 := Lib.hid hm2; have hb2x : m2 ≤ 90000000000 := (by rw [← hm2]; omega); clear hm2; obtain ⟨o2, c2, rfl, _⟩ := own_slice hown2) | (go_at_call 33; refine (cA _).mono ?_; rintro e w3 ⟨rfl, hb3⟩) | (go_at_call 22; refine (cT _).mono ?_; rintro e w' ⟨rfl, rfl⟩) | (at_builtin; refine Lib.wpList_append_own_string _ rfl _ _ 39 9 rfl w.heap.size 5 i0 Try.underlying39 Try.underlying9 hi hz0 hz1 hz2 _ _ _ rfl (own_below hown2 hb3) (t) rfl (by unfold maxLen; omega) (by omega) (by have := hB1.size; have := hgrow2.size; have := hb3.size; omega) ?_; intro v4 w4 hown4 hgrow4 _; obtain ⟨m4, hm4⟩ : ∃ m, m2 + t.size = m := ⟨_, rfl⟩; rw [hm4] at hown4; have HM4 := Lib.hid hm4; have hb4x : m4 ≤ 100000000000 := (by rw [← hm4]; omega); clear hm4; obtain ⟨o4, c4, rfl, _⟩ := own_slice hown4))
          have i2 : w2.heap[w1.heap.size]? = some (.stringIter s (pos + W1)) := (hgrow2.block _ hlt1 (iter_not_row hit1 ownP)).trans hit1
          have B2 := hB1.grown hgrow2 hB1.size (fun j hj => (ownP.lt j hj).1)
          have i3 : w3.heap[w1.heap.size]? = some (.stringIter s (pos + W1)) := (hb3.block _ (Array.getElem?_eq_some_iff.1 i2).1).trans i2
          have B3 := B2.trans (hb3.mono B2.size)
          have i4 := (hgrow4.block _ (Array.getElem?_eq_some_iff.1 i3).1 (iter_not_row i3 (own_below hown2 hb3))).trans i3
          have B4 := B3.grown hgrow4 B3.size (fun j hj => ((own_below hown2 hb3).lt j hj).1)
          have hrw : B (d ++ e ++ [pos]) = (B d ++ (s.extract F pos).data.toList) ++ t.data.toList := by rw [HO.out, ← HT.out]; rfl
          go_roundw
          case rel =>
            refine ⟨(d ++ e) ++ [pos], [], pos + W1, pos + W1, HD.out, rfl, (fun i hi => by cases hi), hwf, hwf, by go_num, by rw [List.append_nil, HL.out], ?_, i4, B4⟩
            rw [hrw, cells_app, cells_app, show ((B d ++ (s.extract F pos).data.toList) ++ t.data.toList).length = m4 by rw [List.length_append, List.length_append, Hn.out, Array.length_toList, Array.length_toList, ← HM4.out, ← HM2.out]; rfl]
            exact hown4
          case measure => simp only [World.iterPos, i4]; exact HM.out
        · have h9b : ((R : Int) == 931) = false := by rw [beq_eq_false_iff_ne]; omega
          have cT := upT_any R L false
          have hg5 := HG.out R L false
          obtain ⟨t, ht⟩ : ∃ t, upG R L false = t := ⟨_, rfl⟩
          rw [ht] at cT hg5
          have HT := Lib.hid ht
          clear ht
          have mk := trivial
          go_wp2_with (first | (go_at_call 16; refine (cK _).mono ?_; rintro e w' ⟨rfl, rfl⟩) | (go_at_call 28; refine (cW _).mono ?_; rintro e w' ⟨rfl, rfl⟩) | (at_builtin; clear mk; refine Lib.wpList_append_own_string _ rfl _ _ 39 9 rfl w.heap.size 5 i0 Try.underlying39 Try.underlying9 hi hz0 hz1 hz2 _ _ _ rfl ownP (s.extract F pos) rfl (by unfold maxLen; omega) (by omega) (by have := hB1.size; omega) ?_; intro v2 w2 hown2 hgrow2 _; obtain ⟨m2, hm2⟩ : ∃ m, n + (s.extract F pos).size = m := ⟨_, rfl⟩; rw [hm2] at hown2; have HM2 := Lib.hid hm2; have hb2x : m2 ≤ 90000000000 := (by rw [← hm2]; omega); clear hm2; obtain ⟨o2, c2, rfl, _⟩ := own_slice hown2) | (go_at_call 22; refine (cT _).mono ?_; rintro e w' ⟨rfl, rfl⟩) | (at_builtin; refine Lib.wpList_append_own_string _ rfl _ _ 39 9 rfl w.heap.size 5 i0 Try.underlying39 Try.underlying9 hi hz0 hz1 hz2 _ _ _ rfl hown2 (t) rfl (by unfold maxLen; omega) (by omega) (by have := hB1.size; have := hgrow2.size; omega) ?_; intro v4 w4 hown4 hgrow4 _; obtain ⟨m4, hm4⟩ : ∃ m, m2 + t.size = m := ⟨_, rfl⟩; rw [hm4] at hown4; have HM4 := Lib.hid hm4; have hb4x : m4 ≤ 100000000000 := (by rw [← hm4]; omega); clear hm4; obtain ⟨o4, c4, rfl, _⟩ := own_slice hown4))
          have i2 : w2.heap[w1.heap.size]? = some (.stringIter s (pos + W1)) := (hgrow2.block _ hlt1 (iter_not_row hit1 ownP)).trans hit1
          have B2 := hB1.grown hgrow2 hB1.size (fun j hj => (ownP.lt j hj).1)
          have i3 := i2
          have B3 := B2
          have i4 := (hgrow4.block _ (Array.getElem?_eq_some_iff.1 i3).1 (iter_not_row i3 hown2)).trans i3
          have B4 := B3.grown hgrow4 B3.size (fun j hj => (hown2.lt j hj).1)
          have hrw : B (d ++ e ++ [pos]) = (B d ++ (s.extract F pos).data.toList) ++ t.data.toList := by rw [HO.out, ← HT.out, h9b]; rfl
          go_roundw
          case rel =>
            refine ⟨(d ++ e) ++ [pos], [], pos + W1, pos + W1, HD.out, rfl, (fun i hi => by cases hi), hwf, hwf, by go_num, by rw [List.append_nil, HL.out], ?_, i4, B4⟩
            rw [hrw, cells_app, cells_app, show ((B d ++ (s.extract F pos).data.toList) ++ t.data.toList).length = m4 by rw [List.length_append, List.length_append, Hn.out, Array.length_toList, Array.length_toList, ← HM4.out, ← HM2.out]; rfl]
            exact hown4
          case measure => simp only [World.iterPos, i4]; exact HM.out
    · obtain rfl : pos = s.size := by omega
      have hnx : ∀ ty, (Instr.next (.pointer (some ⟨w1.heap.size, 0, none⟩)) true ty).run Try.prog wr = _ := fun ty => Lib.run_next_end_at wr w1.heap.size s s.size ty hit hps
      rw [posG_end s s.size (Nat.le_refl _), List.append_nil] at he
      have hall : posns s = d ++ e := by rw [hd, he]
      have hBd := HBl.out d
      have hdl : d.length + e.length ≤ s.size := by
        have h1 := HPL.out
        rw [hall, List.length_append] at h1
        exact h1
      have hfin := hFp.1
      rw [← hall] at hfin
      obtain ⟨n, hn⟩ : ∃ n, (B d).length = n := ⟨_, rfl⟩
      rw [hn] at hown hBd ⊢
      have hn8 : n ≤ 68719476736 := by omega
      have hX : (s.extract F s.size).size ≤ 17179869184 := by rw [ByteArray.size_extract]; omega
      have HFI := Lib.hid hfin
      have Hn := Lib.hid hn
      have k2 : (0 : Int) ≤ (F : Int) := by omega
      have k3 : (F : Int) ≤ (s.size : Int) := by omega
      have hs1 := hBw1.size
      have hsw := hB.size
      clear hd he hno hall hFp hfin hn hdl hBd
      go_wp2_with (at_builtin; refine Lib.wpList_append_own_string _ rfl _ _ 39 9 rfl w.heap.size 5 i0 Try.underlying39 Try.underlying9 hi hz0 hz1 hz2 (.slice o n cap) _ _ rfl hown (s.extract F s.size) rfl (by unfold maxLen; omega) (by omega) hsw ?_; intro v' w2 hown' hgrow _; obtain ⟨m2, hm2⟩ : ∃ m, n + (s.extract F s.size).size = m := ⟨_, rfl⟩; rw [hm2, ← cells_app, ← HFI.out] at hown'; have hcv := conv_own (by rw [HFI.out]; show (B d ++ (s.extract F s.size).data.toList).toArray.size = _; rw [List.size_toArray, List.length_append, Hn.out, Array.length_toList, ← hm2]; rfl) hown'; clear hm2; obtain ⟨o', c', rfl, _⟩ := own_slice hown')
      go_ret
      exact ⟨rfl, hB.grown hgrow hsw (fun j hj => (hown.lt j hj).1)⟩
end Go.Proofs.Ytkikopjbaonbpaa
