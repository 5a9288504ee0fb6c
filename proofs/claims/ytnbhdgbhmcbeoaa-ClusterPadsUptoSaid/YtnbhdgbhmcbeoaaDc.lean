/- The document's clusters of layer 5. -/
import Derived.Test.YtnbhdgbhmcbeoaaDp
import Derived.Test.YtnbhdgbhmcbeoaaDm
import Derived.Deep.CutRange
import Derived.Deep.CutBlock
namespace Go.Proofs.Ytnbhdgbhmcbeoaa
set_option linter.unusedVariables false
set_option linter.unusedSimpArgs false
open Go Go.RowKit Go.Shelf
set_option maxRecDepth 100000

/-- The document's pieces, as they can be read. -/
def PvR (s : ByteArray) (w1 : World) (g : Nat) (L : List Nat) : Prop := ∀ k p, L[k]? = some p → w1.cell? ⟨g, k * 5, none⟩ = some (.int .i64 (p : Nat)) ∧ w1.cell? ⟨g, k * 5 + 1, none⟩ = some (.int .i64 (p + wd s p : Nat)) ∧ w1.cell? ⟨g, k * 5 + 2, none⟩ = some (.int .i64 (kdc s p : Nat)) ∧ w1.cell? ⟨g, k * 5 + 3, none⟩ = some (.bool (rn s p == 8205)) ∧ w1.cell? ⟨g, k * 5 + 4, none⟩ = some (.int .i64 (colc s p : Nat))
def CdRel (s : ByteArray) (L : List Nat) (w1 : World) (i v : Value) (wr : World) : Prop := ∃ (k q : Nat) (M : List Cel), i = .int .i64 k ∧ k ≤ L.length ∧ L.drop k = posG s q ∧ q ≤ s.size ∧ cellsL s = M ++ cellsG s q ∧ wr.ownsRow w1.heap.size 26 3 v M.length (cc M) ∧ Below w1.heap.size w1 wr
/-- Behind the switch: the places of a cluster. -/
def SwR (s : ByteArray) (L : List Nat) (i q0 : Nat) (k : Value) : Prop := ∃ (A : List Nat) (q r : Nat), k = .int .i64 (i + A.length : Nat) ∧ L.drop i = A ++ posG s q ∧ q ≤ s.size ∧ (∃ B, A = B ++ [r]) ∧ (∃ A', A = q0 :: A') ∧ r + wd s r = q ∧ fstC s q0 = (q, mxC s A)


def L2Rel (s : ByteArray) (L : List Nat) (k q : Nat) (w : World) (kv : Value) (wr : World) : Prop := ∃ (B : List Nat) (q2 r : Nat), kv = .int .i64 ((k + B.length + 1 : Nat) : Int) ∧ RowA s k q L (B ++ [r]) q2 r ∧ w = wr
theorem row_head {L B X Y : List Nat} {k q r : Nat} (h : L.drop k = q :: X) (h2 : L.drop k = (B ++ [r]) ++ Y) : ∃ A', B ++ [r] = q :: A' := by
  rw [h] at h2
  cases B with
  | nil => have := (List.cons.inj h2).1; exact ⟨[], by rw [this]; rfl⟩
  | cons b B => have := (List.cons.inj h2).1; exact ⟨B ++ [r], by rw [this]; rfl⟩
def L3Rel (s : ByteArray) (L A : List Nat) (k q q2 C : Nat) (V : World) (iv : Value) (wr : World) : Prop := ∃ j : Nat, iv = .int .i64 ((k + j : Nat) : Int) ∧ j ≤ A.length ∧ Blk wr C #[.int .i64 q, .int .i64 q2, .int .i64 (mxC s (A.take j) : Nat)] 26 ∧ Below C V wr

set_option maxHeartbeats 8000000 in
theorem cells5_any (s : ByteArray) (hs : s.size ≤ 2147483647) (w : World) :
    Calls Try.prog 21 #[.string s] w fun e w' => ∃ v, e = .returned v ∧ w'.ownsRow w.heap.size 26 3 v (cellsL s).length (cc (cellsL s)) ∧ Below w.heap.size w w' := by
  obtain ⟨i0, hi, hz0, hz1, hz2⟩ := info_parts infoCell
  go_enter Try.func21, Try.ntmps21
  go_wp2_with (fail)
  refine (pieces5_any s hs _).mono ?_
  rintro e w1 ⟨vl, rfl, hl, hb1⟩
  obtain ⟨o, cap, rfl, ho⟩ := own_slice hl
  have hpl := posns_len s
  have hcl := cellsL_len s
  obtain ⟨L, hL⟩ : ∃ L, posns s = L := ⟨_, rfl⟩
  have hL0 : L = posG s 0 := hL.symm
  rw [hL] at hl ho hpl
  rw [hL]
  obtain ⟨n, hn⟩ : ∃ n, L.length = n := ⟨_, rfl⟩
  rw [hn] at hl ho hpl
  rw [hn]
  have hpc : ∃ g, (0 < n → o = some ⟨g, 0, none⟩) ∧ PvR s w1 g L := by
    by_cases h0 : 0 < n
    · obtain ⟨g, rfl⟩ := ho h0
      refine ⟨g, fun _ => rfl, fun k p hp => ?_⟩
      have hk := (List.getElem?_eq_some_iff.1 hp).1
      obtain ⟨r0, r1, r2, r3, r4⟩ := q5_get s hp
      exact ⟨(hl.cellAt _ (by omega)).trans r0, (hl.cellAt _ (by omega)).trans r1, (hl.cellAt _ (by omega)).trans r2, (hl.cellAt _ (by omega)).trans r3, (hl.cellAt _ (by omega)).trans r4⟩
    · exact ⟨0, fun h => absurd h h0, fun k p hp => by
        have hk := (List.getElem?_eq_some_iff.1 hp).1
        omega⟩
  obtain ⟨g, hg, hpc⟩ := hpc
  have H := Lib.hid (And.intro hn (And.intro hpc (And.intro hL0 (And.intro hb1 hg))))
  clear hpc hb1 hn hL hL0 hl ho hg
  go_wp2
  go_loopw [5, 4] (fun i v wr => CdRel s L w1 i v wr) (fun i _ _ => n - (intOf i).toNat)
  case atStart => exact ⟨0, 0, [], rfl, Nat.zero_le _, by rw [List.drop_zero]; exact H.out.2.2.1, Nat.zero_le _, rfl, World.ownsRow_nil _ _ _ _, Below.refl _ _⟩
  case round =>
    obtain ⟨k, q, M, rfl, hk, hd, hq, hM, hown, hB⟩ := hrel
    obtain ⟨o4, cap4, rfl, ho4⟩ := own_slice hown
    rw [H.out.1] at hk
    by_cases hlt : k < n
    · have hqs : q < s.size := by
        by_cases h : q < s.size
        · exact h
        · rw [posG_end s q (by omega)] at hd
          have := drop_end hd
          have := H.out.1
          omega
      have hgo := H.out.2.2.2.2 (by omega)
      subst hgo
      have hdc := hd
      rw [posG_cons s q hqs] at hdc
      have hLk := (drop_head hdc).2
      obtain ⟨c0, c1, c2, c3, c4⟩ := H.out.2.1 k q hLk
      have c0 := at_below c0 hB
      have c1 := at_below c1 hB
      have c2 := at_below c2 hB
      have c3 := at_below c3 hB
      have c4 := at_below c4 hB
      have i1 : (k : Int) < (n : Int) := by omega
      have i2 : (0 : Int) ≤ (k : Int) := by omega
      have i3 : decide ((k : Int) < (n : Int)) = true := decide_eq_true i1
      have j1 : IntKind.i64.wrap ((k : Int) + 1) = ((k + 1 : Nat) : Int) := by rw [IntWalk.i64_in _ (by omega)]; push_cast; rfl
      obtain ⟨kd, hkd⟩ : ∃ x, kdc s q = x := ⟨_, rfl⟩
      have HR := Lib.hid (And.intro hd (And.intro hM (And.intro hown (And.intro hB (And.intro hdc (And.intro hLk (And.intro hkd ho4)))))))
      rw [hkd] at c2
      clear hd hM hown hB hdc hLk hkd ho4
      go_upto_block 2 with (fail)
      go_cut [6] from 11 to 135 (fun kv wx => SwR s L k q kv ∧ wr = wx)
      case first =>
        have hgt := bt_get s q hqs
        go_upto_region 9 with (fail)
        go_cut [63] from 11 to 135 (fun c wx => c = .bool (crlf s q) ∧ wr = wx)
        case first =>
          obtain ⟨hd, hM, hown, hB, hdc, hLk, hkd, ho4⟩ := HR.out
          have hd1 : L.drop (k + 1) = posG s (q + wd s q) := drop_app (A := [q]) hdc
          by_cases b13 : bt s q = 13
          · have w1' : wd s q = 1 := wd_ascii s q hqs (by omega)
            rw [w1'] at hd1
            have e1 : ((bt s q : Int) == 13) = true := by rw [beq_iff_eq]; omega
            by_cases hk1 : k + 1 < n
            · have hq1 : q + 1 < s.size := by
                by_cases h : q + 1 < s.size
                · exact h
                · rw [posG_end s (q + 1) (by omega)] at hd1
                  have := drop_end hd1
                  have := H.out.1
                  omega
              rw [posG_cons s (q + 1) hq1] at hd1
              obtain ⟨d0, _⟩ := H.out.2.1 (k + 1) (q + 1) (drop_head hd1).2
              have d0 := at_below d0 hB
              have hgt2 := bt_get s (q + 1) hq1
              have i4 : ((k : Int) + 1) < (n : Int) := by omega
              have i5 : (0 : Int) ≤ (k : Int) + 1 := by omega
              have i6 : decide (((k : Int) + 1) < (n : Int)) = true := decide_eq_true i4
              by_cases b10 : bt s (q + 1) = 10
              · have e2 : ((bt s (q + 1) : Int) == 10) = true := by rw [beq_iff_eq]; omega
                have hc : crlf s q = true := decide_eq_true ⟨b13, hq1, b10⟩
                have HC := Lib.hid hc
                clear hc b13 b10 hd1 hd hM hown hdc hLk hkd ho4 w1' hk1
                go_wp2
                go_meet
                case rel => exact ⟨by rw [HC.out], rfl⟩
              · have e2 : ((bt s (q + 1) : Int) == 10) = false := by rw [beq_eq_false_iff_ne]; omega
                have hc : crlf s q = false := decide_eq_false (fun h => b10 h.2.2)
                have HC := Lib.hid hc
                clear hc b13 b10 hd1 hd hM hown hdc hLk hkd ho4 w1' hk1
                go_wp2
                go_meet
                case rel => exact ⟨by rw [HC.out], rfl⟩
            · have i6 : decide (((k : Int) + 1) < (n : Int)) = false := decide_eq_false (by omega)
              have i7 : decide (k + 1 < n) = false := decide_eq_false hk1
              have i8 : ¬ ((k : Int) + 1) < (n : Int) := by omega
              have hc : crlf s q = false := decide_eq_false (fun h => by
                have := h.2.1
                rw [posG_cons s (q + 1) h.2.1] at hd1
                have := (drop_head hd1).1
                have := H.out.1
                omega)
              have HC := Lib.hid hc
              clear hc b13 hd1 hd hM hown hdc hLk hkd ho4 w1'
              go_wp2
              go_meet
              case rel => exact ⟨by rw [HC.out], rfl⟩
          · have e1 : ((bt s q : Int) == 13) = false := by rw [beq_eq_false_iff_ne]; omega
            have hc : crlf s q = false := decide_eq_false (fun h => b13 h.1)
            have HC := Lib.hid hc
            clear hc b13 hd1 hd hM hown hdc hLk hkd ho4
            go_wp2
            go_meet
            case rel => exact ⟨by rw [HC.out], rfl⟩
        case rest =>
          obtain ⟨hc63, rfl⟩ := hcut
          obtain ⟨cb, hcb⟩ : ∃ b, crlf s q = b := ⟨_, rfl⟩
          rw [hcb] at hc63
          have HCB := Lib.hid hcb
          clear hcb
          subst hc63
          rcases (show cb = true ∨ cb = false by cases cb <;> simp) with rfl | rfl
          · have HCR : Hid (crlf s q = true) := HCB
            have j2 : IntKind.i64.wrap ((k : Int) + 1 + 1) = (k : Int) + 1 + 1 := IntWalk.i64_in _ (by omega)
            go_wp2
            go_meet
            case rel =>
              obtain ⟨hd, hM, hown, hB, hdc, hLk, hkd, ho4⟩ := HR.out
              obtain ⟨b13, hq1, b10⟩ := of_decide_eq_true HCR.out
              have w1' : wd s q = 1 := wd_ascii s q hqs (by omega)
              have w2' : wd s (q + 1) = 1 := wd_ascii s (q + 1) hq1 (by omega)
              refine ⟨⟨[q, q + 1], q + 2, q + 1, by push_cast; rfl, ?_, by omega, ⟨[q], rfl⟩, ⟨_, rfl⟩, by omega, ?_⟩, rfl⟩
              · rw [hdc, w1', posG_cons s (q + 1) hq1, w2']; rfl
              · unfold fstC
                rw [if_pos HCR.out]
                simp [mxC, col_cr s q hqs (.inl b13), col_cr s (q + 1) hq1 (.inr b10)]
          · by_cases hk3 : kd = 11 ∨ kd = 4 ∨ kd = 9
            · have key : (((kd : Int) == 11) = true) ∨ (((kd : Int) == 11) = false ∧ ((kd : Int) == 4) = true) ∨ (((kd : Int) == 11) = false ∧ ((kd : Int) == 4) = false ∧ ((kd : Int) == 9) = true) := by
                simp only [beq_iff_eq, beq_eq_false_iff_ne]; omega
              have HK := Lib.hid (And.intro hk3 HCB.out)
              clear hk3
              rcases key with g1 | ⟨g1, g2⟩ | ⟨g1, g2, g3⟩
              all_goals
                go_wp2
                go_meet
                case rel =>
                  obtain ⟨hd, hM, hown, hB, hdc, hLk, hkd, ho4⟩ := HR.out
                  refine ⟨⟨[q], q + wd s q, q, by push_cast; rfl, hdc, wd_fits s q hqs, ⟨[], rfl⟩, ⟨_, rfl⟩, rfl, ?_⟩, rfl⟩
                  unfold fstC
                  rw [if_neg (by rw [HK.out.2]; simp), if_pos (by rw [hkd]; exact HK.out.1), mxC_one]
            · have g1 : ((kd : Int) == 11) = false := by rw [beq_eq_false_iff_ne]; omega
              have g2 : ((kd : Int) == 4) = false := by rw [beq_eq_false_iff_ne]; omega
              have g3 : ((kd : Int) == 9) = false := by rw [beq_eq_false_iff_ne]; omega
              have HK := Lib.hid (And.intro hk3 HCB.out)
              have hst := rowA_start HR.out.1 hqs
              have hst2 := hst
              clear hst
              go_wp2
              go_loopw [6] (fun kv wr1 => L2Rel s L k q wr kv wr1) (fun kv _ => n - (intOf kv).toNat)
              case atStart => exact ⟨[], q + wd s q, q, rfl, hst2, rfl⟩
              case round =>
                obtain ⟨B, q2, r, rfl, hA, rfl⟩ := hrel
                obtain ⟨m, hm⟩ : ∃ m, k + B.length = m := ⟨_, rfl⟩
                rw [hm]
                have hLB := hA.1
                have hLm : L[m]? = some r := by
                  have := drop_at (j := B.length) hLB (by simp)
                  rw [hm] at this
                  rw [this]; simp
                have hLm1 : L.drop (m + 1) = posG s q2 := by
                  have := drop_app hLB
                  rw [List.length_append, List.length_singleton, ← Nat.add_assoc, hm] at this
                  exact this
                have hmn : m < n := by have := (List.getElem?_eq_some_iff.1 hLm).1; have := H.out.1; omega
                have hX : (q2 < s.size → goesOn s q q2 r = false) → SwR s L k q (.int .i64 ((m + 1 : Nat) : Int)) := fun hg => by
                  refine ⟨B ++ [r], q2, r, by rw [List.length_append, List.length_singleton, ← Nat.add_assoc, hm], hLB, hA.2.1, ⟨B, rfl⟩, row_head HR.out.2.2.2.2.1 hLB, hA.2.2.2.1, ?_⟩
                  unfold fstC
                  rw [if_neg (by rw [HK.out.2]; simp), if_neg (by rw [HR.out.2.2.2.2.2.2.1]; exact HK.out.1)]
                  exact rowA_stop hA hg
                obtain ⟨_, _, _, u3, _⟩ := H.out.2.1 m r hLm
                have u3 := at_below u3 HR.out.2.2.2.1
                have HX := Lib.hid hX
                have HA := Lib.hid hA
                have HM := Lib.hid hm
                have hq2z := hA.2.1
                clear hX hA hLB hLm hm
                have j3 : IntKind.i64.wrap ((m : Int) + 1 - 1) = (m : Int) := by rw [show (m : Int) + 1 - 1 = (m : Int) by omega]; exact IntWalk.i64_in _ (by omega)
                have j4 : IntKind.i64.wrap ((m : Int) + 1 + 1) = (m : Int) + 1 + 1 := IntWalk.i64_in _ (by omega)
                by_cases hk2 : m + 1 < n
                · have hq2 : q2 < s.size := by
                    by_cases h : q2 < s.size
                    · exact h
                    · rw [posG_end s q2 (by omega)] at hLm1
                      have := drop_end hLm1
                      have := H.out.1
                      omega
                  rw [posG_cons s q2 hq2] at hLm1
                  obtain ⟨d0, d1, d2, d3, d4⟩ := H.out.2.1 (m + 1) q2 (drop_head hLm1).2
                  have d2 := at_below d2 HR.out.2.2.2.1
                  have d3 := at_below d3 HR.out.2.2.2.1
                  have hgd : goesOn s q q2 r = (decide (kdc s q2 = 2) || (rn s q2 == 8205) || (decide (kd = 10) && decide (kdc s q2 = 10) && (rn s r == 8205))) := by unfold goesOn; rw [HR.out.2.2.2.2.2.2.1]
                  obtain ⟨jb, hjb⟩ : ∃ b, (rn s q2 == 8205) = b := ⟨_, rfl⟩
                  obtain ⟨jr, hjr⟩ : ∃ b, (rn s r == 8205) = b := ⟨_, rfl⟩
                  obtain ⟨k2, hk2e⟩ : ∃ b, kdc s q2 = b := ⟨_, rfl⟩
                  rw [hjb, hjr, hk2e] at hgd
                  rw [hk2e] at d2
                  rw [hjb] at d3
                  rw [hjr] at u3
                  clear hjb hjr hk2e d0 d1 d4 hLm1
                  have i4 : ((m : Int) + 1) < (n : Int) := by omega
                  have i5 : (0 : Int) ≤ (m : Int) + 1 := by omega
                  have i6 : decide (((m : Int) + 1) < (n : Int)) = true := decide_eq_true i4
                  have i7 : (0 : Int) ≤ (m : Int) := by omega
                  have i8 : (m : Int) < (n : Int) := by omega
                  have k2c : k2 = 2 ∨ k2 ≠ 2 := by omega
                  rcases k2c with h2 | h2
                  · have hg : goesOn s q q2 r = true := by rw [hgd, h2]; rfl
                    have f2 : ((k2 : Int) == 2) = true := by rw [beq_iff_eq]; omega
                    clear hgd h2
                    have HG := Lib.hid hg
                    clear hg
                    go_wp2
                    go_roundw
                    case rel => exact ⟨B ++ [r], q2 + wd s q2, q2, by rw [List.length_append]; have := HM.out; simp only [List.length_cons, List.length_nil]; congr 1; omega, rowA_next HA.out hq2 HG.out, rfl⟩
                    case measure => simp [intOf]; omega
                  · have f2 : ((k2 : Int) == 2) = false := by rw [beq_eq_false_iff_ne]; omega
                    rcases (show jb = true ∨ jb = false by cases jb <;> simp) with rfl | rfl
                    · have hg : goesOn s q q2 r = true := by rw [hgd]; simp
                      clear hgd h2
                      have HG := Lib.hid hg
                      clear hg
                      go_wp2
                      go_roundw
                      case rel => exact ⟨B ++ [r], q2 + wd s q2, q2, by rw [List.length_append]; have := HM.out; simp only [List.length_cons, List.length_nil]; congr 1; omega, rowA_next HA.out hq2 HG.out, rfl⟩
                      case measure => simp [intOf]; omega
                    · by_cases hk10 : kd = 10
                      · have f3 : ((kd : Int) == 10) = true := by rw [beq_iff_eq]; omega
                        by_cases hk20 : k2 = 10
                        · have f4 : ((k2 : Int) == 10) = true := by rw [beq_iff_eq]; omega
                          rcases (show jr = true ∨ jr = false by cases jr <;> simp) with rfl | rfl
                          · have hg : goesOn s q q2 r = true := by rw [hgd, hk10, hk20]; simp
                            clear hgd h2 hk10 hk20
                            have HG := Lib.hid hg
                            clear hg
                            go_wp2
                            go_roundw
                            case rel => exact ⟨B ++ [r], q2 + wd s q2, q2, by rw [List.length_append]; have := HM.out; simp only [List.length_cons, List.length_nil]; congr 1; omega, rowA_next HA.out hq2 HG.out, rfl⟩
                            case measure => simp [intOf]; omega
                          · have hg : goesOn s q q2 r = false := by rw [hgd, decide_eq_false h2]; simp
                            clear hgd h2 hk10 hk20
                            have HG := Lib.hid hg
                            clear hg
                            go_wp2
                            go_meet
                            case rel => exact ⟨HX.out (fun _ => HG.out), rfl⟩
                        · have f4 : ((k2 : Int) == 10) = false := by rw [beq_eq_false_iff_ne]; omega
                          have hg : goesOn s q q2 r = false := by rw [hgd, decide_eq_false h2, decide_eq_false hk20]; simp
                          clear hgd h2 hk10 hk20
                          have HG := Lib.hid hg
                          clear hg
                          go_wp2
                          go_meet
                          case rel => exact ⟨HX.out (fun _ => HG.out), rfl⟩
                      · have f3 : ((kd : Int) == 10) = false := by rw [beq_eq_false_iff_ne]; omega
                        have hg : goesOn s q q2 r = false := by rw [hgd, decide_eq_false h2, decide_eq_false hk10]; simp
                        clear hgd h2 hk10
                        have HG := Lib.hid hg
                        clear hg
                        go_wp2
                        go_meet
                        case rel => exact ⟨HX.out (fun _ => HG.out), rfl⟩
                · have i6 : decide (((m : Int) + 1) < (n : Int)) = false := decide_eq_false (by omega)
                  have i7 : decide (m + 1 < n) = false := decide_eq_false hk2
                  have i8 : ¬ ((m : Int) + 1) < (n : Int) := by omega
                  have hq2n : ¬ q2 < s.size := fun h => by
                    rw [posG_cons s q2 h] at hLm1
                    have := (drop_head hLm1).1
                    have := H.out.1
                    omega
                  have HQ := Lib.hid hq2n
                  clear hq2n hLm1
                  go_wp2
                  go_meet
                  case rel => exact ⟨HX.out (fun h => absurd h HQ.out), rfl⟩
      case rest =>
        obtain ⟨⟨A, q2, r, rfl, hA, hq2, ⟨B, hB'⟩, hA', hrw, hfs⟩, rfl⟩ := hcut
        obtain ⟨m, hm⟩ : ∃ m, k + B.length = m := ⟨_, rfl⟩
        have hAl : A.length = B.length + 1 := by rw [hB']; simp
        have hkm : k + A.length = m + 1 := by omega
        have hkm2 : k < m + 1 := by omega
        rw [hkm]
        obtain ⟨hd, hM, hown, hB, hdc, hLk, hkd, ho4⟩ := HR.out
        have hLm : L[m]? = some r := by
          have := drop_at (j := B.length) hA (by omega)
          rw [hm] at this
          rw [this, hB']; simp
        have hmn : m < n := by have := (List.getElem?_eq_some_iff.1 hLm).1; have := H.out.1; omega
        obtain ⟨_, u1, _, _, _⟩ := H.out.2.1 m r hLm
        have u1 := at_below u1 hB
        rw [hrw] at u1
        have hgl := lt_cell u1
        have j3 : IntKind.i64.wrap ((m : Int) + 1 - 1) = (m : Int) := by rw [show (m : Int) + 1 - 1 = (m : Int) by omega]; exact IntWalk.i64_in _ (by omega)
        have j5 : IntKind.i64.wrap (m : Int) = (m : Int) := IntWalk.i64_in _ (by omega)
        have i7 : (0 : Int) ≤ (m : Int) := by omega
        have i8 : (m : Int) < (n : Int) := by omega
        have hms : M.length + 1 ≤ s.size := by
          have h1 := cellsL_len s
          rw [hM, cellsG_cons s q hqs] at h1
          simp at h1; omega
        have hM2 : cellsL s = (M ++ [(q, q2, mxC s A)]) ++ cellsG s q2 := by rw [hM, cellsG_cons s q hqs, hfs]; simp
        have HA := Lib.hid (And.intro hA (And.intro hM2 (And.intro hq2 (And.intro hkm ho4))))
        have HO := Lib.hid (And.intro hown hB)
        clear hA hM2 hq2 hkm ho4 hm hAl hB' hA' hrw hfs hLm hd hM hown hB hdc hLk hkd
        go_wp2
        refine wp_region_noPanic ?_
        refine wp_region_g (S := untilG [] (fun Y => Below wr.heap.size wr Y)) (by kernel_rfl) ?_
        obtain ⟨X0, hX0⟩ : ∃ Y, wr.drew = Y := ⟨_, rfl⟩
        have T0 : Below wr.heap.size wr X0 := hX0 ▸ (Below.refl wr.heap.size wr).drew
        have hX0s := T0.size
        rw [hX0]
        clear hX0
        refine wpAnyG_take [0, 2, 3, 4, 5, 13, 14, 16] (i := 0) (v := (.slice (some ⟨g, 0, none⟩) n cap)) rfl (by kernel_rfl) (by kernel_rfl) (by kernel_rfl) (by kernel_rfl) (by kernel_rfl) (by kernel_rfl) (by kernel_rfl) (by kernel_rfl) (fun _ _ _ h => h) (Or.inl ⟨by rfl, ?hy⟩) T0 ?_
        case hy =>
          intro X hX
          go_simp
        try simp only [Act.put, List.getElem_toArray, List.getElem_cons_zero, List.getElem_cons_succ, List.setIfInBounds_toArray, List.set_cons_zero, List.set_cons_succ]
        refine wpAnyG_take [1, 2, 3, 4, 5, 13, 14, 16] (i := 1) (v := (.int .i64 k)) rfl (by kernel_rfl) (by kernel_rfl) (by kernel_rfl) (by kernel_rfl) (by kernel_rfl) (by kernel_rfl) (by kernel_rfl) (by kernel_rfl) (fun _ _ _ h => h) (Or.inl ⟨by rfl, ?hy⟩) T0 ?_
        case hy =>
          intro X hX
          go_simp
        try simp only [Act.put, List.getElem_toArray, List.getElem_cons_zero, List.getElem_cons_succ, List.setIfInBounds_toArray, List.set_cons_zero, List.set_cons_succ]
        refine wpAnyG_take [2, 3, 4, 5, 13, 14, 16] (i := 2) (v := (.pointer (some ⟨g, k * 5, none⟩))) rfl (by kernel_rfl) (by kernel_rfl) (by kernel_rfl) (by kernel_rfl) (by kernel_rfl) (by kernel_rfl) (by kernel_rfl) (by kernel_rfl) (fun _ _ _ h => h) (Or.inl ⟨by rfl, ?hy⟩) T0 ?_
        case hy =>
          intro X hX
          go_simp
        try simp only [Act.put, List.getElem_toArray, List.getElem_cons_zero, List.getElem_cons_succ, List.setIfInBounds_toArray, List.set_cons_zero, List.set_cons_succ]
        refine wpAnyG_take [3, 4, 5, 13, 14, 16] (i := 3) (v := (.pointer (some ⟨g, k * 5, none⟩))) rfl (by kernel_rfl) (by kernel_rfl) (by kernel_rfl) (by kernel_rfl) (by kernel_rfl) (by kernel_rfl) (by kernel_rfl) (by kernel_rfl) (fun _ _ _ h => h) (Or.inl ⟨by rfl, ?hy⟩) T0 ?_
        case hy =>
          intro X hX
          go_simp
        try simp only [Act.put, List.getElem_toArray, List.getElem_cons_zero, List.getElem_cons_succ, List.setIfInBounds_toArray, List.set_cons_zero, List.set_cons_succ]
        refine wpAnyG_take [4, 5, 13, 14, 16] (i := 4) (v := (.pointer (some ⟨g, k * 5, none⟩))) rfl (by kernel_rfl) (by kernel_rfl) (by kernel_rfl) (by kernel_rfl) (by kernel_rfl) (by kernel_rfl) (by kernel_rfl) (by kernel_rfl) (fun _ _ _ h => h) (Or.inl ⟨by rfl, ?hy⟩) T0 ?_
        case hy =>
          intro X hX
          go_simp
        try simp only [Act.put, List.getElem_toArray, List.getElem_cons_zero, List.getElem_cons_succ, List.setIfInBounds_toArray, List.set_cons_zero, List.set_cons_succ]
        refine wpAnyG_take [5, 13, 14, 16] (i := 5) (v := (.int .i64 q)) rfl (by kernel_rfl) (by kernel_rfl) (by kernel_rfl) (by kernel_rfl) (by kernel_rfl) (by kernel_rfl) (by kernel_rfl) (by kernel_rfl) (fun _ _ _ h => h) (Or.inl ⟨by rfl, ?hy⟩) T0 ?_
        case hy =>
          intro X hX
          have e0 := at_below c0 hX
          go_simp
        try simp only [Act.put, List.getElem_toArray, List.getElem_cons_zero, List.getElem_cons_succ, List.setIfInBounds_toArray, List.set_cons_zero, List.set_cons_succ]
        refine wpAnyG_take [6, 9, 10, 11, 12, 13, 14, 16] (i := 6) (v := (.slice (some ⟨g, 0, none⟩) n cap)) rfl (by kernel_rfl) (by kernel_rfl) (by kernel_rfl) (by kernel_rfl) (by kernel_rfl) (by kernel_rfl) (by kernel_rfl) (by kernel_rfl) (fun _ _ _ h => h) (Or.inl ⟨by rfl, ?hy⟩) T0 ?_
        case hy =>
          intro X hX
          go_simp
        try simp only [Act.put, List.getElem_toArray, List.getElem_cons_zero, List.getElem_cons_succ, List.setIfInBounds_toArray, List.set_cons_zero, List.set_cons_succ]
        refine wpAnyG_take [7, 8, 9, 10, 11, 12, 13, 14, 16] (i := 7) (v := (.int .i64 ((m : Int) + 1))) rfl (by kernel_rfl) (by kernel_rfl) (by kernel_rfl) (by kernel_rfl) (by kernel_rfl) (by kernel_rfl) (by kernel_rfl) (by kernel_rfl) (fun _ _ _ h => h) (Or.inl ⟨by rfl, ?hy⟩) T0 ?_
        case hy =>
          intro X hX
          go_simp
        try simp only [Act.put, List.getElem_toArray, List.getElem_cons_zero, List.getElem_cons_succ, List.setIfInBounds_toArray, List.set_cons_zero, List.set_cons_succ]
        refine wpAnyG_take [8, 9, 10, 11, 12, 13, 14, 16] (i := 8) (v := (.int .i64 m)) rfl (by kernel_rfl) (by kernel_rfl) (by kernel_rfl) (by kernel_rfl) (by kernel_rfl) (by kernel_rfl) (by kernel_rfl) (by kernel_rfl) (fun _ _ _ h => h) (Or.inl ⟨by rfl, ?hy⟩) T0 ?_
        case hy =>
          intro X hX
          go_simp
        try simp only [Act.put, List.getElem_toArray, List.getElem_cons_zero, List.getElem_cons_succ, List.setIfInBounds_toArray, List.set_cons_zero, List.set_cons_succ]
        refine wpAnyG_take [9, 10, 11, 12, 13, 14, 16] (i := 9) (v := (.pointer (some ⟨g, m * 5, none⟩))) rfl (by kernel_rfl) (by kernel_rfl) (by kernel_rfl) (by kernel_rfl) (by kernel_rfl) (by kernel_rfl) (by kernel_rfl) (by kernel_rfl) (fun _ _ _ h => h) (Or.inl ⟨by rfl, ?hy⟩) T0 ?_
        case hy =>
          intro X hX
          go_simp
        try simp only [Act.put, List.getElem_toArray, List.getElem_cons_zero, List.getElem_cons_succ, List.setIfInBounds_toArray, List.set_cons_zero, List.set_cons_succ]
        refine wpAnyG_take [10, 11, 12, 13, 14, 16] (i := 10) (v := (.pointer (some ⟨g, m * 5, none⟩))) rfl (by kernel_rfl) (by kernel_rfl) (by kernel_rfl) (by kernel_rfl) (by kernel_rfl) (by kernel_rfl) (by kernel_rfl) (by kernel_rfl) (fun _ _ _ h => h) (Or.inl ⟨by rfl, ?hy⟩) T0 ?_
        case hy =>
          intro X hX
          go_simp
        try simp only [Act.put, List.getElem_toArray, List.getElem_cons_zero, List.getElem_cons_succ, List.setIfInBounds_toArray, List.set_cons_zero, List.set_cons_succ]
        refine wpAnyG_take [11, 12, 13, 14, 16] (i := 11) (v := (.pointer (some ⟨g, m * 5 + 1, none⟩))) rfl (by kernel_rfl) (by kernel_rfl) (by kernel_rfl) (by kernel_rfl) (by kernel_rfl) (by kernel_rfl) (by kernel_rfl) (by kernel_rfl) (fun _ _ _ h => h) (Or.inl ⟨by rfl, ?hy⟩) T0 ?_
        case hy =>
          intro X hX
          go_simp
        try simp only [Act.put, List.getElem_toArray, List.getElem_cons_zero, List.getElem_cons_succ, List.setIfInBounds_toArray, List.set_cons_zero, List.set_cons_succ]
        refine wpAnyG_take [12, 13, 14, 16] (i := 12) (v := (.int .i64 q2)) rfl (by kernel_rfl) (by kernel_rfl) (by kernel_rfl) (by kernel_rfl) (by kernel_rfl) (by kernel_rfl) (by kernel_rfl) (by kernel_rfl) (fun _ _ _ h => h) (Or.inl ⟨by rfl, ?hy⟩) T0 ?_
        case hy =>
          intro X hX
          have e0 := at_below u1 hX
          go_simp
        try simp only [Act.put, List.getElem_toArray, List.getElem_cons_zero, List.getElem_cons_succ, List.setIfInBounds_toArray, List.set_cons_zero, List.set_cons_succ]
        refine wpAnyG_take [13, 14, 16] (i := 13) (v := (.agg #[.int .i64 q, .int .i64 q2])) rfl (by kernel_rfl) (by kernel_rfl) (by kernel_rfl) (by kernel_rfl) (by kernel_rfl) (by kernel_rfl) (by kernel_rfl) (by kernel_rfl) (fun _ _ _ h => h) (Or.inl ⟨by rfl, ?hy⟩) T0 ?_
        case hy =>
          intro X hX
          go_simp
        try simp only [Act.put, List.getElem_toArray, List.getElem_cons_zero, List.getElem_cons_succ, List.setIfInBounds_toArray, List.set_cons_zero, List.set_cons_succ]
        refine wpAnyG_take [14, 16] (i := 14) (v := (.agg #[.int .i64 q, .int .i64 q2, .int .i64 0])) rfl (by kernel_rfl) (by kernel_rfl) (by kernel_rfl) (by kernel_rfl) (by kernel_rfl) (by kernel_rfl) (by kernel_rfl) (by kernel_rfl) (fun _ _ _ h => h) (Or.inl ⟨by rfl, ?hy⟩) T0 ?_
        case hy =>
          intro X hX
          go_simp
        try simp only [Act.put, List.getElem_toArray, List.getElem_cons_zero, List.getElem_cons_succ, List.setIfInBounds_toArray, List.set_cons_zero, List.set_cons_succ]
        refine wpAnyG_all (rs := [15]) (by kernel_rfl) (by simp) ?_
        intro i hi
        simp only [List.mem_cons, List.not_mem_nil, or_false] at hi
        subst hi
        refine wpOp_now rfl rfl ?_
        go_simp
        have bz := Blk.new X0 #[.int .i64 0, .int .i64 0, .int .i64 0] 26
        replace T0 := T0.alloc T0.size (.cells #[.int .i64 0, .int .i64 0, .int .i64 0] 26)
        obtain ⟨C, hCn⟩ : ∃ B, X0.heap.size = B := ⟨_, rfl⟩
        obtain ⟨X1, hX1⟩ : ∃ X1, X0.alloc (.cells #[.int .i64 0, .int .i64 0, .int .i64 0] 26) = X1 := ⟨_, rfl⟩
        rw [hCn] at bz
        rw [hX1] at bz T0 ⊢
        rw [hCn]
        have hCw : wr.heap.size ≤ C := by rw [← hCn]; exact hX0s
        clear hX1 hCn
        refine ⟨fun _ => T0, ?_⟩
        try simp only [Act.put, List.getElem_toArray, List.getElem_cons_zero, List.getElem_cons_succ, List.setIfInBounds_toArray, List.set_cons_zero, List.set_cons_succ]
        have m0 := bz.cell 0
        have m1 := bz.cell 1
        have m2 := bz.cell 2
        have mf := bz.frozen
        simp only [List.getElem?_toArray, List.getElem?_cons_succ, List.getElem?_cons_zero] at m0 m1 m2
        refine wpAnyG_all (rs := [16]) (by kernel_rfl) (by simp) ?_
        intro i hi
        simp only [List.mem_cons, List.not_mem_nil, or_false] at hi
        subst hi
        refine wpOp_now rfl rfl ?_
        go_simp
        have qz := ((bz.set 0 (.int .i64 (q : Int))).set 1 (.int .i64 (q2 : Int))).set 2 (.int .i64 0)
        simp only [List.setIfInBounds_toArray, List.set_cons_zero, List.set_cons_succ] at qz
        replace T0 := ((T0.setCell (p := ⟨C, 0, none⟩) hCw (.int .i64 (q : Int))).setCell (p := ⟨C, 1, none⟩) hCw (.int .i64 (q2 : Int))).setCell (p := ⟨C, 2, none⟩) hCw (.int .i64 0)
        obtain ⟨V, hV⟩ : ∃ V, ((X1.setCell ⟨C, 0, none⟩ (.int .i64 (q : Int))).setCell ⟨C, 1, none⟩ (.int .i64 (q2 : Int))).setCell ⟨C, 2, none⟩ (.int .i64 0) = V := ⟨_, rfl⟩
        rw [hV] at qz T0 ⊢
        clear hV bz m0 m1 m2 mf
        refine ⟨fun _ => T0, ?_⟩
        try simp only [Act.put, List.getElem_toArray, List.getElem_cons_zero, List.getElem_cons_succ, List.setIfInBounds_toArray, List.set_cons_zero, List.set_cons_succ]
        refine wpAnyG_done (by kernel_rfl) ?_ _
        refine NoPanic.normal ?_
        have qz2 := qz
        have hBC : Below C V V := Below.refl _ _
        have hCV : C < V.heap.size := qz.lt
        have hgC : g < C := Nat.lt_of_lt_of_le hgl hCw
        obtain ⟨a0, ha0⟩ : ∃ x, A.length = x := ⟨_, rfl⟩
        have hka : k + a0 = m + 1 := by rw [← ha0]; exact HA.out.2.2.2.1
        have HT0 := Lib.hid T0
        clear T0 c0 c1 c2 c3 c4 u1 hX0s
        go_wp2
        go_loopw [5] (fun iv wr1 => L3Rel s L A k q q2 C V iv wr1) (fun iv _ => (m + 1) - (intOf iv).toNat)
        case atStart => exact ⟨0, by simp, Nat.zero_le _, by simpa [mxC] using qz2, hBC⟩
        case round =>
          clear qz2 hBC
          obtain ⟨j, rfl, hj, hpC, hBj⟩ := hrel
          rw [ha0] at hj
          by_cases hja : j < a0
          · have hLj : L[k + j]? = A[j]? := drop_at HA.out.1 (by omega)
            obtain ⟨p, hp⟩ : ∃ p, A[j]? = some p := ⟨_, List.getElem?_eq_getElem (by omega)⟩
            rw [hp] at hLj
            obtain ⟨_, _, _, _, d4⟩ := H.out.2.1 (k + j) p hLj
            have d4 := at_below d4 HO.out.2
            have d4 := at_below d4 HT0.out
            have d4 : wr.cell? ⟨g, (k + j) * 5 + 4, none⟩ = _ := (hBj.cell (p := ⟨g, _, none⟩) hgC).trans d4
            obtain ⟨cp, hcp⟩ : ∃ x, colc s p = x := ⟨_, rfl⟩
            rw [hcp] at d4
            obtain ⟨mc, hmc⟩ : ∃ x, mxC s (A.take j) = x := ⟨_, rfl⟩
            rw [hmc] at hpC
            have hst : mxC s (A.take (j + 1)) = max mc cp := by rw [List.take_add_one, hp, Option.toList_some, mxC_snoc, hmc, hcp]
            obtain ⟨mj, hmj0⟩ : ∃ x, max mc cp = x := ⟨_, rfl⟩
            rw [hmj0] at hst
            have hmj : (if (mc : Int) < (cp : Int) then (cp : Int) else (mc : Int)) = (mj : Int) := by split <;> omega
            have hmj2 : (if mc < cp then (cp : Int) else (mc : Int)) = (mj : Int) := by split <;> omega
            have p2 := hpC.cell 2
            simp only [List.getElem?_toArray, List.getElem?_cons_succ, List.getElem?_cons_zero] at p2
            have i4 : ((k + j : Nat) : Int) < ((m : Int) + 1) := by omega
            have i5 : (0 : Int) ≤ ((k + j : Nat) : Int) := by omega
            have i6 : (k : Int) + (j : Int) < (m : Int) + 1 := by omega
            have i9 : (0 : Int) ≤ (k : Int) + (j : Int) := by omega
            have i10 : (k : Int) + (j : Int) < (n : Int) := by omega
            have j6 : IntKind.i64.wrap ((k : Int) + (j : Int) + 1) = (k : Int) + (j : Int) + 1 := IntWalk.i64_in _ (by omega)
            have HS := Lib.hid (And.intro hst hBj)
            clear hst hBj hmc hmj0 hcp hp hLj
            go_wp2
            refine wp_region_noPanic ?_
            refine wp_region_g (S := untilG [9] (fun Y => Below wr.heap.size wr Y)) (by kernel_rfl) ?_
            obtain ⟨X0, hX0⟩ : ∃ Y, wr.drew = Y := ⟨_, rfl⟩
            have T0 : Below wr.heap.size wr X0 := hX0 ▸ (Below.refl wr.heap.size wr).drew
            rw [hX0]
            clear hX0
            refine wpAnyG_take [0, 1, 7] (i := 0) (v := (.pointer (some ⟨C, 2, none⟩))) rfl (by kernel_rfl) (by kernel_rfl) (by kernel_rfl) (by kernel_rfl) (by kernel_rfl) (by kernel_rfl) (by kernel_rfl) (by kernel_rfl) (fun _ _ _ h => h) (Or.inl ⟨by rfl, ?hy⟩) T0 ?_
            case hy =>
              intro X hX
              go_simp
            try simp only [Act.put, List.getElem_toArray, List.getElem_cons_zero, List.getElem_cons_succ, List.setIfInBounds_toArray, List.set_cons_zero, List.set_cons_succ]
            refine wpAnyG_take [1, 7] (i := 1) (v := (.int .i64 (mc : Nat))) rfl (by kernel_rfl) (by kernel_rfl) (by kernel_rfl) (by kernel_rfl) (by kernel_rfl) (by kernel_rfl) (by kernel_rfl) (by kernel_rfl) (fun _ _ _ h => h) (Or.inl ⟨by rfl, ?hy⟩) T0 ?_
            case hy =>
              intro X hX
              have e0 := at_below p2 hX
              go_simp
            try simp only [Act.put, List.getElem_toArray, List.getElem_cons_zero, List.getElem_cons_succ, List.setIfInBounds_toArray, List.set_cons_zero, List.set_cons_succ]
            refine wpAnyG_take [2, 4, 5, 6, 7] (i := 2) (v := (.slice (some ⟨g, 0, none⟩) n cap)) rfl (by kernel_rfl) (by kernel_rfl) (by kernel_rfl) (by kernel_rfl) (by kernel_rfl) (by kernel_rfl) (by kernel_rfl) (by kernel_rfl) (fun _ _ _ h => h) (Or.inl ⟨by rfl, ?hy⟩) T0 ?_
            case hy =>
              intro X hX
              go_simp
            try simp only [Act.put, List.getElem_toArray, List.getElem_cons_zero, List.getElem_cons_succ, List.setIfInBounds_toArray, List.set_cons_zero, List.set_cons_succ]
            refine wpAnyG_take [3, 4, 5, 6, 7] (i := 3) (v := (.int .i64 ((k : Int) + (j : Int)))) rfl (by kernel_rfl) (by kernel_rfl) (by kernel_rfl) (by kernel_rfl) (by kernel_rfl) (by kernel_rfl) (by kernel_rfl) (by kernel_rfl) (fun _ _ _ h => h) (Or.inl ⟨by rfl, ?hy⟩) T0 ?_
            case hy =>
              intro X hX
              go_simp
            try simp only [Act.put, List.getElem_toArray, List.getElem_cons_zero, List.getElem_cons_succ, List.setIfInBounds_toArray, List.set_cons_zero, List.set_cons_succ]
            refine wpAnyG_take [4, 5, 6, 7] (i := 4) (v := (.pointer (some ⟨g, (k + j) * 5, none⟩))) rfl (by kernel_rfl) (by kernel_rfl) (by kernel_rfl) (by kernel_rfl) (by kernel_rfl) (by kernel_rfl) (by kernel_rfl) (by kernel_rfl) (fun _ _ _ h => h) (Or.inl ⟨by rfl, ?hy⟩) T0 ?_
            case hy =>
              intro X hX
              go_simp
            try simp only [Act.put, List.getElem_toArray, List.getElem_cons_zero, List.getElem_cons_succ, List.setIfInBounds_toArray, List.set_cons_zero, List.set_cons_succ]
            refine wpAnyG_take [5, 6, 7] (i := 5) (v := (.pointer (some ⟨g, (k + j) * 5 + 4, none⟩))) rfl (by kernel_rfl) (by kernel_rfl) (by kernel_rfl) (by kernel_rfl) (by kernel_rfl) (by kernel_rfl) (by kernel_rfl) (by kernel_rfl) (fun _ _ _ h => h) (Or.inl ⟨by rfl, ?hy⟩) T0 ?_
            case hy =>
              intro X hX
              go_simp
            try simp only [Act.put, List.getElem_toArray, List.getElem_cons_zero, List.getElem_cons_succ, List.setIfInBounds_toArray, List.set_cons_zero, List.set_cons_succ]
            refine wpAnyG_take [6, 7] (i := 6) (v := (.int .i64 (cp : Nat))) rfl (by kernel_rfl) (by kernel_rfl) (by kernel_rfl) (by kernel_rfl) (by kernel_rfl) (by kernel_rfl) (by kernel_rfl) (by kernel_rfl) (fun _ _ _ h => h) (Or.inl ⟨by rfl, ?hy⟩) T0 ?_
            case hy =>
              intro X hX
              have e0 := at_below d4 hX
              go_simp
            try simp only [Act.put, List.getElem_toArray, List.getElem_cons_zero, List.getElem_cons_succ, List.setIfInBounds_toArray, List.set_cons_zero, List.set_cons_succ]
            refine wpAnyG_take [7] (i := 7) (v := (.int .i64 (mj : Nat))) rfl (by kernel_rfl) (by kernel_rfl) (by kernel_rfl) (by kernel_rfl) (by kernel_rfl) (by kernel_rfl) (by kernel_rfl) (by kernel_rfl) (fun _ _ _ h => h) (Or.inl ⟨by rfl, ?hy⟩) T0 ?_
            case hy =>
              intro X hX
              go_simp <;> first | exact hmj | exact hmj2
            try simp only [Act.put, List.getElem_toArray, List.getElem_cons_zero, List.getElem_cons_succ, List.setIfInBounds_toArray, List.set_cons_zero, List.set_cons_succ]
            refine wpAnyG_take [8] (i := 8) (v := (.pointer (some ⟨C, 2, none⟩))) rfl (by kernel_rfl) (by kernel_rfl) (by kernel_rfl) (by kernel_rfl) (by kernel_rfl) (by kernel_rfl) (by kernel_rfl) (by kernel_rfl) (fun _ _ _ h => h) (Or.inl ⟨by rfl, ?hy⟩) T0 ?_
            case hy =>
              intro X hX
              go_simp
            try simp only [Act.put, List.getElem_toArray, List.getElem_cons_zero, List.getElem_cons_succ, List.setIfInBounds_toArray, List.set_cons_zero, List.set_cons_succ]
            have pf := hpC.frozen 2
            have hpX := hpC.below' T0
            have px := hpX.cell 2
            have pfx := hpX.frozen 2
            simp only [List.getElem?_toArray, List.getElem?_cons_succ, List.getElem?_cons_zero] at px
            refine wpAnyG_all (rs := [9]) (by kernel_rfl) (by simp) ?_
            intro i hi
            simp only [List.mem_cons, List.not_mem_nil, or_false] at hi
            subst hi
            refine wpOp_now rfl rfl ?_
            go_simp
            refine ⟨fun h => (nomatch (show (false : Bool) = true from h)), ?_⟩
            refine wpAnyG_done (by kernel_rfl) ?_ _
            refine NoPanic.normal ?_
            go_wp2
            go_roundw
            case rel =>
              refine ⟨j + 1, by push_cast; congr 1, by omega, ?_, ?_⟩
              · rw [HS.out.1]
                have := hpX.set 2 (.int .i64 (mj : Int))
                simpa using this
              · exact (HS.out.2.trans (T0.mono (by have := HS.out.2.size; have := hpC.lt; omega))).setCell (p := ⟨C, 2, none⟩) (Nat.le_refl _) _
            case measure => simp [intOf]; omega
          · have hjl : j = a0 := by omega
            have hk2 : k + j = m + 1 := by omega
            have hjA : A.take j = A := by rw [hjl, ← ha0]; exact List.take_length ..
            rw [hjA] at hpC
            obtain ⟨mx, hmx⟩ : ∃ x, mxC s A = x := ⟨_, rfl⟩
            rw [hmx] at hpC
            have p0 := hpC.cell 0
            have p1 := hpC.cell 1
            have p2 := hpC.cell 2
            simp only [List.getElem?_toArray, List.getElem?_cons_succ, List.getElem?_cons_zero] at p0 p1 p2
            have ownV := own_below HO.out.1 HT0.out
            have ownW := own_same (W := wr) ownV (fun g' e => hBj.block g' (by have := (HO.out.1.lt g' e).2; omega))
            have hBW := (HO.out.2.trans (HT0.out.mono HO.out.2.size)).trans (hBj.mono (by have := HO.out.2.size; omega))
            have i4 : ¬ ((k + j : Nat) : Int) < ((m : Int) + 1) := by omega
            have i6 : ¬ (k : Int) + (j : Int) < (m : Int) + 1 := by omega
            have i9 : decide ((k : Int) + (j : Int) < (m : Int) + 1) = false := decide_eq_false i6
            have HMX := Lib.hid hmx
            have HK2 := Lib.hid hk2
            have HBW := Lib.hid hBW
            clear hjl hk2 hjA hmx hBW hBj ownV ha0 hka
            go_wp2_with (at_builtin; refine wpList_append_own _ rfl _ _ 28 rfl w1.heap.size 26 i0 (.agg #[.int .i64 0, .int .i64 0, .int .i64 0]) 3 24 Try.underlying28 hi hz0 hz1 hz2 rfl (by decide) _ _ _ rfl (ownW.alloc _) ⟨wr.heap.size, 0, none⟩ 1 1 [.int .i64 q, .int .i64 q2, .int .i64 mx] rfl rfl (World.news_of_block (cs := #[.int .i64 q, .int .i64 q2, .int .i64 mx]) (t := 26) (fr := (0, 0)) (World.alloc_heap_new wr _)) (fun x hx => by simp at hx; rcases hx with rfl | rfl | rfl <;> rfl) (by unfold maxLen; omega) (by omega) (by have := HBW.out.size; simp at this ⊢; omega) ?_; intro v' w2 hown' hgrow _)
            go_roundw
            case rel =>
              obtain ⟨hA, hM2, hq2, hkm, ho4⟩ := HA.out
              refine ⟨m + 1, q2, M ++ [(q, q2, mx)], by rw [← HK2.out]; push_cast; rfl, by rw [H.out.1]; omega, by rw [← hkm]; exact drop_app hA, hq2, by rw [← HMX.out]; exact hM2, ?_, (HBW.out.alloc HBW.out.size _).grown hgrow (by have := HBW.out.size; simp at this ⊢; omega) (fun r e => own_ge (ownW.alloc (.cells #[.int .i64 q, .int .i64 q2, .int .i64 mx] 26)) e)⟩
              rw [List.length_append, List.length_singleton, cc_app, cc_one]
              exact hown'
            case measure =>
              have := HK2.out
              simp [intOf]; omega
    · have hkn : k = n := by omega
      have i3 : decide ((k : Int) < (n : Int)) = false := decide_eq_false (by omega)
      have i4 : ¬ (k : Int) < (n : Int) := by omega
      have hqe : s.size ≤ q := by
        by_cases h : q < s.size
        · rw [posG_cons s q h] at hd
          have := (drop_head hd).1
          have := H.out.1
          omega
        · omega
      have hMe : cellsL s = M := by rw [hM, cellsG_end s q hqe, List.append_nil]
      have hfin : wr.ownsRow w.heap.size 26 3 (.slice o4 M.length cap4) (cellsL s).length (cc (cellsL s)) := by
        rw [hMe]; exact own_low hown H.out.2.2.2.1.size
      have HH := Lib.hid (And.intro hfin hB)
      clear hown hB hkn hfin hMe hM hd
      go_wp2
      go_ret
      exact ⟨_, rfl, HH.out.1, H.out.2.2.2.1.trans (HH.out.2.mono H.out.2.2.2.1.size)⟩
end Go.Proofs.Ytnbhdgbhmcbeoaa
