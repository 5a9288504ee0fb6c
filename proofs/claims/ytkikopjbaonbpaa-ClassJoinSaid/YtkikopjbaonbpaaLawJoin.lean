/- ClassJoin: the law's call. -/
import Derived.Test.YtkikopjbaonbpaaSe
import Derived.Deep.RegionHeld3
namespace Go.Proofs.Ytkikopjbaonbpaa
set_option linter.unusedVariables false
set_option linter.unusedSimpArgs false
open Go Go.RowKit
set_option maxRecDepth 100000

theorem jk_next {V X Y : World} (h : Below V.heap.size V X) (hb : Below X.heap.size X Y) : Below V.heap.size V Y := h.trans (hb.mono h.size)

/-- What the document's Of says of a piece: a letter, a mark, or what no letter beside it can see. -/
theorem of_dull (s : ByteArray) (p : Nat) : ∃ K : Int, (K = 1 ∨ K = 2 ∨ (K ≠ 1 ∧ K ≠ 2 ∧ dull (unA s p))) ∧
    ∀ w, Calls Try.prog 15 #[.agg #[.int .i64 p, .int .i64 (wd s p : Nat), .int .i32 (rn s p : Nat), .bool (bk s p)]] w fun e w' => e = .returned (.int .i64 K) ∧ Below w.heap.size w w' := by
  cases hbk : bk s p with
  | true => exact ⟨11, .inr (.inr ⟨by decide, by decide, bk_not_le hbk⟩), fun w => ofD_t _ _ _ w⟩
  | false =>
    refine ⟨kindZ (rn s p), ?_, fun w => ofD_f _ _ _ w⟩
    by_cases h1 : kindZ (rn s p) = 1
    · exact .inl h1
    · by_cases h2 : kindZ (rn s p) = 2
      · exact .inr (.inl h2)
      · refine .inr (.inr ⟨h1, h2, ?_, ?_⟩)
        · show leB (rn s p) = false
          cases hl : leB (rn s p) with
          | false => rfl
          | true => exact absurd (kind_letter hl) h1
        · show (kindZ (rn s p) == 2) = false
          rw [beq_eq_false_iff_ne]; exact h2

theorem units_last {s : ByteArray} {k p : Nat} (hl : (posns s).length = k + 1) (h : (posns s)[k]? = some p) : units s = ((posns s).take k).map (unA s) ++ [unA s p] := by
  have := take_next h
  rw [show k + 1 = (posns s).length from hl.symm, List.take_length] at this
  exact (congrArg (List.map (unA s)) this).trans (by rw [List.map_append]; rfl)
theorem units_first {s : ByteArray} {q : Nat} (h : (posns s)[0]? = some q) : units s = unA s q :: ((posns s).drop 1).map (unA s) := by
  have := drop_cons h
  rw [List.drop_zero] at this
  exact congrArg (List.map (unA s)) this

set_option maxHeartbeats 4000000 in
theorem classJoin_any (a b : ByteArray) (hs : a.size + b.size ≤ 2147483647) (w : World) :
    Calls Try.prog 5 #[.string a, .string b] w fun e w' => e = .returned (.bool true) ∧ Below w.heap.size w w' := by
  have hsz : (a ++ b).size = a.size + b.size := ByteArray.size_append
  have cB := beyond_any ((a.size : Int) + (b.size : Int)) (by omega)
  have cS := seam_any a b (by omega)
  have cA : ∀ w, Calls Try.prog 14 #[.string a] w fun e w' => ∃ v, e = .returned v ∧ w'.ownsRow w.heap.size 31 4 v (posns a).length (pcs a (posns a)) ∧ Below w.heap.size w w' := piecesD_any a (by omega)
  have cP : ∀ w, Calls Try.prog 14 #[.string b] w fun e w' => ∃ v, e = .returned v ∧ w'.ownsRow w.heap.size 31 4 v (posns b).length (pcs b (posns b)) ∧ Below w.heap.size w w' := piecesD_any b (by omega)
  have cAB := lowerText_any (a ++ b) (by omega)
  have cLA := lowerText_any a (by omega)
  have cLB := lowerText_any b (by omega)
  have hlA : (txL a).size ≤ 4 * a.size := tx_len a lwG lwG_le
  have hlB : (txL b).size ≤ 4 * b.size := tx_len b lwG lwG_le
  have hno : (9223372036854775807 < a.size + b.size) = False := by rw [eq_iff_iff]; exact ⟨fun h => by omega, False.elim⟩
  clear hsz
  cases hsb : seamB a b (posns (a ++ b)) with
  | true =>
    rw [hsb] at cS
    clear hsb
    go_enter Try.func5, Try.ntmps5
    go_wp2_with (first | (go_at_call 6; refine (live_any _).mono ?_; rintro e w' ⟨rfl, rfl⟩) | (go_at_call 9; refine (cB _).mono ?_; rintro e w' ⟨rfl, rfl⟩) | (go_at_call 13; refine (cS _).mono ?_; rintro e w1 ⟨rfl, hb1⟩))
    go_ret
    exact ⟨rfl, hb1⟩
  | false =>
    have hns := seamB_no hsb
    rw [hsb] at cS
    clear hsb
    have hj := join_low a b hns
    have HJ := Lib.hid hj
    clear hj hns
    obtain ⟨n, hn⟩ : ∃ n, (posns a).length = n := ⟨_, rfl⟩
    obtain ⟨m, hm⟩ : ∃ m, (posns b).length = m := ⟨_, rfl⟩
    have hpA := posns_len a
    have hpB := posns_len b
    rw [hn] at hpA
    rw [hm] at hpB
    have HNA := Lib.hid hn
    have HNB := Lib.hid hm
    simp only [hn] at cA
    simp only [hm] at cP
    clear hn hm
    go_enter Try.func5, Try.ntmps5
    by_cases hn0 : n = 0
    · subst hn0
      have J : txL (a ++ b) = txL a ++ txL b := HJ.out (.inl (by unfold units; rw [List.length_eq_zero_iff.1 HNA.out]; rfl))
      have cJ := cAB
      rw [J] at cJ
      obtain ⟨LA, hLA⟩ : ∃ x, txL a = x := ⟨_, rfl⟩
      obtain ⟨LB, hLB⟩ : ∃ x, txL b = x := ⟨_, rfl⟩
      rw [hLA, hLB] at cJ
      rw [hLA] at cLA hlA
      rw [hLB] at cLB hlB
      have hno2 : (9223372036854775807 < LA.size + LB.size) = False := by rw [eq_iff_iff]; exact ⟨fun h => by omega, False.elim⟩
      clear J hLA hLB hlA hlB cAB
      go_wp2_with (first | (go_at_call 6; refine (live_any _).mono ?_; rintro e w' ⟨rfl, rfl⟩) | (go_at_call 9; refine (cB _).mono ?_; rintro e w' ⟨rfl, rfl⟩) | (go_at_call 13; refine (cS _).mono ?_; rintro e w1 ⟨rfl, hb1⟩) | (go_at_call_of 14 (Value.string a); refine (cA _).mono ?_; rintro e w2 ⟨pv, rfl, hown, hb2⟩; obtain ⟨o, cap, rfl, ho⟩ := own_slice hown) | (go_at_call_of 14 (Value.string b); refine (cP _).mono ?_; rintro e w3 ⟨pv2, rfl, hown2, hb3⟩; obtain ⟨o2, cap2, rfl, ho2⟩ := own_slice hown2) | (go_at_call_of 12 (Value.string (a ++ b)); refine (cJ _).mono ?_; rintro e w5 ⟨rfl, hb5⟩) | (go_at_call_of 12 (Value.string a); refine (cLA _).mono ?_; rintro e w6 ⟨rfl, hb6⟩) | (go_at_call_of 12 (Value.string b); refine (cLB _).mono ?_; rintro e w7 ⟨rfl, hb7⟩))
      go_ret
      have B3 := jk_next (jk_next hb1 hb2) hb3
      exact ⟨rfl, jk_next (jk_next (jk_next B3 hb5) hb6) hb7⟩
    · have hne : ((n : Int) == 0) = false := by rw [beq_eq_false_iff_ne]; omega
      by_cases hm0 : m = 0
      · subst hm0
        have J : txL (a ++ b) = txL a ++ txL b := HJ.out (.inr (.inl (by unfold units; rw [List.length_eq_zero_iff.1 HNB.out]; rfl)))
        have cJ := cAB
        rw [J] at cJ
        obtain ⟨LA, hLA⟩ : ∃ x, txL a = x := ⟨_, rfl⟩
        obtain ⟨LB, hLB⟩ : ∃ x, txL b = x := ⟨_, rfl⟩
        rw [hLA, hLB] at cJ
        rw [hLA] at cLA hlA
        rw [hLB] at cLB hlB
        have hno2 : (9223372036854775807 < LA.size + LB.size) = False := by rw [eq_iff_iff]; exact ⟨fun h => by omega, False.elim⟩
        clear J hLA hLB hlA hlB cAB
        go_wp2_with (first | (go_at_call 6; refine (live_any _).mono ?_; rintro e w' ⟨rfl, rfl⟩) | (go_at_call 9; refine (cB _).mono ?_; rintro e w' ⟨rfl, rfl⟩) | (go_at_call 13; refine (cS _).mono ?_; rintro e w1 ⟨rfl, hb1⟩) | (go_at_call_of 14 (Value.string a); refine (cA _).mono ?_; rintro e w2 ⟨pv, rfl, hown, hb2⟩; obtain ⟨o, cap, rfl, ho⟩ := own_slice hown) | (go_at_call_of 14 (Value.string b); refine (cP _).mono ?_; rintro e w3 ⟨pv2, rfl, hown2, hb3⟩; obtain ⟨o2, cap2, rfl, ho2⟩ := own_slice hown2) | (go_at_call_of 12 (Value.string (a ++ b)); refine (cJ _).mono ?_; rintro e w5 ⟨rfl, hb5⟩) | (go_at_call_of 12 (Value.string a); refine (cLA _).mono ?_; rintro e w6 ⟨rfl, hb6⟩) | (go_at_call_of 12 (Value.string b); refine (cLB _).mono ?_; rintro e w7 ⟨rfl, hb7⟩))
        go_ret
        have B3 := jk_next (jk_next hb1 hb2) hb3
        exact ⟨rfl, jk_next (jk_next (jk_next B3 hb5) hb6) hb7⟩
      · have hme : ((m : Int) == 0) = false := by rw [beq_eq_false_iff_ne]; omega
        obtain ⟨k, rfl⟩ : ∃ k, n = k + 1 := ⟨n - 1, by omega⟩
        obtain ⟨p, hpk⟩ : ∃ p, (posns a)[k]? = some p := ⟨_, List.getElem?_eq_getElem (by rw [HNA.out]; omega)⟩
        obtain ⟨q, hqk⟩ : ∃ q, (posns b)[0]? = some q := ⟨_, List.getElem?_eq_getElem (by rw [HNB.out]; omega)⟩
        obtain ⟨K1, hK1, cO1⟩ := of_dull a p
        obtain ⟨K2, hK2, cO2⟩ := of_dull b q
        have hJ1 : dull (unA a p) → txL (a ++ b) = txL a ++ txL b := fun h => HJ.out (.inr (.inr (.inl ⟨_, _, units_last HNA.out hpk, h⟩)))
        have hJ2 : dull (unA b q) → txL (a ++ b) = txL a ++ txL b := fun h => HJ.out (.inr (.inr (.inr ⟨_, _, units_first hqk, h⟩)))
        have hcA : ∀ (g cap : Nat) (W : World) (B : Nat), W.ownsRow B 31 4 (.slice (some ⟨g, 0, none⟩) (k + 1) cap) (k + 1) (pcs a (posns a)) → W.cell? ⟨g, k * 4, none⟩ = some (.int .i64 p) ∧ W.cell? ⟨g, k * 4 + 1, none⟩ = some (.int .i64 (wd a p : Nat)) ∧ W.cell? ⟨g, k * 4 + 2, none⟩ = some (.int .i32 (rn a p : Nat)) ∧ W.cell? ⟨g, k * 4 + 3, none⟩ = some (.bool (bk a p)) := fun _ _ _ _ h => nth_cells h HNA.out k (by omega) p hpk
        have hcB : ∀ (g cap : Nat) (W : World) (B : Nat), W.ownsRow B 31 4 (.slice (some ⟨g, 0, none⟩) m cap) m (pcs b (posns b)) → W.cell? ⟨g, 0, none⟩ = some (.int .i64 q) ∧ W.cell? ⟨g, 1, none⟩ = some (.int .i64 (wd b q : Nat)) ∧ W.cell? ⟨g, 2, none⟩ = some (.int .i32 (rn b q : Nat)) ∧ W.cell? ⟨g, 3, none⟩ = some (.bool (bk b q)) := fun _ _ _ _ h => by
          have := nth_cells h HNB.out 0 (by omega) q hqk
          simpa using this
        have HCA := Lib.hid hcA
        have HCB := Lib.hid hcB
        have HJ1 := Lib.hid hJ1
        have HJ2 := Lib.hid hJ2
        have HK1 := Lib.hid hK1
        have HK2 := Lib.hid hK2
        clear hcA hcB hJ1 hJ2 hpk hqk hK1 hK2
        obtain ⟨W1, hW1⟩ : ∃ x, wd a p = x := ⟨_, rfl⟩
        obtain ⟨R1, hR1⟩ : ∃ x, rn a p = x := ⟨_, rfl⟩
        obtain ⟨B1, hB1⟩ : ∃ x, bk a p = x := ⟨_, rfl⟩
        obtain ⟨W2, hW2⟩ : ∃ x, wd b q = x := ⟨_, rfl⟩
        obtain ⟨R2, hR2⟩ : ∃ x, rn b q = x := ⟨_, rfl⟩
        obtain ⟨B2, hB2⟩ : ∃ x, bk b q = x := ⟨_, rfl⟩
        rw [hW1, hR1, hB1] at HCA cO1
        rw [hW2, hR2, hB2] at HCB cO2
        clear hW1 hR1 hB1 hW2 hR2 hB2
        obtain ⟨n, hn⟩ : ∃ n, k + 1 = n := ⟨_, rfl⟩
        rw [hn] at HCA cA hpA HNA hn0
        rw [hn] at hne
        have hk1 : (n : Int) - 1 = (k : Int) := by omega
        have f1 : (0 : Int) ≤ (k : Int) := by omega
        have f2 : (k : Int) < (n : Int) := by omega
        have f3 : (0 : Int) < (m : Int) := by omega
        have hkn : k < n := by omega
        have f4 : 0 < m := by omega
        have hkw : IntKind.i64.wrap (k : Int) = (k : Int) := IntWalk.i64_in _ (by omega)
        clear hn
        go_wp2_with (first | (go_at_call 6; refine (live_any _).mono ?_; rintro e w' ⟨rfl, rfl⟩) | (go_at_call 9; refine (cB _).mono ?_; rintro e w' ⟨rfl, rfl⟩) | (go_at_call 13; refine (cS _).mono ?_; rintro e w1 ⟨rfl, hb1⟩) | (go_at_call_of 14 (Value.string a); refine (cA _).mono ?_; rintro e w2 ⟨pv, rfl, hown, hb2⟩; obtain ⟨o, cap, rfl, ho⟩ := own_slice hown; obtain ⟨gA, rfl⟩ := ho (by omega)) | (go_at_call_of 14 (Value.string b); refine (cP _).mono ?_; rintro e w3 ⟨pv2, rfl, hown2, hb3⟩; obtain ⟨o2, cap2, rfl, ho2⟩ := own_slice hown2; obtain ⟨gB, rfl⟩ := ho2 (by omega)))
        have B3 := jk_next (jk_next hb1 hb2) hb3
        have hown1 := own_below hown hb3
        have hcc := fun X (h : Below w3.heap.size w3 X) => show ((X.cell? ⟨gA, k * 4, none⟩ = some (.int .i64 p) ∧ X.cell? ⟨gA, k * 4 + 1, none⟩ = some (.int .i64 (W1 : Nat)) ∧ X.cell? ⟨gA, k * 4 + 2, none⟩ = some (.int .i32 (R1 : Nat)) ∧ X.cell? ⟨gA, k * 4 + 3, none⟩ = some (.bool B1)) ∧ (X.cell? ⟨gB, 0, none⟩ = some (.int .i64 q) ∧ X.cell? ⟨gB, 1, none⟩ = some (.int .i64 (W2 : Nat)) ∧ X.cell? ⟨gB, 2, none⟩ = some (.int .i32 (R2 : Nat)) ∧ X.cell? ⟨gB, 3, none⟩ = some (.bool B2))) ∧ Below w3.heap.size w3 X from ⟨⟨HCA.out _ _ _ _ (own_below hown1 h), HCB.out _ _ _ _ (own_below hown2 h)⟩, h⟩
        have HC := Lib.hid hcc
        have hkd : Below w3.heap.size w3 w3.drew := (Below.refl _ _).drew
        clear hcc hown hown1 hown2 ho ho2
        go_region_held3 (fun X => ((X.cell? ⟨gA, k * 4, none⟩ = some (.int .i64 p) ∧ X.cell? ⟨gA, k * 4 + 1, none⟩ = some (.int .i64 (W1 : Nat)) ∧ X.cell? ⟨gA, k * 4 + 2, none⟩ = some (.int .i32 (R1 : Nat)) ∧ X.cell? ⟨gA, k * 4 + 3, none⟩ = some (.bool B1)) ∧ (X.cell? ⟨gB, 0, none⟩ = some (.int .i64 q) ∧ X.cell? ⟨gB, 1, none⟩ = some (.int .i64 (W2 : Nat)) ∧ X.cell? ⟨gB, 2, none⟩ = some (.int .i32 (R2 : Nat)) ∧ X.cell? ⟨gB, 3, none⟩ = some (.bool B2))) ∧ Below w3.heap.size w3 X) (first | exact HC.out _ hkd | exact HC.out _ (jk_next hkd hb4) | exact HC.out _ (jk_next (And.right (by assumption)) hb4) | exact HC.out _ (jk_next (And.right (by assumption)) hb8)) (first | (go_at_call 15; refine (cO1 _).mono ?_; rintro e w4 ⟨rfl, hb4⟩) | (go_at_call 15; refine (cO2 _).mono ?_; rintro e w8 ⟨rfl, hb8⟩))
        have hS : Below w3.heap.size w3 w8 := And.right (by assumption)
        have B8 := jk_next B3 hS
        rcases HK1.out with rfl | rfl | ⟨x1, x2, hd⟩
        · rcases HK2.out with rfl | rfl | ⟨y1, y2, hd⟩
          · go_wp2
            go_ret
            exact ⟨rfl, B8⟩
          · go_wp2
            go_ret
            exact ⟨rfl, B8⟩
          · have J := HJ2.out hd
            have cJ := cAB
            rw [J] at cJ
            obtain ⟨LA, hLA⟩ : ∃ x, txL a = x := ⟨_, rfl⟩
            obtain ⟨LB, hLB⟩ : ∃ x, txL b = x := ⟨_, rfl⟩
            rw [hLA, hLB] at cJ
            rw [hLA] at cLA hlA
            rw [hLB] at cLB hlB
            have hno2 : (9223372036854775807 < LA.size + LB.size) = False := by rw [eq_iff_iff]; exact ⟨fun h => by omega, False.elim⟩
            clear J hLA hLB hlA hlB cAB
            have q1 : (K2 != 1) = true := by rw [bne_iff_ne]; exact y1
            have q2 : (K2 != 2) = true := by rw [bne_iff_ne]; exact y2
            have q3 : (K2 == 1) = false := by rw [beq_eq_false_iff_ne]; exact y1
            have q4 : (K2 == 2) = false := by rw [beq_eq_false_iff_ne]; exact y2
            go_wp2_with (first | (go_at_call_of 12 (Value.string (a ++ b)); refine (cJ _).mono ?_; rintro e w5 ⟨rfl, hb5⟩) | (go_at_call_of 12 (Value.string a); refine (cLA _).mono ?_; rintro e w6 ⟨rfl, hb6⟩) | (go_at_call_of 12 (Value.string b); refine (cLB _).mono ?_; rintro e w7 ⟨rfl, hb7⟩))
            go_ret
            have B5 := B8.trans (hb5.mono B8.size)
            have B6 := B5.trans (hb6.mono B5.size)
            exact ⟨rfl, B6.trans (hb7.mono B6.size)⟩
        · rcases HK2.out with rfl | rfl | ⟨y1, y2, hd⟩
          · go_wp2
            go_ret
            exact ⟨rfl, B8⟩
          · go_wp2
            go_ret
            exact ⟨rfl, B8⟩
          · have J := HJ2.out hd
            have cJ := cAB
            rw [J] at cJ
            obtain ⟨LA, hLA⟩ : ∃ x, txL a = x := ⟨_, rfl⟩
            obtain ⟨LB, hLB⟩ : ∃ x, txL b = x := ⟨_, rfl⟩
            rw [hLA, hLB] at cJ
            rw [hLA] at cLA hlA
            rw [hLB] at cLB hlB
            have hno2 : (9223372036854775807 < LA.size + LB.size) = False := by rw [eq_iff_iff]; exact ⟨fun h => by omega, False.elim⟩
            clear J hLA hLB hlA hlB cAB
            have q1 : (K2 != 1) = true := by rw [bne_iff_ne]; exact y1
            have q2 : (K2 != 2) = true := by rw [bne_iff_ne]; exact y2
            have q3 : (K2 == 1) = false := by rw [beq_eq_false_iff_ne]; exact y1
            have q4 : (K2 == 2) = false := by rw [beq_eq_false_iff_ne]; exact y2
            go_wp2_with (first | (go_at_call_of 12 (Value.string (a ++ b)); refine (cJ _).mono ?_; rintro e w5 ⟨rfl, hb5⟩) | (go_at_call_of 12 (Value.string a); refine (cLA _).mono ?_; rintro e w6 ⟨rfl, hb6⟩) | (go_at_call_of 12 (Value.string b); refine (cLB _).mono ?_; rintro e w7 ⟨rfl, hb7⟩))
            go_ret
            have B5 := B8.trans (hb5.mono B8.size)
            have B6 := B5.trans (hb6.mono B5.size)
            exact ⟨rfl, B6.trans (hb7.mono B6.size)⟩
        · have J := HJ1.out hd
          have cJ := cAB
          rw [J] at cJ
          obtain ⟨LA, hLA⟩ : ∃ x, txL a = x := ⟨_, rfl⟩
          obtain ⟨LB, hLB⟩ : ∃ x, txL b = x := ⟨_, rfl⟩
          rw [hLA, hLB] at cJ
          rw [hLA] at cLA hlA
          rw [hLB] at cLB hlB
          have hno2 : (9223372036854775807 < LA.size + LB.size) = False := by rw [eq_iff_iff]; exact ⟨fun h => by omega, False.elim⟩
          clear J hLA hLB hlA hlB cAB
          have q1 : (K1 != 1) = true := by rw [bne_iff_ne]; exact x1
          have q2 : (K1 != 2) = true := by rw [bne_iff_ne]; exact x2
          have q3 : (K1 == 1) = false := by rw [beq_eq_false_iff_ne]; exact x1
          have q4 : (K1 == 2) = false := by rw [beq_eq_false_iff_ne]; exact x2
          go_wp2_with (first | (go_at_call_of 12 (Value.string (a ++ b)); refine (cJ _).mono ?_; rintro e w5 ⟨rfl, hb5⟩) | (go_at_call_of 12 (Value.string a); refine (cLA _).mono ?_; rintro e w6 ⟨rfl, hb6⟩) | (go_at_call_of 12 (Value.string b); refine (cLB _).mono ?_; rintro e w7 ⟨rfl, hb7⟩))
          go_ret
          have B5 := B8.trans (hb5.mono B8.size)
          have B6 := B5.trans (hb6.mono B5.size)
          exact ⟨rfl, B6.trans (hb7.mono B6.size)⟩

theorem classJoin_all (a b : ByteArray) (hz : a.size ≤ 140737488351232) (hz2 : b.size ≤ 140737488351232) (w : World) :
    Calls Try.prog 5 #[.string a, .string b] w fun e w' => e = .returned (.bool true) ∧ Below w.heap.size w w' := by
  by_cases hs : a.size + b.size ≤ 2147483647
  · exact classJoin_any a b hs w
  · have cB := beyond_yes ((a.size : Int) + (b.size : Int)) (by omega)
    have hwr : IntKind.i64.wrap ((a.size : Int) + (b.size : Int)) = (a.size : Int) + (b.size : Int) := IntWalk.i64_in _ (by omega)
    go_enter Try.func5, Try.ntmps5
    go_wp2_with (first | (go_at_call 6; refine (live_any _).mono ?_; rintro e w' ⟨rfl, rfl⟩) | (go_at_call 9; refine (cB _).mono ?_; rintro e w' ⟨rfl, rfl⟩))
    go_ret
    exact ⟨rfl, Below.refl _ _⟩
end Go.Proofs.Ytkikopjbaonbpaa
