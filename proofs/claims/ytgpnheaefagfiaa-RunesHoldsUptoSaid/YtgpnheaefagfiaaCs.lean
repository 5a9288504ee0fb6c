/- The document's Compare. -/
import Derived.Test.YtgpnheaefagfiaaCr
namespace Go.Proofs.Ytgpnheaefagfiaa
set_option linter.unusedVariables false
set_option linter.unusedSimpArgs false
open Go Go.RowKit
set_option maxRecDepth 100000

set_option maxHeartbeats 4000000 in
theorem CompareR_at (a b : ByteArray) (ha : a.size ≤ 1048576) (hb : b.size ≤ 1048576) (p n : Nat) (h1 : Lk a b p n) (h2 : St a b p) (w : World) :
    Calls Try.prog 48 #[.string a, .string b] w fun e w' => e = .returned (.int .i64 (cmpZ a b p)) ∧ Below w.heap.size w w' := by
  have cP1 := piecesR_any a ha
  have cP2 := piecesR_any b hb
  have cC := CommonR_at a b ha hb p n h1 h2
  have hlA := posns_len a
  have hlB := posns_len b
  have lA := lk_lenA h1
  have lB := lk_lenB h1
  have hpa := h1.1
  have hpb := h1.2.1
  obtain ⟨nA, hnA⟩ : ∃ nA, (posns a).length = nA := ⟨_, rfl⟩
  obtain ⟨nB, hnB⟩ : ∃ nB, (posns b).length = nB := ⟨_, rfl⟩
  rw [hnA] at hlA lA
  rw [hnB] at hlB lB
  have HA := Lib.hid hnA
  have HB := Lib.hid hnB
  have LA := Lib.hid lA
  have LB := Lib.hid lB
  have l1 := lA.1
  have l2 := lB.1
  have l3 := lA.2.1
  have l4 := lB.2.1
  clear hnA hnB lA lB h1 h2
  by_cases ea : p = a.size
  · have e1 : n = nA := l3.2 ea
    by_cases eb : p = b.size
    · have e2 : n = nB := l4.2 eb
      have hz : cmpZ a b p = 0 := by unfold cmpZ; rw [if_pos ⟨ea, eb⟩]
      have HZ := Lib.hid hz
      have f1 : ((n : Int) == (nA : Int)) = true := by rw [beq_iff_eq]; omega
      have f2 : ((n : Int) == (nB : Int)) = true := by rw [beq_iff_eq]; omega
      clear hz l3 l4 ea eb
      go_enter Try.func48, Try.ntmps48
      go_wp2_with (first | (go_at_call_of 19 (Value.string a); refine (cP1 _).mono ?_; rintro e w1 ⟨pa, rfl, hownA, hb1⟩; rw [HA.out] at hownA; obtain ⟨oA, cA, rfl, hoA⟩ := own_slice hownA) | (go_at_call_of 19 (Value.string b); refine (cP2 _).mono ?_; rintro e w2 ⟨pb, rfl, hownB, hb2⟩; rw [HB.out] at hownB; obtain ⟨oB, cB, rfl, hoB⟩ := own_slice hownB) | (go_at_call 50; refine (cC _).mono ?_; rintro e w3 ⟨rfl, hb3⟩))
      have hB3 : Below w.heap.size w w3 := (hb1.trans (hb2.mono hb1.size)).trans (hb3.mono (Nat.le_trans hb1.size hb2.size))
      go_ret
      exact ⟨ret_int (by rw [HZ.out]), hB3⟩
    · have e2 : ¬ n = nB := fun h => eb (l4.1 h)
      have hz : cmpZ a b p = -1 := by unfold cmpZ; rw [if_neg (fun h => eb h.2), if_pos (.inl ea)]
      have HZ := Lib.hid hz
      have f1 : ((n : Int) == (nA : Int)) = true := by rw [beq_iff_eq]; omega
      have f2 : ((n : Int) == (nB : Int)) = false := by rw [beq_eq_false_iff_ne]; omega
      clear hz l3 l4 ea eb e1 e2
      go_enter Try.func48, Try.ntmps48
      go_wp2_with (first | (go_at_call_of 19 (Value.string a); refine (cP1 _).mono ?_; rintro e w1 ⟨pa, rfl, hownA, hb1⟩; rw [HA.out] at hownA; obtain ⟨oA, cA, rfl, hoA⟩ := own_slice hownA) | (go_at_call_of 19 (Value.string b); refine (cP2 _).mono ?_; rintro e w2 ⟨pb, rfl, hownB, hb2⟩; rw [HB.out] at hownB; obtain ⟨oB, cB, rfl, hoB⟩ := own_slice hownB) | (go_at_call 50; refine (cC _).mono ?_; rintro e w3 ⟨rfl, hb3⟩))
      have hB3 : Below w.heap.size w w3 := (hb1.trans (hb2.mono hb1.size)).trans (hb3.mono (Nat.le_trans hb1.size hb2.size))
      refine wp_region_held_drew (S := fun _ => True) (by kernel_rfl) trivial (fun hHeld => ?_)
      refine wpAnyH_take (i := 0) (v := .int .i64 n) rfl (by kernel_rfl) (by kernel_rfl) (by kernel_rfl) (fun _ _ _ h => h) (Or.inl ⟨by rfl, ?hy⟩) (by assumption) ?_
      case hy =>
        intro w hSw
        rfl
      try simp only [Act.put, List.getElem_toArray, List.getElem_cons_zero, List.getElem_cons_succ, List.setIfInBounds_toArray, List.set_cons_zero, List.set_cons_succ]
      refine wpAnyH_take (i := 1) (v := .slice oA nA cA) rfl (by kernel_rfl) (by kernel_rfl) (by kernel_rfl) (fun _ _ _ h => h) (Or.inl ⟨by rfl, ?hy⟩) (by assumption) ?_
      case hy =>
        intro w hSw
        rfl
      try simp only [Act.put, List.getElem_toArray, List.getElem_cons_zero, List.getElem_cons_succ, List.setIfInBounds_toArray, List.set_cons_zero, List.set_cons_succ]
      refine wpAnyH_take (i := 2) (v := .int .i64 nA) rfl (by kernel_rfl) (by kernel_rfl) (by kernel_rfl) (fun _ _ _ h => h) (Or.inl ⟨by rfl, ?hy⟩) (by assumption) ?_
      case hy =>
        intro w hSw
        go_simp
      try simp only [Act.put, List.getElem_toArray, List.getElem_cons_zero, List.getElem_cons_succ, List.setIfInBounds_toArray, List.set_cons_zero, List.set_cons_succ]
      refine wpAnyH_take (i := 3) (v := .bool true) rfl (by kernel_rfl) (by kernel_rfl) (by kernel_rfl) (fun _ _ _ h => h) (Or.inl ⟨by rfl, ?hy⟩) (by assumption) ?_
      case hy =>
        intro w hSw
        go_simp
      try simp only [Act.put, List.getElem_toArray, List.getElem_cons_zero, List.getElem_cons_succ, List.setIfInBounds_toArray, List.set_cons_zero, List.set_cons_succ]
      refine wpAnyH_take (i := 4) (v := .bool true) rfl (by kernel_rfl) (by kernel_rfl) (by kernel_rfl) (fun _ _ _ h => h) (Or.inl ⟨by rfl, ?hy⟩) (by assumption) ?_
      case hy =>
        intro w hSw
        rfl
      try simp only [Act.put, List.getElem_toArray, List.getElem_cons_zero, List.getElem_cons_succ, List.setIfInBounds_toArray, List.set_cons_zero, List.set_cons_succ]
      refine wpAnyH_take (i := 5) (v := undef) rfl (by kernel_rfl) (by kernel_rfl) (by kernel_rfl) (fun _ _ _ h => h) (Or.inr ⟨by rfl, rfl⟩) (by assumption) ?_
      try simp only [Act.put, List.getElem_toArray, List.getElem_cons_zero, List.getElem_cons_succ, List.setIfInBounds_toArray, List.set_cons_zero, List.set_cons_succ]
      refine wpAnyH_take (i := 6) (v := undef) rfl (by kernel_rfl) (by kernel_rfl) (by kernel_rfl) (fun _ _ _ h => h) (Or.inr ⟨by rfl, rfl⟩) (by assumption) ?_
      try simp only [Act.put, List.getElem_toArray, List.getElem_cons_zero, List.getElem_cons_succ, List.setIfInBounds_toArray, List.set_cons_zero, List.set_cons_succ]
      refine wpAnyH_take (i := 7) (v := undef) rfl (by kernel_rfl) (by kernel_rfl) (by kernel_rfl) (fun _ _ _ h => h) (Or.inr ⟨by rfl, rfl⟩) (by assumption) ?_
      try simp only [Act.put, List.getElem_toArray, List.getElem_cons_zero, List.getElem_cons_succ, List.setIfInBounds_toArray, List.set_cons_zero, List.set_cons_succ]
      refine wpAnyH_take (i := 8) (v := undef) rfl (by kernel_rfl) (by kernel_rfl) (by kernel_rfl) (fun _ _ _ h => h) (Or.inr ⟨by rfl, rfl⟩) (by assumption) ?_
      try simp only [Act.put, List.getElem_toArray, List.getElem_cons_zero, List.getElem_cons_succ, List.setIfInBounds_toArray, List.set_cons_zero, List.set_cons_succ]
      refine wpAnyH_take (i := 9) (v := undef) rfl (by kernel_rfl) (by kernel_rfl) (by kernel_rfl) (fun _ _ _ h => h) (Or.inr ⟨by rfl, rfl⟩) (by assumption) ?_
      try simp only [Act.put, List.getElem_toArray, List.getElem_cons_zero, List.getElem_cons_succ, List.setIfInBounds_toArray, List.set_cons_zero, List.set_cons_succ]
      refine wpAnyH_take (i := 10) (v := undef) rfl (by kernel_rfl) (by kernel_rfl) (by kernel_rfl) (fun _ _ _ h => h) (Or.inr ⟨by rfl, rfl⟩) (by assumption) ?_
      try simp only [Act.put, List.getElem_toArray, List.getElem_cons_zero, List.getElem_cons_succ, List.setIfInBounds_toArray, List.set_cons_zero, List.set_cons_succ]
      refine wpAnyH_take (i := 11) (v := undef) rfl (by kernel_rfl) (by kernel_rfl) (by kernel_rfl) (fun _ _ _ h => h) (Or.inr ⟨by rfl, rfl⟩) (by assumption) ?_
      try simp only [Act.put, List.getElem_toArray, List.getElem_cons_zero, List.getElem_cons_succ, List.setIfInBounds_toArray, List.set_cons_zero, List.set_cons_succ]
      refine wpAnyH_take (i := 12) (v := undef) rfl (by kernel_rfl) (by kernel_rfl) (by kernel_rfl) (fun _ _ _ h => h) (Or.inr ⟨by rfl, rfl⟩) (by assumption) ?_
      try simp only [Act.put, List.getElem_toArray, List.getElem_cons_zero, List.getElem_cons_succ, List.setIfInBounds_toArray, List.set_cons_zero, List.set_cons_succ]
      refine wpAnyH_take (i := 13) (v := undef) rfl (by kernel_rfl) (by kernel_rfl) (by kernel_rfl) (fun _ _ _ h => h) (Or.inr ⟨by rfl, rfl⟩) (by assumption) ?_
      try simp only [Act.put, List.getElem_toArray, List.getElem_cons_zero, List.getElem_cons_succ, List.setIfInBounds_toArray, List.set_cons_zero, List.set_cons_succ]
      refine wpAnyH_take (i := 14) (v := undef) rfl (by kernel_rfl) (by kernel_rfl) (by kernel_rfl) (fun _ _ _ h => h) (Or.inr ⟨by rfl, rfl⟩) (by assumption) ?_
      try simp only [Act.put, List.getElem_toArray, List.getElem_cons_zero, List.getElem_cons_succ, List.setIfInBounds_toArray, List.set_cons_zero, List.set_cons_succ]
      refine wpAnyH_take (i := 15) (v := undef) rfl (by kernel_rfl) (by kernel_rfl) (by kernel_rfl) (fun _ _ _ h => h) (Or.inr ⟨by rfl, rfl⟩) (by assumption) ?_
      try simp only [Act.put, List.getElem_toArray, List.getElem_cons_zero, List.getElem_cons_succ, List.setIfInBounds_toArray, List.set_cons_zero, List.set_cons_succ]
      refine wpAnyH_take (i := 16) (v := undef) rfl (by kernel_rfl) (by kernel_rfl) (by kernel_rfl) (fun _ _ _ h => h) (Or.inr ⟨by rfl, rfl⟩) (by assumption) ?_
      try simp only [Act.put, List.getElem_toArray, List.getElem_cons_zero, List.getElem_cons_succ, List.setIfInBounds_toArray, List.set_cons_zero, List.set_cons_succ]
      refine wpAnyH_take (i := 17) (v := undef) rfl (by kernel_rfl) (by kernel_rfl) (by kernel_rfl) (fun _ _ _ h => h) (Or.inr ⟨by rfl, rfl⟩) (by assumption) ?_
      try simp only [Act.put, List.getElem_toArray, List.getElem_cons_zero, List.getElem_cons_succ, List.setIfInBounds_toArray, List.set_cons_zero, List.set_cons_succ]
      refine wpAnyH_take (i := 18) (v := undef) rfl (by kernel_rfl) (by kernel_rfl) (by kernel_rfl) (fun _ _ _ h => h) (Or.inr ⟨by rfl, rfl⟩) (by assumption) ?_
      try simp only [Act.put, List.getElem_toArray, List.getElem_cons_zero, List.getElem_cons_succ, List.setIfInBounds_toArray, List.set_cons_zero, List.set_cons_succ]
      refine wpAnyH_take (i := 19) (v := undef) rfl (by kernel_rfl) (by kernel_rfl) (by kernel_rfl) (fun _ _ _ h => h) (Or.inr ⟨by rfl, rfl⟩) (by assumption) ?_
      try simp only [Act.put, List.getElem_toArray, List.getElem_cons_zero, List.getElem_cons_succ, List.setIfInBounds_toArray, List.set_cons_zero, List.set_cons_succ]
      refine wpAnyH_take (i := 20) (v := undef) rfl (by kernel_rfl) (by kernel_rfl) (by kernel_rfl) (fun _ _ _ h => h) (Or.inr ⟨by rfl, rfl⟩) (by assumption) ?_
      try simp only [Act.put, List.getElem_toArray, List.getElem_cons_zero, List.getElem_cons_succ, List.setIfInBounds_toArray, List.set_cons_zero, List.set_cons_succ]
      refine wpAnyH_take (i := 21) (v := undef) rfl (by kernel_rfl) (by kernel_rfl) (by kernel_rfl) (fun _ _ _ h => h) (Or.inr ⟨by rfl, rfl⟩) (by assumption) ?_
      try simp only [Act.put, List.getElem_toArray, List.getElem_cons_zero, List.getElem_cons_succ, List.setIfInBounds_toArray, List.set_cons_zero, List.set_cons_succ]
      refine wpAnyH_take (i := 22) (v := undef) rfl (by kernel_rfl) (by kernel_rfl) (by kernel_rfl) (fun _ _ _ h => h) (Or.inr ⟨by rfl, rfl⟩) (by assumption) ?_
      try simp only [Act.put, List.getElem_toArray, List.getElem_cons_zero, List.getElem_cons_succ, List.setIfInBounds_toArray, List.set_cons_zero, List.set_cons_succ]
      refine wpAnyH_take (i := 23) (v := undef) rfl (by kernel_rfl) (by kernel_rfl) (by kernel_rfl) (fun _ _ _ h => h) (Or.inr ⟨by rfl, rfl⟩) (by assumption) ?_
      try simp only [Act.put, List.getElem_toArray, List.getElem_cons_zero, List.getElem_cons_succ, List.setIfInBounds_toArray, List.set_cons_zero, List.set_cons_succ]
      refine wpAnyH_take (i := 24) (v := .bool true) rfl (by kernel_rfl) (by kernel_rfl) (by kernel_rfl) (fun _ _ _ h => h) (Or.inl ⟨by rfl, ?hy⟩) (by assumption) ?_
      case hy =>
        intro w hSw
        go_simp
      try simp only [Act.put, List.getElem_toArray, List.getElem_cons_zero, List.getElem_cons_succ, List.setIfInBounds_toArray, List.set_cons_zero, List.set_cons_succ]
      refine wpAnyH_take (i := 25) (v := .bool true) rfl (by kernel_rfl) (by kernel_rfl) (by kernel_rfl) (fun _ _ _ h => h) (Or.inl ⟨by rfl, ?hy⟩) (by assumption) ?_
      case hy =>
        intro w hSw
        rfl
      try simp only [Act.put, List.getElem_toArray, List.getElem_cons_zero, List.getElem_cons_succ, List.setIfInBounds_toArray, List.set_cons_zero, List.set_cons_succ]
      refine wpAnyH_done (by kernel_rfl) ?_ _
      go_wp2
      go_ret
      exact ⟨ret_int (by rw [HZ.out]), hB3.drew⟩
  · have e1 : ¬ n = nA := fun h => ea (l3.1 h)
    by_cases eb : p = b.size
    · have e2 : n = nB := l4.2 eb
      have hz : cmpZ a b p = 1 := by unfold cmpZ; rw [if_neg (fun h => ea h.1), if_neg (by omega)]
      have HZ := Lib.hid hz
      have f1 : ((n : Int) == (nA : Int)) = false := by rw [beq_eq_false_iff_ne]; omega
      have f2 : ((n : Int) == (nB : Int)) = true := by rw [beq_iff_eq]; omega
      have f3 : ¬ (n : Int) < (nB : Int) := by omega
      have f6 : nB ≤ n := by omega
      clear hz l3 l4 ea eb e1 e2
      go_enter Try.func48, Try.ntmps48
      go_wp2_with (first | (go_at_call_of 19 (Value.string a); refine (cP1 _).mono ?_; rintro e w1 ⟨pa, rfl, hownA, hb1⟩; rw [HA.out] at hownA; obtain ⟨oA, cA, rfl, hoA⟩ := own_slice hownA) | (go_at_call_of 19 (Value.string b); refine (cP2 _).mono ?_; rintro e w2 ⟨pb, rfl, hownB, hb2⟩; rw [HB.out] at hownB; obtain ⟨oB, cB, rfl, hoB⟩ := own_slice hownB) | (go_at_call 50; refine (cC _).mono ?_; rintro e w3 ⟨rfl, hb3⟩))
      have hB3 : Below w.heap.size w w3 := (hb1.trans (hb2.mono hb1.size)).trans (hb3.mono (Nat.le_trans hb1.size hb2.size))
      refine wp_region_held_drew (S := fun _ => True) (by kernel_rfl) trivial (fun hHeld => ?_)
      refine wpAnyH_take (i := 0) (v := .int .i64 n) rfl (by kernel_rfl) (by kernel_rfl) (by kernel_rfl) (fun _ _ _ h => h) (Or.inl ⟨by rfl, ?hy⟩) (by assumption) ?_
      case hy =>
        intro w hSw
        rfl
      try simp only [Act.put, List.getElem_toArray, List.getElem_cons_zero, List.getElem_cons_succ, List.setIfInBounds_toArray, List.set_cons_zero, List.set_cons_succ]
      refine wpAnyH_take (i := 1) (v := .slice oA nA cA) rfl (by kernel_rfl) (by kernel_rfl) (by kernel_rfl) (fun _ _ _ h => h) (Or.inl ⟨by rfl, ?hy⟩) (by assumption) ?_
      case hy =>
        intro w hSw
        rfl
      try simp only [Act.put, List.getElem_toArray, List.getElem_cons_zero, List.getElem_cons_succ, List.setIfInBounds_toArray, List.set_cons_zero, List.set_cons_succ]
      refine wpAnyH_take (i := 2) (v := .int .i64 nA) rfl (by kernel_rfl) (by kernel_rfl) (by kernel_rfl) (fun _ _ _ h => h) (Or.inl ⟨by rfl, ?hy⟩) (by assumption) ?_
      case hy =>
        intro w hSw
        go_simp
      try simp only [Act.put, List.getElem_toArray, List.getElem_cons_zero, List.getElem_cons_succ, List.setIfInBounds_toArray, List.set_cons_zero, List.set_cons_succ]
      refine wpAnyH_take (i := 3) (v := .bool false) rfl (by kernel_rfl) (by kernel_rfl) (by kernel_rfl) (fun _ _ _ h => h) (Or.inl ⟨by rfl, ?hy⟩) (by assumption) ?_
      case hy =>
        intro w hSw
        go_simp
      try simp only [Act.put, List.getElem_toArray, List.getElem_cons_zero, List.getElem_cons_succ, List.setIfInBounds_toArray, List.set_cons_zero, List.set_cons_succ]
      refine wpAnyH_take (i := 4) (v := .bool false) rfl (by kernel_rfl) (by kernel_rfl) (by kernel_rfl) (fun _ _ _ h => h) (Or.inl ⟨by rfl, ?hy⟩) (by assumption) ?_
      case hy =>
        intro w hSw
        rfl
      try simp only [Act.put, List.getElem_toArray, List.getElem_cons_zero, List.getElem_cons_succ, List.setIfInBounds_toArray, List.set_cons_zero, List.set_cons_succ]
      refine wpAnyH_take (i := 5) (v := .int .i64 n) rfl (by kernel_rfl) (by kernel_rfl) (by kernel_rfl) (fun _ _ _ h => h) (Or.inl ⟨by rfl, ?hy⟩) (by assumption) ?_
      case hy =>
        intro w hSw
        rfl
      try simp only [Act.put, List.getElem_toArray, List.getElem_cons_zero, List.getElem_cons_succ, List.setIfInBounds_toArray, List.set_cons_zero, List.set_cons_succ]
      refine wpAnyH_take (i := 6) (v := .slice oB nB cB) rfl (by kernel_rfl) (by kernel_rfl) (by kernel_rfl) (fun _ _ _ h => h) (Or.inl ⟨by rfl, ?hy⟩) (by assumption) ?_
      case hy =>
        intro w hSw
        rfl
      try simp only [Act.put, List.getElem_toArray, List.getElem_cons_zero, List.getElem_cons_succ, List.setIfInBounds_toArray, List.set_cons_zero, List.set_cons_succ]
      refine wpAnyH_take (i := 7) (v := .int .i64 nB) rfl (by kernel_rfl) (by kernel_rfl) (by kernel_rfl) (fun _ _ _ h => h) (Or.inl ⟨by rfl, ?hy⟩) (by assumption) ?_
      case hy =>
        intro w hSw
        go_simp
      try simp only [Act.put, List.getElem_toArray, List.getElem_cons_zero, List.getElem_cons_succ, List.setIfInBounds_toArray, List.set_cons_zero, List.set_cons_succ]
      refine wpAnyH_take (i := 8) (v := .bool false) rfl (by kernel_rfl) (by kernel_rfl) (by kernel_rfl) (fun _ _ _ h => h) (Or.inl ⟨by rfl, ?hy⟩) (by assumption) ?_
      case hy =>
        intro w hSw
        first | (go_simp; done) | (go_simp; omega)
      try simp only [Act.put, List.getElem_toArray, List.getElem_cons_zero, List.getElem_cons_succ, List.setIfInBounds_toArray, List.set_cons_zero, List.set_cons_succ]
      refine wpAnyH_take (i := 9) (v := .bool false) rfl (by kernel_rfl) (by kernel_rfl) (by kernel_rfl) (fun _ _ _ h => h) (Or.inl ⟨by rfl, ?hy⟩) (by assumption) ?_
      case hy =>
        intro w hSw
        rfl
      try simp only [Act.put, List.getElem_toArray, List.getElem_cons_zero, List.getElem_cons_succ, List.setIfInBounds_toArray, List.set_cons_zero, List.set_cons_succ]
      refine wpAnyH_take (i := 10) (v := undef) rfl (by kernel_rfl) (by kernel_rfl) (by kernel_rfl) (fun _ _ _ h => h) (Or.inr ⟨by rfl, rfl⟩) (by assumption) ?_
      try simp only [Act.put, List.getElem_toArray, List.getElem_cons_zero, List.getElem_cons_succ, List.setIfInBounds_toArray, List.set_cons_zero, List.set_cons_succ]
      refine wpAnyH_take (i := 11) (v := undef) rfl (by kernel_rfl) (by kernel_rfl) (by kernel_rfl) (fun _ _ _ h => h) (Or.inr ⟨by rfl, rfl⟩) (by assumption) ?_
      try simp only [Act.put, List.getElem_toArray, List.getElem_cons_zero, List.getElem_cons_succ, List.setIfInBounds_toArray, List.set_cons_zero, List.set_cons_succ]
      refine wpAnyH_take (i := 12) (v := undef) rfl (by kernel_rfl) (by kernel_rfl) (by kernel_rfl) (fun _ _ _ h => h) (Or.inr ⟨by rfl, rfl⟩) (by assumption) ?_
      try simp only [Act.put, List.getElem_toArray, List.getElem_cons_zero, List.getElem_cons_succ, List.setIfInBounds_toArray, List.set_cons_zero, List.set_cons_succ]
      refine wpAnyH_take (i := 13) (v := undef) rfl (by kernel_rfl) (by kernel_rfl) (by kernel_rfl) (fun _ _ _ h => h) (Or.inr ⟨by rfl, rfl⟩) (by assumption) ?_
      try simp only [Act.put, List.getElem_toArray, List.getElem_cons_zero, List.getElem_cons_succ, List.setIfInBounds_toArray, List.set_cons_zero, List.set_cons_succ]
      refine wpAnyH_take (i := 14) (v := undef) rfl (by kernel_rfl) (by kernel_rfl) (by kernel_rfl) (fun _ _ _ h => h) (Or.inr ⟨by rfl, rfl⟩) (by assumption) ?_
      try simp only [Act.put, List.getElem_toArray, List.getElem_cons_zero, List.getElem_cons_succ, List.setIfInBounds_toArray, List.set_cons_zero, List.set_cons_succ]
      refine wpAnyH_take (i := 15) (v := undef) rfl (by kernel_rfl) (by kernel_rfl) (by kernel_rfl) (fun _ _ _ h => h) (Or.inr ⟨by rfl, rfl⟩) (by assumption) ?_
      try simp only [Act.put, List.getElem_toArray, List.getElem_cons_zero, List.getElem_cons_succ, List.setIfInBounds_toArray, List.set_cons_zero, List.set_cons_succ]
      refine wpAnyH_take (i := 16) (v := undef) rfl (by kernel_rfl) (by kernel_rfl) (by kernel_rfl) (fun _ _ _ h => h) (Or.inr ⟨by rfl, rfl⟩) (by assumption) ?_
      try simp only [Act.put, List.getElem_toArray, List.getElem_cons_zero, List.getElem_cons_succ, List.setIfInBounds_toArray, List.set_cons_zero, List.set_cons_succ]
      refine wpAnyH_take (i := 17) (v := undef) rfl (by kernel_rfl) (by kernel_rfl) (by kernel_rfl) (fun _ _ _ h => h) (Or.inr ⟨by rfl, rfl⟩) (by assumption) ?_
      try simp only [Act.put, List.getElem_toArray, List.getElem_cons_zero, List.getElem_cons_succ, List.setIfInBounds_toArray, List.set_cons_zero, List.set_cons_succ]
      refine wpAnyH_take (i := 18) (v := undef) rfl (by kernel_rfl) (by kernel_rfl) (by kernel_rfl) (fun _ _ _ h => h) (Or.inr ⟨by rfl, rfl⟩) (by assumption) ?_
      try simp only [Act.put, List.getElem_toArray, List.getElem_cons_zero, List.getElem_cons_succ, List.setIfInBounds_toArray, List.set_cons_zero, List.set_cons_succ]
      refine wpAnyH_take (i := 19) (v := undef) rfl (by kernel_rfl) (by kernel_rfl) (by kernel_rfl) (fun _ _ _ h => h) (Or.inr ⟨by rfl, rfl⟩) (by assumption) ?_
      try simp only [Act.put, List.getElem_toArray, List.getElem_cons_zero, List.getElem_cons_succ, List.setIfInBounds_toArray, List.set_cons_zero, List.set_cons_succ]
      refine wpAnyH_take (i := 20) (v := undef) rfl (by kernel_rfl) (by kernel_rfl) (by kernel_rfl) (fun _ _ _ h => h) (Or.inr ⟨by rfl, rfl⟩) (by assumption) ?_
      try simp only [Act.put, List.getElem_toArray, List.getElem_cons_zero, List.getElem_cons_succ, List.setIfInBounds_toArray, List.set_cons_zero, List.set_cons_succ]
      refine wpAnyH_take (i := 21) (v := undef) rfl (by kernel_rfl) (by kernel_rfl) (by kernel_rfl) (fun _ _ _ h => h) (Or.inr ⟨by rfl, rfl⟩) (by assumption) ?_
      try simp only [Act.put, List.getElem_toArray, List.getElem_cons_zero, List.getElem_cons_succ, List.setIfInBounds_toArray, List.set_cons_zero, List.set_cons_succ]
      refine wpAnyH_take (i := 22) (v := undef) rfl (by kernel_rfl) (by kernel_rfl) (by kernel_rfl) (fun _ _ _ h => h) (Or.inr ⟨by rfl, rfl⟩) (by assumption) ?_
      try simp only [Act.put, List.getElem_toArray, List.getElem_cons_zero, List.getElem_cons_succ, List.setIfInBounds_toArray, List.set_cons_zero, List.set_cons_succ]
      refine wpAnyH_take (i := 23) (v := .bool false) rfl (by kernel_rfl) (by kernel_rfl) (by kernel_rfl) (fun _ _ _ h => h) (Or.inl ⟨by rfl, ?hy⟩) (by assumption) ?_
      case hy =>
        intro w hSw
        go_simp
      try simp only [Act.put, List.getElem_toArray, List.getElem_cons_zero, List.getElem_cons_succ, List.setIfInBounds_toArray, List.set_cons_zero, List.set_cons_succ]
      refine wpAnyH_take (i := 24) (v := .bool false) rfl (by kernel_rfl) (by kernel_rfl) (by kernel_rfl) (fun _ _ _ h => h) (Or.inl ⟨by rfl, ?hy⟩) (by assumption) ?_
      case hy =>
        intro w hSw
        go_simp
      try simp only [Act.put, List.getElem_toArray, List.getElem_cons_zero, List.getElem_cons_succ, List.setIfInBounds_toArray, List.set_cons_zero, List.set_cons_succ]
      refine wpAnyH_take (i := 25) (v := .bool false) rfl (by kernel_rfl) (by kernel_rfl) (by kernel_rfl) (fun _ _ _ h => h) (Or.inl ⟨by rfl, ?hy⟩) (by assumption) ?_
      case hy =>
        intro w hSw
        rfl
      try simp only [Act.put, List.getElem_toArray, List.getElem_cons_zero, List.getElem_cons_succ, List.setIfInBounds_toArray, List.set_cons_zero, List.set_cons_succ]
      refine wpAnyH_done (by kernel_rfl) ?_ _
      go_wp2
      go_ret
      exact ⟨ret_int (by rw [HZ.out]), hB3.drew⟩
    · have e2 : ¬ n = nB := fun h => eb (l4.1 h)
      have hqa : p < a.size := by omega
      have hqb : p < b.size := by omega
      have hka : n < nA := by omega
      have hkb : n < nB := by omega
      have hz := cmpZ_lt hqa hqb
      have cW1 := weight_any a p hqa ha
      have cW2 := weight_any b p hqb hb
      have f1 : ((n : Int) == (nA : Int)) = false := by rw [beq_eq_false_iff_ne]; omega
      have f2 : ((n : Int) == (nB : Int)) = false := by rw [beq_eq_false_iff_ne]; omega
      have f3 : (0 : Int) ≤ (n : Int) := by omega
      have f4 : (n : Int) < (nA : Int) := by omega
      have f5 : (n : Int) < (nB : Int) := by omega
      clear l3 l4 ea eb e1 e2
      by_cases hw : wt a p < wt b p
      · rw [if_pos hw] at hz
        have HZ := Lib.hid hz
        have hwi : (wt a p : Int) < (wt b p : Int) := by omega
        clear hw hz
        go_enter Try.func48, Try.ntmps48
        go_wp2_with (first | (go_at_call_of 19 (Value.string a); refine (cP1 _).mono ?_; rintro e w1 ⟨pa, rfl, hownA, hb1⟩; rw [HA.out] at hownA; obtain ⟨oA, cA, rfl, hoA⟩ := own_slice hownA) | (go_at_call_of 19 (Value.string b); refine (cP2 _).mono ?_; rintro e w2 ⟨pb, rfl, hownB, hb2⟩; rw [HB.out] at hownB; obtain ⟨oB, cB, rfl, hoB⟩ := own_slice hownB) | (go_at_call 50; refine (cC _).mono ?_; rintro e w3 ⟨rfl, hb3⟩))
        have hB3 : Below w.heap.size w w3 := (hb1.trans (hb2.mono hb1.size)).trans (hb3.mono (Nat.le_trans hb1.size hb2.size))
        obtain ⟨gA, rfl⟩ := hoA (by omega)
        obtain ⟨gB, rfl⟩ := hoB (by omega)
        obtain ⟨B1, hB1⟩ : ∃ B1, w.heap.size = B1 := ⟨_, rfl⟩
        obtain ⟨B2, hB2⟩ : ∃ B2, w1.heap.size = B2 := ⟨_, rfl⟩
        have hkp : CrKp a b w B1 B2 (.slice (some ⟨gA, 0, none⟩) nA cA) (.slice (some ⟨gB, 0, none⟩) nB cB) w3 := by
          rw [← hB1, ← hB2]
          refine ⟨⟨?_, ?_⟩, hB3⟩
          · rw [HA.out]; exact own_below (own_below hownA hb2) hb3
          · rw [HB.out]; exact own_below hownB hb3
        have HC := Lib.hid (fun X (h : CrKp a b w B1 B2 (.slice (some ⟨gA, 0, none⟩) nA cA) (.slice (some ⟨gB, 0, none⟩) nB cB) X) => crS_of HA.out HB.out (LA.out.2.2 hqa) (LB.out.2.2 hqb) hka hkb h)
        have hkd : CrKp a b w B1 B2 (.slice (some ⟨gA, 0, none⟩) nA cA) (.slice (some ⟨gB, 0, none⟩) nB cB) w3.drew := crKp_next hkp (Below.refl _ _).drew
        clear hownA hownB hb1 hb2 hb3 hB1 hB2 hkp
        go_region_held3 (fun w' => ((w'.cell? ⟨gA, n * 4, none⟩ = some (.int .i64 p) ∧ w'.cell? ⟨gA, n * 4 + 1, none⟩ = some (.int .i64 (wd a p : Nat)) ∧ w'.cell? ⟨gA, n * 4 + 2, none⟩ = some (.int .i32 (rn a p : Nat)) ∧ w'.cell? ⟨gA, n * 4 + 3, none⟩ = some (.bool (bk a p))) ∧ (w'.cell? ⟨gB, n * 4, none⟩ = some (.int .i64 p) ∧ w'.cell? ⟨gB, n * 4 + 1, none⟩ = some (.int .i64 (wd b p : Nat)) ∧ w'.cell? ⟨gB, n * 4 + 2, none⟩ = some (.int .i32 (rn b p : Nat)) ∧ w'.cell? ⟨gB, n * 4 + 3, none⟩ = some (.bool (bk b p)))) ∧ CrKp a b w B1 B2 (.slice (some ⟨gA, 0, none⟩) nA cA) (.slice (some ⟨gB, 0, none⟩) nB cB) w') (first | exact HC.out _ hkd | exact HC.out _ (crKp_next hkd hb5) | exact HC.out _ (crKp_next (And.right (by assumption)) hb4)) (first | (go_at_call_of 81 (Value.string a); refine (cW1 _).mono ?_; rintro e w5 ⟨rfl, hb5⟩) | (go_at_call_of 81 (Value.string b); refine (cW2 _).mono ?_; rintro e w4 ⟨rfl, hb4⟩))
        have hS : CrKp a b w B1 B2 (.slice (some ⟨gA, 0, none⟩) nA cA) (.slice (some ⟨gB, 0, none⟩) nB cB) w4 := And.right (by assumption)
        go_wp2
        go_ret
        exact ⟨ret_int (by rw [HZ.out]), hS.2⟩
      · rw [if_neg hw] at hz
        have HZ := Lib.hid hz
        have hwi : ¬ (wt a p : Int) < (wt b p : Int) := by omega
        clear hw hz
        go_enter Try.func48, Try.ntmps48
        go_wp2_with (first | (go_at_call_of 19 (Value.string a); refine (cP1 _).mono ?_; rintro e w1 ⟨pa, rfl, hownA, hb1⟩; rw [HA.out] at hownA; obtain ⟨oA, cA, rfl, hoA⟩ := own_slice hownA) | (go_at_call_of 19 (Value.string b); refine (cP2 _).mono ?_; rintro e w2 ⟨pb, rfl, hownB, hb2⟩; rw [HB.out] at hownB; obtain ⟨oB, cB, rfl, hoB⟩ := own_slice hownB) | (go_at_call 50; refine (cC _).mono ?_; rintro e w3 ⟨rfl, hb3⟩))
        have hB3 : Below w.heap.size w w3 := (hb1.trans (hb2.mono hb1.size)).trans (hb3.mono (Nat.le_trans hb1.size hb2.size))
        obtain ⟨gA, rfl⟩ := hoA (by omega)
        obtain ⟨gB, rfl⟩ := hoB (by omega)
        obtain ⟨B1, hB1⟩ : ∃ B1, w.heap.size = B1 := ⟨_, rfl⟩
        obtain ⟨B2, hB2⟩ : ∃ B2, w1.heap.size = B2 := ⟨_, rfl⟩
        have hkp : CrKp a b w B1 B2 (.slice (some ⟨gA, 0, none⟩) nA cA) (.slice (some ⟨gB, 0, none⟩) nB cB) w3 := by
          rw [← hB1, ← hB2]
          refine ⟨⟨?_, ?_⟩, hB3⟩
          · rw [HA.out]; exact own_below (own_below hownA hb2) hb3
          · rw [HB.out]; exact own_below hownB hb3
        have HC := Lib.hid (fun X (h : CrKp a b w B1 B2 (.slice (some ⟨gA, 0, none⟩) nA cA) (.slice (some ⟨gB, 0, none⟩) nB cB) X) => crS_of HA.out HB.out (LA.out.2.2 hqa) (LB.out.2.2 hqb) hka hkb h)
        have hkd : CrKp a b w B1 B2 (.slice (some ⟨gA, 0, none⟩) nA cA) (.slice (some ⟨gB, 0, none⟩) nB cB) w3.drew := crKp_next hkp (Below.refl _ _).drew
        clear hownA hownB hb1 hb2 hb3 hB1 hB2 hkp
        go_region_held3 (fun w' => ((w'.cell? ⟨gA, n * 4, none⟩ = some (.int .i64 p) ∧ w'.cell? ⟨gA, n * 4 + 1, none⟩ = some (.int .i64 (wd a p : Nat)) ∧ w'.cell? ⟨gA, n * 4 + 2, none⟩ = some (.int .i32 (rn a p : Nat)) ∧ w'.cell? ⟨gA, n * 4 + 3, none⟩ = some (.bool (bk a p))) ∧ (w'.cell? ⟨gB, n * 4, none⟩ = some (.int .i64 p) ∧ w'.cell? ⟨gB, n * 4 + 1, none⟩ = some (.int .i64 (wd b p : Nat)) ∧ w'.cell? ⟨gB, n * 4 + 2, none⟩ = some (.int .i32 (rn b p : Nat)) ∧ w'.cell? ⟨gB, n * 4 + 3, none⟩ = some (.bool (bk b p)))) ∧ CrKp a b w B1 B2 (.slice (some ⟨gA, 0, none⟩) nA cA) (.slice (some ⟨gB, 0, none⟩) nB cB) w') (first | exact HC.out _ hkd | exact HC.out _ (crKp_next hkd hb5) | exact HC.out _ (crKp_next (And.right (by assumption)) hb4)) (first | (go_at_call_of 81 (Value.string a); refine (cW1 _).mono ?_; rintro e w5 ⟨rfl, hb5⟩) | (go_at_call_of 81 (Value.string b); refine (cW2 _).mono ?_; rintro e w4 ⟨rfl, hb4⟩))
        have hS : CrKp a b w B1 B2 (.slice (some ⟨gA, 0, none⟩) nA cA) (.slice (some ⟨gB, 0, none⟩) nB cB) w4 := And.right (by assumption)
        go_wp2
        go_ret
        exact ⟨ret_int (by rw [HZ.out]), hS.2⟩
end Go.Proofs.Ytgpnheaefagfiaa
