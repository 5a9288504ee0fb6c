/- Layer 3: the document's Led, Followed, lowered. -/
import Derived.Test.YtkikopjbaonbpaaTv
namespace Go.Proofs.Ytkikopjbaonbpaa
set_option linter.unusedVariables false
set_option linter.unusedSimpArgs false
open Go Go.RowKit Go.Shelf
set_option maxRecDepth 100000

theorem posG_tail (s : ByteArray) : ∀ i, ∀ (a : List Nat) (p : Nat) (b : List Nat), posG s i = a ++ p :: b → b = posG s (p + wd s p) ∧ p < s.size := by
  apply posG_ind s
  · intro i hi a p b h; rw [posG_end s i hi] at h; cases a <;> cases h
  · intro i hi ih a p b h
    cases a with
    | nil =>
      rw [posG_cons s i hi] at h
      obtain ⟨rfl, rfl⟩ := List.cons.inj h
      exact ⟨rfl, hi⟩
    | cons x a =>
      rw [posG_cons s i hi] at h
      exact ih a p b (List.cons.inj h).2
theorem drop_next {s : ByteArray} {k p : Nat} (h : (posns s)[k]? = some p) : (posns s).drop (k + 1) = posG s (p + wd s p) := by
  obtain ⟨h1, h2⟩ := List.getElem?_eq_some_iff.1 h
  have hs : posG s 0 = (posns s).take k ++ p :: (posns s).drop (k + 1) := by
    rw [← posns_G, ← h2, List.getElem_cons_drop, List.take_append_drop]
  exact (posG_tail s 0 _ _ _ hs).1
theorem drop_cons {l : List Nat} {k p : Nat} (h : l[k]? = some p) : l.drop k = p :: l.drop (k + 1) := by
  obtain ⟨h1, h2⟩ := List.getElem?_eq_some_iff.1 h
  rw [← h2, List.getElem_cons_drop]
theorem bk_not_le {s : ByteArray} {i : Nat} (h : bk s i = true) : leB (rn s i) = false ∧ (kindZ (rn s i) == 2) = false := by
  rw [(bk_rn s i h).1]; exact ⟨by decide, by kernel_rfl⟩
theorem mark_not_le {r : Int} (h : (kindZ r == 2) = true) : leB r = false := by
  cases hl : leB r with
  | false => rfl
  | true => rw [kind_2 hl] at h; cases h
theorem ledU_n {s : ByteArray} {i : Nat} (h : (kindZ (rn s i) == 2) = false) (b : Bool) : ledU s b i = leB (rn s i) := by
  unfold ledU
  cases hl : leB (rn s i) with
  | true => rfl
  | false => rw [h]; simp
theorem ledU_m {s : ByteArray} {i : Nat} (h : (kindZ (rn s i) == 2) = true) (b : Bool) : ledU s b i = b := by rw [ledU_f (mark_not_le h), h, Bool.and_true]

def LdRel (s : ByteArray) (k : Nat) (w : World) (i : Value) (wr : World) : Prop :=
  ∃ j : Nat, i = .int .i64 ((j : Int) - 1) ∧ j ≤ k ∧ ledS s ((posns s).take k) = ledS s ((posns s).take j) ∧ Below w.heap.size w wr

set_option maxHeartbeats 2000000 in
theorem ledD_any (s : ByteArray) (hs : s.size ≤ 17179869184) (k n : Nat) (HN : Hid ((posns s).length = n)) (hk : k ≤ n) (o : Option Addr) (cap base : Nat) (w : World) (hown : w.ownsRow base 31 4 (.slice o n cap) n (pcs s (posns s))) :
    Calls Try.prog 39 #[.slice o n cap, .int .i64 k] w fun e w' => e = .returned (.bool (ledS s ((posns s).take k))) ∧ Below w.heap.size w w' := by
  have hpl := posns_len s
  rw [HN.out] at hpl
  have ho : 0 < n → ∃ g, o = some ⟨g, 0, none⟩ := by
    obtain ⟨o', c', e, h⟩ := own_slice hown
    cases e; exact h
  obtain ⟨Z, hZ⟩ : ∃ Z, ledS s ((posns s).take k) = Z := ⟨_, rfl⟩
  have HZ := Lib.hid hZ
  rw [hZ]
  clear hZ
  have h0 : (0 : Int) ≤ (k : Int) := by omega
  go_enter Try.func39, Try.ntmps39
  go_wp2
  go_loopw [5] (fun i wr => LdRel s k w i wr) (fun i _ => (intOf i + 1).toNat)
  case atStart => exact ⟨k, rfl, Nat.le_refl _, rfl, Below.refl _ _⟩
  case round =>
    obtain ⟨j, rfl, hj, hl, hB⟩ := hrel
    cases j with
    | zero =>
      have HZ2 := Lib.hid (HZ.out.symm.trans hl)
      clear hl
      go_wp2
      go_ret
      exact ⟨ret_bool HZ2.out.symm, hB⟩
    | succ m =>
      have hmn : m < n := by omega
      obtain ⟨gp, rfl⟩ := ho (by omega)
      obtain ⟨p, hpk⟩ : ∃ p, (posns s)[m]? = some p := ⟨_, List.getElem?_eq_getElem (by rw [HN.out]; exact hmn)⟩
      have hp := own_below hown hB
      obtain ⟨d0, d1, d2, d3⟩ := nth_cells hp HN.out m hmn p hpk
      have hmi : (((m + 1 : Nat) : Int) - 1) = (m : Int) := by omega
      rw [hmi]
      have h0m : (0 : Int) ≤ (m : Int) := by omega
      have hmni : (m : Int) < (n : Int) := by omega
      rw [take_next hpk, ledS_snoc] at hl
      cases hbk : bk s p with
      | true =>
        obtain ⟨e1, e2⟩ := bk_not_le hbk
        rw [ledU_n e2, e1] at hl
        rw [hbk] at d3
        have HZ2 := Lib.hid (HZ.out.symm.trans hl)
        clear hl hmi hpk hbk e1 e2
        have mk := trivial
        go_wp2_with (first | (go_at_call 15; clear mk; refine (ofD_t _ _ _ _).mono ?_; rintro e w2 ⟨rfl, hb2⟩; obtain ⟨x0, x1, x2, x3⟩ : w2.cell? ⟨gp, m * 4, none⟩ = some (.int .i64 p) ∧ w2.cell? ⟨gp, m * 4 + 1, none⟩ = some (.int .i64 (wd s p : Nat)) ∧ w2.cell? ⟨gp, m * 4 + 2, none⟩ = some (.int .i32 (rn s p : Nat)) ∧ w2.cell? ⟨gp, m * 4 + 3, none⟩ = some (.bool true) := (have hg := (hp.lt gp rfl).2; ⟨(hb2.cell (p := ⟨gp, m * 4, none⟩) hg).trans d0, (hb2.cell (p := ⟨gp, m * 4 + 1, none⟩) hg).trans d1, (hb2.cell (p := ⟨gp, m * 4 + 2, none⟩) hg).trans d2, (hb2.cell (p := ⟨gp, m * 4 + 3, none⟩) hg).trans d3⟩)) | (go_at_call 15; refine (ofD_t _ _ _ _).mono ?_; rintro e w3 ⟨rfl, hb3⟩))
        go_ret
        exact ⟨ret_bool HZ2.out.symm, (hB.trans (hb2.mono hB.size)).trans (hb3.mono (Nat.le_trans hB.size hb2.size))⟩
      | false =>
        rw [hbk] at d3
        have cO := ofD_f p (wd s p : Nat) (rn s p : Nat)
        cases hm : (kindZ (rn s p) == 2) with
        | true =>
          rw [ledU_m hm] at hl
          have hK2 : kindZ (rn s p) = 2 := by rw [beq_iff_eq] at hm; exact hm
          rw [hK2] at cO
          have HL := Lib.hid hl
          clear hl hmi hpk hbk hm hK2
          go_wp2_with (go_at_call 15; refine (cO _).mono ?_; rintro e w2 ⟨rfl, hb2⟩)
          go_roundw
          case rel => exact ⟨m, by go_num, by omega, HL.out, hB.trans (hb2.mono hB.size)⟩
          case measure => simp [intOf]
        | false =>
          rw [ledU_n hm, ← kind_one] at hl
          have hZ2 := HZ.out.symm.trans hl
          obtain ⟨K, hKd⟩ : ∃ K, kindZ (rn s p) = K := ⟨_, rfl⟩
          rw [hKd] at cO hm hZ2
          have HZ2 := Lib.hid hZ2
          clear hl hmi hpk hbk hKd hZ2
          have mk := trivial
          go_wp2_with (first | (go_at_call 15; clear mk; refine (cO _).mono ?_; rintro e w2 ⟨rfl, hb2⟩; obtain ⟨x0, x1, x2, x3⟩ : w2.cell? ⟨gp, m * 4, none⟩ = some (.int .i64 p) ∧ w2.cell? ⟨gp, m * 4 + 1, none⟩ = some (.int .i64 (wd s p : Nat)) ∧ w2.cell? ⟨gp, m * 4 + 2, none⟩ = some (.int .i32 (rn s p : Nat)) ∧ w2.cell? ⟨gp, m * 4 + 3, none⟩ = some (.bool false) := (have hg := (hp.lt gp rfl).2; ⟨(hb2.cell (p := ⟨gp, m * 4, none⟩) hg).trans d0, (hb2.cell (p := ⟨gp, m * 4 + 1, none⟩) hg).trans d1, (hb2.cell (p := ⟨gp, m * 4 + 2, none⟩) hg).trans d2, (hb2.cell (p := ⟨gp, m * 4 + 3, none⟩) hg).trans d3⟩)) | (go_at_call 15; refine (cO _).mono ?_; rintro e w3 ⟨rfl, hb3⟩))
          go_ret
          exact ⟨ret_bool HZ2.out.symm, (hB.trans (hb2.mono hB.size)).trans (hb3.mono (Nat.le_trans hB.size hb2.size))⟩

def FoRel (s : ByteArray) (k n : Nat) (w : World) (i : Value) (wr : World) : Prop :=
  ∃ j : Nat, i = .int .i64 j ∧ j ≤ n ∧ folS s ((posns s).drop (k + 1)) = folS s ((posns s).drop j) ∧ Below w.heap.size w wr

set_option maxHeartbeats 2000000 in
theorem folD_any (s : ByteArray) (hs : s.size ≤ 17179869184) (k n : Nat) (HN : Hid ((posns s).length = n)) (hk : k < n) (o : Option Addr) (cap base : Nat) (w : World) (hown : w.ownsRow base 31 4 (.slice o n cap) n (pcs s (posns s))) :
    Calls Try.prog 40 #[.slice o n cap, .int .i64 k] w fun e w' => e = .returned (.bool (folS s ((posns s).drop (k + 1)))) ∧ Below w.heap.size w w' := by
  have hpl := posns_len s
  rw [HN.out] at hpl
  have ho : 0 < n → ∃ g, o = some ⟨g, 0, none⟩ := by
    obtain ⟨o', c', e, h⟩ := own_slice hown
    cases e; exact h
  obtain ⟨Z, hZ⟩ : ∃ Z, folS s ((posns s).drop (k + 1)) = Z := ⟨_, rfl⟩
  have HZ := Lib.hid hZ
  rw [hZ]
  clear hZ
  go_enter Try.func40, Try.ntmps40
  go_wp2
  go_loopw [5] (fun i wr => FoRel s k n w i wr) (fun i _ => n - (intOf i).toNat)
  case atStart => exact ⟨k + 1, by go_num, by omega, rfl, Below.refl _ _⟩
  case round =>
    obtain ⟨m, rfl, hj, hl, hB⟩ := hrel
    by_cases hmn : m < n
    · obtain ⟨gp, rfl⟩ := ho (by omega)
      obtain ⟨p, hpk⟩ : ∃ p, (posns s)[m]? = some p := ⟨_, List.getElem?_eq_getElem (by rw [HN.out]; exact hmn)⟩
      have hp := own_below hown hB
      obtain ⟨d0, d1, d2, d3⟩ := nth_cells hp HN.out m hmn p hpk
      have hmni : (m : Int) < (n : Int) := by omega
      rw [drop_cons hpk] at hl
      cases hbk : bk s p with
      | true =>
        obtain ⟨e1, e2⟩ := bk_not_le hbk
        rw [folS_cons_n e2, e1] at hl
        rw [hbk] at d3
        have HZ2 := Lib.hid (HZ.out.symm.trans hl)
        clear hl hpk hbk e1 e2
        have mk := trivial
        go_wp2_with (first | (go_at_call 15; clear mk; refine (ofD_t _ _ _ _).mono ?_; rintro e w2 ⟨rfl, hb2⟩; obtain ⟨x0, x1, x2, x3⟩ : w2.cell? ⟨gp, m * 4, none⟩ = some (.int .i64 p) ∧ w2.cell? ⟨gp, m * 4 + 1, none⟩ = some (.int .i64 (wd s p : Nat)) ∧ w2.cell? ⟨gp, m * 4 + 2, none⟩ = some (.int .i32 (rn s p : Nat)) ∧ w2.cell? ⟨gp, m * 4 + 3, none⟩ = some (.bool true) := (have hg := (hp.lt gp rfl).2; ⟨(hb2.cell (p := ⟨gp, m * 4, none⟩) hg).trans d0, (hb2.cell (p := ⟨gp, m * 4 + 1, none⟩) hg).trans d1, (hb2.cell (p := ⟨gp, m * 4 + 2, none⟩) hg).trans d2, (hb2.cell (p := ⟨gp, m * 4 + 3, none⟩) hg).trans d3⟩)) | (go_at_call 15; refine (ofD_t _ _ _ _).mono ?_; rintro e w3 ⟨rfl, hb3⟩))
        go_ret
        exact ⟨ret_bool HZ2.out.symm, (hB.trans (hb2.mono hB.size)).trans (hb3.mono (Nat.le_trans hB.size hb2.size))⟩
      | false =>
        rw [hbk] at d3
        have cO := ofD_f p (wd s p : Nat) (rn s p : Nat)
        cases hm : (kindZ (rn s p) == 2) with
        | true =>
          rw [folS_cons_m hm] at hl
          have hK2 : kindZ (rn s p) = 2 := by rw [beq_iff_eq] at hm; exact hm
          rw [hK2] at cO
          have HL := Lib.hid hl
          clear hl hpk hbk hm hK2
          go_wp2_with (go_at_call 15; refine (cO _).mono ?_; rintro e w2 ⟨rfl, hb2⟩)
          go_roundw
          case rel => exact ⟨m + 1, by go_num, by omega, HL.out, hB.trans (hb2.mono hB.size)⟩
          case measure => simp [intOf]; omega
        | false =>
          rw [folS_cons_n hm, ← kind_one] at hl
          have hZ2 := HZ.out.symm.trans hl
          obtain ⟨K, hKd⟩ : ∃ K, kindZ (rn s p) = K := ⟨_, rfl⟩
          rw [hKd] at cO hm hZ2
          have HZ2 := Lib.hid hZ2
          clear hl hpk hbk hKd hZ2
          have mk := trivial
          go_wp2_with (first | (go_at_call 15; clear mk; refine (cO _).mono ?_; rintro e w2 ⟨rfl, hb2⟩; obtain ⟨x0, x1, x2, x3⟩ : w2.cell? ⟨gp, m * 4, none⟩ = some (.int .i64 p) ∧ w2.cell? ⟨gp, m * 4 + 1, none⟩ = some (.int .i64 (wd s p : Nat)) ∧ w2.cell? ⟨gp, m * 4 + 2, none⟩ = some (.int .i32 (rn s p : Nat)) ∧ w2.cell? ⟨gp, m * 4 + 3, none⟩ = some (.bool false) := (have hg := (hp.lt gp rfl).2; ⟨(hb2.cell (p := ⟨gp, m * 4, none⟩) hg).trans d0, (hb2.cell (p := ⟨gp, m * 4 + 1, none⟩) hg).trans d1, (hb2.cell (p := ⟨gp, m * 4 + 2, none⟩) hg).trans d2, (hb2.cell (p := ⟨gp, m * 4 + 3, none⟩) hg).trans d3⟩)) | (go_at_call 15; refine (cO _).mono ?_; rintro e w3 ⟨rfl, hb3⟩))
          go_ret
          exact ⟨ret_bool HZ2.out.symm, (hB.trans (hb2.mono hB.size)).trans (hb3.mono (Nat.le_trans hB.size hb2.size))⟩
    · have HZ2 : Hid (Z = false) := Lib.hid (by rw [← HZ.out, hl, List.drop_eq_nil_of_le (by rw [HN.out]; omega)]; rfl)
      have hmn' : m = n := by omega
      subst hmn'
      clear hl
      go_wp2
      go_ret
      exact ⟨ret_bool HZ2.out.symm, hB⟩
end Go.Proofs.Ytkikopjbaonbpaa
