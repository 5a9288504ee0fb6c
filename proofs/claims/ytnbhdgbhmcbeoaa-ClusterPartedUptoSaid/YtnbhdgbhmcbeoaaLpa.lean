/- ClusterParted: the law's call. -/
import Derived.Test.YtnbhdgbhmcbeoaaClo
import Derived.Test.YtnbhdgbhmcbeoaaCln
namespace Go.Proofs.Ytnbhdgbhmcbeoaa
set_option linter.unusedVariables false
set_option linter.unusedSimpArgs false
open Go Go.RowKit Go.Shelf
set_option maxRecDepth 100000

theorem cc_set (n : Nat) : ∀ (l : List Cel) (j : Nat) (x : Cel), l[j]? = some x → ((cc l).set (j * 3) (.int .i64 ((x.1 : Int) + (n : Int)))).set (j * 3 + 1) (.int .i64 ((x.2.1 : Int) + (n : Int))) = cc (l.set j (upC n x))
  | [], j, x, h => by cases h
  | y :: l, 0, x, h => by
    have h : y = x := by simpa using h
    subst h
    have e : ∀ (y : Cel) l, cc (y :: l) = .int .i64 (y.1 : Nat) :: .int .i64 (y.2.1 : Nat) :: .int .i64 (y.2.2 : Nat) :: cc l := fun _ _ => rfl
    rw [List.set_cons_zero, e, e]
    simp only [Nat.zero_mul, List.set_cons_zero, Nat.zero_add, List.set_cons_succ, upC]
    rw [show ((n + y.1 : Nat) : Int) = (y.1 : Int) + (n : Int) by omega, show ((n + y.2.1 : Nat) : Int) = (y.2.1 : Int) + (n : Int) by omega]
  | y :: l, j + 1, x, h => by
    have h : l[j]? = some x := by simpa using h
    have e : ∀ (y : Cel) l, cc (y :: l) = .int .i64 (y.1 : Nat) :: .int .i64 (y.2.1 : Nat) :: .int .i64 (y.2.2 : Nat) :: cc l := fun _ _ => rfl
    rw [List.set_cons_succ, e, e, ← cc_set n l j x h, show (j + 1) * 3 = j * 3 + 1 + 1 + 1 by omega]
    simp only [List.set_cons_succ]
theorem endC_tot (s : ByteArray) : endC (cellsL s) = s.size := by
  have h1 := endC_le s (cellsL s) [] (by simp)
  have h2 := endC_rest s (cellsL s) [] (by simp)
  by_cases h : endC (cellsL s) < s.size
  · rw [cellsG_cons s _ h] at h2; cases h2
  · omega
theorem take_snoc {L : List Cel} {k : Nat} {x : Cel} (h : L[k]? = some x) : L.take k ++ [x] <+: L := by
  refine ⟨L.drop (k + 1), ?_⟩
  obtain ⟨hk, e⟩ := List.getElem?_eq_some_iff.1 h
  rw [List.append_assoc, List.singleton_append, ← e, List.getElem_cons_drop, List.take_append_drop]
def PaRel (T : List Cel) (m n : Nat) (v : Value) (w3 : World) (i : Value) (wr : World) : Prop := ∃ (j : Nat) (M : List Cel), i = .int .i64 j ∧ j ≤ m ∧ M.length = m ∧ (∀ i, i < j → M[i]? = (T[i]?).map (upC n)) ∧ (∀ i, j ≤ i → M[i]? = T[i]?) ∧
  wr.ownsRow w3.heap.size 26 3 v m (cc M) ∧ Below w3.heap.size w3 wr

theorem lpa_out (s : ByteArray) (hs : s.size ≤ 1048576) (k : Int) (hk : k < 0 ∨ ((cellsL s).length : Int) < k) (w : World) :
    Calls Try.prog 8 #[.string s, .int .i64 k] w fun e w' => e = .returned (.bool true) ∧ Below w.heap.size w w' := by
  have cC := fun W => cells_any s (by omega) W
  obtain ⟨n, hn⟩ : ∃ n, (cellsL s).length = n := ⟨_, rfl⟩
  rw [hn] at cC hk
  clear hn
  have key : decide (k < 0) = true ∨ (decide (k < 0) = false ∧ decide ((n : Int) < k) = true) := by
    rcases hk with h | h
    · exact .inl (decide_eq_true h)
    · exact .inr ⟨decide_eq_false (by omega), decide_eq_true h⟩
  clear hk
  rcases key with k1 | ⟨k1, k2⟩
  all_goals
    go_enter Try.func8, Try.ntmps8
    go_wp2_with (fail)
    refine (works_any _).mono ?_
    rintro e w1 ⟨rfl, hb1⟩
    go_wp2_with (fail)
    refine (cC _).mono ?_
    rintro e w2 ⟨v, rfl, hv, hb2⟩
    obtain ⟨o, cap, rfl, ho⟩ := own_slice hv
    have hB2 := hb1.trans (hb2.mono hb1.size)
    clear hv hb1 hb2 ho
    go_wp2_with (fail)
    refine (works_any _).mono ?_
    rintro e w3 ⟨rfl, hb3⟩
    have hB3 := hB2.trans (hb3.mono hB2.size)
    go_wp2
    go_ret
    exact ⟨rfl, hB3⟩

set_option maxHeartbeats 8000000 in
theorem lpa_mid (s : ByteArray) (hs : s.size ≤ 1048576) (kn : Nat) (hk : kn ≤ (cellsL s).length) (w : World) :
    Calls Try.prog 8 #[.string s, .int .i64 (kn : Int)] w fun e w' => e = .returned (.bool true) ∧ Below w.heap.size w w' := by
  have cC := fun W => cells_any s (by omega) W
  have hpre : (cellsL s).take kn <+: cellsL s := List.take_prefix _ _
  have hhd := cellsL_head s _ hpre
  have htl := cellsL_tail s ((cellsL s).take kn) ((cellsL s).drop kn) (List.take_append_drop _ _).symm
  have hle := endC_le s ((cellsL s).take kn) ((cellsL s).drop kn) (List.take_append_drop _ _).symm
  have hpl : ((cellsL s).take kn).length = kn := by rw [List.length_take]; omega
  have hdl : ((cellsL s).drop kn).length = (cellsL s).length - kn := by rw [List.length_drop]
  have hjoin : (cellsL s).take kn ++ (cellsL s).drop kn = cellsL s := List.take_append_drop _ _
  have hll := cellsL_len s
  have hx : kn < (cellsL s).length → ∃ x, (cellsL s)[kn]? = some x ∧ x.1 = endC ((cellsL s).take kn) := fun h => by
    have hh : (cellsL s)[kn]? = some (cellsL s)[kn] := List.getElem?_eq_getElem h
    exact ⟨_, hh, (due_cell (take_snoc hh)).1⟩
  have hall : kn = (cellsL s).length → endC ((cellsL s).take kn) = s.size := fun h => by rw [h, List.take_length, endC_tot]
  obtain ⟨L, hL⟩ : ∃ L, cellsL s = L := ⟨_, rfl⟩
  obtain ⟨P, hP⟩ : ∃ P, L.take kn = P := ⟨_, rfl⟩
  obtain ⟨D, hD⟩ : ∃ D, L.drop kn = D := ⟨_, rfl⟩
  rw [hL] at cC hk hhd htl hle hpl hdl hjoin hll hx hall
  rw [hP] at hhd htl hle hpl hjoin hx hall
  rw [hD] at htl hdl hjoin
  obtain ⟨at', ha⟩ : ∃ a, endC P = a := ⟨_, rfl⟩
  rw [ha] at hhd htl hle hx hall
  obtain ⟨T, hT⟩ : ∃ T, cellsL (s.extract at' s.size) = T := ⟨_, rfl⟩
  have cA := fun W => cells_any (s.extract 0 at') (by rw [ByteArray.size_extract]; omega) W
  have cB := fun W => cells_any (s.extract at' s.size) (by rw [ByteArray.size_extract]; omega) W
  rw [hhd, hpl] at cA
  rw [hT] at cB htl
  have hTb : ∀ (i : Nat) (x : Cel), T[i]? = some x → x.1 ≤ 1048576 ∧ x.2.1 ≤ 1048576 := fun i x h => by
    obtain ⟨_, m2, m3, _, _⟩ := cellsG_mem (s.extract at' s.size) _ 0 rfl x (by rw [show cellsG (s.extract at' s.size) 0 = T from hT]; exact List.mem_of_getElem? h)
    have := tl_size s at'
    omega
  have hTl : T.length = L.length - kn := by rw [← hdl, ← htl, List.length_map]
  obtain ⟨n, hn⟩ : ∃ n, L.length = n := ⟨_, rfl⟩
  obtain ⟨m, hm⟩ : ∃ m, T.length = m := ⟨_, rfl⟩
  rw [hn] at cC hk hdl hll hx hall hTl
  rw [hm] at cB hTl
  have k1 : decide ((kn : Int) < 0) = false := decide_eq_false (by omega)
  have k2 : decide ((n : Int) < (kn : Int)) = false := decide_eq_false (by omega)
  have k3 : (0 : Int) ≤ (kn : Int) := by omega
  have hnn : n ≤ 1048576 := by omega
  have hmm : m ≤ 1048576 := by omega
  have k4 : (at' : Int) ≤ (s.size : Int) := by omega
  have k5 : (0 : Int) ≤ (at' : Int) := by omega
  have H := Lib.hid (And.intro htl (And.intro hjoin (And.intro hpl (And.intro hn (And.intro hm (And.intro hTl hTb))))))
  clear hpre hhd htl hpl hdl hjoin hll hL hP hD ha hT hn hm hTl
  have key : (kn < n ∧ ∃ x, L[kn]? = some x ∧ x.1 = at') ∨ (kn = n ∧ at' = s.size) := by
    by_cases h : kn < n
    · exact .inl ⟨h, hx h⟩
    · exact .inr ⟨by omega, hall (by omega)⟩
  clear hx hall
  go_enter Try.func8, Try.ntmps8
  go_wp2_with (fail)
  refine (works_any _).mono ?_
  rintro e w1 ⟨rfl, hb1⟩
  go_wp2_with (fail)
  refine (cC _).mono ?_
  rintro e w2 ⟨v, rfl, hv, hb2⟩
  obtain ⟨o, cap, rfl, ho⟩ := own_slice hv
  have rL := RowC.of_own hv H.out.2.2.2.1
  have hB2 := hb1.trans (hb2.mono hb1.size)
  clear hv hb1 hb2 ho cC
  rcases key with ⟨hlt, x, hx, hxa⟩ | ⟨hkn, hat⟩
  · have e1 : decide ((kn : Int) < (n : Int)) = true := decide_eq_true (by omega)
    have e2 : (kn : Int) < (n : Int) := by omega
    obtain ⟨g, off, rfl, q0, _, _⟩ := rL kn x hx
    rw [hxa] at q0
    clear hx hxa
    go_wp2_with (fail)
    refine wp_region_noPanic ?_
    refine wp_region_g (S := untilG [] (fun Y => Below w2.heap.size w2 Y)) (by kernel_rfl) ?_
    obtain ⟨X0, hX0⟩ : ∃ Y, w2.drew = Y := ⟨_, rfl⟩
    have T0 : Below w2.heap.size w2 X0 := hX0 ▸ (Below.refl w2.heap.size w2).drew
    rw [hX0]
    clear hX0
    refine wpAnyG_take [0, 2, 3, 8] (i := 0) (v := (.string s)) rfl (by kernel_rfl) (by kernel_rfl) (by kernel_rfl) (by kernel_rfl) (by kernel_rfl) (by kernel_rfl) (by kernel_rfl) (by kernel_rfl) (fun _ _ _ h => h) (Or.inl ⟨by rfl, ?hy⟩) T0 ?_
    case hy =>
      intro X hX
      go_simp
    try simp only [Act.put, List.getElem_toArray, List.getElem_cons_zero, List.getElem_cons_succ, List.setIfInBounds_toArray, List.set_cons_zero, List.set_cons_succ]
    refine wpAnyG_take [1, 2, 3, 8] (i := 1) (v := (.int .i64 at')) rfl (by kernel_rfl) (by kernel_rfl) (by kernel_rfl) (by kernel_rfl) (by kernel_rfl) (by kernel_rfl) (by kernel_rfl) (by kernel_rfl) (fun _ _ _ h => h) (Or.inl ⟨by rfl, ?hy⟩) T0 ?_
    case hy =>
      intro X hX
      go_simp
    try simp only [Act.put, List.getElem_toArray, List.getElem_cons_zero, List.getElem_cons_succ, List.setIfInBounds_toArray, List.set_cons_zero, List.set_cons_succ]
    refine wpAnyG_take [2, 3, 8] (i := 2) (v := (.string (s.extract 0 at'))) rfl (by kernel_rfl) (by kernel_rfl) (by kernel_rfl) (by kernel_rfl) (by kernel_rfl) (by kernel_rfl) (by kernel_rfl) (by kernel_rfl) (fun _ _ _ h => h) (Or.inl ⟨by rfl, ?hy⟩) T0 ?_
    case hy =>
      intro X hX
      go_simp
    try simp only [Act.put, List.getElem_toArray, List.getElem_cons_zero, List.getElem_cons_succ, List.setIfInBounds_toArray, List.set_cons_zero, List.set_cons_succ]
    refine wpAnyG_take [4, 6, 7, 9] (i := 4) (v := (.string s)) rfl (by kernel_rfl) (by kernel_rfl) (by kernel_rfl) (by kernel_rfl) (by kernel_rfl) (by kernel_rfl) (by kernel_rfl) (by kernel_rfl) (fun _ _ _ h => h) (Or.inl ⟨by rfl, ?hy⟩) T0 ?_
    case hy =>
      intro X hX
      go_simp
    try simp only [Act.put, List.getElem_toArray, List.getElem_cons_zero, List.getElem_cons_succ, List.setIfInBounds_toArray, List.set_cons_zero, List.set_cons_succ]
    refine wpAnyG_take [5, 6, 7, 9] (i := 5) (v := (.int .i64 at')) rfl (by kernel_rfl) (by kernel_rfl) (by kernel_rfl) (by kernel_rfl) (by kernel_rfl) (by kernel_rfl) (by kernel_rfl) (by kernel_rfl) (fun _ _ _ h => h) (Or.inl ⟨by rfl, ?hy⟩) T0 ?_
    case hy =>
      intro X hX
      go_simp
    try simp only [Act.put, List.getElem_toArray, List.getElem_cons_zero, List.getElem_cons_succ, List.setIfInBounds_toArray, List.set_cons_zero, List.set_cons_succ]
    refine wpAnyG_take [6, 7, 9] (i := 6) (v := (.string (s.extract at' s.size))) rfl (by kernel_rfl) (by kernel_rfl) (by kernel_rfl) (by kernel_rfl) (by kernel_rfl) (by kernel_rfl) (by kernel_rfl) (by kernel_rfl) (fun _ _ _ h => h) (Or.inl ⟨by rfl, ?hy⟩) T0 ?_
    case hy =>
      intro X hX
      go_simp
    try simp only [Act.put, List.getElem_toArray, List.getElem_cons_zero, List.getElem_cons_succ, List.setIfInBounds_toArray, List.set_cons_zero, List.set_cons_succ]
    refine wpAnyG_all (rs := [3]) (by kernel_rfl) (by simp) ?_
    intro i hi
    simp only [List.mem_cons, List.not_mem_nil, or_false] at hi
    subst hi
    refine wpOp_now rfl rfl ?_
    go_simp
    refine (cA _).mono ?_
    rintro e X1 ⟨va, rfl, hva, hb3⟩
    obtain ⟨oa, ca, rfl, hoa⟩ := own_slice hva
    replace T0 := T0.trans (hb3.mono T0.size)
    have T1 := T0
    refine ⟨fun _ => T0, ?_⟩
    try simp only [Act.put, List.getElem_toArray, List.getElem_cons_zero, List.getElem_cons_succ, List.setIfInBounds_toArray, List.set_cons_zero, List.set_cons_succ]
    refine wpAnyG_all (rs := [7]) (by kernel_rfl) (by simp) ?_
    intro i hi
    simp only [List.mem_cons, List.not_mem_nil, or_false] at hi
    subst hi
    refine wpOp_now rfl rfl ?_
    go_simp
    refine (cB _).mono ?_
    rintro e X2 ⟨vb, rfl, hvb, hb4⟩
    obtain ⟨ob, cb, rfl, hob⟩ := own_slice hvb
    replace T0 := T0.trans (hb4.mono T0.size)
    refine ⟨fun _ => T0, ?_⟩
    try simp only [Act.put, List.getElem_toArray, List.getElem_cons_zero, List.getElem_cons_succ, List.setIfInBounds_toArray, List.set_cons_zero, List.set_cons_succ]
    refine wpAnyG_take [8] (i := 8) (v := (.slice oa kn ca)) rfl (by kernel_rfl) (by kernel_rfl) (by kernel_rfl) (by kernel_rfl) (by kernel_rfl) (by kernel_rfl) (by kernel_rfl) (by kernel_rfl) (fun _ _ _ h => h) (Or.inl ⟨by rfl, ?hy⟩) T0 ?_
    case hy =>
      intro X hX
      go_simp
    try simp only [Act.put, List.getElem_toArray, List.getElem_cons_zero, List.getElem_cons_succ, List.setIfInBounds_toArray, List.set_cons_zero, List.set_cons_succ]
    refine wpAnyG_take [9] (i := 9) (v := (.slice ob m cb)) rfl (by kernel_rfl) (by kernel_rfl) (by kernel_rfl) (by kernel_rfl) (by kernel_rfl) (by kernel_rfl) (by kernel_rfl) (by kernel_rfl) (fun _ _ _ h => h) (Or.inl ⟨by rfl, ?hy⟩) T0 ?_
    case hy =>
      intro X hX
      go_simp
    try simp only [Act.put, List.getElem_toArray, List.getElem_cons_zero, List.getElem_cons_succ, List.setIfInBounds_toArray, List.set_cons_zero, List.set_cons_succ]
    refine wpAnyG_done (by kernel_rfl) ?_ _
    refine NoPanic.normal ?_
    have rL2 := rL.below T1
    have hB3 := hB2.trans (T1.mono hB2.size)
    have xA := XsC.of_own hva H.out.2.2.1
    have hb4' := hb4
    clear T0 T1 cA cB rL hva hb4 hb3 hoa
    go_wp2_with (fail)
    go_loopw [45] (fun i wr => PaRel T m at' (.slice ob m cb) X1 i wr) (fun i _ => m - (intOf i).toNat)
    case atStart => exact ⟨0, T, rfl, by omega, H.out.2.2.2.2.1, fun i h => by omega, fun _ _ => rfl, hvb, hb4'⟩
    case round =>
      obtain ⟨j, M, rfl, hj, hML, hM1, hM2, hown, hB⟩ := hrel
      by_cases hjm : j < m
      · obtain ⟨gb, rfl⟩ := hob (by omega)
        obtain ⟨y, hy⟩ : ∃ y, M[j]? = some y := ⟨_, List.getElem?_eq_getElem (by omega)⟩
        have hyT : T[j]? = some y := (hM2 j (Nat.le_refl _)).symm.trans hy
        have hyb := H.out.2.2.2.2.2.2 j y hyT
        obtain ⟨r0, r1, r2⟩ := cc_get hy
        have st1 := (hown.stored (j * 3) (.int .i64 ((y.1 : Int) + (at' : Int)))).1
        have st2 := (st1.stored (j * 3 + 1) (.int .i64 ((y.2.1 : Int) + (at' : Int)))).1
        rw [cc_set at' M j y hy] at st2
        have q0' := (hown.cellAt (j * 3) (by omega)).trans r0
        have q1' := (st1.cellAt (j * 3 + 1) (by omega)).trans ((List.getElem?_set_ne (by omega)).trans r1)
        have f0 := hown.frozenAt (j * 3)
        have f1 := st1.frozenAt (j * 3 + 1)
        have hgb := own_ge hown (r := gb) rfl
        have j1 : IntKind.i64.wrap ((y.1 : Int) + (at' : Int)) = (y.1 : Int) + (at' : Int) := IntWalk.i64_in _ (by omega)
        have j2 : IntKind.i64.wrap ((y.2.1 : Int) + (at' : Int)) = (y.2.1 : Int) + (at' : Int) := IntWalk.i64_in _ (by omega)
        have i1 : (j : Int) < (m : Int) := by omega
        have i2 : (0 : Int) ≤ (j : Int) := by omega
        have i3 : decide ((j : Int) < (m : Int)) = true := decide_eq_true i1
        have hB5 := (hB.setCell (p := ⟨gb, j * 3, none⟩) hgb (.int .i64 ((y.1 : Int) + (at' : Int)))).setCell (p := ⟨gb, j * 3 + 1, none⟩) hgb (.int .i64 ((y.2.1 : Int) + (at' : Int)))
        have HH := Lib.hid (And.intro st2 (And.intro hB5 (And.intro hML (And.intro hM1 (And.intro hM2 (And.intro hy (And.intro hyT hjm)))))))
        clear st1 st2 hB5 hML hM1 hM2 hown hB hy hyT r0 r1 r2 hyb hgb
        go_wp2
        go_roundw
        case rel =>
          obtain ⟨st2, hB5, hML, hM1, hM2, hy, hyT, hjm⟩ := HH.out
          refine ⟨j + 1, M.set j (upC at' y), by go_num, by omega, by simpa using hML, ?_, ?_, st2, hB5⟩
          · intro i hi
            by_cases e : j = i
            · subst e; rw [List.getElem?_set_self (by omega), hyT]; rfl
            · rw [List.getElem?_set_ne e]; exact hM1 i (by omega)
          · intro i hi
            rw [List.getElem?_set_ne (by omega)]; exact hM2 i (by omega)
        case measure => simp [intOf]; omega
      · have hM : M = D := by
          rw [← H.out.1]
          apply List.ext_getElem?
          intro i
          rw [List.getElem?_map]
          by_cases hi : i < m
          · exact hM1 i (by omega)
          · rw [hM2 i (by omega)]
            have := H.out.2.2.2.2.1
            rw [List.getElem?_eq_none (by omega)]; rfl
        rw [hM] at hown
        have hDl : D.length = m := by rw [← hM]; exact hML
        have i3 : decide ((j : Int) < (m : Int)) = false := decide_eq_false (by omega)
        have xA2 := xA.below hB
        have xB2 := XsC.of_own hown hDl
        have rL3 := rL2.below hB
        have hB6 := hB3.trans (hB.mono hB3.size)
        have al := (Below.refl wr.heap.size wr).alloc (Nat.le_refl _) (.cells #[.slice oa kn ca, .slice ob m cb] 28)
        have xA3 := xA2.below al
        have xB3 := xB2.below al
        have rL4 := rL3.below al
        have hB7 := hB6.alloc hB6.size (.cells #[.slice oa kn ca, .slice ob m cb] 28)
        have hp := Blk.new wr #[.slice oa kn ca, .slice ob m cb] 28
        have HH := Lib.hid (And.intro xA3 (And.intro xB3 (And.intro rL4 (And.intro hB7 (And.intro hp (And.intro hDl hjm))))))
        clear xA2 xB2 rL3 hB6 al xA3 xB3 rL4 hB7 hp hM hM1 hM2 hML hown hB hDl xA rL2 hvb hB3
        go_wp2_with (fail)
        obtain ⟨xA3, xB3, rL4, hB7, hp, hDl, hjm⟩ := HH.out
        refine (concat_cells P D _ _ wr.heap.size kn m H.out.2.2.1 hDl (by omega) (by omega) _ hp xA3 xB3).mono ?_
        rintro e w5 ⟨v, rfl, hv, hb5⟩
        obtain ⟨oc, cc', rfl, hoc⟩ := own_slice hv
        have hPD : (P ++ D).length = kn + m := by rw [List.length_append, H.out.2.2.1, hDl]
        have rV := RowC.of_own hv hPD
        have rL5 := rL4.below hb5
        have hB8 := hB7.trans (hb5.mono hB7.size)
        clear xA3 xB3 rL4 hB7 hp hv hb5 HH hoc
        go_wp2_with (fail)
        refine (equal_any (P ++ D) L _ _ _ _ _ _ hPD H.out.2.2.2.1 (by omega) (by omega) _ rV rL5).mono ?_
        rintro e w6 ⟨rfl, hb6⟩
        rw [decide_eq_true H.out.2.1]
        have hB9 := hB8.trans (hb6.mono hB8.size)
        go_wp2_with (fail)
        refine (works_any _).mono ?_
        rintro e w7 ⟨rfl, hb7⟩
        have hB10 := hB9.trans (hb7.mono hB9.size)
        go_wp2
        go_ret
        exact ⟨rfl, hB10⟩
  · have e1 : decide ((kn : Int) < (n : Int)) = false := decide_eq_false (by omega)
    have e3 : decide (kn < n) = false := decide_eq_false (by omega)
    have e4 : ¬ (kn : Int) < (n : Int) := by omega
    have hat2 : (s.size : Int) = (at' : Int) := by rw [hat]
    have HK := Lib.hid (And.intro hat2 hat)
    clear hkn hat hat2
    go_wp2_with (fail)
    simp only [HK.out.1]
    refine wp_region_noPanic ?_
    refine wp_region_g (S := untilG [] (fun Y => Below w2.heap.size w2 Y)) (by kernel_rfl) ?_
    obtain ⟨X0, hX0⟩ : ∃ Y, w2.drew = Y := ⟨_, rfl⟩
    have T0 : Below w2.heap.size w2 X0 := hX0 ▸ (Below.refl w2.heap.size w2).drew
    rw [hX0]
    clear hX0
    refine wpAnyG_take [0, 2, 3, 8] (i := 0) (v := (.string s)) rfl (by kernel_rfl) (by kernel_rfl) (by kernel_rfl) (by kernel_rfl) (by kernel_rfl) (by kernel_rfl) (by kernel_rfl) (by kernel_rfl) (fun _ _ _ h => h) (Or.inl ⟨by rfl, ?hy⟩) T0 ?_
    case hy =>
      intro X hX
      go_simp
    try simp only [Act.put, List.getElem_toArray, List.getElem_cons_zero, List.getElem_cons_succ, List.setIfInBounds_toArray, List.set_cons_zero, List.set_cons_succ]
    refine wpAnyG_take [1, 2, 3, 8] (i := 1) (v := (.int .i64 at')) rfl (by kernel_rfl) (by kernel_rfl) (by kernel_rfl) (by kernel_rfl) (by kernel_rfl) (by kernel_rfl) (by kernel_rfl) (by kernel_rfl) (fun _ _ _ h => h) (Or.inl ⟨by rfl, ?hy⟩) T0 ?_
    case hy =>
      intro X hX
      go_simp
    try simp only [Act.put, List.getElem_toArray, List.getElem_cons_zero, List.getElem_cons_succ, List.setIfInBounds_toArray, List.set_cons_zero, List.set_cons_succ]
    refine wpAnyG_take [2, 3, 8] (i := 2) (v := (.string (s.extract 0 at'))) rfl (by kernel_rfl) (by kernel_rfl) (by kernel_rfl) (by kernel_rfl) (by kernel_rfl) (by kernel_rfl) (by kernel_rfl) (by kernel_rfl) (fun _ _ _ h => h) (Or.inl ⟨by rfl, ?hy⟩) T0 ?_
    case hy =>
      intro X hX
      go_simp
    try simp only [Act.put, List.getElem_toArray, List.getElem_cons_zero, List.getElem_cons_succ, List.setIfInBounds_toArray, List.set_cons_zero, List.set_cons_succ]
    refine wpAnyG_take [4, 6, 7, 9] (i := 4) (v := (.string s)) rfl (by kernel_rfl) (by kernel_rfl) (by kernel_rfl) (by kernel_rfl) (by kernel_rfl) (by kernel_rfl) (by kernel_rfl) (by kernel_rfl) (fun _ _ _ h => h) (Or.inl ⟨by rfl, ?hy⟩) T0 ?_
    case hy =>
      intro X hX
      go_simp
    try simp only [Act.put, List.getElem_toArray, List.getElem_cons_zero, List.getElem_cons_succ, List.setIfInBounds_toArray, List.set_cons_zero, List.set_cons_succ]
    refine wpAnyG_take [5, 6, 7, 9] (i := 5) (v := (.int .i64 at')) rfl (by kernel_rfl) (by kernel_rfl) (by kernel_rfl) (by kernel_rfl) (by kernel_rfl) (by kernel_rfl) (by kernel_rfl) (by kernel_rfl) (fun _ _ _ h => h) (Or.inl ⟨by rfl, ?hy⟩) T0 ?_
    case hy =>
      intro X hX
      go_simp
    try simp only [Act.put, List.getElem_toArray, List.getElem_cons_zero, List.getElem_cons_succ, List.setIfInBounds_toArray, List.set_cons_zero, List.set_cons_succ]
    refine wpAnyG_take [6, 7, 9] (i := 6) (v := (.string (s.extract at' s.size))) rfl (by kernel_rfl) (by kernel_rfl) (by kernel_rfl) (by kernel_rfl) (by kernel_rfl) (by kernel_rfl) (by kernel_rfl) (by kernel_rfl) (fun _ _ _ h => h) (Or.inl ⟨by rfl, ?hy⟩) T0 ?_
    case hy =>
      intro X hX
      go_simp
    try simp only [Act.put, List.getElem_toArray, List.getElem_cons_zero, List.getElem_cons_succ, List.setIfInBounds_toArray, List.set_cons_zero, List.set_cons_succ]
    refine wpAnyG_all (rs := [3]) (by kernel_rfl) (by simp) ?_
    intro i hi
    simp only [List.mem_cons, List.not_mem_nil, or_false] at hi
    subst hi
    refine wpOp_now rfl rfl ?_
    go_simp
    refine (cA _).mono ?_
    rintro e X1 ⟨va, rfl, hva, hb3⟩
    obtain ⟨oa, ca, rfl, hoa⟩ := own_slice hva
    replace T0 := T0.trans (hb3.mono T0.size)
    have T1 := T0
    refine ⟨fun _ => T0, ?_⟩
    try simp only [Act.put, List.getElem_toArray, List.getElem_cons_zero, List.getElem_cons_succ, List.setIfInBounds_toArray, List.set_cons_zero, List.set_cons_succ]
    refine wpAnyG_all (rs := [7]) (by kernel_rfl) (by simp) ?_
    intro i hi
    simp only [List.mem_cons, List.not_mem_nil, or_false] at hi
    subst hi
    refine wpOp_now rfl rfl ?_
    go_simp
    refine (cB _).mono ?_
    rintro e X2 ⟨vb, rfl, hvb, hb4⟩
    obtain ⟨ob, cb, rfl, hob⟩ := own_slice hvb
    replace T0 := T0.trans (hb4.mono T0.size)
    refine ⟨fun _ => T0, ?_⟩
    try simp only [Act.put, List.getElem_toArray, List.getElem_cons_zero, List.getElem_cons_succ, List.setIfInBounds_toArray, List.set_cons_zero, List.set_cons_succ]
    refine wpAnyG_take [8] (i := 8) (v := (.slice oa kn ca)) rfl (by kernel_rfl) (by kernel_rfl) (by kernel_rfl) (by kernel_rfl) (by kernel_rfl) (by kernel_rfl) (by kernel_rfl) (by kernel_rfl) (fun _ _ _ h => h) (Or.inl ⟨by rfl, ?hy⟩) T0 ?_
    case hy =>
      intro X hX
      go_simp
    try simp only [Act.put, List.getElem_toArray, List.getElem_cons_zero, List.getElem_cons_succ, List.setIfInBounds_toArray, List.set_cons_zero, List.set_cons_succ]
    refine wpAnyG_take [9] (i := 9) (v := (.slice ob m cb)) rfl (by kernel_rfl) (by kernel_rfl) (by kernel_rfl) (by kernel_rfl) (by kernel_rfl) (by kernel_rfl) (by kernel_rfl) (by kernel_rfl) (fun _ _ _ h => h) (Or.inl ⟨by rfl, ?hy⟩) T0 ?_
    case hy =>
      intro X hX
      go_simp
    try simp only [Act.put, List.getElem_toArray, List.getElem_cons_zero, List.getElem_cons_succ, List.setIfInBounds_toArray, List.set_cons_zero, List.set_cons_succ]
    refine wpAnyG_done (by kernel_rfl) ?_ _
    refine NoPanic.normal ?_
    have rL2 := rL.below T1
    have hB3 := hB2.trans (T1.mono hB2.size)
    have xA := XsC.of_own hva H.out.2.2.1
    have hb4' := hb4
    clear T0 T1 cA cB rL hva hb4 hb3 hoa
    go_wp2_with (fail)
    go_loopw [45] (fun i wr => PaRel T m at' (.slice ob m cb) X1 i wr) (fun i _ => m - (intOf i).toNat)
    case atStart => exact ⟨0, T, rfl, by omega, H.out.2.2.2.2.1, fun i h => by omega, fun _ _ => rfl, hvb, hb4'⟩
    case round =>
      obtain ⟨j, M, rfl, hj, hML, hM1, hM2, hown, hB⟩ := hrel
      by_cases hjm : j < m
      · obtain ⟨gb, rfl⟩ := hob (by omega)
        obtain ⟨y, hy⟩ : ∃ y, M[j]? = some y := ⟨_, List.getElem?_eq_getElem (by omega)⟩
        have hyT : T[j]? = some y := (hM2 j (Nat.le_refl _)).symm.trans hy
        have hyb := H.out.2.2.2.2.2.2 j y hyT
        obtain ⟨r0, r1, r2⟩ := cc_get hy
        have st1 := (hown.stored (j * 3) (.int .i64 ((y.1 : Int) + (at' : Int)))).1
        have st2 := (st1.stored (j * 3 + 1) (.int .i64 ((y.2.1 : Int) + (at' : Int)))).1
        rw [cc_set at' M j y hy] at st2
        have q0' := (hown.cellAt (j * 3) (by omega)).trans r0
        have q1' := (st1.cellAt (j * 3 + 1) (by omega)).trans ((List.getElem?_set_ne (by omega)).trans r1)
        have f0 := hown.frozenAt (j * 3)
        have f1 := st1.frozenAt (j * 3 + 1)
        have hgb := own_ge hown (r := gb) rfl
        have j1 : IntKind.i64.wrap ((y.1 : Int) + (at' : Int)) = (y.1 : Int) + (at' : Int) := IntWalk.i64_in _ (by omega)
        have j2 : IntKind.i64.wrap ((y.2.1 : Int) + (at' : Int)) = (y.2.1 : Int) + (at' : Int) := IntWalk.i64_in _ (by omega)
        have i1 : (j : Int) < (m : Int) := by omega
        have i2 : (0 : Int) ≤ (j : Int) := by omega
        have i3 : decide ((j : Int) < (m : Int)) = true := decide_eq_true i1
        have hB5 := (hB.setCell (p := ⟨gb, j * 3, none⟩) hgb (.int .i64 ((y.1 : Int) + (at' : Int)))).setCell (p := ⟨gb, j * 3 + 1, none⟩) hgb (.int .i64 ((y.2.1 : Int) + (at' : Int)))
        have HH := Lib.hid (And.intro st2 (And.intro hB5 (And.intro hML (And.intro hM1 (And.intro hM2 (And.intro hy (And.intro hyT hjm)))))))
        clear st1 st2 hB5 hML hM1 hM2 hown hB hy hyT r0 r1 r2 hyb hgb
        go_wp2
        go_roundw
        case rel =>
          obtain ⟨st2, hB5, hML, hM1, hM2, hy, hyT, hjm⟩ := HH.out
          refine ⟨j + 1, M.set j (upC at' y), by go_num, by omega, by simpa using hML, ?_, ?_, st2, hB5⟩
          · intro i hi
            by_cases e : j = i
            · subst e; rw [List.getElem?_set_self (by omega), hyT]; rfl
            · rw [List.getElem?_set_ne e]; exact hM1 i (by omega)
          · intro i hi
            rw [List.getElem?_set_ne (by omega)]; exact hM2 i (by omega)
        case measure => simp [intOf]; omega
      · have hM : M = D := by
          rw [← H.out.1]
          apply List.ext_getElem?
          intro i
          rw [List.getElem?_map]
          by_cases hi : i < m
          · exact hM1 i (by omega)
          · rw [hM2 i (by omega)]
            have := H.out.2.2.2.2.1
            rw [List.getElem?_eq_none (by omega)]; rfl
        rw [hM] at hown
        have hDl : D.length = m := by rw [← hM]; exact hML
        have i3 : decide ((j : Int) < (m : Int)) = false := decide_eq_false (by omega)
        have xA2 := xA.below hB
        have xB2 := XsC.of_own hown hDl
        have rL3 := rL2.below hB
        have hB6 := hB3.trans (hB.mono hB3.size)
        have al := (Below.refl wr.heap.size wr).alloc (Nat.le_refl _) (.cells #[.slice oa kn ca, .slice ob m cb] 28)
        have xA3 := xA2.below al
        have xB3 := xB2.below al
        have rL4 := rL3.below al
        have hB7 := hB6.alloc hB6.size (.cells #[.slice oa kn ca, .slice ob m cb] 28)
        have hp := Blk.new wr #[.slice oa kn ca, .slice ob m cb] 28
        have HH := Lib.hid (And.intro xA3 (And.intro xB3 (And.intro rL4 (And.intro hB7 (And.intro hp (And.intro hDl hjm))))))
        clear xA2 xB2 rL3 hB6 al xA3 xB3 rL4 hB7 hp hM hM1 hM2 hML hown hB hDl xA rL2 hvb hB3
        go_wp2_with (fail)
        obtain ⟨xA3, xB3, rL4, hB7, hp, hDl, hjm⟩ := HH.out
        refine (concat_cells P D _ _ wr.heap.size kn m H.out.2.2.1 hDl (by omega) (by omega) _ hp xA3 xB3).mono ?_
        rintro e w5 ⟨v, rfl, hv, hb5⟩
        obtain ⟨oc, cc', rfl, hoc⟩ := own_slice hv
        have hPD : (P ++ D).length = kn + m := by rw [List.length_append, H.out.2.2.1, hDl]
        have rV := RowC.of_own hv hPD
        have rL5 := rL4.below hb5
        have hB8 := hB7.trans (hb5.mono hB7.size)
        clear xA3 xB3 rL4 hB7 hp hv hb5 HH hoc
        go_wp2_with (fail)
        refine (equal_any (P ++ D) L _ _ _ _ _ _ hPD H.out.2.2.2.1 (by omega) (by omega) _ rV rL5).mono ?_
        rintro e w6 ⟨rfl, hb6⟩
        rw [decide_eq_true H.out.2.1]
        have hB9 := hB8.trans (hb6.mono hB8.size)
        go_wp2_with (fail)
        refine (works_any _).mono ?_
        rintro e w7 ⟨rfl, hb7⟩
        have hB10 := hB9.trans (hb7.mono hB9.size)
        go_wp2
        go_ret
        exact ⟨rfl, hB10⟩
theorem lpa_any (s : ByteArray) (hs : s.size ≤ 1048576) (k : Int) (w : World) :
    Calls Try.prog 8 #[.string s, .int .i64 k] w fun e w' => e = .returned (.bool true) ∧ Below w.heap.size w w' := by
  by_cases h : k < 0 ∨ ((cellsL s).length : Int) < k
  · exact lpa_out s hs k h w
  · obtain ⟨kn, rfl⟩ : ∃ kn : Nat, k = (kn : Int) := ⟨k.toNat, by omega⟩
    exact lpa_mid s hs kn (by omega) w
end Go.Proofs.Ytnbhdgbhmcbeoaa
