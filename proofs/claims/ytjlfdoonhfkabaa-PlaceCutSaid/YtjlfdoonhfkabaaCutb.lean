/- PlaceCut: the law's call, case b. -/
import Derived.Test.YtjlfdoonhfkabaaCut0
namespace Go.Proofs.Ytjlfdoonhfkabaa
set_option linter.unusedVariables false
set_option linter.unusedSimpArgs false
open Go Go.RowKit Go.Shelf
set_option maxRecDepth 100000
attribute [local go_sem] Oper.semAt_some undef

set_option maxHeartbeats 40000000 in
theorem cut_b (s : ByteArray) (hs : s.size ≤ 65536) (k : Nat) (hk : k ≤ nP s) (HB : 0 < (pK s k).b ∧ (pK s k).b = s.size) (w : World) : CallsIn Fence.wide 11 Try.prog 11 #[.string s, .int .i64 k] w fun e w' => e = .returned (.bool true) ∧ Below w.heap.size w w' := by
  have hnP := nP_le s
  have hkb := pK_le s k hk
  have hkk := pK_k s k
  have hku := pK_u_bound s k
  have hkl := pK_l_bound s k
  have hkc := pK_c_bound s k
  have hts : (s.extract (pK s k).b s.size).size = s.size - (pK s k).b := tl_size s _
  have htl := tl_pK s k
  have htn := tl_nP s k hk
  have cR := fun m W hM x hx => rune_any s hs m W hM x hx
  have cK := cR
  have cE := fun m W hM => end_any s hs m W hM
  have hEk := pK_k s (nP s)
  obtain ⟨E, hE⟩ : ∃ E, pK s (nP s) = E := ⟨_, rfl⟩
  rw [hE] at cE hEk
  clear hE
  obtain ⟨P, hP⟩ : ∃ p, pK s k = p := ⟨_, rfl⟩
  rw [hP] at hkb hkk hku hkl hkc hts htl htn HB
  have cP := fun m W hM => cK m W hM k hk
  rw [hP] at cP
  clear hP cK
  obtain ⟨pb, pk, pu, pl, pc⟩ := P
  obtain ⟨eb, ek, eu, el, ec⟩ := E
  simp only at hkb hkk hku hkl hkc hts htl htn HB hEk
  subst hkk
  obtain ⟨t, ht⟩ : ∃ t, s.extract pb s.size = t := ⟨_, rfl⟩
  rw [ht] at hts htl htn
  have hts2 : t.size ≤ 65536 := by omega
  simp only [plV] at cP cE
  have HT := Lib.hid htl
  have CR := Lib.hid cR
  have CE := Lib.hid cE
  have HE := Lib.hid hEk
  have HN := Lib.hid htn
  have hb0 : (0 : Int) ≤ (pb : Int) := by omega
  have hb1 : (pb : Int) ≤ (s.size : Int) := by omega
  clear htl cR cE hEk htn
  have D1 : decide ((0 : Int) < (pb : Int)) = true := decide_eq_true (by omega)
  have N1 : 0 < pb := by omega
  have D2 : decide ((pb : Int) < (s.size : Int)) = false := decide_eq_false (by omega)
  have M2 : ¬ pb < s.size := by omega
  clear HB
  refine callsIn_of_wp_marks Try.func11 rfl trivial ?_ rfl
  simp only [Try.ntmps11, List.size_toArray, List.length_cons, List.length_nil, Nat.reduceAdd, Nat.reduceSub, Array.replicate_succ, Array.replicate_zero, List.push_toArray, List.append_toArray, List.nil_append, List.cons_append]
  have hF : ∀ f, Fence.wide.fn f := fun _ => trivial
  have b0 := Blk.new w #[.bool false] 4
  have bB : Below w.heap.size w (w.alloc (.cells #[.bool false] 4)) := (Below.refl _ w).alloc (Nat.le_refl _) _
  gi_wp2_with fail
  refine (callsIn_wide.2 (works_any _)).mono ?_
  rintro e w1 ⟨rfl, hb1⟩
  have b1 := b0.below' hb1
  have hB1 := bB.trans (hb1.mono bB.size)
  gi_wp2_with fail
  refine (callsIn_wide.2 (callsIn_wide.1 (new_in s hs _))).mono ?_
  rintro e w2 ⟨m, rfl, hM, hb2⟩
  have a0 := (b1.below' hb2).alloc (.cells #[.pointer (some ⟨m, 0, none⟩)] 23)
  have a1 := Blk.new w2 #[.pointer (some ⟨m, 0, none⟩)] 23
  have hB2 := hB1.trans (hb2.mono hB1.size)
  have hq2 : Below w2.heap.size w2 (w2.alloc (.cells #[.pointer (some ⟨m, 0, none⟩)] 23)) := (Below.refl _ w2).alloc (Nat.le_refl _) _
  have hM2 := mapAt_below hM hq2
  have hB3 := hB2.alloc hB2.size (.cells #[.pointer (some ⟨m, 0, none⟩)] 23)
  gi_wp2_with fail
  refine (callsIn_wide.2 (cP m _ hM2)).mono ?_
  rintro e w3 ⟨rfl, hb3⟩
  have c0 := (a0.below' hb3).alloc (.cells #[.int .i64 pb, .int .i64 pk, .int .i64 pu, .int .i64 pl, .int .i64 pc] 28)
  have c1 := (a1.below' hb3).alloc (.cells #[.int .i64 pb, .int .i64 pk, .int .i64 pu, .int .i64 pl, .int .i64 pc] 28)
  have c2 := Blk.new w3 #[.int .i64 pb, .int .i64 pk, .int .i64 pu, .int .i64 pl, .int .i64 pc] 28
  have hB4 := hB3.trans (hb3.mono hB3.size)
  have hq3 : Below w3.heap.size w3 (w3.alloc (.cells #[.int .i64 pb, .int .i64 pk, .int .i64 pu, .int .i64 pl, .int .i64 pc] 28)) := (Below.refl _ w3).alloc (Nat.le_refl _) _
  have hM3 := mapAt_below (mapAt_below hM2 hb3) hq3
  have hB5 := hB4.alloc hB4.size (.cells #[.int .i64 pb, .int .i64 pk, .int .i64 pu, .int .i64 pl, .int .i64 pc] 28)
  obtain ⟨X3, hX3⟩ : ∃ X, w3.alloc (.cells #[.int .i64 pb, .int .i64 pk, .int .i64 pu, .int .i64 pl, .int .i64 pc] 28) = X := ⟨_, rfl⟩
  rw [hX3] at c0 c1 c2 hM3 hB5
  obtain ⟨N, hN⟩ : ∃ N, w2.heap.size = N := ⟨_, rfl⟩
  obtain ⟨N2, hN2⟩ : ∃ N, w3.heap.size = N := ⟨_, rfl⟩
  rw [hN] at c1
  rw [hN2] at c2
  have hwN : w.heap.size < w2.heap.size := by have := (b1.below' hb2).lt; omega
  have hN3 : N2 < X3.heap.size := c2.lt
  have hN4 : N < N2 := by have := (a1.below' hb3).lt; rw [← hN2, ← hN]; exact this
  have e0 := c0.cell
  have e1 := c1.cell
  have e2 := c2.cell
  clear b0 b1 a0 a1 hb1 hb2 hb3 hB1 hB2 hB3 hB4 hq2 hq3 hM hM2 bB cP
  gi_wp2_with fail
  refine (callsIn_wide.2 (callsIn_wide.1 (new_in t hts2 _))).mono ?_
  rintro e w4 ⟨m2, rfl, hMt, hb4⟩
  have d0 := c0.below' hb4
  have d1 := c1.below' hb4
  have d2 := c2.below' hb4
  have hM4 := mapAt_below hM3 hb4
  have hB6 := hB5.trans (hb4.mono hB5.size)
  have hN5 : X3.heap.size ≤ w4.heap.size := hb4.size
  have hw4 : w.heap.size < w4.heap.size := d0.lt
  clear c0 c1 c2 hM3 hB5 hb4 e0 e1 e2
  gi_wp2_with (first | (gi_at_call 22; refine (callsIn_wide.2 (each_any _ _)).mono ?_; rintro e w' ⟨rfl, rfl⟩))
  have a0 := d0.alloc (.cells #[.pointer (some ⟨m2, 0, none⟩)] 23)
  have a1 := d1.alloc (.cells #[.pointer (some ⟨m2, 0, none⟩)] 23)
  have a2 := d2.alloc (.cells #[.pointer (some ⟨m2, 0, none⟩)] 23)
  have aB := hB6.alloc hB6.size (.cells #[.pointer (some ⟨m2, 0, none⟩)] 23)
  have aM := mapAt_below hM4 ((Below.refl _ w4).alloc (Nat.le_refl _) (.cells #[.pointer (some ⟨m2, 0, none⟩)] 23))
  have a4 := Boxed.new w4 23 (.pointer (some ⟨m2, 0, none⟩))
  have aS : Same w4.heap.size w4 (w4.alloc (.cells #[.pointer (some ⟨m2, 0, none⟩)] 23)) := fun k hk => ((Below.refl _ w4).alloc (Nat.le_refl _) _).block k hk
  obtain ⟨V, hV⟩ : ∃ V, w4.alloc (.cells #[.pointer (some ⟨m2, 0, none⟩)] 23) = V := ⟨_, rfl⟩
  have hVs : V.heap.size = w4.heap.size + 1 := by rw [← hV]; simp
  rw [hV] at a0 a1 a2 aB aM a4 aS ⊢
  clear hV d0 d1 d2 hB6
  refine range_each 9 t hts2 w4.heap.size m2 w4.heap.size w4 hMt rfl aS (by omega) a4 rfl (CutI w w4 N N2 m #[.int .i64 pb, .int .i64 pk, .int .i64 pu, .int .i64 pl, .int .i64 pc]) (fun _ _ _ => False) (cut_x (by omega) (by omega)) (fun _ _ _ _ _ hs _ _ => hs) ⟨⟨⟨⟨a0, a1⟩, a2⟩, aS⟩, aB⟩ ?assign ?body ?done ?stop
  case assign =>
    intro l x W K hK
    simp only [plA, List.setIfInBounds_toArray, List.set_cons_zero, List.set_cons_succ] at hK ⊢
    gi_wp2
    exact hK
  case stop =>
    rintro D c pre W hD hp h _
    exact h.elim
  case body =>
    rintro l x Bx W hI hle hbx hxn
    obtain ⟨⟨⟨⟨q0, a3⟩, ap⟩, hS⟩, hBw⟩ := hI
    have hI : CutI w w4 N N2 m #[.int .i64 pb, .int .i64 pk, .int .i64 pu, .int .i64 pl, .int .i64 pc] (List.range x) W := ⟨⟨⟨⟨q0, a3⟩, ap⟩, hS⟩, hBw⟩
    have HI := Lib.hid hI
    rw [hVs] at hle
    have hMW := mapAt_same hM4 hS
    have hxk := pK_k t x
    have hub := pK_u_bound t x
    have hlb := pK_l_bound t x
    have hcb := pK_c_bound t x
    have hbb := pK_le t x hxn
    obtain ⟨g1, g2, g3, g4⟩ := HT.out x
    have hn9 := HN.out
    have cR := fun W hM => CR.out m W hM (pk + x) (by omega)
    have hrk := pK_k s (pk + x)
    obtain ⟨q, hq⟩ : ∃ q, pK t x = q := ⟨_, rfl⟩
    rw [hq] at hbx hxk hub hlb hcb hbb g1 g2 g3 g4
    obtain ⟨r, hr⟩ : ∃ r, pK s (pk + x) = r := ⟨_, rfl⟩
    rw [hr] at cR g1 g2 g3 g4 hrk
    clear hq hr hI
    obtain ⟨qb, qk, qu, ql, qc⟩ := q
    obtain ⟨rb, rk, ru, rl, rc⟩ := r
    simp only at hxk hub hlb hcb hbb g1 g2 g3 g4 hrk
    subst hxk g1 g2 g3 hrk
    simp only [plV, plA] at cR hbx
    have ap2 : Blk W Bx _ _ := hbx
    have z0 := a3.cell
    have z1 := ap.cell
    have z2 := ap2.cell
    have y1 : IntKind.i64.wrap ((pb : Int) + (qb : Int)) = (pb : Int) + (qb : Int) := IntWalk.i64_in _ (by omega)
    have y2 : IntKind.i64.wrap ((pk : Int) + (qk : Int)) = (pk : Int) + (qk : Int) := IntWalk.i64_in _ (by omega)
    have y3 : IntKind.i64.wrap ((pu : Int) + (qu : Int)) = (pu : Int) + (qu : Int) := IntWalk.i64_in _ (by omega)
    have y4 : IntKind.i64.wrap ((pl : Int) + (ql : Int)) = (pl : Int) + (ql : Int) := IntWalk.i64_in _ (by omega)
    have y5 : IntKind.i64.wrap ((pc : Int) + (qc : Int)) = (pc : Int) + (qc : Int) := IntWalk.i64_in _ (by omega)
    simp only [Int.natCast_add] at cR
    simp only [plA, List.setIfInBounds_toArray, List.set_cons_zero, List.set_cons_succ]
    have hBxW : Bx < W.heap.size := ap2.lt
    have hW4 : w4.heap.size < W.heap.size := by omega
    by_cases h0 : ql = 0
    · rw [if_pos h0] at g4
      subst h0
      subst g4
      simp only [Int.natCast_add, Int.natCast_zero, Int.add_zero, Nat.add_zero] at cR y4 z2 hbx
      have ap2 : Blk W Bx #[.int .i64 qb, .int .i64 qk, .int .i64 qu, .int .i64 0, .int .i64 qc] 28 := ap2
      gi_wp2_with fail
      refine (callsIn_wide.2 (cR _ hMW)).mono ?_
      rintro e w5 ⟨rfl, hb5⟩
      have t1 := (ap.below' hb5).alloc (.cells #[.int .i64 ((pb : Int) + (qb : Int)), .int .i64 ((pk : Int) + (qk : Int)), .int .i64 ((pu : Int) + (qu : Int)), .int .i64 pl, .int .i64 ((pc : Int) + (qc : Int))] 28)
      have t2 := (ap2.below' hb5).alloc (.cells #[.int .i64 ((pb : Int) + (qb : Int)), .int .i64 ((pk : Int) + (qk : Int)), .int .i64 ((pu : Int) + (qu : Int)), .int .i64 pl, .int .i64 ((pc : Int) + (qc : Int))] 28)
      have t3 := Blk.new w5 #[.int .i64 ((pb : Int) + (qb : Int)), .int .i64 ((pk : Int) + (qk : Int)), .int .i64 ((pu : Int) + (qu : Int)), .int .i64 pl, .int .i64 ((pc : Int) + (qc : Int))] 28
      have hB5 := hb5.alloc hb5.size (.cells #[.int .i64 ((pb : Int) + (qb : Int)), .int .i64 ((pk : Int) + (qk : Int)), .int .i64 ((pu : Int) + (qu : Int)), .int .i64 pl, .int .i64 ((pc : Int) + (qc : Int))] 28)
      have u1 := t1.cell
      have u2 := t2.cell
      have u3 := t3.cell
      clear z0 z1 z2 hb5 cR a3 ap ap2 hbx
      gi_wp2
      exact cut_next HI.out hB5 (by omega) (by omega) (by omega)
    · rw [if_neg h0] at g4
      obtain rfl := g4.symm
      have x1 : decide ((0 : Int) < (ql : Int)) = true := decide_eq_true (by omega)
      have x2 : ((ql : Int) == 0) = false := by rw [beq_eq_false_iff_ne]; omega
      have x3 : 0 < ql := by omega
      gi_wp2_with fail
      refine (callsIn_wide.2 (cR _ hMW)).mono ?_
      rintro e w5 ⟨rfl, hb5⟩
      have t1 := (ap.below' hb5).alloc (.cells #[.int .i64 ((pb : Int) + (qb : Int)), .int .i64 ((pk : Int) + (qk : Int)), .int .i64 ((pu : Int) + (qu : Int)), .int .i64 ((pl : Int) + (ql : Int)), .int .i64 qc] 28)
      have t2 := (ap2.below' hb5).alloc (.cells #[.int .i64 ((pb : Int) + (qb : Int)), .int .i64 ((pk : Int) + (qk : Int)), .int .i64 ((pu : Int) + (qu : Int)), .int .i64 ((pl : Int) + (ql : Int)), .int .i64 qc] 28)
      have t3 := Blk.new w5 #[.int .i64 ((pb : Int) + (qb : Int)), .int .i64 ((pk : Int) + (qk : Int)), .int .i64 ((pu : Int) + (qu : Int)), .int .i64 ((pl : Int) + (ql : Int)), .int .i64 qc] 28
      have hB5 := hb5.alloc hb5.size (.cells #[.int .i64 ((pb : Int) + (qb : Int)), .int .i64 ((pk : Int) + (qk : Int)), .int .i64 ((pu : Int) + (qu : Int)), .int .i64 ((pl : Int) + (ql : Int)), .int .i64 qc] 28)
      have u1 := t1.cell
      have u2 := t2.cell
      have u3 := t3.cell
      clear z0 z1 z2 hb5 cR a3 ap ap2 hbx
      gi_wp2
      exact cut_next HI.out hB5 (by omega) (by omega) (by omega)
  case done =>
    rintro D U hD ⟨⟨⟨⟨q0, a3⟩, ap⟩, hS⟩, hBw⟩ hK
    rw [hVs] at hD
    have hMU := mapAt_same hM4 hS
    have hMtU := mapAt_same hMt hS
    have cT := fun W hM => end_any t hts2 m2 W hM
    have cE := CE.out m
    have htk := pK_k t (nP t)
    have hn9 := HN.out
    have hek := HE.out
    obtain ⟨q, hq⟩ : ∃ q, pK t (nP t) = q := ⟨_, rfl⟩
    rw [hq] at cT htk
    clear hq
    obtain ⟨tb, tk, tu, tl, tc⟩ := q
    simp only [plV] at cT htk
    have p1 := ap.cell 1
    have c3 := a3.cell 0
    simp only [List.getElem?_toArray, List.getElem?_cons_succ, List.getElem?_cons_zero] at p1 c3
    have y1 : IntKind.i64.wrap ((tk : Int) + (pk : Int)) = (tk : Int) + (pk : Int) := IntWalk.i64_in _ (by omega)
    have y2 : ((tk : Int) + (pk : Int) == (ek : Int)) = true := by rw [beq_iff_eq]; omega
    have y4 : IntKind.i64.wrap (ek : Int) = (ek : Int) := IntWalk.i64_in _ (by omega)
    have y3 : (tk : Int) + (pk : Int) = (ek : Int) := by omega
    clear htk hn9 hek
    gi_wp2
    refine wpIn_wide.2 ?_
    refine wp_region_noPanic ?_
    refine wp_region_g (S := untilG [13] (fun X => Below U.heap.size U X)) (by kernel_rfl) ?_
    obtain ⟨X0, hX0⟩ : ∃ X, U.drew = X := ⟨_, rfl⟩
    have T0 : Below U.heap.size U X0 := hX0 ▸ (Below.refl U.heap.size U).drew
    rw [hX0]
    clear hX0
    refine wpAnyG_take [0, 1, 2, 5, 9, 10, 11, 12] (i := 0) (v := (.pointer (some ⟨m2, 0, none⟩))) rfl (by kernel_rfl) (by kernel_rfl) (by kernel_rfl) (by kernel_rfl) (by kernel_rfl) (by kernel_rfl) (by kernel_rfl) (by kernel_rfl) (fun _ _ _ h => h) (Or.inl ⟨by rfl, ?hy⟩) T0 ?_
    case hy =>
      intro X hX
      go_simp
    try simp only [Act.put, List.getElem_toArray, List.getElem_cons_zero, List.getElem_cons_succ, List.setIfInBounds_toArray, List.set_cons_zero, List.set_cons_succ]
    refine wpAnyG_take [3, 4, 5, 9, 10, 11, 12] (i := 3) (v := (.pointer (some ⟨N2, 1, none⟩))) rfl (by kernel_rfl) (by kernel_rfl) (by kernel_rfl) (by kernel_rfl) (by kernel_rfl) (by kernel_rfl) (by kernel_rfl) (by kernel_rfl) (fun _ _ _ h => h) (Or.inl ⟨by rfl, ?hy⟩) T0 ?_
    case hy =>
      intro X hX
      go_simp
    try simp only [Act.put, List.getElem_toArray, List.getElem_cons_zero, List.getElem_cons_succ, List.setIfInBounds_toArray, List.set_cons_zero, List.set_cons_succ]
    refine wpAnyG_take [4, 5, 9, 10, 11, 12] (i := 4) (v := (.int .i64 pk)) rfl (by kernel_rfl) (by kernel_rfl) (by kernel_rfl) (by kernel_rfl) (by kernel_rfl) (by kernel_rfl) (by kernel_rfl) (by kernel_rfl) (fun _ _ _ h => h) (Or.inl ⟨by rfl, ?hy⟩) T0 ?_
    case hy =>
      intro X hX
      have e0 := at_below p1 hX
      go_simp
    try simp only [Act.put, List.getElem_toArray, List.getElem_cons_zero, List.getElem_cons_succ, List.setIfInBounds_toArray, List.set_cons_zero, List.set_cons_succ]
    refine wpAnyG_take [6, 7, 8, 9, 10, 11, 12] (i := 6) (v := (.pointer (some ⟨m, 0, none⟩))) rfl (by kernel_rfl) (by kernel_rfl) (by kernel_rfl) (by kernel_rfl) (by kernel_rfl) (by kernel_rfl) (by kernel_rfl) (by kernel_rfl) (fun _ _ _ h => h) (Or.inl ⟨by rfl, ?hy⟩) T0 ?_
    case hy =>
      intro X hX
      have e0 := at_below c3 hX
      go_simp
    try simp only [Act.put, List.getElem_toArray, List.getElem_cons_zero, List.getElem_cons_succ, List.setIfInBounds_toArray, List.set_cons_zero, List.set_cons_succ]
    refine wpAnyG_all (rs := [1]) (by kernel_rfl) (by simp) ?_
    intro i hi
    simp only [List.mem_cons, List.not_mem_nil, or_false] at hi
    subst hi
    refine wpOp_open rfl (by rfl) ?_
    go_simp
    refine (cT X0 (mapAt_below hMtU T0)).mono ?_
    rintro e X1 ⟨rfl, b1⟩
    replace T0 := T0.trans (b1.mono T0.size)
    refine ⟨fun _ => T0, ?_⟩
    try simp only [Act.put, List.getElem_toArray, List.getElem_cons_zero, List.getElem_cons_succ, List.setIfInBounds_toArray, List.set_cons_zero, List.set_cons_succ]
    refine wpAnyG_take [2, 5, 9, 10, 11, 12] (i := 2) (v := (.int .i64 tk)) rfl (by kernel_rfl) (by kernel_rfl) (by kernel_rfl) (by kernel_rfl) (by kernel_rfl) (by kernel_rfl) (by kernel_rfl) (by kernel_rfl) (fun _ _ _ h => h) (Or.inl ⟨by rfl, ?hy⟩) T0 ?_
    case hy =>
      intro X hX
      have e9 := fun (X : World) => field_k (.int .i64 tb) (.int .i64 tk) (.int .i64 tu) (.int .i64 tl) (.int .i64 tc) X
      go_simp
    try simp only [Act.put, List.getElem_toArray, List.getElem_cons_zero, List.getElem_cons_succ, List.setIfInBounds_toArray, List.set_cons_zero, List.set_cons_succ]
    refine wpAnyG_take [5, 9, 10, 11, 12] (i := 5) (v := (.int .i64 ((tk : Int) + (pk : Int)))) rfl (by kernel_rfl) (by kernel_rfl) (by kernel_rfl) (by kernel_rfl) (by kernel_rfl) (by kernel_rfl) (by kernel_rfl) (by kernel_rfl) (fun _ _ _ h => h) (Or.inl ⟨by rfl, ?hy⟩) T0 ?_
    case hy =>
      intro X hX
      go_simp
    try simp only [Act.put, List.getElem_toArray, List.getElem_cons_zero, List.getElem_cons_succ, List.setIfInBounds_toArray, List.set_cons_zero, List.set_cons_succ]
    refine wpAnyG_all (rs := [7]) (by kernel_rfl) (by simp) ?_
    intro i hi
    simp only [List.mem_cons, List.not_mem_nil, or_false] at hi
    subst hi
    refine wpOp_open rfl (by rfl) ?_
    go_simp
    refine (cE X1 (mapAt_below hMU T0)).mono ?_
    rintro e X2 ⟨rfl, b2⟩
    replace T0 := T0.trans (b2.mono T0.size)
    refine ⟨fun _ => T0, ?_⟩
    try simp only [Act.put, List.getElem_toArray, List.getElem_cons_zero, List.getElem_cons_succ, List.setIfInBounds_toArray, List.set_cons_zero, List.set_cons_succ]
    refine wpAnyG_take [8, 9, 10, 11, 12] (i := 8) (v := (.int .i64 ek)) rfl (by kernel_rfl) (by kernel_rfl) (by kernel_rfl) (by kernel_rfl) (by kernel_rfl) (by kernel_rfl) (by kernel_rfl) (by kernel_rfl) (fun _ _ _ h => h) (Or.inl ⟨by rfl, ?hy⟩) T0 ?_
    case hy =>
      intro X hX
      have e9 := fun (X : World) => field_k (.int .i64 eb) (.int .i64 ek) (.int .i64 eu) (.int .i64 el) (.int .i64 ec) X
      go_simp
    try simp only [Act.put, List.getElem_toArray, List.getElem_cons_zero, List.getElem_cons_succ, List.setIfInBounds_toArray, List.set_cons_zero, List.set_cons_succ]
    refine wpAnyG_take [9, 10, 11, 12] (i := 9) (v := (.bool true)) rfl (by kernel_rfl) (by kernel_rfl) (by kernel_rfl) (by kernel_rfl) (by kernel_rfl) (by kernel_rfl) (by kernel_rfl) (by kernel_rfl) (fun _ _ _ h => h) (Or.inl ⟨by rfl, ?hy⟩) T0 ?_
    case hy =>
      intro X hX
      go_simp
    try simp only [Act.put, List.getElem_toArray, List.getElem_cons_zero, List.getElem_cons_succ, List.setIfInBounds_toArray, List.set_cons_zero, List.set_cons_succ]
    refine wpAnyG_take [10, 11, 12] (i := 10) (v := (.bool true)) rfl (by kernel_rfl) (by kernel_rfl) (by kernel_rfl) (by kernel_rfl) (by kernel_rfl) (by kernel_rfl) (by kernel_rfl) (by kernel_rfl) (fun _ _ _ h => h) (Or.inl ⟨by rfl, ?hy⟩) T0 ?_
    case hy =>
      intro X hX
      go_simp
    try simp only [Act.put, List.getElem_toArray, List.getElem_cons_zero, List.getElem_cons_succ, List.setIfInBounds_toArray, List.set_cons_zero, List.set_cons_succ]
    refine wpAnyG_all (rs := [11]) (by kernel_rfl) (by simp) ?_
    intro i hi
    simp only [List.mem_cons, List.not_mem_nil, or_false] at hi
    subst hi
    refine wpOp_open rfl (by rfl) ?_
    go_simp
    refine (works_any X2).mono ?_
    rintro e X3 ⟨rfl, b3⟩
    replace T0 := T0.trans (b3.mono T0.size)
    refine ⟨fun _ => T0, ?_⟩
    try simp only [Act.put, List.getElem_toArray, List.getElem_cons_zero, List.getElem_cons_succ, List.setIfInBounds_toArray, List.set_cons_zero, List.set_cons_succ]
    refine wpAnyG_take [12] (i := 12) (v := (.bool true)) rfl (by kernel_rfl) (by kernel_rfl) (by kernel_rfl) (by kernel_rfl) (by kernel_rfl) (by kernel_rfl) (by kernel_rfl) (by kernel_rfl) (fun _ _ _ h => h) (Or.inl ⟨by rfl, ?hy⟩) T0 ?_
    case hy =>
      intro X hX
      go_simp
    try simp only [Act.put, List.getElem_toArray, List.getElem_cons_zero, List.getElem_cons_succ, List.setIfInBounds_toArray, List.set_cons_zero, List.set_cons_succ]
    have r0 := q0.below' T0
    have r1 := r0.cell
    have r2 := r0.frozen
    have r3 := r0.lt
    refine wpAnyG_all (rs := [13]) (by kernel_rfl) (by simp) ?_
    intro i hi
    simp only [List.mem_cons, List.not_mem_nil, or_false] at hi
    subst hi
    refine wpOp_now rfl rfl ?_
    go_simp
    refine ⟨fun h => (nomatch (show (false : Bool) = true from h)), ?_⟩
    refine wpAnyG_done (by kernel_rfl) ?_ _
    refine NoPanic.normal ?_
    have hDU := (Array.getElem?_eq_some_iff.1 hK).1
    have v1 := (r0.set 0 (.bool true)).cell 0
    have v2 : (X3.setCell ⟨w.heap.size, 0, none⟩ (.bool true)).heap[D]? = some (.deferred (some [])) := (Below.heap_setCell _ _ _ _ (by dsimp only; omega)).trans ((T0.block D hDU).trans hK)
    have v3 := (hBw.trans (T0.mono hBw.size)).setCell (p := ⟨w.heap.size, 0, none⟩) (by dsimp only; omega) (.bool true)
    obtain ⟨Y, hY⟩ : ∃ Y, X3.setCell ⟨w.heap.size, 0, none⟩ (.bool true) = Y := ⟨_, rfl⟩
    rw [hY] at v1 v2 v3 ⊢
    clear hY
    replace v1 : Y.cell? ⟨w.heap.size, 0, none⟩ = some (.bool true) := by simpa using v1
    gi_wp2
    have c11 : (Y.putObj D (.deferred none)).cell? ⟨w.heap.size, 0, none⟩ = some (.bool true) := (World.cell?_of_block (w := Y) (World.putObj_heap_other (by dsimp only; omega))).trans v1
    have hB11 := v3.trans (belowK_b (w := w) (Nat.le_refl _) Y D _ (.deferred none) (by omega) v2 rfl rfl)
    refine ⟨by simp, .inl ⟨_, _, rfl, run_takeDeferred (w := Y) v2, ?_⟩⟩
    refine ⟨.bool true, ?_, rfl, hB11⟩
    simp [results, Try.f11, go_sem, c11]
end Go.Proofs.Ytjlfdoonhfkabaa
