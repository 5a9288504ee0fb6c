/- PlaceCut: the law's call, case e. -/
import Derived.Test.YtjlfdoonhfkabaaCut0
namespace Go.Proofs.Ytjlfdoonhfkabaa
set_option linter.unusedVariables false
set_option linter.unusedSimpArgs false
open Go Go.RowKit Go.Shelf
set_option maxRecDepth 100000
attribute [local go_sem] Oper.semAt_some undef

set_option maxHeartbeats 40000000 in
theorem cut_e (s : ByteArray) (hs : s.size ≤ 65536) (k : Nat) (hk : k ≤ nP s) (HB : 0 < (pK s k).b ∧ (pK s k).b < s.size ∧ bt s ((pK s k).b - 1) = 13 ∧ bt s (pK s k).b = 10) (w : World) : CallsIn Fence.wide 11 Try.prog 11 #[.string s, .int .i64 k] w fun e w' => e = .returned (.bool true) ∧ Below w.heap.size w w' := by
  have hnP := nP_le s
  have hkb := pK_le s k hk
  have hkk := pK_k s k
  have hku := pK_u_bound s k
  have hkl := pK_l_bound s k
  have hkc := pK_c_bound s k
  have hts : (s.extract (pK s k).b s.size).size = s.size - (pK s k).b := tl_size s _
  have htl := tl_pK s k
  have htn := tl_nP s k hk
  have cR := fun m W hM x hx => rune_any s hs m W hM x hx
  have cK := cR
  have cE := fun m W hM => end_any s hs m W hM
  have hEk := pK_k s (nP s)
  obtain ⟨E, hE⟩ : ∃ E, pK s (nP s) = E := ⟨_, rfl⟩
  rw [hE] at cE hEk
  clear hE
  obtain ⟨P, hP⟩ : ∃ p, pK s k = p := ⟨_, rfl⟩
  rw [hP] at hkb hkk hku hkl hkc hts htl htn HB
  have cP := fun m W hM => cK m W hM k hk
  rw [hP] at cP
  clear hP cK
  obtain ⟨pb, pk, pu, pl, pc⟩ := P
  obtain ⟨eb, ek, eu, el, ec⟩ := E
  simp only at hkb hkk hku hkl hkc hts htl htn HB hEk
  subst hkk
  obtain ⟨t, ht⟩ : ∃ t, s.extract pb s.size = t := ⟨_, rfl⟩
  rw [ht] at hts htl htn
  have hts2 : t.size ≤ 65536 := by omega
  simp only [plV] at cP cE
  have HT := Lib.hid htl
  have CR := Lib.hid cR
  have CE := Lib.hid cE
  have HE := Lib.hid hEk
  have HN := Lib.hid htn
  have hb0 : (0 : Int) ≤ (pb : Int) := by omega
  have hb1 : (pb : Int) ≤ (s.size : Int) := by omega
  clear htl cR cE hEk htn
  have D1 : decide ((0 : Int) < (pb : Int)) = true := decide_eq_true (by omega)
  have N1 : 0 < pb := by omega
  have D2 : decide ((pb : Int) < (s.size : Int)) = true := decide_eq_true (by omega)
  have M2 : pb < s.size := by omega
  have hp1 : pb - 1 < s.size := by omega
  have hi1 : (pb : Int) - 1 = ((pb - 1 : Nat) : Int) := by omega
  have hi2 : IntKind.i64.wrap ((pb : Int) - 1) = (pb : Int) - 1 := IntWalk.i64_in _ (by omega)
  have hi3 : (0 : Int) ≤ (pb : Int) - 1 := by omega
  have hi4 : (pb : Int) - 1 < (s.size : Int) := by omega
  have hi5 : ((pb : Int) - 1).toNat = pb - 1 := by omega
  have hbs := bt_get s (pb - 1) hp1
  have hbl := bt_lt s (pb - 1)
  have hp2 : pb < s.size := by omega
  have hj4 : (pb : Int) < (s.size : Int) := by omega
  have hcs := bt_get s pb hp2
  have hcl := bt_lt s pb
  have E1 : ((bt s (pb - 1) : Int) == 13) = true := by rw [beq_iff_eq]; omega
  have E2 : ((bt s pb : Int) == 10) = true := by rw [beq_iff_eq]; omega
  obtain ⟨x1, hx1⟩ : ∃ x, bt s (pb - 1) = x := ⟨_, rfl⟩
  rw [hx1] at hbs hbl E1
  clear hx1
  obtain ⟨x2, hx2⟩ : ∃ x, bt s pb = x := ⟨_, rfl⟩
  rw [hx2] at hcs hcl E2
  clear hx2
  clear HB
  refine callsIn_of_wp_marks Try.func11 rfl trivial ?_ rfl
  simp only [Try.ntmps11, List.size_toArray, List.length_cons, List.length_nil, Nat.reduceAdd, Nat.reduceSub, Array.replicate_succ, Array.replicate_zero, List.push_toArray, List.append_toArray, List.nil_append, List.cons_append]
  have hF : ∀ f, Fence.wide.fn f := fun _ => trivial
  have b0 := Blk.new w #[.bool false] 4
  have bB : Below w.heap.size w (w.alloc (.cells #[.bool false] 4)) := (Below.refl _ w).alloc (Nat.le_refl _) _
  gi_wp2_with fail
  refine (callsIn_wide.2 (works_any _)).mono ?_
  rintro e w1 ⟨rfl, hb1⟩
  have b1 := b0.below' hb1
  have hB1 := bB.trans (hb1.mono bB.size)
  gi_wp2_with fail
  refine (callsIn_wide.2 (callsIn_wide.1 (new_in s hs _))).mono ?_
  rintro e w2 ⟨m, rfl, hM, hb2⟩
  have a0 := (b1.below' hb2).alloc (.cells #[.pointer (some ⟨m, 0, none⟩)] 23)
  have a1 := Blk.new w2 #[.pointer (some ⟨m, 0, none⟩)] 23
  have hB2 := hB1.trans (hb2.mono hB1.size)
  have hq2 : Below w2.heap.size w2 (w2.alloc (.cells #[.pointer (some ⟨m, 0, none⟩)] 23)) := (Below.refl _ w2).alloc (Nat.le_refl _) _
  have hM2 := mapAt_below hM hq2
  have hB3 := hB2.alloc hB2.size (.cells #[.pointer (some ⟨m, 0, none⟩)] 23)
  gi_wp2_with fail
  refine (callsIn_wide.2 (cP m _ hM2)).mono ?_
  rintro e w3 ⟨rfl, hb3⟩
  have c0 := (a0.below' hb3).alloc (.cells #[.int .i64 pb, .int .i64 pk, .int .i64 pu, .int .i64 pl, .int .i64 pc] 28)
  have c1 := (a1.below' hb3).alloc (.cells #[.int .i64 pb, .int .i64 pk, .int .i64 pu, .int .i64 pl, .int .i64 pc] 28)
  have c2 := Blk.new w3 #[.int .i64 pb, .int .i64 pk, .int .i64 pu, .int .i64 pl, .int .i64 pc] 28
  have hB4 := hB3.trans (hb3.mono hB3.size)
  have hq3 : Below w3.heap.size w3 (w3.alloc (.cells #[.int .i64 pb, .int .i64 pk, .int .i64 pu, .int .i64 pl, .int .i64 pc] 28)) := (Below.refl _ w3).alloc (Nat.le_refl _) _
  have hM3 := mapAt_below (mapAt_below hM2 hb3) hq3
  have hB5 := hB4.alloc hB4.size (.cells #[.int .i64 pb, .int .i64 pk, .int .i64 pu, .int .i64 pl, .int .i64 pc] 28)
  obtain ⟨X3, hX3⟩ : ∃ X, w3.alloc (.cells #[.int .i64 pb, .int .i64 pk, .int .i64 pu, .int .i64 pl, .int .i64 pc] 28) = X := ⟨_, rfl⟩
  rw [hX3] at c0 c1 c2 hM3 hB5
  obtain ⟨N, hN⟩ : ∃ N, w2.heap.size = N := ⟨_, rfl⟩
  obtain ⟨N2, hN2⟩ : ∃ N, w3.heap.size = N := ⟨_, rfl⟩
  rw [hN] at c1
  rw [hN2] at c2
  have hwN : w.heap.size < w2.heap.size := by have := (b1.below' hb2).lt; omega
  have hN3 : N2 < X3.heap.size := c2.lt
  have hN4 : N < N2 := by have := (a1.below' hb3).lt; rw [← hN2, ← hN]; exact this
  have e0 := c0.cell
  have e1 := c1.cell
  have e2 := c2.cell
  clear b0 b1 a0 a1 hb1 hb2 hb3 hB1 hB2 hB3 hB4 hq2 hq3 hM hM2 bB cP
  gi_wp2_with fail
  refine (callsIn_wide.2 (works_any _)).mono ?_
  rintro e w4 ⟨rfl, hb4⟩
  have b4 := c0.below' hb4
  have hB6 := hB5.trans (hb4.mono hB5.size)
  have c1 := b4.cell
  have c2 := b4.frozen
  have c3 := b4.lt
  gi_wp2
  exact ⟨.bool true, by simp [results, Try.f11, go_sem, c1, c3], rfl, hB6.setCell (p := ⟨_, 0, none⟩) (by dsimp only; omega) _⟩
end Go.Proofs.Ytjlfdoonhfkabaa
