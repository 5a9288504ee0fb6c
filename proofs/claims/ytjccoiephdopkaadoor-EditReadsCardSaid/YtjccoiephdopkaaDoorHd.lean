/- Stage 27: Sizes. -/
import Derived.Test.YtjccoiephdopkaaDoorHc
namespace Go.Proofs.YtjccoiephdopkaaDoor
set_option linter.unusedVariables false
set_option linter.unusedSimpArgs false
open Go Go.RowKit Go.Shelf
set_option maxRecDepth 100000

set_option maxHeartbeats 4000000 in
theorem sizes_any (l : List Sp) (o : Option Addr) (c : Nat) (hn : l.length ≤ 9223372036854775807) (ho : OkS l) (w : World) (hr : RowAt w encS 3 o l) :
    Calls Tryd.prog 25 #[.slice o l.length c] w fun e w' => e = .returned (szV (sizeG l 0 0)) ∧ Below w.heap.size w w' := by
  go_enter Tryd.func25, Tryd.ntmps25
  go_wp2
  go_loopw [5, 6, 11] (fun a b i W => ∃ (f t k : Nat), a = .int .i64 f ∧ b = .int .i64 t ∧ i = .int .i64 k ∧ k ≤ l.length ∧ f ≤ 65536 ∧ t ≤ 65536 ∧ sizeG (l.drop k) f t = sizeG l 0 0 ∧ Below w.heap.size w W) (fun _ _ i _ => l.length - (intOf i).toNat)
  case atStart => exact ⟨0, 0, 0, rfl, rfl, rfl, by omega, by omega, by omega, rfl, Below.refl _ _⟩
  case round =>
    obtain ⟨f, t, k, rfl, rfl, rfl, hk, hf, ht, hsz, hB⟩ := hrel
    by_cases hlt : k < l.length
    · obtain ⟨x, hx⟩ : ∃ x, l[k]? = some x := ⟨_, List.getElem?_eq_getElem hlt⟩
      obtain ⟨g, off, rfl, hc⟩ := hr.below encS_len (by decide) hB k x hx
      obtain ⟨q0, q1, q2⟩ := get3 (l := l) hc
      obtain ⟨x1, x2, x3, x4⟩ := ho x (List.mem_of_getElem? hx)
      have hd : l.drop k = x :: l.drop (k + 1) := (List.drop_eq_getElem_cons hlt).trans (by rw [(List.getElem?_eq_some_iff.1 hx).2])
      rw [hd, sizeG] at hsz
      have HS := Lib.hid (And.intro hsz hB)
      have n := Blk.new wr #[.int .i64 x.k, .string x.d, .string x.p] 39
      have hb := (Below.refl wr.heap.size wr).alloc (Nat.le_refl _) (.cells #[.int .i64 x.k, .string x.d, .string x.p] 39)
      have hkl : (k : Int) < (l.length : Int) := by omega
      clear hsz hB hx hc hd hr
      go_wp2_with (fail)
      refine (kind_any x _).mono ?_
      rintro e W1 ⟨rfl, hb1⟩
      have hb2 : Below wr.heap.size wr W1 := hb.trans (hb1.mono (by simp))
      have n1 := n.below' hb1
      obtain ⟨bx, hbx⟩ : ∃ b, wr.heap.size = b := ⟨_, rfl⟩
      have m0 := n1.cell 0
      have m1 := n1.cell 1
      have m2 := n1.cell 2
      simp only [List.getElem?_toArray, List.getElem?_cons_succ, List.getElem?_cons_zero] at m0 m1 m2
      rw [hbx] at m0 m1 m2 ⊢
      obtain ⟨q, hq⟩ : ∃ q, kindN x = q := ⟨_, rfl⟩
      rw [hq]
      have HS2 := Lib.hid (And.intro HS.out.1 (And.intro (HS.out.2.trans (hb2.mono HS.out.2.size)) hq))
      clear HS hb hb1 hb2 n n1 hbx q0 q1 q2
      by_cases hq0 : q = 0
      · have e1 : ((q : Int) == 0) = true := by rw [beq_iff_eq]; omega
        have e2 : (q == 0) = true := by rw [beq_iff_eq]; omega
        have HQ := Lib.hid hq0
        clear hq0
        go_wp2
        refine bodyPost_ret (results_tmp3 rfl _ _ _) rfl ?_
        refine ⟨?_, HS2.out.2.1⟩
        rw [← HS2.out.1, if_pos (Or.inl (HS2.out.2.2.trans HQ.out))]
        rfl
      · have e1 : ((q : Int) == 0) = false := by rw [beq_eq_false_iff_ne]; omega
        have e2 : (q == 0) = false := by rw [beq_eq_false_iff_ne]; omega
        have hk0 := kind_pos (x := x) (by rw [hq]; exact hq0)
        by_cases h6 : 65536 < x.k
        · have e3 : decide (65536 < x.k) = true := decide_eq_true h6
          have HQ := Lib.hid h6
          clear hq0 h6
          go_wp2
          refine bodyPost_ret (results_tmp3 rfl _ _ _) rfl ?_
          refine ⟨?_, HS2.out.2.1⟩
          rw [← HS2.out.1, if_pos (Or.inr HQ.out)]
          rfl
        · have e3 : decide (65536 < x.k) = false := decide_eq_false h6
          obtain ⟨kn, hkn⟩ : ∃ kn : Nat, x.k = kn := ⟨x.k.toNat, by omega⟩
          have HQ := Lib.hid (And.intro hq0 h6)
          rw [hkn] at m0 e3
          have hkn6 : kn ≤ 65536 := by omega
          have htn : x.k.toNat = kn := by omega
          have HN := Lib.hid (And.intro hkn htn)
          obtain ⟨D, hD⟩ : ∃ D, kn + x.d.size = D := ⟨_, rfl⟩
          obtain ⟨F, hF⟩ : ∃ F, f + kn + x.d.size = F := ⟨_, rfl⟩
          obtain ⟨E, hE⟩ : ∃ E, kn + x.p.size = E := ⟨_, rfl⟩
          obtain ⟨T, hT⟩ : ∃ T, t + kn + x.p.size = T := ⟨_, rfl⟩
          have j1 : IntKind.i64.wrap ((kn : Int) + (x.d.size : Int)) = (D : Int) := by rw [IntWalk.i64_in _ (by omega)]; omega
          have j2 : IntKind.i64.wrap ((f : Int) + (D : Int)) = (F : Int) := by rw [IntWalk.i64_in _ (by omega)]; omega
          have j3 : IntKind.i64.wrap ((kn : Int) + (x.p.size : Int)) = (E : Int) := by rw [IntWalk.i64_in _ (by omega)]; omega
          have j4 : IntKind.i64.wrap ((t : Int) + (E : Int)) = (T : Int) := by rw [IntWalk.i64_in _ (by omega)]; omega
          have HE := Lib.hid (And.intro hF hT)
          have hk0' := HQ
          clear hq0 h6 hkn htn hk0 x1 x2 x3 x4 hD hF hE hT
          have hgo : sizeG (x :: l.drop (k + 1)) f t = if 65536 < F ∨ 65536 < T then none else sizeG (l.drop (k + 1)) F T := by
            rw [sizeG, if_neg (by rw [HS2.out.2.2]; intro h; rcases h with h | h; exact HQ.out.1 h; exact HQ.out.2 h), HN.out.2, HE.out.1, HE.out.2]
          have HG := Lib.hid hgo
          have hS1 := HS2.out.1
          rw [← sizeG, hgo] at hS1
          have HS3 := Lib.hid hS1
          clear hgo hS1
          by_cases hF6 : 65536 < F
          · have e4 : decide ((65536 : Int) < (F : Int)) = true := decide_eq_true (by omega)
            go_wp2
            refine bodyPost_ret (results_tmp3 rfl _ _ _) rfl ?_
            refine ⟨?_, HS2.out.2.1⟩
            rw [← HS3.out, if_pos (Or.inl hF6)]
            rfl
          · have e4 : decide ((65536 : Int) < (F : Int)) = false := decide_eq_false (by omega)
            by_cases hT6 : 65536 < T
            · have e5 : decide ((65536 : Int) < (T : Int)) = true := decide_eq_true (by omega)
              go_wp2
              refine bodyPost_ret (results_tmp3 rfl _ _ _) rfl ?_
              refine ⟨?_, HS2.out.2.1⟩
              rw [← HS3.out, if_pos (Or.inr hT6)]
              rfl
            · have e5 : decide ((65536 : Int) < (T : Int)) = false := decide_eq_false (by omega)
              have HFT : Hid (sizeG (l.drop (k + 1)) F T = sizeG l 0 0) := Lib.hid (by rw [← HS3.out, if_neg (by omega)])
              go_wp2
              go_roundw
              case rel => exact ⟨F, T, k + 1, rfl, rfl, by go_num, by omega, by omega, by omega, HFT.out, HS2.out.2.1⟩
              case measure => simp [intOf] <;> omega
    · obtain rfl : k = l.length := by omega
      rw [List.drop_length, sizeG] at hsz
      have HS := Lib.hid (And.intro hsz hB)
      clear hsz hB hr
      go_wp2
      refine bodyPost_ret (results_tmp3 rfl _ _ _) rfl ?_
      exact ⟨by rw [← HS.out.1]; rfl, HS.out.2⟩
end Go.Proofs.YtjccoiephdopkaaDoor
