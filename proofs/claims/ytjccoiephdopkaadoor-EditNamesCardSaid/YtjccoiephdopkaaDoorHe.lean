/- Stage 27: Sizes of the document. -/
import Derived.Test.YtjccoiephdopkaaDoorHd
namespace Go.Proofs.YtjccoiephdopkaaDoor
set_option linter.unusedVariables false
set_option linter.unusedSimpArgs false
open Go Go.RowKit Go.Shelf
set_option maxRecDepth 100000

def szD : Option (Nat × Nat) → Value
  | none => .tuple #[.int .i64 0, .int .i64 0, .bool false]
  | some (f, t) => .tuple #[.int .i64 f, .int .i64 t, .bool true]
theorem kind_three (k : Int) (d p : ByteArray) : (kindN ⟨k, d, p⟩ = 0) ∨ (0 < k ∧ d = .empty ∧ p = .empty ∧ kindN ⟨k, d, p⟩ = 1) ∨ (k = 0 ∧ p = .empty ∧ d.size ≠ 0 ∧ kindN ⟨k, d, p⟩ = 2) ∨ (k = 0 ∧ d = .empty ∧ p.size ≠ 0 ∧ kindN ⟨k, d, p⟩ = 3) := by
  have ed : d.size = 0 → d = .empty := fun h => (emp_or d).resolve_right (fun hh => hh.1 h)
  have ep : p.size = 0 → p = .empty := fun h => (emp_or p).resolve_right (fun hh => hh.1 h)
  unfold kindN
  split
  · rename_i h; exact .inr (.inl ⟨h.1, ed h.2.1, ep h.2.2, rfl⟩)
  · split
    · rename_i h; exact .inr (.inr (.inl ⟨h.1, ep h.2.2, h.2.1, rfl⟩))
    · split
      · rename_i h; exact .inr (.inr (.inr ⟨h.1, ed h.2.1, h.2.2, rfl⟩))
      · exact .inl rfl
theorem emp_list : ByteArray.empty.toList = [] := by rw [ByteArray.toList_eq]; rfl
set_option maxHeartbeats 8000000 in
theorem sizesD_any (l : List Sp) (o : Option Addr) (c : Nat) (hn : l.length ≤ 9223372036854775807) (ho : OkS l) (w : World) (hr : RowAt w encS 3 o l) :
    Calls Tryd.prog 24 #[.slice o l.length c] w fun e w' => e = .returned (szD (sizeG l 0 0)) ∧ Below w.heap.size w w' := by
  go_enter Tryd.func24, Tryd.ntmps24
  go_wp2
  go_loopw [5, 6, 7] (fun a b i W => ∃ (f t k : Nat), a = .int .i64 f ∧ b = .int .i64 t ∧ i = .int .i64 k ∧ k ≤ l.length ∧ f ≤ 65536 ∧ t ≤ 65536 ∧ sizeG (l.drop k) f t = sizeG l 0 0 ∧ Below w.heap.size w W) (fun _ _ i _ => l.length - (intOf i).toNat)
  case atStart => exact ⟨0, 0, 0, rfl, rfl, rfl, by omega, by omega, by omega, rfl, Below.refl _ _⟩
  case round =>
    obtain ⟨f, t, k, rfl, rfl, rfl, hk, hf, ht, hsz, hB⟩ := hrel
    by_cases hlt : k < l.length
    · obtain ⟨x, hx⟩ : ∃ x, l[k]? = some x := ⟨_, List.getElem?_eq_getElem hlt⟩
      obtain ⟨g, off, rfl, hc⟩ := hr.below encS_len (by decide) hB k x hx
      obtain ⟨q0, q1, q2⟩ := get3 (l := l) hc
      obtain ⟨x1, x2, x3, x4⟩ := ho x (List.mem_of_getElem? hx)
      have hd : l.drop k = x :: l.drop (k + 1) := (List.drop_eq_getElem_cons hlt).trans (by rw [(List.getElem?_eq_some_iff.1 hx).2])
      rw [hd, sizeG] at hsz
      obtain ⟨kk, d, p⟩ := x
      simp only at x1 x2 x3 x4 q0 q1 q2
      have hb := (Below.refl wr.heap.size wr).alloc (Nat.le_refl _) (.cells #[.int .i64 kk, .string d, .string p] 71)
      have HS := Lib.hid (And.intro hsz (hB.trans (hb.mono hB.size)))
      have hkl : (k : Int) < (l.length : Int) := by omega
      have j5 : IntKind.i64.wrap ((k : Int) + 1) = ((k + 1 : Nat) : Int) := by rw [IntWalk.i64_in _ (by omega)]; omega
      clear hsz hB hx hc hd hr hb
      by_cases hq : kindN ⟨kk, d, p⟩ = 0
      · have HQ := Lib.hid hq
        unfold kindN at hq
        rcases Int.lt_trichotomy kk 0 with h0 | h0 | h0
        all_goals (rcases emp_or d with rfl | ⟨d0, d1, d2, d3⟩)
        all_goals (rcases emp_or p with rfl | ⟨p0, p1, p2, p3⟩)
        all_goals (first
          | (exfalso; subst h0; simp_all; done)
          | (exfalso; have h9 := hq; simp_all; done)
          | (clear hq
             first
             | subst h0
             | (have k1 : ¬ 0 < kk := by omega
                have k2 : (kk == 0) = false := by rw [beq_eq_false_iff_ne]; omega
                have k3 : ¬ kk = 0 := by omega)
             | (have k2 : (kk == 0) = false := by rw [beq_eq_false_iff_ne]; omega
                have k3 : ¬ kk = 0 := by omega)
             go_wp2
             refine bodyPost_ret (results_tmp3 rfl _ _ _) rfl ?_
             refine ⟨?_, HS.out.2⟩
             rw [← HS.out.1, if_pos (Or.inl HQ.out)]
             rfl))
      · have HQ := Lib.hid hq
        have hk3 := kind_three kk d p
        have hkp := kind_pos hq
        simp only at hkp
        clear hq
        obtain ⟨kn, rfl⟩ : ∃ kn : Nat, kk = kn := ⟨kk.toNat, by omega⟩
        rcases hk3 with h | ⟨h0, hd, hp, _⟩ | ⟨h0, hp, hd, _⟩ | ⟨h0, hd, hp, _⟩
        · exact absurd h HQ.out
        · have a1 : decide ((0 : Int) < (kn : Int)) = true := decide_eq_true h0
          have a2 : decide (0 < kn) = true := decide_eq_true (by omega)
          have a3 : ((kn : Int) == 0) = false := by rw [beq_eq_false_iff_ne]; omega
          have a4 : (kn == 0) = false := by rw [beq_eq_false_iff_ne]; omega
          have a5 : ¬ kn = 0 := by omega
          have d1 : (d.toList == []) = true := by rw [hd, emp_list]; rfl
          have d2 : d.toList.isEmpty = true := by rw [hd, emp_list]; rfl
          have p1 : (p.toList == []) = true := by rw [hp, emp_list]; rfl
          have p2 : p.toList.isEmpty = true := by rw [hp, emp_list]; rfl
          clear h0 hd hp hkp
          by_cases h6 : 65536 < kn
          · have e3 : decide ((65536 : Int) < (kn : Int)) = true := decide_eq_true (by omega)
            have e3' : decide (65536 < kn) = true := decide_eq_true (by omega)
            go_wp2
            refine bodyPost_ret (results_tmp3 rfl _ _ _) rfl ?_
            refine ⟨?_, HS.out.2⟩
            rw [← HS.out.1, if_pos (Or.inr (by show (65536 : Int) < (kn : Int); omega))]
            rfl
          · have e3 : decide ((65536 : Int) < (kn : Int)) = false := decide_eq_false (by omega)
            have e3' : decide (65536 < kn) = false := decide_eq_false (by omega)
            obtain ⟨D, hD⟩ : ∃ D, f + kn = D := ⟨_, rfl⟩
            obtain ⟨F, hF⟩ : ∃ F, f + kn + d.size = F := ⟨_, rfl⟩
            obtain ⟨E, hE⟩ : ∃ E, t + kn = E := ⟨_, rfl⟩
            obtain ⟨T, hT⟩ : ∃ T, t + kn + p.size = T := ⟨_, rfl⟩
            have j1 : IntKind.i64.wrap ((f : Int) + (kn : Int)) = (D : Int) := by rw [IntWalk.i64_in _ (by omega)]; omega
            have j2 : IntKind.i64.wrap ((D : Int) + (d.size : Int)) = (F : Int) := by rw [IntWalk.i64_in _ (by omega)]; omega
            have j3 : IntKind.i64.wrap ((t : Int) + (kn : Int)) = (E : Int) := by rw [IntWalk.i64_in _ (by omega)]; omega
            have j4 : IntKind.i64.wrap ((E : Int) + (p.size : Int)) = (T : Int) := by rw [IntWalk.i64_in _ (by omega)]; omega
            have hS1 := HS.out.1
            rw [if_neg (by intro h; rcases h with h | h; exact HQ.out h; exact absurd h (by show ¬ (65536 : Int) < (kn : Int); omega))] at hS1
            simp only [Int.toNat_natCast, hF, hT] at hS1
            have HS3 := Lib.hid hS1
            clear hS1 hD hF hE hT x1 x2 x3 x4
            by_cases hF6 : 65536 < F
            · have e4 : decide ((65536 : Int) < (F : Int)) = true := decide_eq_true (by omega)
              go_wp2
              refine bodyPost_ret (results_tmp3 rfl _ _ _) rfl ?_
              refine ⟨?_, HS.out.2⟩
              rw [← HS3.out, if_pos (Or.inl hF6)]
              rfl
            · have e4 : decide ((65536 : Int) < (F : Int)) = false := decide_eq_false (by omega)
              by_cases hT6 : 65536 < T
              · have e5 : decide ((65536 : Int) < (T : Int)) = true := decide_eq_true (by omega)
                go_wp2
                refine bodyPost_ret (results_tmp3 rfl _ _ _) rfl ?_
                refine ⟨?_, HS.out.2⟩
                rw [← HS3.out, if_pos (Or.inr hT6)]
                rfl
              · have e5 : decide ((65536 : Int) < (T : Int)) = false := decide_eq_false (by omega)
                have HFT : Hid (sizeG (l.drop (k + 1)) F T = sizeG l 0 0) := Lib.hid (by rw [← HS3.out, if_neg (by omega)])
                go_wp2
                go_roundw
                case rel => exact ⟨F, T, k + 1, rfl, rfl, by go_num, by omega, by omega, by omega, HFT.out, HS.out.2⟩
                case measure => simp [intOf] <;> omega
        · have a1 : decide ((0 : Int) < (kn : Int)) = false := decide_eq_false (by omega)
          have a2 : decide (0 < kn) = false := decide_eq_false (by omega)
          have a3 : ((kn : Int) == 0) = true := by rw [beq_iff_eq]; omega
          have a4 : (kn == 0) = true := by rw [beq_iff_eq]; omega
          have d0 := (emp_or d).resolve_left (fun e => hd (by rw [e]; rfl))
          obtain ⟨_, d1, d2, d3⟩ := d0
          have p1 : (p.toList == []) = true := by rw [hp, emp_list]; rfl
          have p2 : p.toList.isEmpty = true := by rw [hp, emp_list]; rfl
          clear h0 hd hp hkp
          by_cases h6 : 65536 < kn
          · have e3 : decide ((65536 : Int) < (kn : Int)) = true := decide_eq_true (by omega)
            have e3' : decide (65536 < kn) = true := decide_eq_true (by omega)
            go_wp2
            refine bodyPost_ret (results_tmp3 rfl _ _ _) rfl ?_
            refine ⟨?_, HS.out.2⟩
            rw [← HS.out.1, if_pos (Or.inr (by show (65536 : Int) < (kn : Int); omega))]
            rfl
          · have e3 : decide ((65536 : Int) < (kn : Int)) = false := decide_eq_false (by omega)
            have e3' : decide (65536 < kn) = false := decide_eq_false (by omega)
            obtain ⟨D, hD⟩ : ∃ D, f + kn = D := ⟨_, rfl⟩
            obtain ⟨F, hF⟩ : ∃ F, f + kn + d.size = F := ⟨_, rfl⟩
            obtain ⟨E, hE⟩ : ∃ E, t + kn = E := ⟨_, rfl⟩
            obtain ⟨T, hT⟩ : ∃ T, t + kn + p.size = T := ⟨_, rfl⟩
            have j1 : IntKind.i64.wrap ((f : Int) + (kn : Int)) = (D : Int) := by rw [IntWalk.i64_in _ (by omega)]; omega
            have j2 : IntKind.i64.wrap ((D : Int) + (d.size : Int)) = (F : Int) := by rw [IntWalk.i64_in _ (by omega)]; omega
            have j3 : IntKind.i64.wrap ((t : Int) + (kn : Int)) = (E : Int) := by rw [IntWalk.i64_in _ (by omega)]; omega
            have j4 : IntKind.i64.wrap ((E : Int) + (p.size : Int)) = (T : Int) := by rw [IntWalk.i64_in _ (by omega)]; omega
            have hS1 := HS.out.1
            rw [if_neg (by intro h; rcases h with h | h; exact HQ.out h; exact absurd h (by show ¬ (65536 : Int) < (kn : Int); omega))] at hS1
            simp only [Int.toNat_natCast, hF, hT] at hS1
            have HS3 := Lib.hid hS1
            clear hS1 hD hF hE hT x1 x2 x3 x4
            by_cases hF6 : 65536 < F
            · have e4 : decide ((65536 : Int) < (F : Int)) = true := decide_eq_true (by omega)
              go_wp2
              refine bodyPost_ret (results_tmp3 rfl _ _ _) rfl ?_
              refine ⟨?_, HS.out.2⟩
              rw [← HS3.out, if_pos (Or.inl hF6)]
              rfl
            · have e4 : decide ((65536 : Int) < (F : Int)) = false := decide_eq_false (by omega)
              by_cases hT6 : 65536 < T
              · have e5 : decide ((65536 : Int) < (T : Int)) = true := decide_eq_true (by omega)
                go_wp2
                refine bodyPost_ret (results_tmp3 rfl _ _ _) rfl ?_
                refine ⟨?_, HS.out.2⟩
                rw [← HS3.out, if_pos (Or.inr hT6)]
                rfl
              · have e5 : decide ((65536 : Int) < (T : Int)) = false := decide_eq_false (by omega)
                have HFT : Hid (sizeG (l.drop (k + 1)) F T = sizeG l 0 0) := Lib.hid (by rw [← HS3.out, if_neg (by omega)])
                go_wp2
                go_roundw
                case rel => exact ⟨F, T, k + 1, rfl, rfl, by go_num, by omega, by omega, by omega, HFT.out, HS.out.2⟩
                case measure => simp [intOf] <;> omega
        · have a1 : decide ((0 : Int) < (kn : Int)) = false := decide_eq_false (by omega)
          have a2 : decide (0 < kn) = false := decide_eq_false (by omega)
          have a3 : ((kn : Int) == 0) = true := by rw [beq_iff_eq]; omega
          have a4 : (kn == 0) = true := by rw [beq_iff_eq]; omega
          have p0 := (emp_or p).resolve_left (fun e => hp (by rw [e]; rfl))
          obtain ⟨_, p1, p2, p3⟩ := p0
          have d1 : (d.toList == []) = true := by rw [hd, emp_list]; rfl
          have d2 : d.toList.isEmpty = true := by rw [hd, emp_list]; rfl
          clear h0 hd hp hkp
          by_cases h6 : 65536 < kn
          · have e3 : decide ((65536 : Int) < (kn : Int)) = true := decide_eq_true (by omega)
            have e3' : decide (65536 < kn) = true := decide_eq_true (by omega)
            go_wp2
            refine bodyPost_ret (results_tmp3 rfl _ _ _) rfl ?_
            refine ⟨?_, HS.out.2⟩
            rw [← HS.out.1, if_pos (Or.inr (by show (65536 : Int) < (kn : Int); omega))]
            rfl
          · have e3 : decide ((65536 : Int) < (kn : Int)) = false := decide_eq_false (by omega)
            have e3' : decide (65536 < kn) = false := decide_eq_false (by omega)
            obtain ⟨D, hD⟩ : ∃ D, f + kn = D := ⟨_, rfl⟩
            obtain ⟨F, hF⟩ : ∃ F, f + kn + d.size = F := ⟨_, rfl⟩
            obtain ⟨E, hE⟩ : ∃ E, t + kn = E := ⟨_, rfl⟩
            obtain ⟨T, hT⟩ : ∃ T, t + kn + p.size = T := ⟨_, rfl⟩
            have j1 : IntKind.i64.wrap ((f : Int) + (kn : Int)) = (D : Int) := by rw [IntWalk.i64_in _ (by omega)]; omega
            have j2 : IntKind.i64.wrap ((D : Int) + (d.size : Int)) = (F : Int) := by rw [IntWalk.i64_in _ (by omega)]; omega
            have j3 : IntKind.i64.wrap ((t : Int) + (kn : Int)) = (E : Int) := by rw [IntWalk.i64_in _ (by omega)]; omega
            have j4 : IntKind.i64.wrap ((E : Int) + (p.size : Int)) = (T : Int) := by rw [IntWalk.i64_in _ (by omega)]; omega
            have hS1 := HS.out.1
            rw [if_neg (by intro h; rcases h with h | h; exact HQ.out h; exact absurd h (by show ¬ (65536 : Int) < (kn : Int); omega))] at hS1
            simp only [Int.toNat_natCast, hF, hT] at hS1
            have HS3 := Lib.hid hS1
            clear hS1 hD hF hE hT x1 x2 x3 x4
            by_cases hF6 : 65536 < F
            · have e4 : decide ((65536 : Int) < (F : Int)) = true := decide_eq_true (by omega)
              go_wp2
              refine bodyPost_ret (results_tmp3 rfl _ _ _) rfl ?_
              refine ⟨?_, HS.out.2⟩
              rw [← HS3.out, if_pos (Or.inl hF6)]
              rfl
            · have e4 : decide ((65536 : Int) < (F : Int)) = false := decide_eq_false (by omega)
              by_cases hT6 : 65536 < T
              · have e5 : decide ((65536 : Int) < (T : Int)) = true := decide_eq_true (by omega)
                go_wp2
                refine bodyPost_ret (results_tmp3 rfl _ _ _) rfl ?_
                refine ⟨?_, HS.out.2⟩
                rw [← HS3.out, if_pos (Or.inr hT6)]
                rfl
              · have e5 : decide ((65536 : Int) < (T : Int)) = false := decide_eq_false (by omega)
                have HFT : Hid (sizeG (l.drop (k + 1)) F T = sizeG l 0 0) := Lib.hid (by rw [← HS3.out, if_neg (by omega)])
                go_wp2
                go_roundw
                case rel => exact ⟨F, T, k + 1, rfl, rfl, by go_num, by omega, by omega, by omega, HFT.out, HS.out.2⟩
                case measure => simp [intOf] <;> omega
    · obtain rfl : k = l.length := by omega
      rw [List.drop_length, sizeG] at hsz
      have HS := Lib.hid (And.intro hsz hB)
      clear hsz hB hr
      go_wp2
      refine bodyPost_ret (results_tmp3 rfl _ _ _) rfl ?_
      exact ⟨by rw [← HS.out.1]; rfl, HS.out.2⟩
end Go.Proofs.YtjccoiephdopkaaDoor
