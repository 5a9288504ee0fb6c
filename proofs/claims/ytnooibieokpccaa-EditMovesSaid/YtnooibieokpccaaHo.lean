/- Stage 27: the document's Move, out of what its Say says. -/
import Derived.Test.YtnooibieokpccaaHn
import Derived.Test.YtnooibieokpccaaHe
namespace Go.Proofs.Ytnooibieokpccaa
set_option linter.unusedVariables false
set_option linter.unusedSimpArgs false
open Go Go.RowKit Go.Shelf
set_option maxRecDepth 100000

theorem sD_le (Ps : List ByteArray) (Ds : List Bool) (a : Nat) (bh : Bool) (p : Nat) : ∀ d, sD Ps Ds a bh p ≤ sD Ps Ds a bh (p + d)
  | 0 => Nat.le_refl _
  | d + 1 => Nat.le_trans (sD_le Ps Ds a bh p d) (by rw [← Nat.add_assoc, sD]; omega)
theorem mv_le : ∀ (l : List Sp) (f t F T a : Nat) (bh : Bool) (v : Mv), sizeG l f t = some (F, T) → (l.foldl (mvG a bh) v).n + t ≤ v.n + T
  | [], f, t, F, T, a, bh, v, h => by
    simp only [sizeG, Option.some.injEq, Prod.mk.injEq] at h
    obtain ⟨rfl, rfl⟩ := h
    simp
  | x :: l, f, t, F, T, a, bh, v, h => by
    unfold sizeG at h
    split at h
    · cases h
    · split at h
      · cases h
      · have ih := mv_le l _ _ F T a bh (mvG a bh v x) h
        rw [List.foldl_cons]
        have : (mvG a bh v x).n ≤ v.n + x.p.size + x.k.toNat := by
          simp only [mvG]
          unfold cnt
          split <;> omega
        omega
def encP (s : ByteArray) : List Value := [.string s]
def encO (b : Bool) : List Value := [.bool b]
theorem encP_len (s : ByteArray) : (encP s).length = 1 := rfl
theorem encO_len (b : Bool) : (encO b).length = 1 := rfl
/-- What Say hands back. -/
def SayR (l : List Sp) (F : Nat) (w : World) (e : Ending) (w' : World) : Prop :=
  ∃ (Ps : List ByteArray) (Ds : List Bool) (vP vD vB : Value) (gp : Nat), e = .returned (.agg #[vP, vD, vB]) ∧ w'.ownsRow w.heap.size 9 1 vP (F + 1) (Ps.flatMap encP) ∧ w'.ownsRow w.heap.size 4 1 vD F (Ds.flatMap encO) ∧ (∃ n c o, vB = .slice o n c) ∧
    SayP F Ps Ds F gp (fun a bh => (l.foldl (mvG a bh) ⟨0, 0, 0⟩).n) ∧ Below w.heap.size w w'
set_option maxHeartbeats 4000000 in
theorem moveD_of (l : List Sp) (o : Option Addr) (c F T a : Nat) (bh : Bool) (hok : sizeG l 0 0 = some (F, T)) (ha : a ≤ F) (w : World)
    (hS : ∀ W, Below w.heap.size w W → Calls Try.prog 12 #[.slice o l.length c] W (SayR l F W)) :
    Calls Try.prog 8 #[.slice o l.length c, .int .i64 a, .bool bh] w fun e w' => e = .returned (.int .i64 (l.foldl (mvG a bh) ⟨0, 0, 0⟩).n) ∧ Below w.heap.size w w' := by
  go_enter Try.func8, Try.ntmps8
  go_wp2_with (fail)
  refine (hS _ (Below.refl _ _)).mono ?_
  rintro e W ⟨Ps, Ds, vP, vD, vB, gp, rfl, hP, hD, ⟨nB, cB, oB, rfl⟩, hq, hB⟩
  obtain ⟨oP, cP, rfl, hoP⟩ := own_slice hP
  obtain ⟨oD, cD, rfl, hoD⟩ := own_slice hD
  have n := Blk.new W #[.slice oP (F + 1) cP, .slice oD F cD, .slice oB nB cB] 46
  have hb := (Below.refl W.heap.size W).alloc (Nat.le_refl _) (.cells #[.slice oP (F + 1) cP, .slice oD F cD, .slice oB nB cB] 46)
  have hP' := own_below hP hb
  have hD' := own_below hD hb
  have hBn := hB.trans (hb.mono hB.size)
  obtain ⟨V, hV⟩ : ∃ V, W.alloc (.cells #[.slice oP (F + 1) cP, .slice oD F cD, .slice oB nB cB] 46) = V := ⟨_, rfl⟩
  obtain ⟨B, hBs⟩ : ∃ B, W.heap.size = B := ⟨_, rfl⟩
  rw [hV] at n hP' hD' hBn
  rw [hBs] at n
  have HW := Lib.hid (And.intro hV hBs)
  have HP := Lib.hid (And.intro hP' (And.intro hD' (And.intro hq hBn)))
  have m0 : V.cell? ⟨B, 0, none⟩ = some (.slice oP (F + 1) cP) := n.cell 0
  have m1 : V.cell? ⟨B, 1, none⟩ = some (.slice oD F cD) := n.cell 1
  clear hP hD hq hB n hb hP' hD' hBn hV hBs
  go_wp2_with (fail)
  rw [HW.out.1, HW.out.2]
  have hT6 := (sizeG_ok l 0 0 F T hok (by omega) (by omega)).2.2.1
  have hF6 := (sizeG_ok l 0 0 F T hok (by omega) (by omega)).2.1
  have hsm := HP.out.2.2.1.sm a bh ha
  have hle := mv_le l 0 0 F T a bh ⟨0, 0, 0⟩ hok
  have hS6 : ∀ k, k ≤ a + 1 → sD Ps Ds a bh k ≤ 65536 := fun k hk => by
    have h1 := sD_le Ps Ds a bh k (a + 1 - k)
    rw [show k + (a + 1 - k) = a + 1 from by omega, hsm] at h1
    simp only at hle
    omega
  have HM := Lib.hid hsm
  clear hsm hle hok hS
  go_loopw [8, 9] (fun n p X => ∃ k : Nat, p = .int .i64 k ∧ k ≤ a + 1 ∧ n = .int .i64 (sD Ps Ds a bh k) ∧ Below V.heap.size V X) (fun _ p _ => a + 1 - (intOf p).toNat)
  case atStart => exact ⟨0, rfl, by omega, rfl, Below.refl _ _⟩
  case round =>
    obtain ⟨k, rfl, hk, rfl, hX⟩ := hrel
    by_cases hka : k ≤ a
    · obtain ⟨x, hx⟩ : ∃ x, Ps[k]? = some x := ⟨_, List.getElem?_eq_getElem (by rw [HP.out.2.2.1.lP]; omega)⟩
      obtain ⟨gP, offP, hoo, hcP⟩ := (RowAt.of_own encP_len HP.out.1 HP.out.2.2.1.lP).below encP_len (by decide) hX k x hx
      have q0 := hcP 0 (by decide)
      simp only [encP, List.getElem?_cons_zero, Nat.add_zero, Nat.mul_one] at q0
      subst hoo
      have z0 := at_below m0 hX
      have z1 := at_below m1 hX
      have hk1 := hS6 (k + 1) (by omega)
      have hkF : k < F + 1 := by omega
      have j5 : IntKind.i64.wrap ((k : Int) + 1) = ((k + 1 : Nat) : Int) := by rw [IntWalk.i64_in _ (by omega)]; omega
      have l1 : decide ((k : Int) ≤ (a : Int)) = true := decide_eq_true (by omega)
      have hsd : sD Ps Ds a bh (k + 1) = sD Ps Ds a bh k + (if k < a ∨ bh = true then x.size else 0) + (if k < a ∧ Ds[k]?.getD false = false then 1 else 0) := by rw [sD, hx]; rfl
      obtain ⟨S, hS⟩ : ∃ S, sD Ps Ds a bh k = S := ⟨_, rfl⟩
      rw [hS] at hsd ⊢
      by_cases hlt : k < a
      · have l2 : decide ((k : Int) < (a : Int)) = true := decide_eq_true (by omega)
        obtain ⟨d, hd⟩ : ∃ d, Ds[k]? = some d := ⟨_, List.getElem?_eq_getElem (by rw [HP.out.2.2.1.lD]; omega)⟩
        obtain ⟨gD, offD, hoo, hcD⟩ := (RowAt.of_own encO_len HP.out.2.1 HP.out.2.2.1.lD).below encO_len (by decide) hX k d hd
        have q1 := hcD 0 (by decide)
        simp only [encO, List.getElem?_cons_zero, Nat.add_zero, Nat.mul_one] at q1
        subst hoo
        have hkF2 : k < F := by omega
        rw [if_pos (Or.inl hlt), hd] at hsd
        obtain ⟨S1, hS1⟩ : ∃ S1, S + x.size = S1 := ⟨_, rfl⟩
        rw [hS1] at hsd
        have j6 : IntKind.i64.wrap ((S : Int) + (x.size : Int)) = (S1 : Int) := by rw [IntWalk.i64_in _ (by omega)]; omega
        cases d with
        | true =>
          rw [if_neg (by rintro ⟨_, h⟩; cases h)] at hsd
          have HS := Lib.hid (And.intro hsd hX)
          clear hsd hX hcP hcD hx hd hS hS1 hk1
          go_wp2
          go_roundw
          case rel => exact ⟨k + 1, by go_num, by omega, by rw [HS.out.1]; rfl, HS.out.2⟩
          case measure => simp [intOf] <;> omega
        | false =>
          rw [if_pos ⟨hlt, rfl⟩] at hsd
          have j7 : IntKind.i64.wrap ((S1 : Int) + 1) = ((S1 + 1 : Nat) : Int) := by rw [IntWalk.i64_in _ (by omega)]; omega
          have HS := Lib.hid (And.intro hsd hX)
          clear hsd hX hcP hcD hx hd hS hS1 hk1
          go_wp2
          go_roundw
          case rel => exact ⟨k + 1, by go_num, by omega, by rw [HS.out.1]; go_num, HS.out.2⟩
          case measure => simp [intOf] <;> omega
      · have l2 : decide ((k : Int) < (a : Int)) = false := decide_eq_false (by omega)
        rw [if_neg (fun h : k < a ∧ _ => hlt h.1)] at hsd
        cases bh with
        | true =>
          rw [if_pos (Or.inr rfl)] at hsd
          obtain ⟨S1, hS1⟩ : ∃ S1, S + x.size = S1 := ⟨_, rfl⟩
          rw [hS1] at hsd
          have j6 : IntKind.i64.wrap ((S : Int) + (x.size : Int)) = (S1 : Int) := by rw [IntWalk.i64_in _ (by omega)]; omega
          have HS := Lib.hid (And.intro hsd hX)
          clear hsd hX hcP hx hS hS1 hk1
          go_wp2
          go_roundw
          case rel => exact ⟨k + 1, by go_num, by omega, by rw [HS.out.1]; rfl, HS.out.2⟩
          case measure => simp [intOf] <;> omega
        | false =>
          rw [if_neg (by rintro (h | h); exact hlt h; cases h)] at hsd
          have HS := Lib.hid (And.intro hsd hX)
          clear hsd hX hcP hx hS hk1
          go_wp2
          go_roundw
          case rel => exact ⟨k + 1, by go_num, by omega, by rw [HS.out.1]; rfl, HS.out.2⟩
          case measure => simp [intOf] <;> omega
    · have l1 : decide ((k : Int) ≤ (a : Int)) = false := decide_eq_false (by omega)
      obtain rfl : k = a + 1 := by omega
      have HS := Lib.hid hX
      clear hX
      go_wp2
      go_ret
      exact ⟨by rw [HM.out, Nat.sub_eq_zero_of_le ha, Nat.add_zero]; rfl, HP.out.2.2.2.trans (HS.out.mono HP.out.2.2.2.size)⟩
end Go.Proofs.Ytnooibieokpccaa
