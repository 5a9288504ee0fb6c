/- Stage 16: texts and stayed, the law's own. -/
import Derived.Test.YtdcmkiggnmajgaaYa
import Derived.Test.YtdcmkiggnmajgaaXb
import Derived.Test.YtdcmkiggnmajgaaV8
namespace Go.Proofs.Ytdcmkiggnmajgaa
set_option linter.unusedVariables false
set_option linter.unusedSimpArgs false
open Go Go.RowKit Go.Shelf
set_option maxRecDepth 100000

def tl : ByteArray := ⟨#[126]⟩
theorem infoStr : (Try.prog.info? 9).map (fun i => (i.zero, i.size, i.bytes)) = some (some (.string ⟨#[]⟩), 1, 16) := by kernel_rfl
theorem encT_one (l : List ByteArray) : ∀ u ∈ l.flatMap encT, u.oneCell' = true := by
  intro u hu
  rw [List.mem_flatMap] at hu
  obtain ⟨x, _, hx⟩ := hu
  simp [encT] at hx
  subst hx
  rfl
/-- The texts with something behind them. -/
def fullT (ks : List ByteArray) (k : Nat) : List ByteArray := ks ++ List.replicate k tl
theorem fullT_next (ks : List ByteArray) (k : Nat) : (fullT ks (k + 1)).flatMap encT = (fullT ks k).flatMap encT ++ [.string ⟨#[126]⟩] := by
  unfold fullT
  rw [List.replicate_succ', ← List.append_assoc, List.flatMap_append]
  rfl

set_option maxHeartbeats 4000000 in
theorem texts_any (ks : List ByteArray) (o : Option Addr) (c : Nat) (hfk : NForm o ks.length c) (hn : ks.length ≤ 8796093021952) (w : World) (hk : RowAt w encT 1 o ks) :
    Calls Try.prog 36 #[.slice o ks.length c] w fun e w' => ∃ v, e = .returned v ∧ w'.ownsRow w.heap.size 9 1 v (ks.length + 20) ((fullT ks 20).flatMap encT) ∧ Below w.heap.size w w' := by
  obtain ⟨i0, hi, hz0, hz1, hz2⟩ := info_parts infoStr
  have s1 : IntKind.i64.wrap ((ks.length : Int) + 20) = ((ks.length + 20 : Nat) : Int) := IntWalk.i64_in _ (by omega)
  have HK := Lib.hid (And.intro hk hfk)
  clear hk hfk
  go_enter Try.func36, Try.ntmps36
  go_wp2_with (first
    | (at_make; refine wpList_plain rfl fun K' hK' => ?_; refine opwp_make 56 _ _ rfl w.heap.size 9 i0 (.string ⟨#[]⟩) 1 Try.underlying56 hi hz0 hz1 (ks.length + 20) rfl rfl (by rw [hz2]; omega) (by unfold maxLen; omega) (Nat.le_refl _) ?_; intro w1 hown1 hg1; refine hK' _ _ ?_; (have hB1 := (Below.refl w.heap.size w).grown hg1 (Nat.le_refl _) (fun r e => by cases e)); (have H1 := Lib.hid (And.intro hown1 hB1)); clear hown1 hB1 hg1)
    | (at_builtin; refine wpList_plain rfl fun K' hK' => ?_; refine opwp_append_src encT_len _ _ 56 rfl w.heap.size 9 i0 (.string ⟨#[]⟩) 16 Try.underlying56 hi hz0 hz1 hz2 rfl (by decide) _ _ _ rfl H1.out.1 ks o c HK.out.2 (HK.out.1.below encT_len (by decide) H1.out.2) (encT_one _) rfl (by unfold maxLen; omega) (by omega) H1.out.2.size ?_; intro v2 w2 hown2 hg2; refine hK' _ _ ?_; obtain ⟨o2, c2, rfl, _⟩ := own_slice hown2; (have hB2 := H1.out.2.grown hg2 H1.out.2.size (fun r e => (H1.out.1.lt r e).1)); (have H2 := Lib.hid (And.intro hown2 hB2)); clear hown2 hB2 hg2))
  go_loopw [3, 4] (fun v i X => ∃ k : Nat, i = .int .i64 k ∧ k ≤ 20 ∧ X.ownsRow w.heap.size 9 1 v (ks.length + k) ((fullT ks k).flatMap encT) ∧ Below w.heap.size w X) (fun _ i _ => 20 - (intOf i).toNat)
  case atStart =>
    refine ⟨0, rfl, by omega, ?_, H2.out.2⟩
    have h := H2.out.1
    simpa [fullT] using h
  case round =>
    obtain ⟨k, rfl, hk, hO, hB⟩ := hrel
    obtain ⟨ov, cv, rfl, _⟩ := own_slice hO
    by_cases hlt : k < 20
    · have HO := Lib.hid (And.intro (hO.alloc (.cells #[.string ⟨#[126]⟩] 9)) (And.intro (hB.alloc hB.size (.cells #[.string ⟨#[126]⟩] 9)) (cell_one_new wr (.string ⟨#[126]⟩) 9)))
      clear hO hB
      go_wp2_with (at_builtin; refine wpList_append_own _ rfl _ _ 56 rfl w.heap.size 9 i0 (.string ⟨#[]⟩) 1 16 Try.underlying56 hi hz0 hz1 hz2 rfl (by decide) _ _ _ rfl HO.out.1 ⟨wr.heap.size, 0, none⟩ 1 1 [.string ⟨#[126]⟩] rfl rfl HO.out.2.2 (fun x hx => by simp at hx; subst hx; rfl) (by unfold maxLen; omega) (by omega) HO.out.2.1.size ?_; intro v3 w3 hown3 hg3 _; obtain ⟨o3, c3, rfl, _⟩ := own_slice hown3; (have hB3 := HO.out.2.1.grown hg3 HO.out.2.1.size (fun r e => (HO.out.1.lt r e).1)); (have H3 := Lib.hid (And.intro hown3 hB3)); clear hown3 hB3 hg3)
      go_roundw
      case rel => exact ⟨k + 1, by go_num, by omega, by rw [fullT_next]; exact H3.out.1, H3.out.2⟩
      case measure => simp [intOf]; omega
    · obtain rfl : k = 20 := by omega
      have HO := Lib.hid (And.intro hO hB)
      clear hO hB
      go_wp2
      go_ret
      exact ⟨_, rfl, HO.out.1, HO.out.2⟩

set_option maxHeartbeats 4000000 in
theorem stayed_any (ks : List ByteArray) (o o' : Option Addr) (c c' : Nat) (hn : ks.length ≤ 8796093021952) (w : World) (hf : RowAt w encT 1 o (fullT ks 20)) (hk : RowAt w encT 1 o' ks) :
    Calls Try.prog 39 #[.slice o (ks.length + 20) c, .slice o' ks.length c'] w fun e w' => e = .returned (.bool true) ∧ Below w.heap.size w w' := by
  have HR := Lib.hid (And.intro hf hk)
  clear hf hk
  go_enter Try.func39, Try.ntmps39
  go_wp2
  go_loopw [8] (fun i X => ∃ k : Nat, i = .int .i64 k ∧ k ≤ ks.length + 20 ∧ Below w.heap.size w X) (fun i _ => ks.length + 20 - (intOf i).toNat)
  case atStart => exact ⟨0, rfl, by omega, Below.refl _ _⟩
  case round =>
    obtain ⟨k, rfl, hk, hB⟩ := hrel
    by_cases hlt : k < ks.length + 20
    · have hfl : (fullT ks 20).length = ks.length + 20 := by simp [fullT]
      obtain ⟨x, hx⟩ : ∃ x, (fullT ks 20)[k]? = some x := ⟨_, List.getElem?_eq_getElem (by omega)⟩
      obtain ⟨g, off, rfl, hc⟩ := (HR.out.1.below encT_len (by decide) hB) k x hx
      have q0 := hc 0 (by decide)
      simp only [encT, List.getElem?_cons_zero, Nat.add_zero, Nat.mul_one] at q0
      have hkN : (k : Int) < (ks.length : Int) + 20 := by omega
      have hkN2 : (k : Int) < ((ks.length + 20 : Nat) : Int) := by omega
      by_cases hkn : k < ks.length
      · have hx2 : ks[k]? = some x := by unfold fullT at hx; rw [List.getElem?_append_left hkn] at hx; exact hx
        obtain ⟨g2, off2, rfl, hc2⟩ := (HR.out.2.below encT_len (by decide) hB) k x hx2
        have q1 := hc2 0 (by decide)
        simp only [encT, List.getElem?_cons_zero, Nat.add_zero, Nat.mul_one] at q1
        have d1 : decide ((k : Int) < (ks.length : Int)) = true := decide_eq_true (by omega)
        have d2 : decide ((ks.length : Int) ≤ (k : Int)) = false := decide_eq_false (by omega)
        have d3 : decide (ks.length ≤ k) = false := decide_eq_false (by omega)
        have hkI : (k : Int) < (ks.length : Int) := by omega
        have t1 : (x.toList == x.toList) = true := by simp
        have HB := Lib.hid hB
        clear hc hc2 hB hx hx2 hfl
        go_wp2
        go_quiet (fail)
        go_wp2
        go_roundw
        case rel => exact ⟨k + 1, by go_num, by omega, HB.out.trans ((below_drewN _ _).mono HB.out.size)⟩
        case measure => simp [intOf]; omega
      · have hx2 : x = tl := by
          unfold fullT at hx
          rw [List.getElem?_append_right (by omega), List.getElem?_replicate] at hx
          rw [if_pos (by omega)] at hx
          cases hx; rfl
        subst hx2
        have d1 : decide ((k : Int) < (ks.length : Int)) = false := decide_eq_false (by omega)
        have d2 : decide ((ks.length : Int) ≤ (k : Int)) = true := decide_eq_true (by omega)
        have d3 : decide (ks.length ≤ k) = true := decide_eq_true (by omega)
        have t1 : (tl.toList == [126]) = true := by kernel_rfl
        have t2 : (tl.toList == (⟨#[126]⟩ : ByteArray).toList) = true := by kernel_rfl
        have HB := Lib.hid hB
        clear hc hB hx hfl
        go_wp2
        go_quiet (fail)
        go_wp2
        go_roundw
        case rel => exact ⟨k + 1, by go_num, by omega, HB.out.trans ((below_drewN _ _).mono HB.out.size)⟩
        case measure => simp [intOf]; omega
    · have HB := Lib.hid hB
      have d1 : decide ((k : Int) < ((ks.length + 20 : Nat) : Int)) = false := decide_eq_false (by omega)
      obtain rfl : k = ks.length + 20 := by omega
      clear hB
      go_wp2
      go_ret
      exact ⟨rfl, HB.out⟩
end Go.Proofs.Ytdcmkiggnmajgaa
