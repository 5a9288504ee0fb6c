/- What alike, Common and Compare answer. -/
import Derived.Test.YtjccoiephdopkaaDoorQQCm
import Derived.Test.YtjccoiephdopkaaDoorQQWk
import Derived.Deep.RegionHeld3
import Derived.BigQuiet
import Derived.Deep.QuietTactic
namespace Go.Proofs.YtjccoiephdopkaaDoor.SQ
set_option linter.unusedVariables false
set_option linter.unusedSimpArgs false
open Go Go.RowKit
set_option maxRecDepth 100000

theorem field_piece1 (x0 x1 x2 : Int) (x3 : Bool) (w : World) : (Instr.field 120 (.agg #[.int .i64 x0, .int .i64 x1, .int .i32 x2, .bool x3]) 1).run Tryd.prog w = .ok (.int .i64 x1) w := by kernel_rfl

def AkPost (a b : ByteArray) (w : World) (e : Ending) (w' : World) : Prop :=
  ∃ p n : Nat, Lk a b p n ∧ St a b p ∧ e = .returned (.tuple #[.int .i64 p, .int .i64 n]) ∧ Below w.heap.size w w'
def AkRel (a b : ByteArray) (w : World) (v1 v2 : Value) (wr : World) : Prop :=
  ∃ p n : Nat, v1 = .int .i64 p ∧ v2 = .int .i64 n ∧ Lk a b p n ∧ Below w.heap.size w wr

set_option maxHeartbeats 4000000 in
theorem alike_any (a b : ByteArray) (ha : a.size ≤ 1048576) (hb : b.size ≤ 1048576) (w : World) :
    Calls Tryd.prog 71 #[.string a, .string b] w (AkPost a b w) := by
  have hfd := field_piece1
  go_enter Tryd.func71, Tryd.ntmps71
  go_wp2
  go_loopw [4, 5] (fun v1 v2 wr => AkRel a b w v1 v2 wr) (fun v1 _ _ => a.size - (intOf v1).toNat)
  case atStart => exact ⟨0, 0, rfl, rfl, lk_0 a b, Below.refl _ _⟩
  case round =>
    obtain ⟨p, n, rfl, rfl, hlk, hB⟩ := hrel
    have hn1 := (lk_lenA hlk).1
    have hn2 := posns_len a
    have HL := Lib.hid hlk
    have hpA := hlk.1
    have hpB := hlk.2.1
    clear hlk
    by_cases hpa : p < a.size
    · by_cases hpb : p < b.size
      · have cA := read_pcL a p hpa (by omega)
        have cB := read_pcL b p hpb (by omega)
        have hwA := wd_fits a p hpa
        have hwB := wd_fits b p hpb
        have hsame := same_iff a b p hpa hpb
        have hd1 := wd_pos a p
        have hd4 := wd_le a p
        have hnx := fun h => lk_next HL.out hpa hpb h
        obtain ⟨d, hd⟩ : ∃ d, wd a p = d := ⟨_, rfl⟩
        obtain ⟨d2, hd2⟩ : ∃ d, wd b p = d := ⟨_, rfl⟩
        rw [hd] at cA hwA hd1 hd4 hsame hnx
        rw [hd2] at cB hwB hsame
        clear hd
        by_cases hw : d = d2
        · subst hw
          clear hd2
          have f1 : IntKind.i64.wrap ((p : Int) + d) = (p : Int) + d := IntWalk.i64_in _ (by omega)
          have f2 : (0 : Int) ≤ (p : Int) := by omega
          have f3 : (p : Int) ≤ (p : Int) + d := by omega
          have f4 : (p : Int) + d ≤ (a.size : Int) := by omega
          have f5 : (p : Int) + d ≤ (b.size : Int) := by omega
          have f6 : ((p : Int) + d).toNat = p + d := by omega
          by_cases he : a.extract p (p + d) = b.extract p (p + d)
          · have hwt := hnx (hsame.1 ⟨rfl, he⟩)
            have hbe : ((a.extract p (p + d)).toList == (b.extract p (p + d)).toList) = true := by rw [he]; exact beq_self_eq_true _
            have HX := Lib.hid hwt
            clear hsame hwt he hnx
            go_wp2_with (first | (go_at_call 83; refine (cA _).mono ?_; rintro e w3 ⟨rfl, hb3⟩))
            go_region_held3 (fun w' => True) (trivial) (first | (go_at_call 83; refine (cB _).mono ?_; rintro e w4 ⟨rfl, hb4⟩))
            go_wp2
            go_roundw
            case rel => exact ⟨p + d, n + 1, by go_num, by go_num, HX.out, ((hB.trans (hb3.mono hB.size)).drew.trans (hb4.mono (Nat.le_trans hB.size hb3.size)))⟩
            case measure => simp [intOf]; omega
          · have hbe : ((a.extract p (p + d)).toList == (b.extract p (p + d)).toList) = false := by
              rw [beq_eq_false_iff_ne]; exact fun h => he (by apply ByteArray.ext; apply Array.ext'; simpa [ByteArray.toList_eq] using h)
            have hst : St a b p := fun h => he (hsame.2 h.2.2).2
            have HX := Lib.hid hst
            clear hsame hst he hnx
            go_wp2_with (first | (go_at_call 83; refine (cA _).mono ?_; rintro e w3 ⟨rfl, hb3⟩))
            go_region_held3 (fun w' => True) (trivial) (first | (go_at_call 83; refine (cB _).mono ?_; rintro e w4 ⟨rfl, hb4⟩))
            go_wp2
            refine bodyPost_ret (v := .tuple #[.int .i64 p, .int .i64 n]) (by simp [results, Tryd.f71, go_sem]) rfl ⟨p, n, HL.out, HX.out, rfl, ((hB.trans (hb3.mono hB.size)).drew.trans (hb4.mono (Nat.le_trans hB.size hb3.size)))⟩
        · have hst : St a b p := fun h => hw (hsame.2 h.2.2).1
          have HX := Lib.hid hst
          clear hsame hst hnx
          have hbn : ((d : Int) != (d2 : Int)) = true := by rw [bne_iff_ne]; omega
          clear hw hd2
          go_wp2_with (first | (go_at_call 83; refine (cA _).mono ?_; rintro e w3 ⟨rfl, hb3⟩))
          refine wp_region_held_drew (S := fun _ => True) (by kernel_rfl) trivial (fun hHeld => ?_)
          refine wpAnyH_take (i := 0) (v := .int .i64 d) rfl (by kernel_rfl) (by kernel_rfl) (by kernel_rfl) (fun _ _ _ h => h) (Or.inl ⟨by rfl, ?hy⟩) (by assumption) ?_
          case hy =>
            intro w hSw
            rfl
          try simp only [Act.put, List.getElem_toArray, List.getElem_cons_zero, List.getElem_cons_succ, List.setIfInBounds_toArray, List.set_cons_zero, List.set_cons_succ]
          refine wpAnyH_take (i := 1) (v := .string b) rfl (by kernel_rfl) (by kernel_rfl) (by kernel_rfl) (fun _ _ _ h => h) (Or.inl ⟨by rfl, ?hy⟩) (by assumption) ?_
          case hy =>
            intro w hSw
            rfl
          try simp only [Act.put, List.getElem_toArray, List.getElem_cons_zero, List.getElem_cons_succ, List.setIfInBounds_toArray, List.set_cons_zero, List.set_cons_succ]
          refine wpAnyH_take (i := 2) (v := .int .i64 p) rfl (by kernel_rfl) (by kernel_rfl) (by kernel_rfl) (fun _ _ _ h => h) (Or.inl ⟨by rfl, ?hy⟩) (by assumption) ?_
          case hy =>
            intro w hSw
            rfl
          try simp only [Act.put, List.getElem_toArray, List.getElem_cons_zero, List.getElem_cons_succ, List.setIfInBounds_toArray, List.set_cons_zero, List.set_cons_succ]
          refine wpAnyH_ready (rs := [3]) (by kernel_rfl) (by simp) ?_
          refine AllReadyH.cons (o := { dst := some 24, op := Op.call { callee := Callee.value (Operand.func 83), args := #[Operand.tmp 22, Operand.tmp 23], argTypes := #[9, 3] }, type := 120, pos := "runes.go:209", after := #[{ on := 1, ground := Ground.data }, { on := 2, ground := Ground.data }], guard := none }) rfl (fun K hK => ?_) AllReadyH.nil
          rw [if_pos (by rfl)]
          go_wp2_with (go_at_call 83; refine (cB _).mono ?_; rintro e w4 ⟨rfl, hb4⟩)
          refine hK.out _ _ trivial (fun hHeld => ?_)
          clear hK K
          try simp only [Act.put, List.getElem_toArray, List.getElem_cons_zero, List.getElem_cons_succ, List.setIfInBounds_toArray, List.set_cons_zero, List.set_cons_succ]
          refine wpAnyH_take (i := 4) (v := .int .i64 d2) rfl (by kernel_rfl) (by kernel_rfl) (by kernel_rfl) (fun _ _ _ h => h) (Or.inl ⟨by rfl, ?hy⟩) (by assumption) ?_
          case hy =>
            intro w hSw
            go_simp
          try simp only [Act.put, List.getElem_toArray, List.getElem_cons_zero, List.getElem_cons_succ, List.setIfInBounds_toArray, List.set_cons_zero, List.set_cons_succ]
          refine wpAnyH_take (i := 5) (v := .bool true) rfl (by kernel_rfl) (by kernel_rfl) (by kernel_rfl) (fun _ _ _ h => h) (Or.inl ⟨by rfl, ?hy⟩) (by assumption) ?_
          case hy =>
            intro w hSw
            go_simp
          try simp only [Act.put, List.getElem_toArray, List.getElem_cons_zero, List.getElem_cons_succ, List.setIfInBounds_toArray, List.set_cons_zero, List.set_cons_succ]
          refine wpAnyH_take (i := 6) (v := .bool true) rfl (by kernel_rfl) (by kernel_rfl) (by kernel_rfl) (fun _ _ _ h => h) (Or.inl ⟨by rfl, ?hy⟩) (by assumption) ?_
          case hy =>
            intro w hSw
            rfl
          try simp only [Act.put, List.getElem_toArray, List.getElem_cons_zero, List.getElem_cons_succ, List.setIfInBounds_toArray, List.set_cons_zero, List.set_cons_succ]
          refine wpAnyH_take (i := 7) (v := undef) rfl (by kernel_rfl) (by kernel_rfl) (by kernel_rfl) (fun _ _ _ h => h) (Or.inr ⟨by rfl, rfl⟩) (by assumption) ?_
          try simp only [Act.put, List.getElem_toArray, List.getElem_cons_zero, List.getElem_cons_succ, List.setIfInBounds_toArray, List.set_cons_zero, List.set_cons_succ]
          refine wpAnyH_take (i := 8) (v := undef) rfl (by kernel_rfl) (by kernel_rfl) (by kernel_rfl) (fun _ _ _ h => h) (Or.inr ⟨by rfl, rfl⟩) (by assumption) ?_
          try simp only [Act.put, List.getElem_toArray, List.getElem_cons_zero, List.getElem_cons_succ, List.setIfInBounds_toArray, List.set_cons_zero, List.set_cons_succ]
          refine wpAnyH_take (i := 9) (v := undef) rfl (by kernel_rfl) (by kernel_rfl) (by kernel_rfl) (fun _ _ _ h => h) (Or.inr ⟨by rfl, rfl⟩) (by assumption) ?_
          try simp only [Act.put, List.getElem_toArray, List.getElem_cons_zero, List.getElem_cons_succ, List.setIfInBounds_toArray, List.set_cons_zero, List.set_cons_succ]
          refine wpAnyH_take (i := 10) (v := undef) rfl (by kernel_rfl) (by kernel_rfl) (by kernel_rfl) (fun _ _ _ h => h) (Or.inr ⟨by rfl, rfl⟩) (by assumption) ?_
          try simp only [Act.put, List.getElem_toArray, List.getElem_cons_zero, List.getElem_cons_succ, List.setIfInBounds_toArray, List.set_cons_zero, List.set_cons_succ]
          refine wpAnyH_take (i := 11) (v := undef) rfl (by kernel_rfl) (by kernel_rfl) (by kernel_rfl) (fun _ _ _ h => h) (Or.inr ⟨by rfl, rfl⟩) (by assumption) ?_
          try simp only [Act.put, List.getElem_toArray, List.getElem_cons_zero, List.getElem_cons_succ, List.setIfInBounds_toArray, List.set_cons_zero, List.set_cons_succ]
          refine wpAnyH_take (i := 12) (v := undef) rfl (by kernel_rfl) (by kernel_rfl) (by kernel_rfl) (fun _ _ _ h => h) (Or.inr ⟨by rfl, rfl⟩) (by assumption) ?_
          try simp only [Act.put, List.getElem_toArray, List.getElem_cons_zero, List.getElem_cons_succ, List.setIfInBounds_toArray, List.set_cons_zero, List.set_cons_succ]
          refine wpAnyH_take (i := 13) (v := undef) rfl (by kernel_rfl) (by kernel_rfl) (by kernel_rfl) (fun _ _ _ h => h) (Or.inr ⟨by rfl, rfl⟩) (by assumption) ?_
          try simp only [Act.put, List.getElem_toArray, List.getElem_cons_zero, List.getElem_cons_succ, List.setIfInBounds_toArray, List.set_cons_zero, List.set_cons_succ]
          refine wpAnyH_take (i := 14) (v := undef) rfl (by kernel_rfl) (by kernel_rfl) (by kernel_rfl) (fun _ _ _ h => h) (Or.inr ⟨by rfl, rfl⟩) (by assumption) ?_
          try simp only [Act.put, List.getElem_toArray, List.getElem_cons_zero, List.getElem_cons_succ, List.setIfInBounds_toArray, List.set_cons_zero, List.set_cons_succ]
          refine wpAnyH_take (i := 15) (v := undef) rfl (by kernel_rfl) (by kernel_rfl) (by kernel_rfl) (fun _ _ _ h => h) (Or.inr ⟨by rfl, rfl⟩) (by assumption) ?_
          try simp only [Act.put, List.getElem_toArray, List.getElem_cons_zero, List.getElem_cons_succ, List.setIfInBounds_toArray, List.set_cons_zero, List.set_cons_succ]
          refine wpAnyH_take (i := 16) (v := undef) rfl (by kernel_rfl) (by kernel_rfl) (by kernel_rfl) (fun _ _ _ h => h) (Or.inr ⟨by rfl, rfl⟩) (by assumption) ?_
          try simp only [Act.put, List.getElem_toArray, List.getElem_cons_zero, List.getElem_cons_succ, List.setIfInBounds_toArray, List.set_cons_zero, List.set_cons_succ]
          refine wpAnyH_take (i := 17) (v := undef) rfl (by kernel_rfl) (by kernel_rfl) (by kernel_rfl) (fun _ _ _ h => h) (Or.inr ⟨by rfl, rfl⟩) (by assumption) ?_
          try simp only [Act.put, List.getElem_toArray, List.getElem_cons_zero, List.getElem_cons_succ, List.setIfInBounds_toArray, List.set_cons_zero, List.set_cons_succ]
          refine wpAnyH_take (i := 18) (v := undef) rfl (by kernel_rfl) (by kernel_rfl) (by kernel_rfl) (fun _ _ _ h => h) (Or.inr ⟨by rfl, rfl⟩) (by assumption) ?_
          try simp only [Act.put, List.getElem_toArray, List.getElem_cons_zero, List.getElem_cons_succ, List.setIfInBounds_toArray, List.set_cons_zero, List.set_cons_succ]
          refine wpAnyH_take (i := 19) (v := undef) rfl (by kernel_rfl) (by kernel_rfl) (by kernel_rfl) (fun _ _ _ h => h) (Or.inr ⟨by rfl, rfl⟩) (by assumption) ?_
          try simp only [Act.put, List.getElem_toArray, List.getElem_cons_zero, List.getElem_cons_succ, List.setIfInBounds_toArray, List.set_cons_zero, List.set_cons_succ]
          refine wpAnyH_take (i := 20) (v := .bool true) rfl (by kernel_rfl) (by kernel_rfl) (by kernel_rfl) (fun _ _ _ h => h) (Or.inl ⟨by rfl, ?hy⟩) (by assumption) ?_
          case hy =>
            intro w hSw
            go_simp
          try simp only [Act.put, List.getElem_toArray, List.getElem_cons_zero, List.getElem_cons_succ, List.setIfInBounds_toArray, List.set_cons_zero, List.set_cons_succ]
          refine wpAnyH_done (by kernel_rfl) ?_ _
          go_wp2
          refine bodyPost_ret (v := .tuple #[.int .i64 p, .int .i64 n]) (by simp [results, Tryd.f71, go_sem]) rfl ⟨p, n, HL.out, HX.out, rfl, ((hB.trans (hb3.mono hB.size)).drew.trans (hb4.mono (Nat.le_trans hB.size hb3.size)))⟩
      · go_wp2
        refine bodyPost_ret (v := .tuple #[.int .i64 p, .int .i64 n]) (by simp [results, Tryd.f71, go_sem]) rfl ⟨p, n, HL.out, fun h => hpb h.2.1, rfl, hB⟩
    · go_wp2
      refine bodyPost_ret (v := .tuple #[.int .i64 p, .int .i64 n]) (by simp [results, Tryd.f71, go_sem]) rfl ⟨p, n, HL.out, fun h => hpa h.1, rfl, hB⟩

set_option maxHeartbeats 400000 in
theorem Common_any (a b : ByteArray) (ha : a.size ≤ 1048576) (hb : b.size ≤ 1048576) (w : World) :
    Calls Tryd.prog 46 #[.string a, .string b] w fun e w' => ∃ p n : Nat, Lk a b p n ∧ St a b p ∧ e = .returned (.int .i64 n) ∧ Below w.heap.size w w' := by
  have cA := alike_any a b ha hb
  go_enter Tryd.func46, Tryd.ntmps46
  go_wp2_with (first | (go_at_call 71; refine (cA _).mono ?_; rintro e w3 ⟨p, n, h1, h2, rfl, hb3⟩))
  go_ret
  exact ⟨p, n, h1, h2, rfl, hb3⟩
end Go.Proofs.YtjccoiephdopkaaDoor.SQ
