/- Stage 27: Apply at the law's constant; live. -/
import Derived.Test.YtjccoiephdopkaaDoorHd
import Derived.Test.YtjccoiephdopkaaDoorHr
namespace Go.Proofs.YtjccoiephdopkaaDoor
set_option linter.unusedVariables false
set_option linter.unusedSimpArgs false
open Go Go.RowKit Go.Shelf
set_option maxRecDepth 100000

def L3 : List Sp := [⟨1, .empty, .empty⟩, ⟨0, ⟨#[98]⟩, .empty⟩, ⟨0, .empty, ⟨#[99]⟩⟩]
theorem sizeL3 : sizeG L3 0 0 = some (2, 2) := by rfl
theorem okL3 : OkS L3 := by
  intro x hx
  simp only [L3, List.mem_cons, List.not_mem_nil, or_false] at hx
  rcases hx with rfl | rfl | rfl
  all_goals exact ⟨by decide, by decide, by decide, by decide⟩
def stA : Nat → Nat × ByteArray
  | 0 => (0, .empty)
  | 1 => (1, ⟨#[97]⟩)
  | 2 => (2, ⟨#[97]⟩)
  | _ => (2, ⟨#[97, 99]⟩)
theorem infoByteH : (Tryd.prog.info? 5).map (fun i => (i.zero, i.size, i.bytes)) = some (some (.int .u8 0), 1, 1) := by kernel_rfl
set_option maxHeartbeats 4000000 in
theorem apply_live (o : Option Addr) (c : Nat) (w : World) (hr : RowAt w encS 3 o L3) :
    Calls Tryd.prog 22 #[.string ⟨#[97, 98]⟩, .slice o 3 c] w fun e w' => e = .returned (.tuple #[.string ⟨#[97, 99]⟩, .int .i64 0]) ∧ Below w.heap.size w w' := by
  obtain ⟨i0, hi, hz0, hz1, hz2⟩ := info_parts infoByteH
  have cS := sizes_any L3 o c (by decide) okL3 w hr
  rw [sizeL3] at cS
  have HR := Lib.hid hr
  clear hr
  go_enter Tryd.func22, Tryd.ntmps22
  go_wp2_with (fail)
  refine cS.mono ?_
  rintro e W ⟨rfl, hB⟩
  simp only [szV]
  have HB := Lib.hid hB
  clear hB cS
  have hmk := run_make (P := Tryd.prog) W 46 5 i0 (.int .u8 0) Tryd.underlying46 hi hz0 .i64 .i64 0 2 (by omega) (by omega) (by rw [hz2]; omega) (by omega)
  have hrow0 : (W.alloc (.cells (madeCells #[Value.int .u8 0] 2) 5)).ownsRow w.heap.size 5 1 (.slice (some ⟨W.heap.size, 0, none⟩) 0 2) 0 (Lib.strCells .empty) :=
    ⟨rfl, .inr ⟨W.heap.size, 2, _, rfl, HB.out.size, World.alloc_heap_new W _, by omega, by unfold maxLen; omega, by rw [size_madeCells], rfl⟩⟩
  have hb0 := HB.out.alloc HB.out.size (.cells (madeCells #[Value.int .u8 0] 2) 5)
  have H0 := Lib.hid (And.intro hrow0 hb0)
  clear hrow0 hb0
  go_wp2
  go_loopw [9, 10, 32] (fun v a i X => ∃ k : Nat, i = .int .i64 k ∧ k ≤ 3 ∧ a = .int .i64 (stA k).1 ∧ X.ownsRow w.heap.size 5 1 v (stA k).2.size (Lib.strCells (stA k).2) ∧ Below w.heap.size w X) (fun _ _ i _ => 3 - (intOf i).toNat)
  case atStart => exact ⟨0, rfl, by omega, rfl, H0.out.1, H0.out.2⟩
  case round =>
    obtain ⟨k, rfl, hk, rfl, hown, hX⟩ := hrel
    rcases (by omega : k = 0 ∨ k = 1 ∨ k = 2 ∨ k = 3) with hk | hk | hk | hk
    · obtain ⟨g, off, rfl, hc⟩ := HR.out.below encS_len (by decide) hX k ⟨1, .empty, .empty⟩ (by rw [hk]; rfl)
      obtain ⟨q0, q1, q2⟩ := get3 (l := L3) hc
      have hkl : (k : Int) < 3 := by omega
      have hkl2 : k < 3 := by omega
      have j5 : IntKind.i64.wrap ((k : Int) + 1) = ((k + 1 : Nat) : Int) := by rw [IntWalk.i64_in _ (by omega)]; omega
      have e1 : stA k = (0, .empty) := by rw [hk]; rfl
      have e2 : stA (k + 1) = (1, ⟨#[97]⟩) := by rw [hk]; rfl
      rw [e1] at hown ⊢
      simp only at q0 q1 q2 hown ⊢
      have n := Blk.new wr #[.int .i64 1, .string .empty, .string .empty] 39
      have hb := (Below.refl wr.heap.size wr).alloc (Nat.le_refl _) (.cells #[.int .i64 1, .string .empty, .string .empty] 39)
      have HK := Lib.hid (And.intro e2 (And.intro hown (And.intro hX (And.intro n hb))))
      obtain ⟨ov, cv, rfl, _⟩ := own_slice hown
      clear hown hX hc hk e1 e2 n hb
      have hx1 : ((⟨#[97, 98]⟩ : ByteArray).extract 1 2).toList = [98] := by rw [ByteArray.toList_eq]; rfl
      go_wp2
      go_quiet (fail)
      generalize hU : World.drewN _ _ = U
      have hbU := HK.out.2.2.2.2.trans ((hU ▸ below_drewN _ _ : Below (wr.alloc (.cells #[.int .i64 1, .string .empty, .string .empty] 39)).heap.size (wr.alloc (.cells #[.int .i64 1, .string .empty, .string .empty] 39)) U).mono (by simp))
      have nU := HK.out.2.2.2.1.below' (hU ▸ below_drewN _ _ : Below (wr.alloc (.cells #[.int .i64 1, .string .empty, .string .empty] 39)).heap.size (wr.alloc (.cells #[.int .i64 1, .string .empty, .string .empty] 39)) U)
      obtain ⟨B, hBq⟩ : ∃ B, wr.heap.size = B := ⟨_, rfl⟩
      have hBu : w.heap.size ≤ U.heap.size := Nat.le_trans HK.out.2.2.1.size hbU.size
      have rU := own_below HK.out.2.1 hbU
      have HU := Lib.hid (And.intro (HK.out.2.2.1.trans (hbU.mono HK.out.2.2.1.size)) (And.intro rU nU))
      rw [hBq] at nU ⊢
      have u0 := nU.cell 0
      have u1 := nU.cell 1
      have u2 := nU.cell 2
      simp only [List.getElem?_toArray, List.getElem?_cons_succ, List.getElem?_cons_zero] at u0 u1 u2
      have NU := Lib.hid nU
      clear hU hbU nU hBq q0 q1 q2
      go_wp2_with (first | (at_builtin; refine Lib.wpList_append_own_string _ rfl _ _ 46 9 rfl w.heap.size 5 i0 Tryd.underlying46 Tryd.underlying9 hi hz0 hz1 hz2 _ _ _ rfl r2 _ rfl (by unfold maxLen; decide) (by decide) (Nat.le_trans hBu g2.size) ?_; intro v3 w3 r3 g3 hz9; clear hz9; have n3 := n2.kept g3 (n2.not_row (by decide) r2); have y0 := n3.cell 0; have y1 := n3.cell 1; have y2 := n3.cell 2; simp only [List.getElem?_toArray, List.getElem?_cons_succ, List.getElem?_cons_zero] at y0 y1 y2) | (at_builtin; refine Lib.wpList_append_own_string _ rfl _ _ 46 9 rfl w.heap.size 5 i0 Tryd.underlying46 Tryd.underlying9 hi hz0 hz1 hz2 _ _ _ rfl rU _ rfl (by unfold maxLen; decide) (by decide) hBu ?_; intro v2 w2 r2 g2 hz9; clear hz9; have n2 := NU.out.kept g2 (Blk.not_row NU.out (by decide) rU); have z0 := n2.cell 0; have z1 := n2.cell 1; have z2 := n2.cell 2; simp only [List.getElem?_toArray, List.getElem?_cons_succ, List.getElem?_cons_zero] at z0 z1 z2))
      have HG := Lib.hid (And.intro r3 (And.intro g2 g3))
      clear r3 g2 g3
      go_simp
      trace_state
      go_roundw
      case rel =>
        refine ⟨_, _, _, _, _, _, ?_, rfl, rfl, rfl, rfl, rfl, rfl⟩
        exact ⟨k + 1, by go_num, by omega, by rw [HK.out.1]; rfl, by rw [HK.out.1]; exact HG.out.1, (HU.out.1.grown HG.out.2.1 HU.out.1.size (fun r e => (rU.lt r e).1)).grown HG.out.2.2 (Nat.le_trans HU.out.1.size HG.out.2.1.size) (fun r e => (r2.lt r e).1)⟩
      case measure => simp [intOf] <;> omega
    · obtain ⟨g, off, rfl, hc⟩ := HR.out.below encS_len (by decide) hX k ⟨0, ⟨#[98]⟩, .empty⟩ (by rw [hk]; rfl)
      obtain ⟨q0, q1, q2⟩ := get3 (l := L3) hc
      have hkl : (k : Int) < 3 := by omega
      have hkl2 : k < 3 := by omega
      have j5 : IntKind.i64.wrap ((k : Int) + 1) = ((k + 1 : Nat) : Int) := by rw [IntWalk.i64_in _ (by omega)]; omega
      have e1 : stA k = (1, ⟨#[97]⟩) := by rw [hk]; rfl
      have e2 : stA (k + 1) = (2, ⟨#[97]⟩) := by rw [hk]; rfl
      rw [e1] at hown ⊢
      simp only at q0 q1 q2 hown ⊢
      have n := Blk.new wr #[.int .i64 0, .string ⟨#[98]⟩, .string .empty] 39
      have hb := (Below.refl wr.heap.size wr).alloc (Nat.le_refl _) (.cells #[.int .i64 0, .string ⟨#[98]⟩, .string .empty] 39)
      have HK := Lib.hid (And.intro e2 (And.intro hown (And.intro hX (And.intro n hb))))
      obtain ⟨ov, cv, rfl, _⟩ := own_slice hown
      clear hown hX hc hk e1 e2 n hb
      have hx1 : ((⟨#[97, 98]⟩ : ByteArray).extract 1 2).toList = [98] := by rw [ByteArray.toList_eq]; rfl
      go_wp2
      go_quiet (fail)
      generalize hU : World.drewN _ _ = U
      have hbU := HK.out.2.2.2.2.trans ((hU ▸ below_drewN _ _ : Below (wr.alloc (.cells #[.int .i64 0, .string ⟨#[98]⟩, .string .empty] 39)).heap.size (wr.alloc (.cells #[.int .i64 0, .string ⟨#[98]⟩, .string .empty] 39)) U).mono (by simp))
      have nU := HK.out.2.2.2.1.below' (hU ▸ below_drewN _ _ : Below (wr.alloc (.cells #[.int .i64 0, .string ⟨#[98]⟩, .string .empty] 39)).heap.size (wr.alloc (.cells #[.int .i64 0, .string ⟨#[98]⟩, .string .empty] 39)) U)
      obtain ⟨B, hBq⟩ : ∃ B, wr.heap.size = B := ⟨_, rfl⟩
      have hBu : w.heap.size ≤ U.heap.size := Nat.le_trans HK.out.2.2.1.size hbU.size
      have rU := own_below HK.out.2.1 hbU
      have HU := Lib.hid (And.intro (HK.out.2.2.1.trans (hbU.mono HK.out.2.2.1.size)) (And.intro rU nU))
      rw [hBq] at nU ⊢
      have u0 := nU.cell 0
      have u1 := nU.cell 1
      have u2 := nU.cell 2
      simp only [List.getElem?_toArray, List.getElem?_cons_succ, List.getElem?_cons_zero] at u0 u1 u2
      have NU := Lib.hid nU
      clear hU hbU nU hBq q0 q1 q2
      go_wp2_with (first | (at_builtin; refine Lib.wpList_append_own_string _ rfl _ _ 46 9 rfl w.heap.size 5 i0 Tryd.underlying46 Tryd.underlying9 hi hz0 hz1 hz2 _ _ _ rfl r2 _ rfl (by unfold maxLen; decide) (by decide) (Nat.le_trans hBu g2.size) ?_; intro v3 w3 r3 g3 hz9; clear hz9; have n3 := n2.kept g3 (n2.not_row (by decide) r2); have y0 := n3.cell 0; have y1 := n3.cell 1; have y2 := n3.cell 2; simp only [List.getElem?_toArray, List.getElem?_cons_succ, List.getElem?_cons_zero] at y0 y1 y2) | (at_builtin; refine Lib.wpList_append_own_string _ rfl _ _ 46 9 rfl w.heap.size 5 i0 Tryd.underlying46 Tryd.underlying9 hi hz0 hz1 hz2 _ _ _ rfl rU _ rfl (by unfold maxLen; decide) (by decide) hBu ?_; intro v2 w2 r2 g2 hz9; clear hz9; have n2 := NU.out.kept g2 (Blk.not_row NU.out (by decide) rU); have z0 := n2.cell 0; have z1 := n2.cell 1; have z2 := n2.cell 2; simp only [List.getElem?_toArray, List.getElem?_cons_succ, List.getElem?_cons_zero] at z0 z1 z2))
      have HG := Lib.hid (And.intro r3 (And.intro g2 g3))
      clear r3 g2 g3
      go_simp
      trace_state
      go_roundw
      case rel =>
        refine ⟨_, _, _, _, _, _, ?_, rfl, rfl, rfl, rfl, rfl, rfl⟩
        exact ⟨k + 1, by go_num, by omega, by rw [HK.out.1]; rfl, by rw [HK.out.1]; exact HG.out.1, (HU.out.1.grown HG.out.2.1 HU.out.1.size (fun r e => (rU.lt r e).1)).grown HG.out.2.2 (Nat.le_trans HU.out.1.size HG.out.2.1.size) (fun r e => (r2.lt r e).1)⟩
      case measure => simp [intOf] <;> omega
    · obtain ⟨g, off, rfl, hc⟩ := HR.out.below encS_len (by decide) hX k ⟨0, .empty, ⟨#[99]⟩⟩ (by rw [hk]; rfl)
      obtain ⟨q0, q1, q2⟩ := get3 (l := L3) hc
      have hkl : (k : Int) < 3 := by omega
      have hkl2 : k < 3 := by omega
      have j5 : IntKind.i64.wrap ((k : Int) + 1) = ((k + 1 : Nat) : Int) := by rw [IntWalk.i64_in _ (by omega)]; omega
      have e1 : stA k = (2, ⟨#[97]⟩) := by rw [hk]; rfl
      have e2 : stA (k + 1) = (2, ⟨#[97, 99]⟩) := by rw [hk]; rfl
      rw [e1] at hown ⊢
      simp only at q0 q1 q2 hown ⊢
      have n := Blk.new wr #[.int .i64 0, .string .empty, .string ⟨#[99]⟩] 39
      have hb := (Below.refl wr.heap.size wr).alloc (Nat.le_refl _) (.cells #[.int .i64 0, .string .empty, .string ⟨#[99]⟩] 39)
      have HK := Lib.hid (And.intro e2 (And.intro hown (And.intro hX (And.intro n hb))))
      obtain ⟨ov, cv, rfl, _⟩ := own_slice hown
      clear hown hX hc hk e1 e2 n hb
      have hx1 : ((⟨#[97, 98]⟩ : ByteArray).extract 1 2).toList = [98] := by rw [ByteArray.toList_eq]; rfl
      go_wp2
      go_quiet (fail)
      generalize hU : World.drewN _ _ = U
      have hbU := HK.out.2.2.2.2.trans ((hU ▸ below_drewN _ _ : Below (wr.alloc (.cells #[.int .i64 0, .string .empty, .string ⟨#[99]⟩] 39)).heap.size (wr.alloc (.cells #[.int .i64 0, .string .empty, .string ⟨#[99]⟩] 39)) U).mono (by simp))
      have nU := HK.out.2.2.2.1.below' (hU ▸ below_drewN _ _ : Below (wr.alloc (.cells #[.int .i64 0, .string .empty, .string ⟨#[99]⟩] 39)).heap.size (wr.alloc (.cells #[.int .i64 0, .string .empty, .string ⟨#[99]⟩] 39)) U)
      obtain ⟨B, hBq⟩ : ∃ B, wr.heap.size = B := ⟨_, rfl⟩
      have hBu : w.heap.size ≤ U.heap.size := Nat.le_trans HK.out.2.2.1.size hbU.size
      have rU := own_below HK.out.2.1 hbU
      have HU := Lib.hid (And.intro (HK.out.2.2.1.trans (hbU.mono HK.out.2.2.1.size)) (And.intro rU nU))
      rw [hBq] at nU ⊢
      have u0 := nU.cell 0
      have u1 := nU.cell 1
      have u2 := nU.cell 2
      simp only [List.getElem?_toArray, List.getElem?_cons_succ, List.getElem?_cons_zero] at u0 u1 u2
      have NU := Lib.hid nU
      clear hU hbU nU hBq q0 q1 q2
      go_wp2_with (first | (at_builtin; refine Lib.wpList_append_own_string _ rfl _ _ 46 9 rfl w.heap.size 5 i0 Tryd.underlying46 Tryd.underlying9 hi hz0 hz1 hz2 _ _ _ rfl r2 _ rfl (by unfold maxLen; decide) (by decide) (Nat.le_trans hBu g2.size) ?_; intro v3 w3 r3 g3 hz9; clear hz9; have n3 := n2.kept g3 (n2.not_row (by decide) r2); have y0 := n3.cell 0; have y1 := n3.cell 1; have y2 := n3.cell 2; simp only [List.getElem?_toArray, List.getElem?_cons_succ, List.getElem?_cons_zero] at y0 y1 y2) | (at_builtin; refine Lib.wpList_append_own_string _ rfl _ _ 46 9 rfl w.heap.size 5 i0 Tryd.underlying46 Tryd.underlying9 hi hz0 hz1 hz2 _ _ _ rfl rU _ rfl (by unfold maxLen; decide) (by decide) hBu ?_; intro v2 w2 r2 g2 hz9; clear hz9; have n2 := NU.out.kept g2 (Blk.not_row NU.out (by decide) rU); have z0 := n2.cell 0; have z1 := n2.cell 1; have z2 := n2.cell 2; simp only [List.getElem?_toArray, List.getElem?_cons_succ, List.getElem?_cons_zero] at z0 z1 z2))
      have HG := Lib.hid (And.intro r3 (And.intro g2 g3))
      clear r3 g2 g3
      go_simp
      trace_state
      go_roundw
      case rel =>
        refine ⟨_, _, _, _, _, _, ?_, rfl, rfl, rfl, rfl, rfl, rfl⟩
        exact ⟨k + 1, by go_num, by omega, by rw [HK.out.1]; rfl, by rw [HK.out.1]; exact HG.out.1, (HU.out.1.grown HG.out.2.1 HU.out.1.size (fun r e => (rU.lt r e).1)).grown HG.out.2.2 (Nat.le_trans HU.out.1.size HG.out.2.1.size) (fun r e => (r2.lt r e).1)⟩
      case measure => simp [intOf] <;> omega
    · have e1 : stA k = (2, ⟨#[97, 99]⟩) := by rw [hk]; rfl
      have hkl : ¬ (k : Int) < 3 := by omega
      have hkl2 : ¬ k < 3 := by omega
      rw [e1] at hown
      simp only at hown
      have hconv := conv_own rfl hown
      have HK := Lib.hid hX
      clear hown hX hk e1
      go_wp2
      refine bodyPost_ret (results_tmp2 rfl _ _ _) rfl ?_
      exact ⟨rfl, HK.out⟩
theorem row9 {w : World} {g : Nat} {t : TypeId} (h : w.heap[g]? = some (.cells #[.int .i64 1, .string .empty, .string .empty, .int .i64 0, .string ⟨#[98]⟩, .string .empty, .int .i64 0, .string .empty, .string ⟨#[99]⟩] t (0, 0))) : RowAt w encS 3 (some ⟨g, 0, none⟩) L3 := by
  intro i x hi
  have hl : i < 3 := (List.getElem?_eq_some_iff.1 hi).1
  refine ⟨g, 0, rfl, fun j hj => ?_⟩
  have hc : ∀ o, w.cell? ⟨g, o, none⟩ = (#[.int .i64 1, .string .empty, .string .empty, .int .i64 0, .string ⟨#[98]⟩, .string .empty, .int .i64 0, .string .empty, .string ⟨#[99]⟩] : Array Value)[o]? := fun o => Blk.cell (t := t) h o
  rw [hc]
  rcases (by omega : i = 0 ∨ i = 1 ∨ i = 2) with rfl | rfl | rfl <;> cases hi <;> rcases (by omega : j = 0 ∨ j = 1 ∨ j = 2) with rfl | rfl | rfl <;> rfl
theorem live_any (w : World) : Calls Tryd.prog 6 #[] w fun e w' => e = .returned (.bool true) ∧ Below w.heap.size w w' := by
  have hb := (Below.refl w.heap.size w).alloc (Nat.le_refl _) (.cells #[.int .i64 1, .string .empty, .string .empty, .int .i64 0, .string ⟨#[98]⟩, .string .empty, .int .i64 0, .string .empty, .string ⟨#[99]⟩] 39)
  have cA := apply_live (some ⟨w.heap.size, 0, none⟩) 3 (w.alloc (.cells #[.int .i64 1, .string .empty, .string .empty, .int .i64 0, .string ⟨#[98]⟩, .string .empty, .int .i64 0, .string .empty, .string ⟨#[99]⟩] 39)) (row9 (World.alloc_heap_new w _))
  go_enter Tryd.func6, Tryd.ntmps6
  go_wp2_with (fail)
  refine cA.mono ?_
  rintro e W ⟨rfl, hB⟩
  have HB := Lib.hid (hb.trans (hB.mono (by simp)))
  clear hB hb cA
  go_wp2
  go_ret
  exact ⟨rfl, HB.out⟩
end Go.Proofs.YtjccoiephdopkaaDoor
