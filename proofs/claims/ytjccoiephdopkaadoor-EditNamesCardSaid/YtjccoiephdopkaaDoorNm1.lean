/- Stage 27: the law EditNames. -/
import Derived.Test.YtjccoiephdopkaaDoorZ50
namespace Go.Proofs.YtjccoiephdopkaaDoor
set_option linter.unusedVariables false
set_option linter.unusedSimpArgs false
open Go Go.RowKit Go.Shelf
set_option maxRecDepth 100000

def aB : ByteArray := ⟨#[97]⟩
def badL : List Sp := [⟨65536, .empty, .empty⟩, ⟨0, .empty, aB⟩]
theorem bad_size : sizeG badL 0 0 = none := by rfl
theorem bad_ok : OkS badL := by
  have e : aB.size = 1 := rfl
  have e0 : ByteArray.empty.size = 0 := rfl
  intro x hx
  simp only [badL, List.mem_cons, List.not_mem_nil, or_false] at hx
  rcases hx with rfl | rfl
  · exact ⟨by simp only; omega, by simp only; omega, by simp only [e0]; omega, by simp only [e0]; omega⟩
  · exact ⟨by simp only; omega, by simp only; omega, by simp only [e0]; omega, by simp only [e]; omega⟩
theorem bad_row {w : World} {g : Nat} {t : TypeId} (h : Blk w g #[.int .i64 65536, .string .empty, .string .empty, .int .i64 0, .string .empty, .string aB] t) : RowAt w encS 3 (some ⟨g, 0, none⟩) badL := by
  intro i x hi
  have hl : i < 2 := (List.getElem?_eq_some_iff.1 hi).1
  refine ⟨g, 0, rfl, fun j hj => ?_⟩
  have hc : ∀ o, w.cell? ⟨g, o, none⟩ = (#[.int .i64 65536, .string .empty, .string .empty, .int .i64 0, .string .empty, .string aB] : Array Value)[o]? := fun o => h.cell o
  rw [hc]
  match i, hl, hi, j, hj with
  | 0, _, hi, 0, _ => cases hi; rfl
  | 0, _, hi, 1, _ => cases hi; rfl
  | 0, _, hi, 2, _ => cases hi; rfl
  | 1, _, hi, 0, _ => cases hi; rfl
  | 1, _, hi, 1, _ => cases hi; rfl
  | 1, _, hi, 2, _ => cases hi; rfl
theorem blk_drewN {w : World} {g : Nat} {cs : Array Value} {t : TypeId} (h : Blk w g cs t) (n : Nat) : Blk (w.drewN n) g cs t := h
set_option maxHeartbeats 40000000 in
theorem names_law (w : World) : Calls Tryd.prog 5 #[] w fun e w' => e = .returned (.bool true) ∧ Below w.heap.size w w' := by
  go_enter Tryd.func5, Tryd.ntmps5
  go_wp2_with (fail)
  refine (live_any _).mono ?_
  rintro e W1 ⟨rfl, hb⟩
  have H1 := Lib.hid hb
  clear hb
  go_wp2_with (fail)
  refine (send_nil _ _ _ _).mono ?_
  rintro e W2 ⟨rfl, hb⟩
  have H2 := Lib.hid (H1.out.trans ((((Below.refl W1.heap.size W1).alloc (Nat.le_refl _) _).trans (hb.mono (by simp))).mono H1.out.size))
  clear hb H1
  go_wp2_with (fail)
  refine (undo_nil _ _).mono ?_
  rintro e W3 ⟨rfl, hb⟩
  have H3 := Lib.hid (H2.out.trans (hb.mono H2.out.size))
  clear hb H2
  go_wp2_with (fail)
  refine (at_nil _ _).mono ?_
  rintro e W4 ⟨rfl, hb⟩
  have H4 := Lib.hid (H3.out.trans (hb.mono H3.out.size))
  clear hb H3
  go_wp2_with (fail)
  refine (hand_nil _ _).mono ?_
  rintro e W5 ⟨rfl, hb⟩
  have H5 := Lib.hid (H4.out.trans (hb.mono H4.out.size))
  clear hb H4
  go_wp2_with (fail)
  refine (since_nil _ _).mono ?_
  rintro e W6 ⟨rfl, hb⟩
  have H6 := Lib.hid (H5.out.trans (hb.mono H5.out.size))
  clear hb H5
  go_wp2_with (fail)
  refine (follow_nil _ _ _ _).mono ?_
  rintro e W7 ⟨rfl, hb⟩
  have H7 := Lib.hid (H6.out.trans (hb.mono H6.out.size))
  clear hb H6
  obtain ⟨n, hn⟩ : ∃ n, n = 65537 := ⟨_, rfl⟩
  have hmk := make_zero W7 n 65537 (by rw [hn]; rfl) (by omega)
  have hcv := conv_zero W7 n (by omega)
  obtain ⟨z, hz⟩ : ∃ z, zB n = z := ⟨_, rfl⟩
  have hzs : z.size = n := by rw [← hz, zB_size]
  rw [hz] at hcv
  have HN := Lib.hid hn
  have HZ := Lib.hid hzs
  have hz1 : (1 : Int) ≤ (z.size : Int) := by omega
  have hzL : 65536 < z.size := by omega
  clear hz hn hzs
  go_wp2_with (fail)
  refine (new_long z hzL _).mono ?_
  rintro e W8 ⟨rfl, hb⟩
  have H8 := Lib.hid (H7.out.trans ((((Below.refl W7.heap.size W7).alloc (Nat.le_refl _) _).trans (hb.mono (by simp))).mono H7.out.size))
  clear hb H7 hmk hcv
  go_wp2_with (fail)
  refine (between_long1 z _ hzL _).mono ?_
  rintro e W9 ⟨rfl, hb⟩
  have H9 := Lib.hid (H8.out.trans (hb.mono H8.out.size))
  clear hb H8
  go_wp2_with (fail)
  refine (between_long2 .empty z (by show 0 ≤ 65536; omega) hzL _).mono ?_
  rintro e X1 ⟨rfl, hb⟩
  have HX1 := Lib.hid (H9.out.trans (hb.mono H9.out.size))
  clear hb H9
  obtain ⟨m, hm⟩ : ∃ n, n = 1048577 := ⟨_, rfl⟩
  have hmk := make_zero X1 m 1048577 (by rw [hm]; rfl) (by omega)
  have hcv := conv_zero X1 m (by omega)
  obtain ⟨y, hy⟩ : ∃ z, zB m = z := ⟨_, rfl⟩
  have hys : 1048576 < y.size := by rw [← hy, zB_size]; omega
  rw [hy] at hcv
  clear hy hm
  go_wp2_with (fail)
  refine (read_long y hys _).mono ?_
  rintro e X2 ⟨rfl, hb⟩
  have hb2 := HX1.out.trans ((((Below.refl X1.heap.size X1).alloc (Nat.le_refl _) _).trans (hb.mono (by simp))).mono HX1.out.size)
  have nS := Blk.new X2 #[.int .i64 3, .int .i64 1048576] 30
  have HX2 := Lib.hid (And.intro (hb2.trans (((Below.refl X2.heap.size X2).alloc (Nat.le_refl _) (.cells #[.int .i64 3, .int .i64 1048576] 30)).mono hb2.size)) nS)
  clear hb HX1 hmk hcv hb2 nS
  obtain ⟨z2, hz2⟩ : ∃ x, z.extract 1 z.size = x := ⟨_, rfl⟩
  have hz2s : z2.size = 65536 := by rw [← hz2, ByteArray.size_extract]; have := HN.out; have := HZ.out; omega
  have hz26 : z2.size ≤ 65536 := by omega
  have hz20 : 0 < z2.size := by omega
  have HZ2 := Lib.hid hz2
  have HZS := Lib.hid hz2s
  clear hz2 hz2s
  go_wp2_with (fail)
  rw [HZ2.out]
  refine (new_ok z2 hz26 _).mono ?_
  rintro e X3 ⟨rfl, nB, hb⟩
  obtain ⟨B, hB⟩ : ∃ B, (X2.alloc (.cells #[.int .i64 3, .int .i64 1048576] 30)).heap.size = B := ⟨_, rfl⟩
  have hbS := HX2.out.2.below' hb
  have HX3 := Lib.hid (And.intro (HX2.out.1.trans (hb.mono HX2.out.1.size)) (And.intro hbS nB))
  clear hb HX2 nB hbS hB
  go_wp2_with (fail)
  refine (live_any _).mono ?_
  rintro e X4 ⟨rfl, hb⟩
  have HX4 := Lib.hid (And.intro (HX3.out.1.trans (hb.mono HX3.out.1.size)) (And.intro (HX3.out.2.1.below' hb) (HX3.out.2.2.below' hb)))
  clear hb HX3
  have nL := Blk.new X4 #[.int .i64 65536, .string .empty, .string .empty, .int .i64 0, .string .empty, .string aB] 39
  have hbL := (Below.refl X4.heap.size X4).alloc (Nat.le_refl _) (.cells #[.int .i64 65536, .string .empty, .string .empty, .int .i64 0, .string .empty, .string aB] 39)
  have cB := fun B => send_bad B 0 (some ⟨X4.heap.size, 0, none⟩) badL 2 (by show 2 ≤ _; omega) bad_ok bad_size _ (bad_row nL)
  have HX5 := Lib.hid (And.intro (HX4.out.1.trans (hbL.mono HX4.out.1.size)) (And.intro (HX4.out.2.1.below' hbL) (HX4.out.2.2.below' hbL)))
  clear nL hbL HX4
  go_wp2_with (fail)
  refine (cB _).mono ?_
  rintro e X6 ⟨rfl, hb⟩
  have HX6 := Lib.hid (And.intro (HX5.out.1.trans (hb.mono HX5.out.1.size)) (And.intro (HX5.out.2.1.below' hb) (HX5.out.2.2.below' hb)))
  clear hb HX5 cB
  go_wp2_with (fail)
  rw [HZ2.out]
  refine (between_any z2 .empty hz26 (by show 0 ≤ 65536; omega) _).mono ?_
  rintro e X7 ⟨p, M, v, hK, rfl, hrow, hb⟩
  rw [drop_all hK hz20] at hrow
  obtain ⟨ov, cv, rfl, hov⟩ := own_slice hrow
  obtain ⟨g, hg⟩ := hov (by simp)
  subst hg
  have hR := RowAt.of_own encS_len hrow rfl
  have HX7 := Lib.hid (And.intro (HX6.out.1.trans (hb.mono HX6.out.1.size)) (And.intro (HX6.out.2.1.below' hb) (And.intro (HX6.out.2.2.below' hb) hR)))
  clear hb HX6 hrow hR hK hov
  go_wp2_with (fail)
  have cS0 := HX7.out.2.1.cell 0
  have cS1 := HX7.out.2.1.cell 1
  simp only [List.getElem?_toArray, List.getElem?_cons_zero, List.getElem?_cons_succ] at cS0 cS1
  obtain ⟨g', o', e', hc⟩ := HX7.out.2.2.2 0 ⟨0, z2, .empty⟩ rfl
  cases e'
  have cJ : X7.cell? ⟨g, 1, none⟩ = some (.string z2) := hc 1 (by decide)
  clear hc
  have hz2' := HZ2.out
  have eB : (X2.alloc (.cells #[.int .i64 3, .int .i64 1048576] 30)).heap.size = X2.heap.size + 1 := by simp
  have hBk := HX7.out.2.2.1
  rw [eB] at hBk
  have HBk := Lib.hid hBk
  clear hBk eB
  simp only [List.append]
  refine wp_region_chain 120 (by kernel_rfl) (by kernel_rfl) (by kernel_rfl) (by kernel_rfl) ?_
  repeat (go_big_quiet_step ((first | (go_at_call 21; exact Calls.quiet_of_same (rev_nil _)) | (go_at_call 21; exact Calls.quiet_of_same (rev_new _ _ _ (blk_drewN HBk.out _))))))
  refine wpQuiet_nil ?_
  intro _ hw'
  obtain ⟨nq, hw''⟩ := hw'
  subst hw''
  go_wp2
  go_ret
  exact ⟨rfl, ⟨HX7.out.1.os, HX7.out.1.tape, HX7.out.1.output, HX7.out.1.size, HX7.out.1.block⟩⟩
end Go.Proofs.YtjccoiephdopkaaDoor
