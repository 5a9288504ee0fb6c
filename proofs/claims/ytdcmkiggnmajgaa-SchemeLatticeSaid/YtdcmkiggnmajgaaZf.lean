/- Stage 16: what Meet and Join refuse. -/
import Derived.Test.YtdcmkiggnmajgaaYs
namespace Go.Proofs.Ytdcmkiggnmajgaa
set_option linter.unusedVariables false
set_option linter.unusedSimpArgs false
open Go Go.RowKit Go.Shelf
set_option maxRecDepth 100000

set_option maxHeartbeats 4000000 in
theorem meet_no2 (s t : Sc) (ol os ol' os' : Option Addr) (cl cs cl' cs' : Nat) (hn : s.L.length ≤ 9223372036854775807) (hm : s.S.length ≤ 9223372036854775807) (hn' : t.L.length ≤ 9223372036854775807) (hm' : t.S.length ≤ 9223372036854775807) (w : World) (hr : RowAt w encR 2 ol s.L) (ht : RowAt w encI 1 os s.S) (hr' : RowAt w encR 2 ol' t.L) (ht' : RowAt w encI 1 os' t.S) (hno : bothB s t = false) :
    Calls Try.prog 24 #[.agg #[.slice ol s.L.length cl, .slice os s.S.length cs], .agg #[.slice ol' t.L.length cl', .slice os' t.S.length cs']] w fun e w' => e = .returned (.tuple #[.agg #[.slice none 0 0, .slice none 0 0], .int .i64 2]) ∧ Below w.heap.size w w' := by
  have hB0 := ((Below.refl _ w).alloc (Nat.le_refl _) (.cells #[.slice ol s.L.length cl, .slice os s.S.length cs] 25)).alloc (by simp) (.cells #[.slice ol' t.L.length cl', .slice os' t.S.length cs'] 25)
  have hB0 := hB0.alloc hB0.size (.cells #[.slice none 0 0, .slice none 0 0] 25)
  have hr0 := hr.below encR_len (by decide) hB0
  have ht0 := ht.below encI_len (by decide) hB0
  have hr0' := hr'.below encR_len (by decide) hB0
  have ht0' := ht'.below encI_len (by decide) hB0
  have cK := fun W h1 h2 h3 h4 => both_any s t ol os ol' os' cl cs cl' cs' hn hm hn' hm' W h1 h2 h3 h4
  rw [hno] at cK
  simp only [Bool.false_eq_true, if_false] at cK
  have b1 := Blk.new ((w.alloc (.cells #[.slice ol s.L.length cl, .slice os s.S.length cs] 25)).alloc (.cells #[.slice ol' t.L.length cl', .slice os' t.S.length cs'] 25)) #[.slice none 0 0, .slice none 0 0] 25
  rw [World.size_alloc, World.size_alloc] at b1
  obtain ⟨n, hnn⟩ : ∃ n, s.L.length = n := ⟨_, rfl⟩
  obtain ⟨m, hmm⟩ : ∃ n, s.S.length = n := ⟨_, rfl⟩
  obtain ⟨n', hnn'⟩ : ∃ n, t.L.length = n := ⟨_, rfl⟩
  obtain ⟨m', hmm'⟩ : ∃ n, t.S.length = n := ⟨_, rfl⟩
  simp only [hnn, hmm, hnn', hmm'] at cK hr0 ht0 hr0' ht0' hB0 b1 ⊢
  clear hnn hmm hnn' hmm' hr ht hr' ht'
  go_enter Try.func24, Try.ntmps24
  go_wp2_with (fail)
  refine (cK _ hr0 ht0 hr0' ht0').mono ?_
  rintro e w1 ⟨rfl, hB⟩
  have b2 := b1.below' hB
  have z0 := b2.cell 0
  have z1 := b2.cell 1
  have f0 := b2.frozen 0
  have f1 := b2.frozen 1
  simp only [List.getElem?_toArray, List.getElem?_cons_succ, List.getElem?_cons_zero] at z0 z1
  have hend := (((hB0.trans (hB.mono hB0.size)).setCell (p := ⟨w.heap.size + 1 + 1, 0, none⟩) (by show w.heap.size ≤ w.heap.size + 1 + 1; omega) (.slice none 0 0)).setCell (p := ⟨w.heap.size + 1 + 1, 1, none⟩) (by show w.heap.size ≤ w.heap.size + 1 + 1; omega) (.slice none 0 0))
  have b3 := (b2.set 0 (.slice none 0 0)).set 1 (.slice none 0 0)
  have q0 := b3.cell 0
  have q1 := b3.cell 1
  simp only [List.setIfInBounds_toArray, List.set_cons_zero, List.set_cons_succ, List.getElem?_toArray, List.getElem?_cons_succ, List.getElem?_cons_zero] at q0 q1
  obtain ⟨F, hF⟩ : ∃ F, (w1.setCell ⟨w.heap.size + 1 + 1, 0, none⟩ (.slice none 0 0)).setCell ⟨w.heap.size + 1 + 1, 1, none⟩ (.slice none 0 0) = F := ⟨_, rfl⟩
  rw [hF] at hend q0 q1
  clear b1 b2 b3 hB hB0 hr0 ht0 hr0' ht0' cK
  go_wp2
  clear hF
  exact bodyPost_ret (v := .tuple #[.agg #[.slice none 0 0, .slice none 0 0], .int .i64 2]) (by simp [results, Try.f24, go_sem, q0, q1]) rfl ⟨rfl, hend⟩

set_option maxHeartbeats 4000000 in
theorem join_no2 (s t : Sc) (ol os ol' os' : Option Addr) (cl cs cl' cs' : Nat) (hn : s.L.length ≤ 9223372036854775807) (hm : s.S.length ≤ 9223372036854775807) (hn' : t.L.length ≤ 9223372036854775807) (hm' : t.S.length ≤ 9223372036854775807) (w : World) (hr : RowAt w encR 2 ol s.L) (ht : RowAt w encI 1 os s.S) (hr' : RowAt w encR 2 ol' t.L) (ht' : RowAt w encI 1 os' t.S) (hno : bothB s t = false) :
    Calls Try.prog 25 #[.agg #[.slice ol s.L.length cl, .slice os s.S.length cs], .agg #[.slice ol' t.L.length cl', .slice os' t.S.length cs']] w fun e w' => e = .returned (.tuple #[.agg #[.slice none 0 0, .slice none 0 0], .int .i64 2]) ∧ Below w.heap.size w w' := by
  have hB0 := ((Below.refl _ w).alloc (Nat.le_refl _) (.cells #[.slice ol s.L.length cl, .slice os s.S.length cs] 25)).alloc (by simp) (.cells #[.slice ol' t.L.length cl', .slice os' t.S.length cs'] 25)
  have hB0 := hB0.alloc hB0.size (.cells #[.slice none 0 0, .slice none 0 0] 25)
  have hr0 := hr.below encR_len (by decide) hB0
  have ht0 := ht.below encI_len (by decide) hB0
  have hr0' := hr'.below encR_len (by decide) hB0
  have ht0' := ht'.below encI_len (by decide) hB0
  have cK := fun W h1 h2 h3 h4 => both_any s t ol os ol' os' cl cs cl' cs' hn hm hn' hm' W h1 h2 h3 h4
  rw [hno] at cK
  simp only [Bool.false_eq_true, if_false] at cK
  have b1 := Blk.new ((w.alloc (.cells #[.slice ol s.L.length cl, .slice os s.S.length cs] 25)).alloc (.cells #[.slice ol' t.L.length cl', .slice os' t.S.length cs'] 25)) #[.slice none 0 0, .slice none 0 0] 25
  rw [World.size_alloc, World.size_alloc] at b1
  obtain ⟨n, hnn⟩ : ∃ n, s.L.length = n := ⟨_, rfl⟩
  obtain ⟨m, hmm⟩ : ∃ n, s.S.length = n := ⟨_, rfl⟩
  obtain ⟨n', hnn'⟩ : ∃ n, t.L.length = n := ⟨_, rfl⟩
  obtain ⟨m', hmm'⟩ : ∃ n, t.S.length = n := ⟨_, rfl⟩
  simp only [hnn, hmm, hnn', hmm'] at cK hr0 ht0 hr0' ht0' hB0 b1 ⊢
  clear hnn hmm hnn' hmm' hr ht hr' ht'
  go_enter Try.func25, Try.ntmps25
  go_wp2_with (fail)
  refine (cK _ hr0 ht0 hr0' ht0').mono ?_
  rintro e w1 ⟨rfl, hB⟩
  have b2 := b1.below' hB
  have z0 := b2.cell 0
  have z1 := b2.cell 1
  have f0 := b2.frozen 0
  have f1 := b2.frozen 1
  simp only [List.getElem?_toArray, List.getElem?_cons_succ, List.getElem?_cons_zero] at z0 z1
  have hend := (((hB0.trans (hB.mono hB0.size)).setCell (p := ⟨w.heap.size + 1 + 1, 0, none⟩) (by show w.heap.size ≤ w.heap.size + 1 + 1; omega) (.slice none 0 0)).setCell (p := ⟨w.heap.size + 1 + 1, 1, none⟩) (by show w.heap.size ≤ w.heap.size + 1 + 1; omega) (.slice none 0 0))
  have b3 := (b2.set 0 (.slice none 0 0)).set 1 (.slice none 0 0)
  have q0 := b3.cell 0
  have q1 := b3.cell 1
  simp only [List.setIfInBounds_toArray, List.set_cons_zero, List.set_cons_succ, List.getElem?_toArray, List.getElem?_cons_succ, List.getElem?_cons_zero] at q0 q1
  obtain ⟨F, hF⟩ : ∃ F, (w1.setCell ⟨w.heap.size + 1 + 1, 0, none⟩ (.slice none 0 0)).setCell ⟨w.heap.size + 1 + 1, 1, none⟩ (.slice none 0 0) = F := ⟨_, rfl⟩
  rw [hF] at hend q0 q1
  clear b1 b2 b3 hB hB0 hr0 ht0 hr0' ht0' cK
  go_wp2
  clear hF
  exact bodyPost_ret (v := .tuple #[.agg #[.slice none 0 0, .slice none 0 0], .int .i64 2]) (by simp [results, Try.f25, go_sem, q0, q1]) rfl ⟨rfl, hend⟩
theorem none_nil2 (w : World) : Calls Try.prog 27 #[.agg #[.slice none 0 0, .slice none 0 0]] w fun e w' => e = .returned (.bool true) ∧ Below w.heap.size w w' := by
  go_enter Try.func27, Try.ntmps27
  go_wp2
  go_ret
  exact ⟨rfl, (Below.refl _ _).alloc (Nat.le_refl _) _⟩
end Go.Proofs.Ytdcmkiggnmajgaa
