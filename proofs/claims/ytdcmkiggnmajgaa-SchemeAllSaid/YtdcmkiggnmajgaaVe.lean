/- Stage 16: what is refused. -/
import Derived.Test.YtdcmkiggnmajgaaVd
import Derived.Test.YtdcmkiggnmajgaaV5
namespace Go.Proofs.Ytdcmkiggnmajgaa
set_option linter.unusedVariables false
set_option linter.unusedSimpArgs false
open Go Go.RowKit Go.Shelf
set_option maxRecDepth 100000

theorem print_no (s : Sc) (ol os : Option Addr) (cl cs : Nat) (hn : s.L.length ≤ 9223372036854775807) (hm : s.S.length ≤ 9223372036854775807) (w : World) (hr : RowAt w encR 2 ol s.L) (ht : RowAt w encI 1 os s.S) (hmay : mayB s = false) :
    Calls Try.prog 18 #[.agg #[.slice ol s.L.length cl, .slice os s.S.length cs]] w fun e w' => e = .returned (.tuple #[.string ⟨#[]⟩, .int .i64 2]) ∧ Below w.heap.size w w' := by
  have hB0 := (Below.refl _ w).alloc (Nat.le_refl _) (.cells #[.slice ol s.L.length cl, .slice os s.S.length cs] 25)
  have hr0 := hr.below encR_len (by decide) hB0
  have ht0 := ht.below encI_len (by decide) hB0
  have cK := fun W h1 h2 => check_any s ol os cl cs hn hm W h1 h2
  rw [hmay] at cK
  simp only [Bool.false_eq_true, if_false] at cK
  obtain ⟨n, hnn⟩ : ∃ n, s.L.length = n := ⟨_, rfl⟩
  obtain ⟨m, hmm⟩ : ∃ n, s.S.length = n := ⟨_, rfl⟩
  rw [hnn, hmm] at cK hr0 ht0 hB0 ⊢
  clear hnn hmm hmay hr ht
  go_enter Try.func18, Try.ntmps18
  go_wp2_with (fail)
  refine (cK _ hr0 ht0).mono ?_
  rintro e w1 ⟨rfl, hB⟩
  have hend := hB0.trans (hB.mono hB0.size)
  have HE := Lib.hid hend
  clear hB hB0 hr0 ht0 cK hend
  go_wp2
  go_ret2
  exact ⟨rfl, HE.out⟩

theorem canon_no (s : Sc) (ol os : Option Addr) (cl cs : Nat) (hn : s.L.length ≤ 9223372036854775807) (hm : s.S.length ≤ 9223372036854775807) (w : World) (hr : RowAt w encR 2 ol s.L) (ht : RowAt w encI 1 os s.S) (hmay : mayB s = false) :
    Calls Try.prog 19 #[.agg #[.slice ol s.L.length cl, .slice os s.S.length cs]] w fun e w' => e = .returned (.tuple #[.agg #[.slice none 0 0, .slice none 0 0], .int .i64 2]) ∧ Below w.heap.size w w' := by
  have hB0 := (Below.refl _ w).alloc (Nat.le_refl _) (.cells #[.slice ol s.L.length cl, .slice os s.S.length cs] 25)
  have hr0 := hr.below encR_len (by decide) hB0
  have ht0 := ht.below encI_len (by decide) hB0
  have cK := fun W h1 h2 => check_any s ol os cl cs hn hm W h1 h2
  rw [hmay] at cK
  simp only [Bool.false_eq_true, if_false] at cK
  obtain ⟨n, hnn⟩ : ∃ n, s.L.length = n := ⟨_, rfl⟩
  obtain ⟨m, hmm⟩ : ∃ n, s.S.length = n := ⟨_, rfl⟩
  rw [hnn, hmm] at cK hr0 ht0 hB0 ⊢
  clear hnn hmm hmay hr ht
  go_enter Try.func19, Try.ntmps19
  go_wp2_with (fail)
  have hB1 := hB0.alloc hB0.size (.cells #[.slice none 0 0, .slice none 0 0] 25)
  have b1 := Blk.new (w.alloc (.cells #[.slice ol n cl, .slice os m cs] 25)) #[.slice none 0 0, .slice none 0 0] 25
  rw [World.size_alloc] at b1
  have hr1 := hr0.below encR_len (by decide) ((Below.refl _ _).alloc (Nat.le_refl _) (.cells #[.slice none 0 0, .slice none 0 0] 25))
  have ht1 := ht0.below encI_len (by decide) ((Below.refl _ _).alloc (Nat.le_refl _) (.cells #[.slice none 0 0, .slice none 0 0] 25))
  refine (cK _ hr1 ht1).mono ?_
  rintro e w1 ⟨rfl, hB⟩
  have b2 := b1.below' hB
  have z0 := b2.cell 0
  have z1 := b2.cell 1
  have f0 := b2.frozen 0
  have f1 := b2.frozen 1
  simp only [List.getElem?_toArray, List.getElem?_cons_succ, List.getElem?_cons_zero] at z0 z1
  have hend := (((hB1.trans (hB.mono hB1.size)).setCell (p := ⟨w.heap.size + 1, 0, none⟩) (Nat.le_succ _) (.slice none 0 0)).setCell (p := ⟨w.heap.size + 1, 1, none⟩) (Nat.le_succ _) (.slice none 0 0))
  have b3 := (b2.set 0 (.slice none 0 0)).set 1 (.slice none 0 0)
  have q0 := b3.cell 0
  have q1 := b3.cell 1
  simp only [List.setIfInBounds_toArray, List.set_cons_zero, List.set_cons_succ, List.getElem?_toArray, List.getElem?_cons_succ, List.getElem?_cons_zero] at q0 q1
  obtain ⟨F, hF⟩ : ∃ F, (w1.setCell ⟨w.heap.size + 1, 0, none⟩ (.slice none 0 0)).setCell ⟨w.heap.size + 1, 1, none⟩ (.slice none 0 0) = F := ⟨_, rfl⟩
  rw [hF] at hend q0 q1
  clear b1 b2 b3 hB hB0 hB1 hr0 ht0 hr1 ht1 cK
  go_wp2
  clear hF
  exact bodyPost_ret (v := .tuple #[.agg #[.slice none 0 0, .slice none 0 0], .int .i64 2]) (by simp [results, Try.f19, go_sem, q0, q1]) rfl ⟨rfl, hend⟩

theorem turn_no (s : Sc) (ol os : Option Addr) (cl cs : Nat) (hn : s.L.length ≤ 9223372036854775807) (hm : s.S.length ≤ 9223372036854775807) (w : World) (hr : RowAt w encR 2 ol s.L) (ht : RowAt w encI 1 os s.S) (hmay : mayB s = false) :
    Calls Try.prog 20 #[.agg #[.slice ol s.L.length cl, .slice os s.S.length cs]] w fun e w' => e = .returned (.tuple #[.agg #[.slice none 0 0, .slice none 0 0], .int .i64 2]) ∧ Below w.heap.size w w' := by
  have hB0 := (Below.refl _ w).alloc (Nat.le_refl _) (.cells #[.slice ol s.L.length cl, .slice os s.S.length cs] 25)
  have hr0 := hr.below encR_len (by decide) hB0
  have ht0 := ht.below encI_len (by decide) hB0
  have cK := fun W h1 h2 => check_any s ol os cl cs hn hm W h1 h2
  rw [hmay] at cK
  simp only [Bool.false_eq_true, if_false] at cK
  obtain ⟨n, hnn⟩ : ∃ n, s.L.length = n := ⟨_, rfl⟩
  obtain ⟨m, hmm⟩ : ∃ n, s.S.length = n := ⟨_, rfl⟩
  rw [hnn, hmm] at cK hr0 ht0 hB0 ⊢
  clear hnn hmm hmay hr ht
  go_enter Try.func20, Try.ntmps20
  go_wp2_with (fail)
  have hB1 := hB0.alloc hB0.size (.cells #[.slice none 0 0, .slice none 0 0] 25)
  have b1 := Blk.new (w.alloc (.cells #[.slice ol n cl, .slice os m cs] 25)) #[.slice none 0 0, .slice none 0 0] 25
  rw [World.size_alloc] at b1
  have hr1 := hr0.below encR_len (by decide) ((Below.refl _ _).alloc (Nat.le_refl _) (.cells #[.slice none 0 0, .slice none 0 0] 25))
  have ht1 := ht0.below encI_len (by decide) ((Below.refl _ _).alloc (Nat.le_refl _) (.cells #[.slice none 0 0, .slice none 0 0] 25))
  refine (cK _ hr1 ht1).mono ?_
  rintro e w1 ⟨rfl, hB⟩
  have b2 := b1.below' hB
  have z0 := b2.cell 0
  have z1 := b2.cell 1
  have f0 := b2.frozen 0
  have f1 := b2.frozen 1
  simp only [List.getElem?_toArray, List.getElem?_cons_succ, List.getElem?_cons_zero] at z0 z1
  have hend := (((hB1.trans (hB.mono hB1.size)).setCell (p := ⟨w.heap.size + 1, 0, none⟩) (Nat.le_succ _) (.slice none 0 0)).setCell (p := ⟨w.heap.size + 1, 1, none⟩) (Nat.le_succ _) (.slice none 0 0))
  have b3 := (b2.set 0 (.slice none 0 0)).set 1 (.slice none 0 0)
  have q0 := b3.cell 0
  have q1 := b3.cell 1
  simp only [List.setIfInBounds_toArray, List.set_cons_zero, List.set_cons_succ, List.getElem?_toArray, List.getElem?_cons_succ, List.getElem?_cons_zero] at q0 q1
  obtain ⟨F, hF⟩ : ∃ F, (w1.setCell ⟨w.heap.size + 1, 0, none⟩ (.slice none 0 0)).setCell ⟨w.heap.size + 1, 1, none⟩ (.slice none 0 0) = F := ⟨_, rfl⟩
  rw [hF] at hend q0 q1
  clear b1 b2 b3 hB hB0 hB1 hr0 ht0 hr1 ht1 cK
  go_wp2
  clear hF
  exact bodyPost_ret (v := .tuple #[.agg #[.slice none 0 0, .slice none 0 0], .int .i64 2]) (by simp [results, Try.f20, go_sem, q0, q1]) rfl ⟨rfl, hend⟩

theorem plain_no (s : Sc) (ol os : Option Addr) (cl cs : Nat) (hn : s.L.length ≤ 9223372036854775807) (hm : s.S.length ≤ 9223372036854775807) (w : World) (hr : RowAt w encR 2 ol s.L) (ht : RowAt w encI 1 os s.S) (hmay : mayB s = false) :
    Calls Try.prog 64 #[.agg #[.slice ol s.L.length cl, .slice os s.S.length cs]] w fun e w' => e = .returned (.bool false) ∧ Below w.heap.size w w' := by
  have hB0 := (Below.refl _ w).alloc (Nat.le_refl _) (.cells #[.slice ol s.L.length cl, .slice os s.S.length cs] 25)
  have hr0 := hr.below encR_len (by decide) hB0
  have ht0 := ht.below encI_len (by decide) hB0
  have cK := fun W h1 h2 => check_any s ol os cl cs hn hm W h1 h2
  rw [hmay] at cK
  simp only [Bool.false_eq_true, if_false] at cK
  obtain ⟨n, hnn⟩ : ∃ n, s.L.length = n := ⟨_, rfl⟩
  obtain ⟨m, hmm⟩ : ∃ n, s.S.length = n := ⟨_, rfl⟩
  rw [hnn, hmm] at cK hr0 ht0 hB0 ⊢
  clear hnn hmm hmay hr ht
  go_enter Try.func64, Try.ntmps64
  go_wp2_with (fail)
  refine (cK _ hr0 ht0).mono ?_
  rintro e w1 ⟨rfl, hB⟩
  have hend := hB0.trans (hB.mono hB0.size)
  have HE := Lib.hid hend
  clear hB hB0 hr0 ht0 cK hend
  go_wp2
  go_ret
  exact ⟨rfl, HE.out⟩

theorem rank_no (s : Sc) (ol os : Option Addr) (cl cs : Nat) (hn : s.L.length ≤ 9223372036854775807) (hm : s.S.length ≤ 9223372036854775807) (w : World) (hr : RowAt w encR 2 ol s.L) (ht : RowAt w encI 1 os s.S) (hmay : mayB s = false) :
    Calls Try.prog 26 #[.agg #[.slice ol s.L.length cl, .slice os s.S.length cs]] w fun e w' => e = .returned (.tuple #[.int .i64 0, .int .i64 2]) ∧ Below w.heap.size w w' := by
  have hB0 := (Below.refl _ w).alloc (Nat.le_refl _) (.cells #[.slice ol s.L.length cl, .slice os s.S.length cs] 25)
  have hr0 := hr.below encR_len (by decide) hB0
  have ht0 := ht.below encI_len (by decide) hB0
  have cK := fun W h1 h2 => plain_no s ol os cl cs hn hm W h1 h2 hmay
  obtain ⟨n, hnn⟩ : ∃ n, s.L.length = n := ⟨_, rfl⟩
  obtain ⟨m, hmm⟩ : ∃ n, s.S.length = n := ⟨_, rfl⟩
  rw [hnn, hmm] at cK hr0 ht0 hB0 ⊢
  clear hnn hmm hmay hr ht
  go_enter Try.func26, Try.ntmps26
  go_wp2_with (fail)
  refine (cK _ hr0 ht0).mono ?_
  rintro e w1 ⟨rfl, hB⟩
  have hend := hB0.trans (hB.mono hB0.size)
  have HE := Lib.hid hend
  clear hB hB0 hr0 ht0 cK hend
  go_wp2
  go_ret2
  exact ⟨rfl, HE.out⟩

theorem classes_no (s : Sc) (ol os : Option Addr) (cl cs : Nat) (hn : s.L.length ≤ 9223372036854775807) (hm : s.S.length ≤ 9223372036854775807) (w : World) (hr : RowAt w encR 2 ol s.L) (ht : RowAt w encI 1 os s.S) (hmay : mayB s = false) :
    Calls Try.prog 21 #[.agg #[.slice ol s.L.length cl, .slice os s.S.length cs]] w fun e w' => e = .returned (.tuple #[.slice none 0 0, .int .i64 2]) ∧ Below w.heap.size w w' := by
  have hB0 := (Below.refl _ w).alloc (Nat.le_refl _) (.cells #[.slice ol s.L.length cl, .slice os s.S.length cs] 25)
  have hr0 := hr.below encR_len (by decide) hB0
  have ht0 := ht.below encI_len (by decide) hB0
  have cK := fun W h1 h2 => canon_no s ol os cl cs hn hm W h1 h2 hmay
  obtain ⟨n, hnn⟩ : ∃ n, s.L.length = n := ⟨_, rfl⟩
  obtain ⟨m, hmm⟩ : ∃ n, s.S.length = n := ⟨_, rfl⟩
  rw [hnn, hmm] at cK hr0 ht0 hB0 ⊢
  clear hnn hmm hmay hr ht
  go_enter Try.func21, Try.ntmps21
  go_wp2_with (fail)
  refine (cK _ hr0 ht0).mono ?_
  rintro e w1 ⟨rfl, hB⟩
  have hend := hB0.trans (hB.mono hB0.size)
  have HE := Lib.hid hend
  clear hB hB0 hr0 ht0 cK hend
  go_wp2
  go_ret2
  exact ⟨rfl, HE.out.alloc HE.out.size _⟩

theorem faults_no (s : Sc) (ol os : Option Addr) (cl cs : Nat) (hn : s.L.length ≤ 9223372036854775807) (hm : s.S.length ≤ 9223372036854775807) (w : World) (hr : RowAt w encR 2 ol s.L) (ht : RowAt w encI 1 os s.S) (hmay : mayB s = false) (ko : Option Addr) (kn kc : Nat) :
    Calls Try.prog 22 #[.agg #[.slice ol s.L.length cl, .slice os s.S.length cs], .slice ko kn kc] w fun e w' => e = .returned (.tuple #[.slice none 0 0, .int .i64 2]) ∧ Below w.heap.size w w' := by
  have hB0 := (Below.refl _ w).alloc (Nat.le_refl _) (.cells #[.slice ol s.L.length cl, .slice os s.S.length cs] 25)
  have hr0 := hr.below encR_len (by decide) hB0
  have ht0 := ht.below encI_len (by decide) hB0
  have cK := fun W h1 h2 => check_any s ol os cl cs hn hm W h1 h2
  rw [hmay] at cK
  simp only [Bool.false_eq_true, if_false] at cK
  obtain ⟨n, hnn⟩ : ∃ n, s.L.length = n := ⟨_, rfl⟩
  obtain ⟨m, hmm⟩ : ∃ n, s.S.length = n := ⟨_, rfl⟩
  rw [hnn, hmm] at cK hr0 ht0 hB0 ⊢
  clear hnn hmm hmay hr ht
  go_enter Try.func22, Try.ntmps22
  go_wp2_with (fail)
  refine (cK _ hr0 ht0).mono ?_
  rintro e w1 ⟨rfl, hB⟩
  have hend := hB0.trans (hB.mono hB0.size)
  have HE := Lib.hid hend
  clear hB hB0 hr0 ht0 cK hend
  go_wp2
  go_ret2
  exact ⟨rfl, HE.out⟩

theorem both_no (s t : Sc) (ol os ol' os' : Option Addr) (cl cs cl' cs' : Nat) (hn : s.L.length ≤ 9223372036854775807) (hm : s.S.length ≤ 9223372036854775807) (hn' : t.L.length ≤ 9223372036854775807) (hm' : t.S.length ≤ 9223372036854775807) (w : World) (hr : RowAt w encR 2 ol s.L) (ht : RowAt w encI 1 os s.S) (hr' : RowAt w encR 2 ol' t.L) (ht' : RowAt w encI 1 os' t.S) (hmay : (mayB s && mayB t) = false) :
    Calls Try.prog 61 #[.agg #[.slice ol s.L.length cl, .slice os s.S.length cs], .agg #[.slice ol' t.L.length cl', .slice os' t.S.length cs']] w fun e w' => e = .returned (.int .i64 2) ∧ Below w.heap.size w w' := by
  have hB0 := ((Below.refl _ w).alloc (Nat.le_refl _) (.cells #[.slice ol s.L.length cl, .slice os s.S.length cs] 25)).alloc (by simp) (.cells #[.slice ol' t.L.length cl', .slice os' t.S.length cs'] 25)
  have hr0 := hr.below encR_len (by decide) hB0
  have ht0 := ht.below encI_len (by decide) hB0
  have hr0' := hr'.below encR_len (by decide) hB0
  have ht0' := ht'.below encI_len (by decide) hB0
  have cK := fun W h1 h2 => check_any s ol os cl cs hn hm W h1 h2
  have cK' := fun W h1 h2 => check_any t ol' os' cl' cs' hn' hm' W h1 h2
  obtain ⟨n, hnn⟩ : ∃ n, s.L.length = n := ⟨_, rfl⟩
  obtain ⟨m, hmm⟩ : ∃ n, s.S.length = n := ⟨_, rfl⟩
  obtain ⟨n', hnn'⟩ : ∃ n, t.L.length = n := ⟨_, rfl⟩
  obtain ⟨m', hmm'⟩ : ∃ n, t.S.length = n := ⟨_, rfl⟩
  simp only [hnn, hmm, hnn', hmm'] at cK cK' hr0 ht0 hr0' ht0' hB0 ⊢
  clear hnn hmm hnn' hmm' hr ht hr' ht'
  cases h1 : mayB s with
  | false =>
    rw [h1] at cK
    simp only [Bool.false_eq_true, if_false] at cK
    clear h1 hmay cK'
    go_enter Try.func61, Try.ntmps61
    go_wp2_with (fail)
    refine (cK _ hr0 ht0).mono ?_
    rintro e w1 ⟨rfl, hB⟩
    have HE := Lib.hid (hB0.trans (hB.mono hB0.size))
    clear hB hB0 hr0 ht0 hr0' ht0' cK
    go_wp2
    go_ret
    exact ⟨rfl, HE.out⟩
  | true =>
    have h2 : mayB t = false := by rw [h1] at hmay; simpa using hmay
    rw [h1] at cK
    rw [h2] at cK'
    simp only [Bool.false_eq_true, if_false, if_true] at cK cK'
    have b1 := Blk.new (w.alloc (.cells #[.slice ol n cl, .slice os m cs] 25)) #[.slice ol' n' cl', .slice os' m' cs'] 25
    rw [World.size_alloc] at b1
    clear h1 h2 hmay
    go_enter Try.func61, Try.ntmps61
    go_wp2_with (fail)
    refine (cK _ hr0 ht0).mono ?_
    rintro e w1 ⟨rfl, hB⟩
    have b2 := b1.below' hB
    have z0 : w1.cell? ⟨w.heap.size + 1, 0, none⟩ = some (.slice ol' n' cl') := b2.cell 0
    have z1 : w1.cell? ⟨w.heap.size + 1, 1, none⟩ = some (.slice os' m' cs') := b2.cell 1
    have hr1 := hr0'.below encR_len (by decide) hB
    have ht1 := ht0'.below encI_len (by decide) hB
    have hB1 := hB0.trans (hB.mono hB0.size)
    have HE1 := Lib.hid hB1
    clear hB hB0 hr0 ht0 hr0' ht0' cK b1 b2 hB1
    go_wp2_with (fail)
    refine (cK' _ hr1 ht1).mono ?_
    rintro e w2 ⟨rfl, hB2⟩
    have HE := Lib.hid (HE1.out.trans (hB2.mono HE1.out.size))
    clear hB2 hr1 ht1 cK'
    go_wp2
    go_ret
    exact ⟨rfl, HE.out⟩

theorem within_no (s t : Sc) (ol os ol' os' : Option Addr) (cl cs cl' cs' : Nat) (hn : s.L.length ≤ 9223372036854775807) (hm : s.S.length ≤ 9223372036854775807) (hn' : t.L.length ≤ 9223372036854775807) (hm' : t.S.length ≤ 9223372036854775807) (w : World) (hr : RowAt w encR 2 ol s.L) (ht : RowAt w encI 1 os s.S) (hr' : RowAt w encR 2 ol' t.L) (ht' : RowAt w encI 1 os' t.S) (hmay : (mayB s && mayB t) = false) :
    Calls Try.prog 23 #[.agg #[.slice ol s.L.length cl, .slice os s.S.length cs], .agg #[.slice ol' t.L.length cl', .slice os' t.S.length cs']] w fun e w' => e = .returned (.tuple #[.bool false, .int .i64 2]) ∧ Below w.heap.size w w' := by
  have hB0 := ((Below.refl _ w).alloc (Nat.le_refl _) (.cells #[.slice ol s.L.length cl, .slice os s.S.length cs] 25)).alloc (by simp) (.cells #[.slice ol' t.L.length cl', .slice os' t.S.length cs'] 25)
  have hr0 := hr.below encR_len (by decide) hB0
  have ht0 := ht.below encI_len (by decide) hB0
  have hr0' := hr'.below encR_len (by decide) hB0
  have ht0' := ht'.below encI_len (by decide) hB0
  have cK := fun W h1 h2 h3 h4 => both_no s t ol os ol' os' cl cs cl' cs' hn hm hn' hm' W h1 h2 h3 h4 hmay
  obtain ⟨n, hnn⟩ : ∃ n, s.L.length = n := ⟨_, rfl⟩
  obtain ⟨m, hmm⟩ : ∃ n, s.S.length = n := ⟨_, rfl⟩
  obtain ⟨n', hnn'⟩ : ∃ n, t.L.length = n := ⟨_, rfl⟩
  obtain ⟨m', hmm'⟩ : ∃ n, t.S.length = n := ⟨_, rfl⟩
  simp only [hnn, hmm, hnn', hmm'] at cK hr0 ht0 hr0' ht0' hB0 ⊢
  clear hnn hmm hnn' hmm' hr ht hr' ht'
  go_enter Try.func23, Try.ntmps23
  go_wp2_with (fail)
  refine (cK _ hr0 ht0 hr0' ht0').mono ?_
  rintro e w1 ⟨rfl, hB⟩
  have HE := Lib.hid (hB0.trans (hB.mono hB0.size))
  clear hB hB0 hr0 ht0 hr0' ht0' cK
  go_wp2
  go_ret2
  exact ⟨rfl, HE.out⟩

theorem meet_no (s t : Sc) (ol os ol' os' : Option Addr) (cl cs cl' cs' : Nat) (hn : s.L.length ≤ 9223372036854775807) (hm : s.S.length ≤ 9223372036854775807) (hn' : t.L.length ≤ 9223372036854775807) (hm' : t.S.length ≤ 9223372036854775807) (w : World) (hr : RowAt w encR 2 ol s.L) (ht : RowAt w encI 1 os s.S) (hr' : RowAt w encR 2 ol' t.L) (ht' : RowAt w encI 1 os' t.S) (hmay : (mayB s && mayB t) = false) :
    Calls Try.prog 24 #[.agg #[.slice ol s.L.length cl, .slice os s.S.length cs], .agg #[.slice ol' t.L.length cl', .slice os' t.S.length cs']] w fun e w' => e = .returned (.tuple #[.agg #[.slice none 0 0, .slice none 0 0], .int .i64 2]) ∧ Below w.heap.size w w' := by
  have hB0 := ((Below.refl _ w).alloc (Nat.le_refl _) (.cells #[.slice ol s.L.length cl, .slice os s.S.length cs] 25)).alloc (by simp) (.cells #[.slice ol' t.L.length cl', .slice os' t.S.length cs'] 25)
  have hB0 := hB0.alloc hB0.size (.cells #[.slice none 0 0, .slice none 0 0] 25)
  have hr0 := hr.below encR_len (by decide) hB0
  have ht0 := ht.below encI_len (by decide) hB0
  have hr0' := hr'.below encR_len (by decide) hB0
  have ht0' := ht'.below encI_len (by decide) hB0
  have cK := fun W h1 h2 h3 h4 => both_no s t ol os ol' os' cl cs cl' cs' hn hm hn' hm' W h1 h2 h3 h4 hmay
  have b1 := Blk.new ((w.alloc (.cells #[.slice ol s.L.length cl, .slice os s.S.length cs] 25)).alloc (.cells #[.slice ol' t.L.length cl', .slice os' t.S.length cs'] 25)) #[.slice none 0 0, .slice none 0 0] 25
  rw [World.size_alloc, World.size_alloc] at b1
  obtain ⟨n, hnn⟩ : ∃ n, s.L.length = n := ⟨_, rfl⟩
  obtain ⟨m, hmm⟩ : ∃ n, s.S.length = n := ⟨_, rfl⟩
  obtain ⟨n', hnn'⟩ : ∃ n, t.L.length = n := ⟨_, rfl⟩
  obtain ⟨m', hmm'⟩ : ∃ n, t.S.length = n := ⟨_, rfl⟩
  simp only [hnn, hmm, hnn', hmm'] at cK hr0 ht0 hr0' ht0' hB0 b1 ⊢
  clear hnn hmm hnn' hmm' hr ht hr' ht'
  go_enter Try.func24, Try.ntmps24
  go_wp2_with (fail)
  refine (cK _ hr0 ht0 hr0' ht0').mono ?_
  rintro e w1 ⟨rfl, hB⟩
  have b2 := b1.below' hB
  have z0 := b2.cell 0
  have z1 := b2.cell 1
  have f0 := b2.frozen 0
  have f1 := b2.frozen 1
  simp only [List.getElem?_toArray, List.getElem?_cons_succ, List.getElem?_cons_zero] at z0 z1
  have hend := (((hB0.trans (hB.mono hB0.size)).setCell (p := ⟨w.heap.size + 1 + 1, 0, none⟩) (by show w.heap.size ≤ w.heap.size + 1 + 1; omega) (.slice none 0 0)).setCell (p := ⟨w.heap.size + 1 + 1, 1, none⟩) (by show w.heap.size ≤ w.heap.size + 1 + 1; omega) (.slice none 0 0))
  have b3 := (b2.set 0 (.slice none 0 0)).set 1 (.slice none 0 0)
  have q0 := b3.cell 0
  have q1 := b3.cell 1
  simp only [List.setIfInBounds_toArray, List.set_cons_zero, List.set_cons_succ, List.getElem?_toArray, List.getElem?_cons_succ, List.getElem?_cons_zero] at q0 q1
  obtain ⟨F, hF⟩ : ∃ F, (w1.setCell ⟨w.heap.size + 1 + 1, 0, none⟩ (.slice none 0 0)).setCell ⟨w.heap.size + 1 + 1, 1, none⟩ (.slice none 0 0) = F := ⟨_, rfl⟩
  rw [hF] at hend q0 q1
  clear b1 b2 b3 hB hB0 hr0 ht0 hr0' ht0' cK
  go_wp2
  clear hF
  exact bodyPost_ret (v := .tuple #[.agg #[.slice none 0 0, .slice none 0 0], .int .i64 2]) (by simp [results, Try.f24, go_sem, q0, q1]) rfl ⟨rfl, hend⟩

theorem join_no (s t : Sc) (ol os ol' os' : Option Addr) (cl cs cl' cs' : Nat) (hn : s.L.length ≤ 9223372036854775807) (hm : s.S.length ≤ 9223372036854775807) (hn' : t.L.length ≤ 9223372036854775807) (hm' : t.S.length ≤ 9223372036854775807) (w : World) (hr : RowAt w encR 2 ol s.L) (ht : RowAt w encI 1 os s.S) (hr' : RowAt w encR 2 ol' t.L) (ht' : RowAt w encI 1 os' t.S) (hmay : (mayB s && mayB t) = false) :
    Calls Try.prog 25 #[.agg #[.slice ol s.L.length cl, .slice os s.S.length cs], .agg #[.slice ol' t.L.length cl', .slice os' t.S.length cs']] w fun e w' => e = .returned (.tuple #[.agg #[.slice none 0 0, .slice none 0 0], .int .i64 2]) ∧ Below w.heap.size w w' := by
  have hB0 := ((Below.refl _ w).alloc (Nat.le_refl _) (.cells #[.slice ol s.L.length cl, .slice os s.S.length cs] 25)).alloc (by simp) (.cells #[.slice ol' t.L.length cl', .slice os' t.S.length cs'] 25)
  have hB0 := hB0.alloc hB0.size (.cells #[.slice none 0 0, .slice none 0 0] 25)
  have hr0 := hr.below encR_len (by decide) hB0
  have ht0 := ht.below encI_len (by decide) hB0
  have hr0' := hr'.below encR_len (by decide) hB0
  have ht0' := ht'.below encI_len (by decide) hB0
  have cK := fun W h1 h2 h3 h4 => both_no s t ol os ol' os' cl cs cl' cs' hn hm hn' hm' W h1 h2 h3 h4 hmay
  have b1 := Blk.new ((w.alloc (.cells #[.slice ol s.L.length cl, .slice os s.S.length cs] 25)).alloc (.cells #[.slice ol' t.L.length cl', .slice os' t.S.length cs'] 25)) #[.slice none 0 0, .slice none 0 0] 25
  rw [World.size_alloc, World.size_alloc] at b1
  obtain ⟨n, hnn⟩ : ∃ n, s.L.length = n := ⟨_, rfl⟩
  obtain ⟨m, hmm⟩ : ∃ n, s.S.length = n := ⟨_, rfl⟩
  obtain ⟨n', hnn'⟩ : ∃ n, t.L.length = n := ⟨_, rfl⟩
  obtain ⟨m', hmm'⟩ : ∃ n, t.S.length = n := ⟨_, rfl⟩
  simp only [hnn, hmm, hnn', hmm'] at cK hr0 ht0 hr0' ht0' hB0 b1 ⊢
  clear hnn hmm hnn' hmm' hr ht hr' ht'
  go_enter Try.func25, Try.ntmps25
  go_wp2_with (fail)
  refine (cK _ hr0 ht0 hr0' ht0').mono ?_
  rintro e w1 ⟨rfl, hB⟩
  have b2 := b1.below' hB
  have z0 := b2.cell 0
  have z1 := b2.cell 1
  have f0 := b2.frozen 0
  have f1 := b2.frozen 1
  simp only [List.getElem?_toArray, List.getElem?_cons_succ, List.getElem?_cons_zero] at z0 z1
  have hend := (((hB0.trans (hB.mono hB0.size)).setCell (p := ⟨w.heap.size + 1 + 1, 0, none⟩) (by show w.heap.size ≤ w.heap.size + 1 + 1; omega) (.slice none 0 0)).setCell (p := ⟨w.heap.size + 1 + 1, 1, none⟩) (by show w.heap.size ≤ w.heap.size + 1 + 1; omega) (.slice none 0 0))
  have b3 := (b2.set 0 (.slice none 0 0)).set 1 (.slice none 0 0)
  have q0 := b3.cell 0
  have q1 := b3.cell 1
  simp only [List.setIfInBounds_toArray, List.set_cons_zero, List.set_cons_succ, List.getElem?_toArray, List.getElem?_cons_succ, List.getElem?_cons_zero] at q0 q1
  obtain ⟨F, hF⟩ : ∃ F, (w1.setCell ⟨w.heap.size + 1 + 1, 0, none⟩ (.slice none 0 0)).setCell ⟨w.heap.size + 1 + 1, 1, none⟩ (.slice none 0 0) = F := ⟨_, rfl⟩
  rw [hF] at hend q0 q1
  clear b1 b2 b3 hB hB0 hr0 ht0 hr0' ht0' cK
  go_wp2
  clear hF
  exact bodyPost_ret (v := .tuple #[.agg #[.slice none 0 0, .slice none 0 0], .int .i64 2]) (by simp [results, Try.f25, go_sem, q0, q1]) rfl ⟨rfl, hend⟩

theorem none_nil (w : World) : Calls Try.prog 27 #[.agg #[.slice none 0 0, .slice none 0 0]] w fun e w' => e = .returned (.bool true) ∧ Below w.heap.size w w' := by
  go_enter Try.func27, Try.ntmps27
  go_wp2
  go_ret
  exact ⟨rfl, (Below.refl _ _).alloc (Nat.le_refl _) _⟩
end Go.Proofs.Ytdcmkiggnmajgaa
