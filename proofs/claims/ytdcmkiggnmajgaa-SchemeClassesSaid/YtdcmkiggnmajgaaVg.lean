/- Stage 16: the law SchemeChecks. -/
import Derived.Test.YtdcmkiggnmajgaaV7
import Derived.Test.YtdcmkiggnmajgaaVe
import Derived.Test.YtdcmkiggnmajgaaVf
namespace Go.Proofs.Ytdcmkiggnmajgaa
set_option linter.unusedVariables false
set_option linter.unusedSimpArgs false
open Go Go.RowKit Go.Shelf
set_option maxRecDepth 100000

theorem eqB_self2 (s : Sc) : eqB s s = true := decide_eq_true rfl
def tab : ByteArray := ⟨#[97, 98]⟩
def sab : Sc := ⟨[⟨0, 0⟩, ⟨1, 0⟩], [2]⟩
theorem read_tab : readR tab = (sab, 0, 0) := by kernel_rfl
theorem may_sab : mayB sab = true := by kernel_rfl
theorem readAb (W : World) : Calls Try.prog 17 #[.string tab] W fun e w' => ∃ ol os cl cs, e = .returned (.tuple #[.agg #[.slice ol 2 cl, .slice os 1 cs], .agg #[.int .i64 0, .int .i64 0]]) ∧ RowAt w' encR 2 ol sab.L ∧ RowAt w' encI 1 os sab.S ∧ Below W.heap.size W w' := by
  have h := read_any tab (by decide) W
  rw [read_tab] at h
  refine h.mono ?_
  rintro e w1 ⟨vl, vs, rfl, hL, hS, hB⟩
  obtain ⟨ol, cl, rfl, _⟩ := own_slice hL
  obtain ⟨os, cs, rfl, _⟩ := own_slice hS
  exact ⟨ol, os, cl, cs, rfl, RowAt.of_own encR_len hL rfl, RowAt.of_own encI_len hS rfl, hB⟩
theorem idx12 (k : Nat) (hk : k < 12) (W : World) : (Instr.index 50 (.agg #[.int .i64 2, .int .i64 2, .int .i64 2, .int .i64 2, .int .i64 2, .int .i64 2, .int .i64 2, .int .i64 2, .int .i64 2, .int .i64 2, .int .i64 2, .int .i64 2]) (.int .i64 k)).run Try.prog W = .ok (.int .i64 2) W := by
  have h : k = 0 ∨ k = 1 ∨ k = 2 ∨ k = 3 ∨ k = 4 ∨ k = 5 ∨ k = 6 ∨ k = 7 ∨ k = 8 ∨ k = 9 ∨ k = 10 ∨ k = 11 := by omega
  rcases h with rfl | rfl | rfl | rfl | rfl | rfl | rfl | rfl | rfl | rfl | rfl | rfl <;> simp [Instr.index, asIntOf, run_underlying Try.underlying50, part, Try.isAgg28, Try.sizeOf28]

set_option maxHeartbeats 16000000 in
theorem checks_law (s : Sc) (ol os : Option Addr) (cl cs : Nat) (hn : s.L.length ≤ 9223372036854775807) (hm : s.S.length ≤ 9223372036854775807) (w : World) (hr : RowAt w encR 2 ol s.L) (ht : RowAt w encI 1 os s.S) :
    Calls Try.prog 3 #[.agg #[.slice ol s.L.length cl, .slice os s.S.length cs]] w fun e w' => e = .returned (.bool true) ∧ Below w.heap.size w w' := by
  have hB0 := (Below.refl _ w).alloc (Nat.le_refl _) (.cells #[.slice ol s.L.length cl, .slice os s.S.length cs] 25)
  have hr := hr.below encR_len (by decide) hB0
  have ht := ht.below encI_len (by decide) hB0
  have bs := Blk.new w #[.slice ol s.L.length cl, .slice os s.S.length cs] 25
  have cM := fun W h1 h2 => may_any s ol os cl cs hn hm W h1 h2
  have cK := fun W h1 h2 => check_any s ol os cl cs hn hm W h1 h2
  have cS := fun W h1 h2 => same_any s s ol os ol os cl cs cl cs hn hm hn hm W h1 h2 h1 h2
  rw [eqB_self2] at cS
  obtain ⟨n, hnn⟩ : ∃ n, s.L.length = n := ⟨_, rfl⟩
  obtain ⟨m, hmm⟩ : ∃ n, s.S.length = n := ⟨_, rfl⟩
  obtain ⟨b, hmay⟩ : ∃ b, mayB s = b := ⟨_, rfl⟩
  simp only [hnn, hmm, hmay, Bool.and_true, Bool.and_self] at cM cK cS hB0 bs hr ht ⊢
  have HN := Lib.hid (And.intro (And.intro hnn hmm) (And.intro hmay (And.intro hn hm)))
  have HE := Lib.hid hB0
  clear hnn hmm hmay hn hm hB0
  go_enter Try.func3, Try.ntmps3
  go_wp2_with (fail)
  refine (wakes_any _).mono ?_
  rintro e w1 ⟨rfl, hB⟩
  have bs := bs.below' hB
  have hr := hr.below encR_len (by decide) hB
  have ht := ht.below encI_len (by decide) hB
  have HE := Lib.hid (HE.out.trans (hB.mono HE.out.size))
  clear hB
  have x0a : w1.cell? ⟨w.heap.size, 0, none⟩ = some (.slice ol n cl) := bs.cell 0
  have x0b : w1.cell? ⟨w.heap.size, 1, none⟩ = some (.slice os m cs) := bs.cell 1
  go_wp2_with (fail)
  refine (cM _ hr ht).mono ?_
  rintro e w2 ⟨rfl, hB⟩
  clear x0a x0b
  have bs := bs.below' hB
  have hr := hr.below encR_len (by decide) hB
  have ht := ht.below encI_len (by decide) hB
  have HE := Lib.hid (HE.out.trans (hB.mono HE.out.size))
  clear hB
  have x0a : w2.cell? ⟨w.heap.size, 0, none⟩ = some (.slice ol n cl) := bs.cell 0
  have x0b : w2.cell? ⟨w.heap.size, 1, none⟩ = some (.slice os m cs) := bs.cell 1
  go_wp2_with (fail)
  refine (cK _ hr ht).mono ?_
  rintro e w3 ⟨rfl, hB⟩
  clear x0a x0b
  have bs := bs.below' hB
  have hr := hr.below encR_len (by decide) hB
  have ht := ht.below encI_len (by decide) hB
  have HE := Lib.hid (HE.out.trans (hB.mono HE.out.size))
  clear hB
  have x0a : w3.cell? ⟨w.heap.size, 0, none⟩ = some (.slice ol n cl) := bs.cell 0
  have x0b : w3.cell? ⟨w.heap.size, 1, none⟩ = some (.slice os m cs) := bs.cell 1
  cases b with
  | true =>
    simp only [if_true]
    go_wp2_with (fail)
    refine (cS _ hr ht).mono ?_
    rintro e w4 ⟨rfl, hB⟩
    clear x0a x0b
    have bs := bs.below' hB
    have hr := hr.below encR_len (by decide) hB
    have ht := ht.below encI_len (by decide) hB
    have HE := Lib.hid (HE.out.trans (hB.mono HE.out.size))
    clear hB
    have x0a : w4.cell? ⟨w.heap.size, 0, none⟩ = some (.slice ol n cl) := bs.cell 0
    have x0b : w4.cell? ⟨w.heap.size, 1, none⟩ = some (.slice os m cs) := bs.cell 1
    clear cM cK cS hr ht
    go_wp2_with (fail)
    refine (wakes_any _).mono ?_
    rintro e w5 ⟨rfl, hB⟩
    clear x0a x0b
    have bs := bs.below' hB
    have HE := Lib.hid (HE.out.trans (hB.mono HE.out.size))
    clear hB
    have x0a : w5.cell? ⟨w.heap.size, 0, none⟩ = some (.slice ol n cl) := bs.cell 0
    have x0b : w5.cell? ⟨w.heap.size, 1, none⟩ = some (.slice os m cs) := bs.cell 1
    go_wp2
    go_ret
    exact ⟨rfl, HE.out⟩
  | false =>
    simp only [Bool.false_eq_true, if_false]
    go_wp2_with (fail)
    refine (cS _ hr ht).mono ?_
    rintro e w4 ⟨rfl, hB⟩
    clear x0a x0b
    have bs := bs.below' hB
    have hr := hr.below encR_len (by decide) hB
    have ht := ht.below encI_len (by decide) hB
    have HE := Lib.hid (HE.out.trans (hB.mono HE.out.size))
    clear hB
    have x0a : w4.cell? ⟨w.heap.size, 0, none⟩ = some (.slice ol n cl) := bs.cell 0
    have x0b : w4.cell? ⟨w.heap.size, 1, none⟩ = some (.slice os m cs) := bs.cell 1
    clear cM cK cS
    go_wp2_with (fail)
    refine (readAb _).mono ?_
    rintro e w5 ⟨oo, po, oc, pc, rfl, rk, tk, hB⟩
    clear x0a x0b
    have bs := bs.below' hB
    have hr := hr.below encR_len (by decide) hB
    have ht := ht.below encI_len (by decide) hB
    have HE := Lib.hid (HE.out.trans (hB.mono HE.out.size))
    clear hB
    have bk := Blk.new w5 #[(.slice oo 2 oc), (.slice po 1 pc)] 25
    have bs := bs.alloc (.cells #[(.slice oo 2 oc), (.slice po 1 pc)] 25)
    have hr := hr.below encR_len (by decide) ((Below.refl _ _).alloc (Nat.le_refl _) (.cells #[(.slice oo 2 oc), (.slice po 1 pc)] 25))
    have ht := ht.below encI_len (by decide) ((Below.refl _ _).alloc (Nat.le_refl _) (.cells #[(.slice oo 2 oc), (.slice po 1 pc)] 25))
    have rk := rk.below encR_len (by decide) ((Below.refl _ _).alloc (Nat.le_refl _) (.cells #[(.slice oo 2 oc), (.slice po 1 pc)] 25))
    have tk := tk.below encI_len (by decide) ((Below.refl _ _).alloc (Nat.le_refl _) (.cells #[(.slice oo 2 oc), (.slice po 1 pc)] 25))
    have HE := Lib.hid (HE.out.alloc HE.out.size (.cells #[(.slice oo 2 oc), (.slice po 1 pc)] 25))
    have bz := Blk.new (w5.alloc (.cells #[(.slice oo 2 oc), (.slice po 1 pc)] 25)) #[(.int .i64 0), (.int .i64 0)] 32
    have bs := bs.alloc (.cells #[(.int .i64 0), (.int .i64 0)] 32)
    have bk := bk.alloc (.cells #[(.int .i64 0), (.int .i64 0)] 32)
    have hr := hr.below encR_len (by decide) ((Below.refl _ _).alloc (Nat.le_refl _) (.cells #[(.int .i64 0), (.int .i64 0)] 32))
    have ht := ht.below encI_len (by decide) ((Below.refl _ _).alloc (Nat.le_refl _) (.cells #[(.int .i64 0), (.int .i64 0)] 32))
    have rk := rk.below encR_len (by decide) ((Below.refl _ _).alloc (Nat.le_refl _) (.cells #[(.int .i64 0), (.int .i64 0)] 32))
    have tk := tk.below encI_len (by decide) ((Below.refl _ _).alloc (Nat.le_refl _) (.cells #[(.int .i64 0), (.int .i64 0)] 32))
    have HE := Lib.hid (HE.out.alloc HE.out.size (.cells #[(.int .i64 0), (.int .i64 0)] 32))
    rw [World.size_alloc] at bz
    clear bz
    have x0a : ((w5.alloc (.cells #[(.slice oo 2 oc), (.slice po 1 pc)] 25)).alloc (.cells #[(.int .i64 0), (.int .i64 0)] 32)).cell? ⟨w.heap.size, 0, none⟩ = some (.slice ol n cl) := bs.cell 0
    have x0b : ((w5.alloc (.cells #[(.slice oo 2 oc), (.slice po 1 pc)] 25)).alloc (.cells #[(.int .i64 0), (.int .i64 0)] 32)).cell? ⟨w.heap.size, 1, none⟩ = some (.slice os m cs) := bs.cell 1
    have x1a : ((w5.alloc (.cells #[(.slice oo 2 oc), (.slice po 1 pc)] 25)).alloc (.cells #[(.int .i64 0), (.int .i64 0)] 32)).cell? ⟨w5.heap.size, 0, none⟩ = some (.slice oo 2 oc) := bk.cell 0
    have x1b : ((w5.alloc (.cells #[(.slice oo 2 oc), (.slice po 1 pc)] 25)).alloc (.cells #[(.int .i64 0), (.int .i64 0)] 32)).cell? ⟨w5.heap.size, 1, none⟩ = some (.slice po 1 pc) := bk.cell 1
    have c12 := fun W h1 h2 => print_no s ol os cl cs HN.out.2.2.1 HN.out.2.2.2 W h1 h2 HN.out.2.1
    simp only [HN.out.1.1, HN.out.1.2, show sab.L.length = 2 from rfl, show sab.S.length = 1 from rfl] at c12
    have c13 := fun W h1 h2 => canon_no s ol os cl cs HN.out.2.2.1 HN.out.2.2.2 W h1 h2 HN.out.2.1
    simp only [HN.out.1.1, HN.out.1.2, show sab.L.length = 2 from rfl, show sab.S.length = 1 from rfl] at c13
    have c14 := fun W h1 h2 => turn_no s ol os cl cs HN.out.2.2.1 HN.out.2.2.2 W h1 h2 HN.out.2.1
    simp only [HN.out.1.1, HN.out.1.2, show sab.L.length = 2 from rfl, show sab.S.length = 1 from rfl] at c14
    have c15 := fun W h1 h2 => classes_no s ol os cl cs HN.out.2.2.1 HN.out.2.2.2 W h1 h2 HN.out.2.1
    simp only [HN.out.1.1, HN.out.1.2, show sab.L.length = 2 from rfl, show sab.S.length = 1 from rfl] at c15
    have c16 := fun W h1 h2 (kn : Option Addr × Nat × Nat) => faults_no s ol os cl cs HN.out.2.2.1 HN.out.2.2.2 W h1 h2 HN.out.2.1 kn.1 kn.2.1 kn.2.2
    simp only [HN.out.1.1, HN.out.1.2, show sab.L.length = 2 from rfl, show sab.S.length = 1 from rfl] at c16
    have c23 := fun W h1 h2 => rank_no s ol os cl cs HN.out.2.2.1 HN.out.2.2.2 W h1 h2 HN.out.2.1
    simp only [HN.out.1.1, HN.out.1.2, show sab.L.length = 2 from rfl, show sab.S.length = 1 from rfl] at c23
    have c17 := fun W h1 h2 h3 h4 => within_no s sab ol os oo po cl cs oc pc HN.out.2.2.1 HN.out.2.2.2 (by decide) (by decide) W h1 h2 h3 h4 (by rw [HN.out.2.1]; rfl)
    simp only [HN.out.1.1, HN.out.1.2, show sab.L.length = 2 from rfl, show sab.S.length = 1 from rfl] at c17
    have c18 := fun W h1 h2 h3 h4 => within_no sab s oo po ol os oc pc cl cs (by decide) (by decide) HN.out.2.2.1 HN.out.2.2.2 W h1 h2 h3 h4 (by rw [HN.out.2.1]; rfl)
    simp only [HN.out.1.1, HN.out.1.2, show sab.L.length = 2 from rfl, show sab.S.length = 1 from rfl] at c18
    have c19 := fun W h1 h2 h3 h4 => meet_no s sab ol os oo po cl cs oc pc HN.out.2.2.1 HN.out.2.2.2 (by decide) (by decide) W h1 h2 h3 h4 (by rw [HN.out.2.1]; rfl)
    simp only [HN.out.1.1, HN.out.1.2, show sab.L.length = 2 from rfl, show sab.S.length = 1 from rfl] at c19
    have c20 := fun W h1 h2 h3 h4 => meet_no sab s oo po ol os oc pc cl cs (by decide) (by decide) HN.out.2.2.1 HN.out.2.2.2 W h1 h2 h3 h4 (by rw [HN.out.2.1]; rfl)
    simp only [HN.out.1.1, HN.out.1.2, show sab.L.length = 2 from rfl, show sab.S.length = 1 from rfl] at c20
    have c21 := fun W h1 h2 h3 h4 => join_no s sab ol os oo po cl cs oc pc HN.out.2.2.1 HN.out.2.2.2 (by decide) (by decide) W h1 h2 h3 h4 (by rw [HN.out.2.1]; rfl)
    simp only [HN.out.1.1, HN.out.1.2, show sab.L.length = 2 from rfl, show sab.S.length = 1 from rfl] at c21
    have c22 := fun W h1 h2 h3 h4 => join_no sab s oo po ol os oc pc cl cs (by decide) (by decide) HN.out.2.2.1 HN.out.2.2.2 W h1 h2 h3 h4 (by rw [HN.out.2.1]; rfl)
    simp only [HN.out.1.1, HN.out.1.2, show sab.L.length = 2 from rfl, show sab.S.length = 1 from rfl] at c22
    go_wp2_with (fail)
    obtain ⟨v5, hv⟩ : ∃ V, ((w5.alloc (.cells #[(.slice oo 2 oc), (.slice po 1 pc)] 25)).alloc (.cells #[(.int .i64 0), (.int .i64 0)] 32)) = V := ⟨_, rfl⟩
    rw [hv] at bs bk hr ht rk tk HE ⊢
    refine (c12 _ hr ht).mono ?_
    rintro e w6 ⟨rfl, hB⟩
    clear hv
    clear x0a x0b
    clear x1a x1b
    have bs := bs.below' hB
    have bk := bk.below' hB
    have hr := hr.below encR_len (by decide) hB
    have ht := ht.below encI_len (by decide) hB
    have rk := rk.below encR_len (by decide) hB
    have tk := tk.below encI_len (by decide) hB
    have HE := Lib.hid (HE.out.trans (hB.mono HE.out.size))
    clear hB
    have x0a : w6.cell? ⟨w.heap.size, 0, none⟩ = some (.slice ol n cl) := bs.cell 0
    have x0b : w6.cell? ⟨w.heap.size, 1, none⟩ = some (.slice os m cs) := bs.cell 1
    have x1a : w6.cell? ⟨w5.heap.size, 0, none⟩ = some (.slice oo 2 oc) := bk.cell 0
    have x1b : w6.cell? ⟨w5.heap.size, 1, none⟩ = some (.slice po 1 pc) := bk.cell 1
    go_wp2_with (fail)
    refine (c13 _ hr ht).mono ?_
    rintro e w7 ⟨rfl, hB⟩
    clear x0a x0b
    clear x1a x1b
    have bs := bs.below' hB
    have bk := bk.below' hB
    have hr := hr.below encR_len (by decide) hB
    have ht := ht.below encI_len (by decide) hB
    have rk := rk.below encR_len (by decide) hB
    have tk := tk.below encI_len (by decide) hB
    have HE := Lib.hid (HE.out.trans (hB.mono HE.out.size))
    clear hB
    have b9 := Blk.new w7 #[(.slice none 0 0), (.slice none 0 0)] 25
    have bs := bs.alloc (.cells #[(.slice none 0 0), (.slice none 0 0)] 25)
    have bk := bk.alloc (.cells #[(.slice none 0 0), (.slice none 0 0)] 25)
    have hr := hr.below encR_len (by decide) ((Below.refl _ _).alloc (Nat.le_refl _) (.cells #[(.slice none 0 0), (.slice none 0 0)] 25))
    have ht := ht.below encI_len (by decide) ((Below.refl _ _).alloc (Nat.le_refl _) (.cells #[(.slice none 0 0), (.slice none 0 0)] 25))
    have rk := rk.below encR_len (by decide) ((Below.refl _ _).alloc (Nat.le_refl _) (.cells #[(.slice none 0 0), (.slice none 0 0)] 25))
    have tk := tk.below encI_len (by decide) ((Below.refl _ _).alloc (Nat.le_refl _) (.cells #[(.slice none 0 0), (.slice none 0 0)] 25))
    have HE := Lib.hid (HE.out.alloc HE.out.size (.cells #[(.slice none 0 0), (.slice none 0 0)] 25))
    have x0a : (w7.alloc (.cells #[(.slice none 0 0), (.slice none 0 0)] 25)).cell? ⟨w.heap.size, 0, none⟩ = some (.slice ol n cl) := bs.cell 0
    have x0b : (w7.alloc (.cells #[(.slice none 0 0), (.slice none 0 0)] 25)).cell? ⟨w.heap.size, 1, none⟩ = some (.slice os m cs) := bs.cell 1
    have x1a : (w7.alloc (.cells #[(.slice none 0 0), (.slice none 0 0)] 25)).cell? ⟨w5.heap.size, 0, none⟩ = some (.slice oo 2 oc) := bk.cell 0
    have x1b : (w7.alloc (.cells #[(.slice none 0 0), (.slice none 0 0)] 25)).cell? ⟨w5.heap.size, 1, none⟩ = some (.slice po 1 pc) := bk.cell 1
    have x2a : (w7.alloc (.cells #[(.slice none 0 0), (.slice none 0 0)] 25)).cell? ⟨w7.heap.size, 0, none⟩ = some (.slice none 0 0) := b9.cell 0
    have x2b : (w7.alloc (.cells #[(.slice none 0 0), (.slice none 0 0)] 25)).cell? ⟨w7.heap.size, 1, none⟩ = some (.slice none 0 0) := b9.cell 1
    go_wp2_with (fail)
    obtain ⟨v7, hv⟩ : ∃ V, (w7.alloc (.cells #[(.slice none 0 0), (.slice none 0 0)] 25)) = V := ⟨_, rfl⟩
    rw [hv] at bs bk b9 hr ht rk tk HE ⊢
    refine (c14 _ hr ht).mono ?_
    rintro e w8 ⟨rfl, hB⟩
    clear hv
    clear x0a x0b
    clear x1a x1b
    clear x2a x2b
    have bs := bs.below' hB
    have bk := bk.below' hB
    have b9 := b9.below' hB
    have hr := hr.below encR_len (by decide) hB
    have ht := ht.below encI_len (by decide) hB
    have rk := rk.below encR_len (by decide) hB
    have tk := tk.below encI_len (by decide) hB
    have HE := Lib.hid (HE.out.trans (hB.mono HE.out.size))
    clear hB
    have b11 := Blk.new w8 #[(.slice none 0 0), (.slice none 0 0)] 25
    have bs := bs.alloc (.cells #[(.slice none 0 0), (.slice none 0 0)] 25)
    have bk := bk.alloc (.cells #[(.slice none 0 0), (.slice none 0 0)] 25)
    have b9 := b9.alloc (.cells #[(.slice none 0 0), (.slice none 0 0)] 25)
    have hr := hr.below encR_len (by decide) ((Below.refl _ _).alloc (Nat.le_refl _) (.cells #[(.slice none 0 0), (.slice none 0 0)] 25))
    have ht := ht.below encI_len (by decide) ((Below.refl _ _).alloc (Nat.le_refl _) (.cells #[(.slice none 0 0), (.slice none 0 0)] 25))
    have rk := rk.below encR_len (by decide) ((Below.refl _ _).alloc (Nat.le_refl _) (.cells #[(.slice none 0 0), (.slice none 0 0)] 25))
    have tk := tk.below encI_len (by decide) ((Below.refl _ _).alloc (Nat.le_refl _) (.cells #[(.slice none 0 0), (.slice none 0 0)] 25))
    have HE := Lib.hid (HE.out.alloc HE.out.size (.cells #[(.slice none 0 0), (.slice none 0 0)] 25))
    have x0a : (w8.alloc (.cells #[(.slice none 0 0), (.slice none 0 0)] 25)).cell? ⟨w.heap.size, 0, none⟩ = some (.slice ol n cl) := bs.cell 0
    have x0b : (w8.alloc (.cells #[(.slice none 0 0), (.slice none 0 0)] 25)).cell? ⟨w.heap.size, 1, none⟩ = some (.slice os m cs) := bs.cell 1
    have x1a : (w8.alloc (.cells #[(.slice none 0 0), (.slice none 0 0)] 25)).cell? ⟨w5.heap.size, 0, none⟩ = some (.slice oo 2 oc) := bk.cell 0
    have x1b : (w8.alloc (.cells #[(.slice none 0 0), (.slice none 0 0)] 25)).cell? ⟨w5.heap.size, 1, none⟩ = some (.slice po 1 pc) := bk.cell 1
    have x2a : (w8.alloc (.cells #[(.slice none 0 0), (.slice none 0 0)] 25)).cell? ⟨w7.heap.size, 0, none⟩ = some (.slice none 0 0) := b9.cell 0
    have x2b : (w8.alloc (.cells #[(.slice none 0 0), (.slice none 0 0)] 25)).cell? ⟨w7.heap.size, 1, none⟩ = some (.slice none 0 0) := b9.cell 1
    have x3a : (w8.alloc (.cells #[(.slice none 0 0), (.slice none 0 0)] 25)).cell? ⟨w8.heap.size, 0, none⟩ = some (.slice none 0 0) := b11.cell 0
    have x3b : (w8.alloc (.cells #[(.slice none 0 0), (.slice none 0 0)] 25)).cell? ⟨w8.heap.size, 1, none⟩ = some (.slice none 0 0) := b11.cell 1
    go_wp2_with (fail)
    obtain ⟨v8, hv⟩ : ∃ V, (w8.alloc (.cells #[(.slice none 0 0), (.slice none 0 0)] 25)) = V := ⟨_, rfl⟩
    rw [hv] at bs bk b9 b11 hr ht rk tk HE ⊢
    refine (c15 _ hr ht).mono ?_
    rintro e w9 ⟨rfl, hB⟩
    clear hv
    clear x0a x0b
    clear x1a x1b
    clear x2a x2b
    clear x3a x3b
    have bs := bs.below' hB
    have bk := bk.below' hB
    have b9 := b9.below' hB
    have b11 := b11.below' hB
    have hr := hr.below encR_len (by decide) hB
    have ht := ht.below encI_len (by decide) hB
    have rk := rk.below encR_len (by decide) hB
    have tk := tk.below encI_len (by decide) hB
    have HE := Lib.hid (HE.out.trans (hB.mono HE.out.size))
    clear hB
    have x0a : w9.cell? ⟨w.heap.size, 0, none⟩ = some (.slice ol n cl) := bs.cell 0
    have x0b : w9.cell? ⟨w.heap.size, 1, none⟩ = some (.slice os m cs) := bs.cell 1
    have x1a : w9.cell? ⟨w5.heap.size, 0, none⟩ = some (.slice oo 2 oc) := bk.cell 0
    have x1b : w9.cell? ⟨w5.heap.size, 1, none⟩ = some (.slice po 1 pc) := bk.cell 1
    have x2a : w9.cell? ⟨w7.heap.size, 0, none⟩ = some (.slice none 0 0) := b9.cell 0
    have x2b : w9.cell? ⟨w7.heap.size, 1, none⟩ = some (.slice none 0 0) := b9.cell 1
    have x3a : w9.cell? ⟨w8.heap.size, 0, none⟩ = some (.slice none 0 0) := b11.cell 0
    have x3b : w9.cell? ⟨w8.heap.size, 1, none⟩ = some (.slice none 0 0) := b11.cell 1
    go_wp2_with (fail)
    refine (c16 _ (hr.below encR_len (by decide) ((Below.refl _ w9).alloc (Nat.le_refl _) (.cells #[.string ⟨#[97]⟩, .string ⟨#[98]⟩] 9))) (ht.below encI_len (by decide) ((Below.refl _ w9).alloc (Nat.le_refl _) (.cells #[.string ⟨#[97]⟩, .string ⟨#[98]⟩] 9))) (some ⟨w9.heap.size, 0, none⟩, 2, 2)).mono ?_
    rintro e w10 ⟨rfl, hB'⟩
    have hB : Below w9.heap.size w9 w10 := ((Below.refl _ w9).alloc (Nat.le_refl _) (.cells #[.string ⟨#[97]⟩, .string ⟨#[98]⟩] 9)).trans (hB'.mono (by simp))
    clear hB'
    clear x0a x0b
    clear x1a x1b
    clear x2a x2b
    clear x3a x3b
    have bs := bs.below' hB
    have bk := bk.below' hB
    have b9 := b9.below' hB
    have b11 := b11.below' hB
    have hr := hr.below encR_len (by decide) hB
    have ht := ht.below encI_len (by decide) hB
    have rk := rk.below encR_len (by decide) hB
    have tk := tk.below encI_len (by decide) hB
    have HE := Lib.hid (HE.out.trans (hB.mono HE.out.size))
    clear hB
    have x0a : w10.cell? ⟨w.heap.size, 0, none⟩ = some (.slice ol n cl) := bs.cell 0
    have x0b : w10.cell? ⟨w.heap.size, 1, none⟩ = some (.slice os m cs) := bs.cell 1
    have x1a : w10.cell? ⟨w5.heap.size, 0, none⟩ = some (.slice oo 2 oc) := bk.cell 0
    have x1b : w10.cell? ⟨w5.heap.size, 1, none⟩ = some (.slice po 1 pc) := bk.cell 1
    have x2a : w10.cell? ⟨w7.heap.size, 0, none⟩ = some (.slice none 0 0) := b9.cell 0
    have x2b : w10.cell? ⟨w7.heap.size, 1, none⟩ = some (.slice none 0 0) := b9.cell 1
    have x3a : w10.cell? ⟨w8.heap.size, 0, none⟩ = some (.slice none 0 0) := b11.cell 0
    have x3b : w10.cell? ⟨w8.heap.size, 1, none⟩ = some (.slice none 0 0) := b11.cell 1
    go_wp2_with (fail)
    refine (c17 _ hr ht rk tk).mono ?_
    rintro e w11 ⟨rfl, hB⟩
    clear x0a x0b
    clear x1a x1b
    clear x2a x2b
    clear x3a x3b
    have bs := bs.below' hB
    have bk := bk.below' hB
    have b9 := b9.below' hB
    have b11 := b11.below' hB
    have hr := hr.below encR_len (by decide) hB
    have ht := ht.below encI_len (by decide) hB
    have rk := rk.below encR_len (by decide) hB
    have tk := tk.below encI_len (by decide) hB
    have HE := Lib.hid (HE.out.trans (hB.mono HE.out.size))
    clear hB
    have x0a : w11.cell? ⟨w.heap.size, 0, none⟩ = some (.slice ol n cl) := bs.cell 0
    have x0b : w11.cell? ⟨w.heap.size, 1, none⟩ = some (.slice os m cs) := bs.cell 1
    have x1a : w11.cell? ⟨w5.heap.size, 0, none⟩ = some (.slice oo 2 oc) := bk.cell 0
    have x1b : w11.cell? ⟨w5.heap.size, 1, none⟩ = some (.slice po 1 pc) := bk.cell 1
    have x2a : w11.cell? ⟨w7.heap.size, 0, none⟩ = some (.slice none 0 0) := b9.cell 0
    have x2b : w11.cell? ⟨w7.heap.size, 1, none⟩ = some (.slice none 0 0) := b9.cell 1
    have x3a : w11.cell? ⟨w8.heap.size, 0, none⟩ = some (.slice none 0 0) := b11.cell 0
    have x3b : w11.cell? ⟨w8.heap.size, 1, none⟩ = some (.slice none 0 0) := b11.cell 1
    go_wp2_with (fail)
    refine (c18 _ rk tk hr ht).mono ?_
    rintro e w12 ⟨rfl, hB⟩
    clear x0a x0b
    clear x1a x1b
    clear x2a x2b
    clear x3a x3b
    have bs := bs.below' hB
    have bk := bk.below' hB
    have b9 := b9.below' hB
    have b11 := b11.below' hB
    have hr := hr.below encR_len (by decide) hB
    have ht := ht.below encI_len (by decide) hB
    have rk := rk.below encR_len (by decide) hB
    have tk := tk.below encI_len (by decide) hB
    have HE := Lib.hid (HE.out.trans (hB.mono HE.out.size))
    clear hB
    have x0a : w12.cell? ⟨w.heap.size, 0, none⟩ = some (.slice ol n cl) := bs.cell 0
    have x0b : w12.cell? ⟨w.heap.size, 1, none⟩ = some (.slice os m cs) := bs.cell 1
    have x1a : w12.cell? ⟨w5.heap.size, 0, none⟩ = some (.slice oo 2 oc) := bk.cell 0
    have x1b : w12.cell? ⟨w5.heap.size, 1, none⟩ = some (.slice po 1 pc) := bk.cell 1
    have x2a : w12.cell? ⟨w7.heap.size, 0, none⟩ = some (.slice none 0 0) := b9.cell 0
    have x2b : w12.cell? ⟨w7.heap.size, 1, none⟩ = some (.slice none 0 0) := b9.cell 1
    have x3a : w12.cell? ⟨w8.heap.size, 0, none⟩ = some (.slice none 0 0) := b11.cell 0
    have x3b : w12.cell? ⟨w8.heap.size, 1, none⟩ = some (.slice none 0 0) := b11.cell 1
    go_wp2_with (fail)
    refine (c19 _ hr ht rk tk).mono ?_
    rintro e w13 ⟨rfl, hB⟩
    clear x0a x0b
    clear x1a x1b
    clear x2a x2b
    clear x3a x3b
    have bs := bs.below' hB
    have bk := bk.below' hB
    have b9 := b9.below' hB
    have b11 := b11.below' hB
    have hr := hr.below encR_len (by decide) hB
    have ht := ht.below encI_len (by decide) hB
    have rk := rk.below encR_len (by decide) hB
    have tk := tk.below encI_len (by decide) hB
    have HE := Lib.hid (HE.out.trans (hB.mono HE.out.size))
    clear hB
    have b21 := Blk.new w13 #[(.slice none 0 0), (.slice none 0 0)] 25
    have bs := bs.alloc (.cells #[(.slice none 0 0), (.slice none 0 0)] 25)
    have bk := bk.alloc (.cells #[(.slice none 0 0), (.slice none 0 0)] 25)
    have b9 := b9.alloc (.cells #[(.slice none 0 0), (.slice none 0 0)] 25)
    have b11 := b11.alloc (.cells #[(.slice none 0 0), (.slice none 0 0)] 25)
    have hr := hr.below encR_len (by decide) ((Below.refl _ _).alloc (Nat.le_refl _) (.cells #[(.slice none 0 0), (.slice none 0 0)] 25))
    have ht := ht.below encI_len (by decide) ((Below.refl _ _).alloc (Nat.le_refl _) (.cells #[(.slice none 0 0), (.slice none 0 0)] 25))
    have rk := rk.below encR_len (by decide) ((Below.refl _ _).alloc (Nat.le_refl _) (.cells #[(.slice none 0 0), (.slice none 0 0)] 25))
    have tk := tk.below encI_len (by decide) ((Below.refl _ _).alloc (Nat.le_refl _) (.cells #[(.slice none 0 0), (.slice none 0 0)] 25))
    have HE := Lib.hid (HE.out.alloc HE.out.size (.cells #[(.slice none 0 0), (.slice none 0 0)] 25))
    have x0a : (w13.alloc (.cells #[(.slice none 0 0), (.slice none 0 0)] 25)).cell? ⟨w.heap.size, 0, none⟩ = some (.slice ol n cl) := bs.cell 0
    have x0b : (w13.alloc (.cells #[(.slice none 0 0), (.slice none 0 0)] 25)).cell? ⟨w.heap.size, 1, none⟩ = some (.slice os m cs) := bs.cell 1
    have x1a : (w13.alloc (.cells #[(.slice none 0 0), (.slice none 0 0)] 25)).cell? ⟨w5.heap.size, 0, none⟩ = some (.slice oo 2 oc) := bk.cell 0
    have x1b : (w13.alloc (.cells #[(.slice none 0 0), (.slice none 0 0)] 25)).cell? ⟨w5.heap.size, 1, none⟩ = some (.slice po 1 pc) := bk.cell 1
    have x2a : (w13.alloc (.cells #[(.slice none 0 0), (.slice none 0 0)] 25)).cell? ⟨w7.heap.size, 0, none⟩ = some (.slice none 0 0) := b9.cell 0
    have x2b : (w13.alloc (.cells #[(.slice none 0 0), (.slice none 0 0)] 25)).cell? ⟨w7.heap.size, 1, none⟩ = some (.slice none 0 0) := b9.cell 1
    have x3a : (w13.alloc (.cells #[(.slice none 0 0), (.slice none 0 0)] 25)).cell? ⟨w8.heap.size, 0, none⟩ = some (.slice none 0 0) := b11.cell 0
    have x3b : (w13.alloc (.cells #[(.slice none 0 0), (.slice none 0 0)] 25)).cell? ⟨w8.heap.size, 1, none⟩ = some (.slice none 0 0) := b11.cell 1
    have x4a : (w13.alloc (.cells #[(.slice none 0 0), (.slice none 0 0)] 25)).cell? ⟨w13.heap.size, 0, none⟩ = some (.slice none 0 0) := b21.cell 0
    have x4b : (w13.alloc (.cells #[(.slice none 0 0), (.slice none 0 0)] 25)).cell? ⟨w13.heap.size, 1, none⟩ = some (.slice none 0 0) := b21.cell 1
    go_wp2_with (fail)
    obtain ⟨v13, hv⟩ : ∃ V, (w13.alloc (.cells #[(.slice none 0 0), (.slice none 0 0)] 25)) = V := ⟨_, rfl⟩
    rw [hv] at bs bk b9 b11 b21 hr ht rk tk HE ⊢
    refine (c20 _ rk tk hr ht).mono ?_
    rintro e w14 ⟨rfl, hB⟩
    clear hv
    clear x0a x0b
    clear x1a x1b
    clear x2a x2b
    clear x3a x3b
    clear x4a x4b
    have bs := bs.below' hB
    have bk := bk.below' hB
    have b9 := b9.below' hB
    have b11 := b11.below' hB
    have b21 := b21.below' hB
    have hr := hr.below encR_len (by decide) hB
    have ht := ht.below encI_len (by decide) hB
    have rk := rk.below encR_len (by decide) hB
    have tk := tk.below encI_len (by decide) hB
    have HE := Lib.hid (HE.out.trans (hB.mono HE.out.size))
    clear hB
    have b23 := Blk.new w14 #[(.slice none 0 0), (.slice none 0 0)] 25
    have bs := bs.alloc (.cells #[(.slice none 0 0), (.slice none 0 0)] 25)
    have bk := bk.alloc (.cells #[(.slice none 0 0), (.slice none 0 0)] 25)
    have b9 := b9.alloc (.cells #[(.slice none 0 0), (.slice none 0 0)] 25)
    have b11 := b11.alloc (.cells #[(.slice none 0 0), (.slice none 0 0)] 25)
    have b21 := b21.alloc (.cells #[(.slice none 0 0), (.slice none 0 0)] 25)
    have hr := hr.below encR_len (by decide) ((Below.refl _ _).alloc (Nat.le_refl _) (.cells #[(.slice none 0 0), (.slice none 0 0)] 25))
    have ht := ht.below encI_len (by decide) ((Below.refl _ _).alloc (Nat.le_refl _) (.cells #[(.slice none 0 0), (.slice none 0 0)] 25))
    have rk := rk.below encR_len (by decide) ((Below.refl _ _).alloc (Nat.le_refl _) (.cells #[(.slice none 0 0), (.slice none 0 0)] 25))
    have tk := tk.below encI_len (by decide) ((Below.refl _ _).alloc (Nat.le_refl _) (.cells #[(.slice none 0 0), (.slice none 0 0)] 25))
    have HE := Lib.hid (HE.out.alloc HE.out.size (.cells #[(.slice none 0 0), (.slice none 0 0)] 25))
    have x0a : (w14.alloc (.cells #[(.slice none 0 0), (.slice none 0 0)] 25)).cell? ⟨w.heap.size, 0, none⟩ = some (.slice ol n cl) := bs.cell 0
    have x0b : (w14.alloc (.cells #[(.slice none 0 0), (.slice none 0 0)] 25)).cell? ⟨w.heap.size, 1, none⟩ = some (.slice os m cs) := bs.cell 1
    have x1a : (w14.alloc (.cells #[(.slice none 0 0), (.slice none 0 0)] 25)).cell? ⟨w5.heap.size, 0, none⟩ = some (.slice oo 2 oc) := bk.cell 0
    have x1b : (w14.alloc (.cells #[(.slice none 0 0), (.slice none 0 0)] 25)).cell? ⟨w5.heap.size, 1, none⟩ = some (.slice po 1 pc) := bk.cell 1
    have x2a : (w14.alloc (.cells #[(.slice none 0 0), (.slice none 0 0)] 25)).cell? ⟨w7.heap.size, 0, none⟩ = some (.slice none 0 0) := b9.cell 0
    have x2b : (w14.alloc (.cells #[(.slice none 0 0), (.slice none 0 0)] 25)).cell? ⟨w7.heap.size, 1, none⟩ = some (.slice none 0 0) := b9.cell 1
    have x3a : (w14.alloc (.cells #[(.slice none 0 0), (.slice none 0 0)] 25)).cell? ⟨w8.heap.size, 0, none⟩ = some (.slice none 0 0) := b11.cell 0
    have x3b : (w14.alloc (.cells #[(.slice none 0 0), (.slice none 0 0)] 25)).cell? ⟨w8.heap.size, 1, none⟩ = some (.slice none 0 0) := b11.cell 1
    have x4a : (w14.alloc (.cells #[(.slice none 0 0), (.slice none 0 0)] 25)).cell? ⟨w13.heap.size, 0, none⟩ = some (.slice none 0 0) := b21.cell 0
    have x4b : (w14.alloc (.cells #[(.slice none 0 0), (.slice none 0 0)] 25)).cell? ⟨w13.heap.size, 1, none⟩ = some (.slice none 0 0) := b21.cell 1
    have x5a : (w14.alloc (.cells #[(.slice none 0 0), (.slice none 0 0)] 25)).cell? ⟨w14.heap.size, 0, none⟩ = some (.slice none 0 0) := b23.cell 0
    have x5b : (w14.alloc (.cells #[(.slice none 0 0), (.slice none 0 0)] 25)).cell? ⟨w14.heap.size, 1, none⟩ = some (.slice none 0 0) := b23.cell 1
    go_wp2_with (fail)
    obtain ⟨v14, hv⟩ : ∃ V, (w14.alloc (.cells #[(.slice none 0 0), (.slice none 0 0)] 25)) = V := ⟨_, rfl⟩
    rw [hv] at bs bk b9 b11 b21 b23 hr ht rk tk HE ⊢
    refine (c21 _ hr ht rk tk).mono ?_
    rintro e w15 ⟨rfl, hB⟩
    clear hv
    clear x0a x0b
    clear x1a x1b
    clear x2a x2b
    clear x3a x3b
    clear x4a x4b
    clear x5a x5b
    have bs := bs.below' hB
    have bk := bk.below' hB
    have b9 := b9.below' hB
    have b11 := b11.below' hB
    have b21 := b21.below' hB
    have b23 := b23.below' hB
    have hr := hr.below encR_len (by decide) hB
    have ht := ht.below encI_len (by decide) hB
    have rk := rk.below encR_len (by decide) hB
    have tk := tk.below encI_len (by decide) hB
    have HE := Lib.hid (HE.out.trans (hB.mono HE.out.size))
    clear hB
    have b25 := Blk.new w15 #[(.slice none 0 0), (.slice none 0 0)] 25
    have bs := bs.alloc (.cells #[(.slice none 0 0), (.slice none 0 0)] 25)
    have bk := bk.alloc (.cells #[(.slice none 0 0), (.slice none 0 0)] 25)
    have b9 := b9.alloc (.cells #[(.slice none 0 0), (.slice none 0 0)] 25)
    have b11 := b11.alloc (.cells #[(.slice none 0 0), (.slice none 0 0)] 25)
    have b21 := b21.alloc (.cells #[(.slice none 0 0), (.slice none 0 0)] 25)
    have b23 := b23.alloc (.cells #[(.slice none 0 0), (.slice none 0 0)] 25)
    have hr := hr.below encR_len (by decide) ((Below.refl _ _).alloc (Nat.le_refl _) (.cells #[(.slice none 0 0), (.slice none 0 0)] 25))
    have ht := ht.below encI_len (by decide) ((Below.refl _ _).alloc (Nat.le_refl _) (.cells #[(.slice none 0 0), (.slice none 0 0)] 25))
    have rk := rk.below encR_len (by decide) ((Below.refl _ _).alloc (Nat.le_refl _) (.cells #[(.slice none 0 0), (.slice none 0 0)] 25))
    have tk := tk.below encI_len (by decide) ((Below.refl _ _).alloc (Nat.le_refl _) (.cells #[(.slice none 0 0), (.slice none 0 0)] 25))
    have HE := Lib.hid (HE.out.alloc HE.out.size (.cells #[(.slice none 0 0), (.slice none 0 0)] 25))
    have x0a : (w15.alloc (.cells #[(.slice none 0 0), (.slice none 0 0)] 25)).cell? ⟨w.heap.size, 0, none⟩ = some (.slice ol n cl) := bs.cell 0
    have x0b : (w15.alloc (.cells #[(.slice none 0 0), (.slice none 0 0)] 25)).cell? ⟨w.heap.size, 1, none⟩ = some (.slice os m cs) := bs.cell 1
    have x1a : (w15.alloc (.cells #[(.slice none 0 0), (.slice none 0 0)] 25)).cell? ⟨w5.heap.size, 0, none⟩ = some (.slice oo 2 oc) := bk.cell 0
    have x1b : (w15.alloc (.cells #[(.slice none 0 0), (.slice none 0 0)] 25)).cell? ⟨w5.heap.size, 1, none⟩ = some (.slice po 1 pc) := bk.cell 1
    have x2a : (w15.alloc (.cells #[(.slice none 0 0), (.slice none 0 0)] 25)).cell? ⟨w7.heap.size, 0, none⟩ = some (.slice none 0 0) := b9.cell 0
    have x2b : (w15.alloc (.cells #[(.slice none 0 0), (.slice none 0 0)] 25)).cell? ⟨w7.heap.size, 1, none⟩ = some (.slice none 0 0) := b9.cell 1
    have x3a : (w15.alloc (.cells #[(.slice none 0 0), (.slice none 0 0)] 25)).cell? ⟨w8.heap.size, 0, none⟩ = some (.slice none 0 0) := b11.cell 0
    have x3b : (w15.alloc (.cells #[(.slice none 0 0), (.slice none 0 0)] 25)).cell? ⟨w8.heap.size, 1, none⟩ = some (.slice none 0 0) := b11.cell 1
    have x4a : (w15.alloc (.cells #[(.slice none 0 0), (.slice none 0 0)] 25)).cell? ⟨w13.heap.size, 0, none⟩ = some (.slice none 0 0) := b21.cell 0
    have x4b : (w15.alloc (.cells #[(.slice none 0 0), (.slice none 0 0)] 25)).cell? ⟨w13.heap.size, 1, none⟩ = some (.slice none 0 0) := b21.cell 1
    have x5a : (w15.alloc (.cells #[(.slice none 0 0), (.slice none 0 0)] 25)).cell? ⟨w14.heap.size, 0, none⟩ = some (.slice none 0 0) := b23.cell 0
    have x5b : (w15.alloc (.cells #[(.slice none 0 0), (.slice none 0 0)] 25)).cell? ⟨w14.heap.size, 1, none⟩ = some (.slice none 0 0) := b23.cell 1
    have x6a : (w15.alloc (.cells #[(.slice none 0 0), (.slice none 0 0)] 25)).cell? ⟨w15.heap.size, 0, none⟩ = some (.slice none 0 0) := b25.cell 0
    have x6b : (w15.alloc (.cells #[(.slice none 0 0), (.slice none 0 0)] 25)).cell? ⟨w15.heap.size, 1, none⟩ = some (.slice none 0 0) := b25.cell 1
    go_wp2_with (fail)
    obtain ⟨v15, hv⟩ : ∃ V, (w15.alloc (.cells #[(.slice none 0 0), (.slice none 0 0)] 25)) = V := ⟨_, rfl⟩
    rw [hv] at bs bk b9 b11 b21 b23 b25 hr ht rk tk HE ⊢
    refine (c22 _ rk tk hr ht).mono ?_
    rintro e w16 ⟨rfl, hB⟩
    clear hv
    clear x0a x0b
    clear x1a x1b
    clear x2a x2b
    clear x3a x3b
    clear x4a x4b
    clear x5a x5b
    clear x6a x6b
    have bs := bs.below' hB
    have bk := bk.below' hB
    have b9 := b9.below' hB
    have b11 := b11.below' hB
    have b21 := b21.below' hB
    have b23 := b23.below' hB
    have b25 := b25.below' hB
    have hr := hr.below encR_len (by decide) hB
    have ht := ht.below encI_len (by decide) hB
    have rk := rk.below encR_len (by decide) hB
    have tk := tk.below encI_len (by decide) hB
    have HE := Lib.hid (HE.out.trans (hB.mono HE.out.size))
    clear hB
    have b27 := Blk.new w16 #[(.slice none 0 0), (.slice none 0 0)] 25
    have bs := bs.alloc (.cells #[(.slice none 0 0), (.slice none 0 0)] 25)
    have bk := bk.alloc (.cells #[(.slice none 0 0), (.slice none 0 0)] 25)
    have b9 := b9.alloc (.cells #[(.slice none 0 0), (.slice none 0 0)] 25)
    have b11 := b11.alloc (.cells #[(.slice none 0 0), (.slice none 0 0)] 25)
    have b21 := b21.alloc (.cells #[(.slice none 0 0), (.slice none 0 0)] 25)
    have b23 := b23.alloc (.cells #[(.slice none 0 0), (.slice none 0 0)] 25)
    have b25 := b25.alloc (.cells #[(.slice none 0 0), (.slice none 0 0)] 25)
    have hr := hr.below encR_len (by decide) ((Below.refl _ _).alloc (Nat.le_refl _) (.cells #[(.slice none 0 0), (.slice none 0 0)] 25))
    have ht := ht.below encI_len (by decide) ((Below.refl _ _).alloc (Nat.le_refl _) (.cells #[(.slice none 0 0), (.slice none 0 0)] 25))
    have rk := rk.below encR_len (by decide) ((Below.refl _ _).alloc (Nat.le_refl _) (.cells #[(.slice none 0 0), (.slice none 0 0)] 25))
    have tk := tk.below encI_len (by decide) ((Below.refl _ _).alloc (Nat.le_refl _) (.cells #[(.slice none 0 0), (.slice none 0 0)] 25))
    have HE := Lib.hid (HE.out.alloc HE.out.size (.cells #[(.slice none 0 0), (.slice none 0 0)] 25))
    have x0a : (w16.alloc (.cells #[(.slice none 0 0), (.slice none 0 0)] 25)).cell? ⟨w.heap.size, 0, none⟩ = some (.slice ol n cl) := bs.cell 0
    have x0b : (w16.alloc (.cells #[(.slice none 0 0), (.slice none 0 0)] 25)).cell? ⟨w.heap.size, 1, none⟩ = some (.slice os m cs) := bs.cell 1
    have x1a : (w16.alloc (.cells #[(.slice none 0 0), (.slice none 0 0)] 25)).cell? ⟨w5.heap.size, 0, none⟩ = some (.slice oo 2 oc) := bk.cell 0
    have x1b : (w16.alloc (.cells #[(.slice none 0 0), (.slice none 0 0)] 25)).cell? ⟨w5.heap.size, 1, none⟩ = some (.slice po 1 pc) := bk.cell 1
    have x2a : (w16.alloc (.cells #[(.slice none 0 0), (.slice none 0 0)] 25)).cell? ⟨w7.heap.size, 0, none⟩ = some (.slice none 0 0) := b9.cell 0
    have x2b : (w16.alloc (.cells #[(.slice none 0 0), (.slice none 0 0)] 25)).cell? ⟨w7.heap.size, 1, none⟩ = some (.slice none 0 0) := b9.cell 1
    have x3a : (w16.alloc (.cells #[(.slice none 0 0), (.slice none 0 0)] 25)).cell? ⟨w8.heap.size, 0, none⟩ = some (.slice none 0 0) := b11.cell 0
    have x3b : (w16.alloc (.cells #[(.slice none 0 0), (.slice none 0 0)] 25)).cell? ⟨w8.heap.size, 1, none⟩ = some (.slice none 0 0) := b11.cell 1
    have x4a : (w16.alloc (.cells #[(.slice none 0 0), (.slice none 0 0)] 25)).cell? ⟨w13.heap.size, 0, none⟩ = some (.slice none 0 0) := b21.cell 0
    have x4b : (w16.alloc (.cells #[(.slice none 0 0), (.slice none 0 0)] 25)).cell? ⟨w13.heap.size, 1, none⟩ = some (.slice none 0 0) := b21.cell 1
    have x5a : (w16.alloc (.cells #[(.slice none 0 0), (.slice none 0 0)] 25)).cell? ⟨w14.heap.size, 0, none⟩ = some (.slice none 0 0) := b23.cell 0
    have x5b : (w16.alloc (.cells #[(.slice none 0 0), (.slice none 0 0)] 25)).cell? ⟨w14.heap.size, 1, none⟩ = some (.slice none 0 0) := b23.cell 1
    have x6a : (w16.alloc (.cells #[(.slice none 0 0), (.slice none 0 0)] 25)).cell? ⟨w15.heap.size, 0, none⟩ = some (.slice none 0 0) := b25.cell 0
    have x6b : (w16.alloc (.cells #[(.slice none 0 0), (.slice none 0 0)] 25)).cell? ⟨w15.heap.size, 1, none⟩ = some (.slice none 0 0) := b25.cell 1
    have x7a : (w16.alloc (.cells #[(.slice none 0 0), (.slice none 0 0)] 25)).cell? ⟨w16.heap.size, 0, none⟩ = some (.slice none 0 0) := b27.cell 0
    have x7b : (w16.alloc (.cells #[(.slice none 0 0), (.slice none 0 0)] 25)).cell? ⟨w16.heap.size, 1, none⟩ = some (.slice none 0 0) := b27.cell 1
    go_wp2_with (fail)
    obtain ⟨v16, hv⟩ : ∃ V, (w16.alloc (.cells #[(.slice none 0 0), (.slice none 0 0)] 25)) = V := ⟨_, rfl⟩
    rw [hv] at bs bk b9 b11 b21 b23 b25 b27 hr ht rk tk HE ⊢
    refine (c23 _ hr ht).mono ?_
    rintro e w17 ⟨rfl, hB⟩
    clear hv
    clear x0a x0b
    clear x1a x1b
    clear x2a x2b
    clear x3a x3b
    clear x4a x4b
    clear x5a x5b
    clear x6a x6b
    clear x7a x7b
    have bs := bs.below' hB
    have bk := bk.below' hB
    have b9 := b9.below' hB
    have b11 := b11.below' hB
    have b21 := b21.below' hB
    have b23 := b23.below' hB
    have b25 := b25.below' hB
    have b27 := b27.below' hB
    have hr := hr.below encR_len (by decide) hB
    have ht := ht.below encI_len (by decide) hB
    have rk := rk.below encR_len (by decide) hB
    have tk := tk.below encI_len (by decide) hB
    have HE := Lib.hid (HE.out.trans (hB.mono HE.out.size))
    clear hB
    have x0a : w17.cell? ⟨w.heap.size, 0, none⟩ = some (.slice ol n cl) := bs.cell 0
    have x0b : w17.cell? ⟨w.heap.size, 1, none⟩ = some (.slice os m cs) := bs.cell 1
    have x1a : w17.cell? ⟨w5.heap.size, 0, none⟩ = some (.slice oo 2 oc) := bk.cell 0
    have x1b : w17.cell? ⟨w5.heap.size, 1, none⟩ = some (.slice po 1 pc) := bk.cell 1
    have x2a : w17.cell? ⟨w7.heap.size, 0, none⟩ = some (.slice none 0 0) := b9.cell 0
    have x2b : w17.cell? ⟨w7.heap.size, 1, none⟩ = some (.slice none 0 0) := b9.cell 1
    have x3a : w17.cell? ⟨w8.heap.size, 0, none⟩ = some (.slice none 0 0) := b11.cell 0
    have x3b : w17.cell? ⟨w8.heap.size, 1, none⟩ = some (.slice none 0 0) := b11.cell 1
    have x4a : w17.cell? ⟨w13.heap.size, 0, none⟩ = some (.slice none 0 0) := b21.cell 0
    have x4b : w17.cell? ⟨w13.heap.size, 1, none⟩ = some (.slice none 0 0) := b21.cell 1
    have x5a : w17.cell? ⟨w14.heap.size, 0, none⟩ = some (.slice none 0 0) := b23.cell 0
    have x5b : w17.cell? ⟨w14.heap.size, 1, none⟩ = some (.slice none 0 0) := b23.cell 1
    have x6a : w17.cell? ⟨w15.heap.size, 0, none⟩ = some (.slice none 0 0) := b25.cell 0
    have x6b : w17.cell? ⟨w15.heap.size, 1, none⟩ = some (.slice none 0 0) := b25.cell 1
    have x7a : w17.cell? ⟨w16.heap.size, 0, none⟩ = some (.slice none 0 0) := b27.cell 0
    have x7b : w17.cell? ⟨w16.heap.size, 1, none⟩ = some (.slice none 0 0) := b27.cell 1
    clear c12 c13 c14 c15 c16 c17 c18 c19 c20 c21 c22 c23 hr ht rk tk
    clear bs bk
    go_wp2
    go_loopw [142] (fun i W => ∃ k : Nat, i = .int .i64 k ∧ k ≤ 12 ∧ w17 = W) (fun i _ => 12 - (intOf i).toNat)
    case atStart => exact ⟨0, rfl, by omega, by first | rfl | trivial⟩
    case round =>
      obtain ⟨k, rfl, hk, rfl⟩ := hrel
      by_cases hlt : k < 12
      · have hix := fun W => idx12 k hlt W
        go_wp2
        go_roundw
        case rel => exact ⟨k + 1, by go_num, by omega, by first | rfl | trivial⟩
        case measure => simp [intOf]; omega
      · have g1 : (⟨#[]⟩ : ByteArray).toList = [] := by kernel_rfl
        have g2 : (⟨#[]⟩ : ByteArray).toList.isEmpty = true := by kernel_rfl
        go_wp2_with (fail)
        refine (none_nil _).mono ?_
        rintro e w18 ⟨rfl, hB⟩
        have b9 := b9.below' hB
        have b11 := b11.below' hB
        have b21 := b21.below' hB
        have b23 := b23.below' hB
        have b25 := b25.below' hB
        have b27 := b27.below' hB
        have HE := Lib.hid (HE.out.trans (hB.mono HE.out.size))
        clear hB
        have x0a : w18.cell? ⟨w7.heap.size, 0, none⟩ = some (.slice none 0 0) := b9.cell 0
        have x0b : w18.cell? ⟨w7.heap.size, 1, none⟩ = some (.slice none 0 0) := b9.cell 1
        have x1a : w18.cell? ⟨w8.heap.size, 0, none⟩ = some (.slice none 0 0) := b11.cell 0
        have x1b : w18.cell? ⟨w8.heap.size, 1, none⟩ = some (.slice none 0 0) := b11.cell 1
        have x2a : w18.cell? ⟨w13.heap.size, 0, none⟩ = some (.slice none 0 0) := b21.cell 0
        have x2b : w18.cell? ⟨w13.heap.size, 1, none⟩ = some (.slice none 0 0) := b21.cell 1
        have x3a : w18.cell? ⟨w14.heap.size, 0, none⟩ = some (.slice none 0 0) := b23.cell 0
        have x3b : w18.cell? ⟨w14.heap.size, 1, none⟩ = some (.slice none 0 0) := b23.cell 1
        have x4a : w18.cell? ⟨w15.heap.size, 0, none⟩ = some (.slice none 0 0) := b25.cell 0
        have x4b : w18.cell? ⟨w15.heap.size, 1, none⟩ = some (.slice none 0 0) := b25.cell 1
        have x5a : w18.cell? ⟨w16.heap.size, 0, none⟩ = some (.slice none 0 0) := b27.cell 0
        have x5b : w18.cell? ⟨w16.heap.size, 1, none⟩ = some (.slice none 0 0) := b27.cell 1
        go_wp2_with (fail)
        refine (none_nil _).mono ?_
        rintro e w19 ⟨rfl, hB⟩
        clear x0a x0b
        clear x1a x1b
        clear x2a x2b
        clear x3a x3b
        clear x4a x4b
        clear x5a x5b
        have b9 := b9.below' hB
        have b11 := b11.below' hB
        have b21 := b21.below' hB
        have b23 := b23.below' hB
        have b25 := b25.below' hB
        have b27 := b27.below' hB
        have HE := Lib.hid (HE.out.trans (hB.mono HE.out.size))
        clear hB
        have x0a : w19.cell? ⟨w7.heap.size, 0, none⟩ = some (.slice none 0 0) := b9.cell 0
        have x0b : w19.cell? ⟨w7.heap.size, 1, none⟩ = some (.slice none 0 0) := b9.cell 1
        have x1a : w19.cell? ⟨w8.heap.size, 0, none⟩ = some (.slice none 0 0) := b11.cell 0
        have x1b : w19.cell? ⟨w8.heap.size, 1, none⟩ = some (.slice none 0 0) := b11.cell 1
        have x2a : w19.cell? ⟨w13.heap.size, 0, none⟩ = some (.slice none 0 0) := b21.cell 0
        have x2b : w19.cell? ⟨w13.heap.size, 1, none⟩ = some (.slice none 0 0) := b21.cell 1
        have x3a : w19.cell? ⟨w14.heap.size, 0, none⟩ = some (.slice none 0 0) := b23.cell 0
        have x3b : w19.cell? ⟨w14.heap.size, 1, none⟩ = some (.slice none 0 0) := b23.cell 1
        have x4a : w19.cell? ⟨w15.heap.size, 0, none⟩ = some (.slice none 0 0) := b25.cell 0
        have x4b : w19.cell? ⟨w15.heap.size, 1, none⟩ = some (.slice none 0 0) := b25.cell 1
        have x5a : w19.cell? ⟨w16.heap.size, 0, none⟩ = some (.slice none 0 0) := b27.cell 0
        have x5b : w19.cell? ⟨w16.heap.size, 1, none⟩ = some (.slice none 0 0) := b27.cell 1
        go_wp2_with (fail)
        refine (none_nil _).mono ?_
        rintro e w20 ⟨rfl, hB⟩
        clear x0a x0b
        clear x1a x1b
        clear x2a x2b
        clear x3a x3b
        clear x4a x4b
        clear x5a x5b
        have b9 := b9.below' hB
        have b11 := b11.below' hB
        have b21 := b21.below' hB
        have b23 := b23.below' hB
        have b25 := b25.below' hB
        have b27 := b27.below' hB
        have HE := Lib.hid (HE.out.trans (hB.mono HE.out.size))
        clear hB
        have x0a : w20.cell? ⟨w7.heap.size, 0, none⟩ = some (.slice none 0 0) := b9.cell 0
        have x0b : w20.cell? ⟨w7.heap.size, 1, none⟩ = some (.slice none 0 0) := b9.cell 1
        have x1a : w20.cell? ⟨w8.heap.size, 0, none⟩ = some (.slice none 0 0) := b11.cell 0
        have x1b : w20.cell? ⟨w8.heap.size, 1, none⟩ = some (.slice none 0 0) := b11.cell 1
        have x2a : w20.cell? ⟨w13.heap.size, 0, none⟩ = some (.slice none 0 0) := b21.cell 0
        have x2b : w20.cell? ⟨w13.heap.size, 1, none⟩ = some (.slice none 0 0) := b21.cell 1
        have x3a : w20.cell? ⟨w14.heap.size, 0, none⟩ = some (.slice none 0 0) := b23.cell 0
        have x3b : w20.cell? ⟨w14.heap.size, 1, none⟩ = some (.slice none 0 0) := b23.cell 1
        have x4a : w20.cell? ⟨w15.heap.size, 0, none⟩ = some (.slice none 0 0) := b25.cell 0
        have x4b : w20.cell? ⟨w15.heap.size, 1, none⟩ = some (.slice none 0 0) := b25.cell 1
        have x5a : w20.cell? ⟨w16.heap.size, 0, none⟩ = some (.slice none 0 0) := b27.cell 0
        have x5b : w20.cell? ⟨w16.heap.size, 1, none⟩ = some (.slice none 0 0) := b27.cell 1
        go_wp2_with (fail)
        refine (none_nil _).mono ?_
        rintro e w21 ⟨rfl, hB⟩
        clear x0a x0b
        clear x1a x1b
        clear x2a x2b
        clear x3a x3b
        clear x4a x4b
        clear x5a x5b
        have b9 := b9.below' hB
        have b11 := b11.below' hB
        have b21 := b21.below' hB
        have b23 := b23.below' hB
        have b25 := b25.below' hB
        have b27 := b27.below' hB
        have HE := Lib.hid (HE.out.trans (hB.mono HE.out.size))
        clear hB
        have x0a : w21.cell? ⟨w7.heap.size, 0, none⟩ = some (.slice none 0 0) := b9.cell 0
        have x0b : w21.cell? ⟨w7.heap.size, 1, none⟩ = some (.slice none 0 0) := b9.cell 1
        have x1a : w21.cell? ⟨w8.heap.size, 0, none⟩ = some (.slice none 0 0) := b11.cell 0
        have x1b : w21.cell? ⟨w8.heap.size, 1, none⟩ = some (.slice none 0 0) := b11.cell 1
        have x2a : w21.cell? ⟨w13.heap.size, 0, none⟩ = some (.slice none 0 0) := b21.cell 0
        have x2b : w21.cell? ⟨w13.heap.size, 1, none⟩ = some (.slice none 0 0) := b21.cell 1
        have x3a : w21.cell? ⟨w14.heap.size, 0, none⟩ = some (.slice none 0 0) := b23.cell 0
        have x3b : w21.cell? ⟨w14.heap.size, 1, none⟩ = some (.slice none 0 0) := b23.cell 1
        have x4a : w21.cell? ⟨w15.heap.size, 0, none⟩ = some (.slice none 0 0) := b25.cell 0
        have x4b : w21.cell? ⟨w15.heap.size, 1, none⟩ = some (.slice none 0 0) := b25.cell 1
        have x5a : w21.cell? ⟨w16.heap.size, 0, none⟩ = some (.slice none 0 0) := b27.cell 0
        have x5b : w21.cell? ⟨w16.heap.size, 1, none⟩ = some (.slice none 0 0) := b27.cell 1
        go_wp2_with (fail)
        refine (none_nil _).mono ?_
        rintro e w22 ⟨rfl, hB⟩
        clear x0a x0b
        clear x1a x1b
        clear x2a x2b
        clear x3a x3b
        clear x4a x4b
        clear x5a x5b
        have b9 := b9.below' hB
        have b11 := b11.below' hB
        have b21 := b21.below' hB
        have b23 := b23.below' hB
        have b25 := b25.below' hB
        have b27 := b27.below' hB
        have HE := Lib.hid (HE.out.trans (hB.mono HE.out.size))
        clear hB
        have x0a : w22.cell? ⟨w7.heap.size, 0, none⟩ = some (.slice none 0 0) := b9.cell 0
        have x0b : w22.cell? ⟨w7.heap.size, 1, none⟩ = some (.slice none 0 0) := b9.cell 1
        have x1a : w22.cell? ⟨w8.heap.size, 0, none⟩ = some (.slice none 0 0) := b11.cell 0
        have x1b : w22.cell? ⟨w8.heap.size, 1, none⟩ = some (.slice none 0 0) := b11.cell 1
        have x2a : w22.cell? ⟨w13.heap.size, 0, none⟩ = some (.slice none 0 0) := b21.cell 0
        have x2b : w22.cell? ⟨w13.heap.size, 1, none⟩ = some (.slice none 0 0) := b21.cell 1
        have x3a : w22.cell? ⟨w14.heap.size, 0, none⟩ = some (.slice none 0 0) := b23.cell 0
        have x3b : w22.cell? ⟨w14.heap.size, 1, none⟩ = some (.slice none 0 0) := b23.cell 1
        have x4a : w22.cell? ⟨w15.heap.size, 0, none⟩ = some (.slice none 0 0) := b25.cell 0
        have x4b : w22.cell? ⟨w15.heap.size, 1, none⟩ = some (.slice none 0 0) := b25.cell 1
        have x5a : w22.cell? ⟨w16.heap.size, 0, none⟩ = some (.slice none 0 0) := b27.cell 0
        have x5b : w22.cell? ⟨w16.heap.size, 1, none⟩ = some (.slice none 0 0) := b27.cell 1
        go_wp2_with (fail)
        refine (none_nil _).mono ?_
        rintro e w23 ⟨rfl, hB⟩
        clear x0a x0b
        clear x1a x1b
        clear x2a x2b
        clear x3a x3b
        clear x4a x4b
        clear x5a x5b
        have b9 := b9.below' hB
        have b11 := b11.below' hB
        have b21 := b21.below' hB
        have b23 := b23.below' hB
        have b25 := b25.below' hB
        have b27 := b27.below' hB
        have HE := Lib.hid (HE.out.trans (hB.mono HE.out.size))
        clear hB
        have x0a : w23.cell? ⟨w7.heap.size, 0, none⟩ = some (.slice none 0 0) := b9.cell 0
        have x0b : w23.cell? ⟨w7.heap.size, 1, none⟩ = some (.slice none 0 0) := b9.cell 1
        have x1a : w23.cell? ⟨w8.heap.size, 0, none⟩ = some (.slice none 0 0) := b11.cell 0
        have x1b : w23.cell? ⟨w8.heap.size, 1, none⟩ = some (.slice none 0 0) := b11.cell 1
        have x2a : w23.cell? ⟨w13.heap.size, 0, none⟩ = some (.slice none 0 0) := b21.cell 0
        have x2b : w23.cell? ⟨w13.heap.size, 1, none⟩ = some (.slice none 0 0) := b21.cell 1
        have x3a : w23.cell? ⟨w14.heap.size, 0, none⟩ = some (.slice none 0 0) := b23.cell 0
        have x3b : w23.cell? ⟨w14.heap.size, 1, none⟩ = some (.slice none 0 0) := b23.cell 1
        have x4a : w23.cell? ⟨w15.heap.size, 0, none⟩ = some (.slice none 0 0) := b25.cell 0
        have x4b : w23.cell? ⟨w15.heap.size, 1, none⟩ = some (.slice none 0 0) := b25.cell 1
        have x5a : w23.cell? ⟨w16.heap.size, 0, none⟩ = some (.slice none 0 0) := b27.cell 0
        have x5b : w23.cell? ⟨w16.heap.size, 1, none⟩ = some (.slice none 0 0) := b27.cell 1
        clear b9 b11 b21 b23 b25 b27
        go_wp2_with (fail)
        refine (wakes_any _).mono ?_
        rintro e w24 ⟨rfl, hB⟩
        clear x0a x0b
        clear x1a x1b
        clear x2a x2b
        clear x3a x3b
        clear x4a x4b
        clear x5a x5b
        have HE := Lib.hid (HE.out.trans (hB.mono HE.out.size))
        clear hB
        go_wp2
        go_ret
        exact ⟨by first | rfl | trivial, HE.out⟩
end Go.Proofs.Ytdcmkiggnmajgaa
