/- Stage 16: Rank, the program's and the document's. -/
import Derived.Test.YtdcmkiggnmajgaaVk
import Derived.Test.YtdcmkiggnmajgaaV8
import Derived.Deep.RegionHeld3
import Derived.Laws.Tables
import Derived.BigQuiet
import Derived.Deep.QuietTactic
namespace Go.Proofs.Ytdcmkiggnmajgaa
set_option linter.unusedVariables false
set_option linter.unusedSimpArgs false
open Go Go.RowKit Go.Shelf
set_option maxRecDepth 100000

theorem rnk_step {L : List Rh} {k q : Nat} {x : Rh} (h : L[k]? = some x) : rnk (L.drop k) q = x.c.toNat * tT (L.length - (k + 1)) q + rnk (L.drop (k + 1)) (max q (x.c.toNat + 1)) := by
  rw [drop_cons h]
  show x.c.toNat * tT (L.drop (k + 1)).length q + _ = _
  rw [List.length_drop]
theorem plS_step {L : List Rh} {k q : Nat} {x : Rh} (h : L[k]? = some x) (hp : plS (q : Int) (L.drop k) = true) : 0 ≤ x.c ∧ x.c ≤ q ∧ x.r ≤ 0 ∧ plS ((max q (x.c.toNat + 1) : Nat) : Int) (L.drop (k + 1)) = true := by
  rw [drop_cons h] at hp
  simp only [plS, Bool.and_eq_true, Bool.not_eq_true', Bool.or_eq_false_iff, decide_eq_false_iff_not] at hp
  obtain ⟨⟨⟨h1, h2⟩, h3⟩, h4⟩ := hp
  rw [plS_max (by omega)] at h4
  exact ⟨by omega, by omega, by omega, h4⟩
theorem rnk_le {L : List Rh} (h : L.length ≤ 25) (hp : plS 0 L = true) : rnk L 0 ≤ 4638590332229999353 := by
  have h1 := rnk_lt L 0 (by omega) hp
  have h2 := tT_le L.length 0 (by omega)
  omega
def RnkI (W1 : World) (R : Nat) (L : List Rh) (i n c : Value) (wr : World) : Prop := ∃ k q z : Nat, i = .int .i64 k ∧ n = .int .i64 z ∧ c = .int .i64 q ∧ k ≤ L.length ∧ q ≤ k ∧ plS (q : Int) (L.drop k) = true ∧ z + rnk (L.drop k) q = R ∧ Below W1.heap.size W1 wr

set_option maxHeartbeats 8000000 in
theorem refRank_any (s : Sc) (ol os : Option Addr) (cl cs R : Nat) (w : World) (hr : RowAt w encR 2 ol s.L) (h25 : s.L.length ≤ 25) (hp : plS 0 s.L = true) (hR : Hid (rnk s.L 0 = R)) :
    Calls Try.prog 50 #[.agg #[.slice ol s.L.length cl, .slice os s.S.length cs]] w fun e w' => e = .returned (.int .i64 (R : Nat)) ∧ Below w.heap.size w w' := by
  have hRle := rnk_le h25 hp
  rw [hR.out] at hRle
  have hB0 := (Below.refl _ w).alloc (Nat.le_refl _) (.cells #[.slice ol s.L.length cl, .slice os s.S.length cs] 25)
  have hr0 := hr.below encR_len (by decide) hB0
  have b0 := Blk.new w #[.slice ol s.L.length cl, .slice os s.S.length cs] 25
  obtain ⟨L, S⟩ := s
  simp only at h25 hp hr0 b0 hB0 hR ⊢
  obtain ⟨W1, hW1⟩ : ∃ W1, w.alloc (.cells #[.slice ol L.length cl, .slice os S.length cs] 25) = W1 := ⟨_, rfl⟩
  rw [hW1] at hr0 b0 hB0
  have x0 : W1.cell? ⟨w.heap.size, 0, none⟩ = some (.slice ol L.length cl) := b0.cell 0
  have HB := Lib.hid (And.intro hB0 (And.intro hr0 (And.intro b0 hp)))
  clear hB0 hr0 b0 hp hr
  go_enter Try.func50, Try.ntmps50
  go_wp2
  clear hW1
  go_loopw [11, 3, 4] (RnkI W1 R L) (fun i _ _ _ => L.length - (intOf i).toNat)
  case atStart => exact ⟨0, 0, 0, rfl, rfl, rfl, by omega, by omega, by simpa using HB.out.2.2.2, by simpa using hR.out, Below.refl _ _⟩
  case round =>
    obtain ⟨k, q, z, rfl, rfl, rfl, hk, hqk, hpl, hz, hB⟩ := hrel
    by_cases hlt : k < L.length
    · obtain ⟨x, hx⟩ : ∃ x, L[k]? = some x := ⟨_, List.getElem?_eq_getElem hlt⟩
      obtain ⟨g, off, rfl, hc⟩ := (HB.out.2.1.below encR_len (by decide) hB) k x hx
      have q0 := hc 0 (by decide)
      have q1 := hc 1 (by decide)
      rw [rnk_step hx] at hz
      obtain ⟨p0, p1, p2, hpl⟩ := plS_step hx hpl
      obtain ⟨c, r⟩ := x
      simp only [encR, List.getElem?_cons_succ, List.getElem?_cons_zero, Nat.add_zero] at q0 q1
      simp only at p0 p1 p2 hpl hz
      obtain ⟨cn, hcn⟩ : ∃ cn, c.toNat = cn := ⟨_, rfl⟩
      obtain rfl : c = (cn : Int) := by omega
      rw [hcn] at hpl hz
      clear hcn
      obtain ⟨m, hm⟩ : ∃ m, L.length - (k + 1) = m := ⟨_, rfl⟩
      rw [hm] at hz
      obtain ⟨T, hT⟩ : ∃ T, tT m q = T := ⟨_, rfl⟩
      rw [hT] at hz
      obtain ⟨p, hpp⟩ : ∃ p, cn * T = p := ⟨_, rfl⟩
      rw [hpp] at hz
      have hmq : m + q ≤ 25 := by omega
      have cW := fun W => ways_any m q T hmq (Lib.hid hT) W
      have s1 : (L.length : Int) - (k : Int) - 1 = (m : Int) := by omega
      have hTle : T ≤ 4638590332229999353 := by rw [← hT]; exact tT_le _ _ hmq
      have hzp : z + p ≤ 4638590332229999353 := by omega
      have m1 : IntKind.i64.wrap ((cn : Int) * (T : Int)) = (p : Int) := by
        rw [show (cn : Int) * (T : Int) = (p : Int) by rw [← hpp]; simp]
        exact IntWalk.i64_in _ (by omega)
      have m2 : IntKind.i64.wrap ((z : Int) + (p : Int)) = ((z + p : Nat) : Int) := by
        rw [show (z : Int) + (p : Int) = ((z + p : Nat) : Int) by simp]
        exact IntWalk.i64_in _ (by omega)
      have hcn : cn ≤ q := by omega
      have HZ := Lib.hid (show (z + p) + rnk (L.drop (k + 1)) (max q (cn + 1)) = R by omega)
      have HP := Lib.hid hpl
      have HM := Lib.hid hm
      obtain ⟨W2, hW2⟩ : ∃ W2, wr.alloc (.cells #[.int .i64 cn, .int .i64 r] 79) = W2 := ⟨_, rfl⟩
      have b2 : Blk W2 wr.heap.size #[.int .i64 cn, .int .i64 r] 79 := hW2 ▸ Blk.new wr _ _
      have hB2 : Below W1.heap.size W1 W2 := hW2 ▸ hB.alloc hB.size _
      have x2 : W2.cell? ⟨w.heap.size, 0, none⟩ = some (.slice (some ⟨g, off, none⟩) L.length cl) := at_below x0 hB2
      have y0 : W2.cell? ⟨wr.heap.size, 0, none⟩ = some (.int .i64 cn) := b2.cell 0
      have x1 : wr.cell? ⟨w.heap.size, 0, none⟩ = some (.slice (some ⟨g, off, none⟩) L.length cl) := at_below x0 hB
      obtain ⟨Q, hQ⟩ : ∃ Q, wr.heap.size = Q := ⟨_, rfl⟩
      rw [hQ] at b2 y0
      have HB2 := Lib.hid (And.intro hB2 b2)
      clear hc hx hB hpl hz hm hT hpp b2 hB2
      go_wp2
      try rw [hQ]
      try rw [hW2]
      go_region_held3 (fun w' => w'.cell? ⟨Q, 0, none⟩ = some (.int .i64 cn)) (first | exact y0 | exact (hb.cell (p := ⟨Q, 0, none⟩) HB2.out.2.lt).trans y0) (first | (go_at_call 73; refine (cW _).mono ?_; rintro e W3 ⟨rfl, hb⟩))
      rename_i hHeld
      have HB3 := Lib.hid (HB2.out.1.drew.trans (hb.mono HB2.out.1.size))
      have x3 : W3.cell? ⟨w.heap.size, 0, none⟩ = some (.slice (some ⟨g, off, none⟩) L.length cl) := at_below x0 HB3.out
      clear hb x2 x1 y0 m1 m2 s1 cW q0 q1
      by_cases c4 : q < cn + 1
      · have d4 : decide ((q : Int) < (cn : Int) + 1) = true := decide_eq_true (by omega)
        have hmax : max q (cn + 1) = cn + 1 := by omega
        have HZ2 := HZ.out
        have HP2 := HP.out
        rw [hmax] at HZ2 HP2
        have HE := Lib.hid (And.intro HZ2 HP2)
        clear HZ2 HP2 hmax
        go_wp2
        go_roundw
        case rel => exact ⟨k + 1, cn + 1, z + p, by go_num, by go_num, by first | go_num | (rw [if_pos (by omega)]; go_num), by omega, by omega, HE.out.2, HE.out.1, HB3.out⟩
        case measure => simp [intOf]; omega
      · have d4 : decide ((q : Int) < (cn : Int) + 1) = false := decide_eq_false (by omega)
        have hmax : max q (cn + 1) = q := by omega
        have HZ2 := HZ.out
        have HP2 := HP.out
        rw [hmax] at HZ2 HP2
        have HE := Lib.hid (And.intro HZ2 HP2)
        clear HZ2 HP2 hmax
        go_wp2
        go_roundw
        case rel => exact ⟨k + 1, q, z + p, by go_num, by go_num, by first | rfl | (rw [if_neg (by omega)]), by omega, by omega, HE.out.2, HE.out.1, HB3.out⟩
        case measure => simp [intOf]; omega
    · rw [List.drop_of_length_le (by omega)] at hz
      have HZ := Lib.hid (show z = R from hz)
      have HB3 := Lib.hid hB
      clear hz hpl hB
      go_wp2
      go_ret
      exact ⟨by rw [HZ.out]; rfl, HB.out.1.trans (HB3.out.mono HB.out.1.size)⟩

theorem rank_np (s : Sc) (ol os : Option Addr) (cl cs : Nat) (hn : s.L.length ≤ 9223372036854775807) (hm : s.S.length ≤ 9223372036854775807) (w : World) (hr : RowAt w encR 2 ol s.L) (ht : RowAt w encI 1 os s.S) (hmay : mayB s = true) (hpl : plainB s = false) :
    Calls Try.prog 26 #[.agg #[.slice ol s.L.length cl, .slice os s.S.length cs]] w fun e w' => e = .returned (.tuple #[.int .i64 0, .int .i64 2]) ∧ Below w.heap.size w w' := by
  have hB0 := (Below.refl _ w).alloc (Nat.le_refl _) (.cells #[.slice ol s.L.length cl, .slice os s.S.length cs] 25)
  have hr0 := hr.below encR_len (by decide) hB0
  have ht0 := ht.below encI_len (by decide) hB0
  have cK := fun W h1 h2 => isPlain_may s ol os cl cs hn hm W h1 h2 hmay
  rw [hpl] at cK
  obtain ⟨n, hnn⟩ : ∃ n, s.L.length = n := ⟨_, rfl⟩
  obtain ⟨m, hmm⟩ : ∃ n, s.S.length = n := ⟨_, rfl⟩
  rw [hnn, hmm] at cK hr0 ht0 hB0 ⊢
  clear hnn hmm hmay hr ht hpl
  go_enter Try.func26, Try.ntmps26
  go_wp2_with (fail)
  refine (cK _ hr0 ht0).mono ?_
  rintro e w1 ⟨rfl, hB⟩
  have hend := hB0.trans (hB.mono hB0.size)
  have HE := Lib.hid hend
  clear hB hB0 hr0 ht0 cK hend
  go_wp2
  go_ret2
  exact ⟨rfl, HE.out⟩

set_option maxHeartbeats 8000000 in
theorem rank_any (s : Sc) (ol os : Option Addr) (cl cs R : Nat) (hn : s.L.length ≤ 9223372036854775807) (hm : s.S.length ≤ 9223372036854775807) (w : World) (hr : RowAt w encR 2 ol s.L) (ht : RowAt w encI 1 os s.S) (hmay : mayB s = true) (hpl : plainB s = true) (hR : Hid (rnk s.L 0 = R)) :
    Calls Try.prog 26 #[.agg #[.slice ol s.L.length cl, .slice os s.S.length cs]] w fun e w' => e = .returned (.tuple #[.int .i64 (R : Nat), .int .i64 0]) ∧ Below w.heap.size w w' := by
  have cK := fun W h1 h2 => isPlain_may s ol os cl cs hn hm W h1 h2 hmay
  rw [hpl] at cK
  unfold plainB at hpl
  simp only [Bool.and_eq_true, decide_eq_true_iff] at hpl
  obtain ⟨⟨⟨_, h25⟩, _⟩, hp⟩ := hpl
  have hRle := rnk_le h25 hp
  rw [hR.out] at hRle
  have hB0 := (Below.refl _ w).alloc (Nat.le_refl _) (.cells #[.slice ol s.L.length cl, .slice os s.S.length cs] 25)
  have hr0 := hr.below encR_len (by decide) hB0
  have ht0 := ht.below encI_len (by decide) hB0
  have b0 := Blk.new w #[.slice ol s.L.length cl, .slice os s.S.length cs] 25
  obtain ⟨L, S⟩ := s
  simp only at h25 hp hr0 ht0 b0 hB0 hR hn hm cK ⊢
  obtain ⟨W1, hW1⟩ : ∃ W1, w.alloc (.cells #[.slice ol L.length cl, .slice os S.length cs] 25) = W1 := ⟨_, rfl⟩
  rw [hW1] at hr0 ht0 b0 hB0
  have x0 : W1.cell? ⟨w.heap.size, 0, none⟩ = some (.slice ol L.length cl) := b0.cell 0
  have x1 : W1.cell? ⟨w.heap.size, 1, none⟩ = some (.slice os S.length cs) := b0.cell 1
  have HB := Lib.hid (And.intro hB0 (And.intro hr0 (And.intro b0 hp)))
  clear hB0 b0 hp hr ht hmay
  go_enter Try.func26, Try.ntmps26
  go_wp2_with (fail)
  try rw [hW1]
  clear hW1
  refine (cK _ hr0 ht0).mono ?_
  rintro e W2 ⟨rfl, hB⟩
  have HB2 := Lib.hid hB
  clear hB cK hr0 ht0 x0 x1
  go_wp2_with (fail)
  refine (reckon_all _).mono ?_
  rintro e W3 ⟨cur, rfl, hz, hc, hB, hcl⟩
  have HB3 := Lib.hid (HB2.out.trans (hB.mono HB2.out.size))
  have z0 : (Try.zeroCells97).size = 676 := by kernel_rfl
  have hi : (Try.prog.info? 97).map (·.size) = some cur.size := by rw [hz]; kernel_rfl
  have hA := heap_alloc_new W3 (.cells Try.zeroCells97 97)
  have HH := Lib.hid (And.intro hz (And.intro hc (And.intro hcl (And.intro z0 (And.intro hi hA)))))
  clear hz hc hcl z0 hi hA hB
  obtain ⟨W4, hW4⟩ : ∃ W4, (W3.alloc (.cells Try.zeroCells97 97)).setRow W3.heap.size cur = W4 := ⟨_, rfl⟩
  have b4 : Blk W4 W3.heap.size cur 97 := hW4 ▸ setRow_heap _ _ _ _ _ _ HH.out.2.2.2.2.2
  have hB4 : Below W1.heap.size W1 W4 := hW4 ▸ below_setRow (HB3.out.alloc HB3.out.size _) HB3.out.size cur
  have x4 : W4.cell? ⟨w.heap.size, 0, none⟩ = some (.slice ol L.length cl) := (HB.out.2.2.1.below' hB4).cell 0
  have HB4 := Lib.hid (And.intro hB4 b4)
  clear b4 hB4
  go_wp2_with (refine wpList_store_row rfl 97 _ _ rfl W3.heap.size cur rfl rfl 97 Try.zeroCells97 HH.out.2.2.2.2.2 HH.out.2.2.2.2.1 (HH.out.2.2.2.1.trans HH.out.1.symm) HH.out.2.2.1 ?_; rw [hW4])
  obtain ⟨Q4, hQ4⟩ : ∃ Q4, W3.heap.size = Q4 := ⟨_, rfl⟩
  rw [hQ4] at HB4 ⊢
  clear hW4 hQ4
  go_loopw [16, 5, 6] (RnkI W4 R L) (fun i _ _ _ => L.length - (intOf i).toNat)
  case atStart => exact ⟨0, 0, 0, rfl, rfl, rfl, by omega, by omega, by simpa using HB.out.2.2.2, by simpa using hR.out, Below.refl _ _⟩
  case round =>
    obtain ⟨k, q, z, rfl, rfl, rfl, hk, hqk, hpl, hz, hB⟩ := hrel
    have hBB := HB4.out.1.trans (hB.mono HB4.out.1.size)
    by_cases hlt : k < L.length
    · obtain ⟨x, hx⟩ : ∃ x, L[k]? = some x := ⟨_, List.getElem?_eq_getElem hlt⟩
      obtain ⟨g, off, rfl, hc⟩ := (HB.out.2.1.below encR_len (by decide) hBB) k x hx
      have q0 := hc 0 (by decide)
      have q1 := hc 1 (by decide)
      rw [rnk_step hx] at hz
      obtain ⟨p0, p1, p2, hpl⟩ := plS_step hx hpl
      obtain ⟨c, r⟩ := x
      simp only [encR, List.getElem?_cons_succ, List.getElem?_cons_zero, Nat.add_zero] at q0 q1
      simp only at p0 p1 p2 hpl hz
      obtain ⟨cn, hcn⟩ : ∃ cn, c.toNat = cn := ⟨_, rfl⟩
      obtain rfl : c = (cn : Int) := by omega
      rw [hcn] at hpl hz
      clear hcn
      obtain ⟨m, hm⟩ : ∃ m, L.length - (k + 1) = m := ⟨_, rfl⟩
      rw [hm] at hz
      obtain ⟨T, hT⟩ : ∃ T, tT m q = T := ⟨_, rfl⟩
      rw [hT] at hz
      obtain ⟨p, hpp⟩ : ∃ p, cn * T = p := ⟨_, rfl⟩
      rw [hpp] at hz
      have hmq : m + q ≤ 25 := by omega
      have s1 : IntKind.i64.wrap ((L.length : Int) - 1) = (L.length : Int) - 1 := IntWalk.i64_in _ (by omega)
      have s2 : IntKind.i64.wrap ((L.length : Int) - 1 - (k : Int)) = (m : Int) := by
        rw [show (L.length : Int) - 1 - (k : Int) = (m : Int) by omega]
        exact IntWalk.i64_in _ (by omega)
      have hTle : T ≤ 4638590332229999353 := by rw [← hT]; exact tT_le _ _ hmq
      have hzp : z + p ≤ 4638590332229999353 := by omega
      have m1 : IntKind.i64.wrap ((cn : Int) * (T : Int)) = (p : Int) := by
        rw [show (cn : Int) * (T : Int) = (p : Int) by rw [← hpp]; simp]
        exact IntWalk.i64_in _ (by omega)
      have m2 : IntKind.i64.wrap ((z : Int) + (p : Int)) = ((z + p : Nat) : Int) := by
        rw [show (z : Int) + (p : Int) = ((z + p : Nat) : Int) by simp]
        exact IntWalk.i64_in _ (by omega)
      have hcn : cn ≤ q := by omega
      have HZ := Lib.hid (show (z + p) + rnk (L.drop (k + 1)) (max q (cn + 1)) = R by omega)
      have HP := Lib.hid hpl
      obtain ⟨W5, hW5⟩ : ∃ W5, wr.alloc (.cells #[.int .i64 cn, .int .i64 r] 79) = W5 := ⟨_, rfl⟩
      have b5 : Blk W5 wr.heap.size #[.int .i64 cn, .int .i64 r] 79 := hW5 ▸ Blk.new wr _ _
      have hB5 : Below W4.heap.size W4 W5 := hW5 ▸ hB.alloc hB.size _
      have hB5' : Below wr.heap.size wr W5 := hW5 ▸ (Below.refl _ _).alloc (Nat.le_refl _) _
      have x5 : W5.cell? ⟨w.heap.size, 0, none⟩ = some (.slice (some ⟨g, off, none⟩) L.length cl) := at_below x4 hB5
      have t5 : W5.cell? ⟨Q4, m * 26 + q, none⟩ = some (.int .i64 (T : Nat)) := by
        have h1 := (HB4.out.2.below' hB5).cell (m * 26 + q)
        rw [HH.out.2.1 m q hmq, hT] at h1
        exact h1
      have y0 : W5.cell? ⟨wr.heap.size, 0, none⟩ = some (.int .i64 cn) := b5.cell 0
      have x1 : wr.cell? ⟨w.heap.size, 0, none⟩ = some (.slice (some ⟨g, off, none⟩) L.length cl) := at_below x4 hB
      obtain ⟨Q, hQ⟩ : ∃ Q, wr.heap.size = Q := ⟨_, rfl⟩
      rw [hQ] at b5 y0
      have HB5 := Lib.hid (And.intro hB5 b5)
      clear hc hx hB hpl hz hm hT hpp b5 hB5 hB5' hBB x4
      go_wp2
      try rw [hQ]
      try rw [hW5]
      clear hQ hW5
      go_quiet (fail)
      clear m1 m2 s1 s2 t5 q0 q1 x1 x5
      by_cases c4 : q < cn + 1
      · have d4 : decide ((q : Int) < (cn : Int) + 1) = true := decide_eq_true (by omega)
        have hmax : max q (cn + 1) = cn + 1 := by omega
        have HZ2 := HZ.out
        have HP2 := HP.out
        rw [hmax] at HZ2 HP2
        have HE := Lib.hid (And.intro HZ2 HP2)
        clear HZ2 HP2 hmax
        go_wp2
        go_roundw
        case rel => exact ⟨k + 1, cn + 1, z + p, by go_num, by go_num, by first | go_num | (rw [if_pos (by omega)]; go_num), by omega, by omega, HE.out.2, HE.out.1, HB5.out.1.trans ((below_drewN _ _).mono HB5.out.1.size)⟩
        case measure => simp [intOf]; omega
      · have d4 : decide ((q : Int) < (cn : Int) + 1) = false := decide_eq_false (by omega)
        have hmax : max q (cn + 1) = q := by omega
        have HZ2 := HZ.out
        have HP2 := HP.out
        rw [hmax] at HZ2 HP2
        have HE := Lib.hid (And.intro HZ2 HP2)
        clear HZ2 HP2 hmax
        go_wp2
        go_roundw
        case rel => exact ⟨k + 1, q, z + p, by go_num, by go_num, by first | rfl | (rw [if_neg (by omega)]), by omega, by omega, HE.out.2, HE.out.1, HB5.out.1.trans ((below_drewN _ _).mono HB5.out.1.size)⟩
        case measure => simp [intOf]; omega
    · rw [List.drop_of_length_le (by omega)] at hz
      have HZ := Lib.hid (show z = R from hz)
      have HB3 := Lib.hid hBB
      clear hz hpl hB hBB
      go_wp2
      go_ret2
      exact ⟨by rw [HZ.out]; rfl, HB.out.1.trans (HB3.out.mono HB.out.1.size)⟩
end Go.Proofs.Ytdcmkiggnmajgaa
