/- Stage 16: Unrank, the program's: mathematics, plain. -/
import Derived.Test.YtdcmkiggnmajgaaVl
import Derived.Laws.MakeOwn
import Derived.Laws.OwnMore
namespace Go.Proofs.Ytdcmkiggnmajgaa
set_option linter.unusedVariables false
set_option linter.unusedSimpArgs false
open Go Go.RowKit Go.Shelf
set_option maxRecDepth 100000

/-- The lines of a plain scheme by its rank. -/
def unr : Nat → Nat → Nat → List Rh
  | 0, _, _ => []
  | l + 1, k, q => ⟨(min (k / tT l q) q : Nat), 0⟩ :: unr l (k - min (k / tT l q) q * tT l q) (max q (min (k / tT l q) q + 1))
def unS (n : Nat) : List Int := if n = 0 then [] else [(n : Int)]
def unB (n k : Nat) : Sc := ⟨unr n k 0, unS n⟩
theorem unr_len : ∀ n k q, (unr n k q).length = n := by
  intro n
  induction n with
  | zero => intro k q; rfl
  | succ n ih => intro k q; simp [unr, ih]
/-- make([]api.Rhyme, n): a row of zeros of one's own. -/
theorem make_rhymes (w : World) (n : Nat) (h : n ≤ 1000000) : (Instr.makeSlice 22 (.int .i64 (n : Int)) (.int .i64 (n : Int))).run Try.prog w = .ok (.slice (some ⟨w.heap.size, 0, none⟩) n n) (w.alloc (.cells (madeCells #[.int .i64 0, .int .i64 0] (n * 2)) 79)) := by
  obtain ⟨i0, hi, hz0, hz1, hz2⟩ := info_parts infoRhyme
  have := run_make (P := Try.prog) w 22 79 i0 (.agg #[.int .i64 0, .int .i64 0]) Try.underlying22 hi hz0 .i64 .i64 n n (by omega) (by omega) (by rw [hz2]; omega) (by omega)
  rw [hz1] at this
  exact this
theorem made_rhymes (n : Nat) : (madeCells #[.int .i64 0, .int .i64 0] (n * 2)).toList = (List.replicate n (⟨0, 0⟩ : Rh)).flatMap encR := by
  apply List.ext_getElem?
  intro i
  simp only [madeCells]
  by_cases hi : i < n * 2
  · have h2 : (List.replicate n (⟨0, 0⟩ : Rh))[i / 2]? = some ⟨0, 0⟩ := by rw [List.getElem?_replicate, if_pos (by omega)]
    have h3 := fl_get (enc := encR) (k := 2) encR_len h2 (j := i % 2) (by omega)
    rw [show i / 2 * 2 + i % 2 = i by omega] at h3
    rw [h3]
    have h4 : (Array.range (n * 2))[i]? = some i := by simp [hi]
    rw [Array.getElem?_toList, Array.getElem?_map, h4]
    rcases (by omega : i % 2 = 0 ∨ i % 2 = 1) with h | h <;> simp [h, encR]
  · have h3 : ((List.replicate n (⟨0, 0⟩ : Rh)).flatMap encR).length = n * 2 := by rw [fl_len encR_len]; simp
    rw [List.getElem?_eq_none (by simp; omega), List.getElem?_eq_none (by rw [h3]; omega)]
theorem plain_nil (o : Option Addr) (c : Nat) (w : World) : Calls Try.prog 70 #[.slice o 0 c] w fun e w' => e = .returned (.agg #[.slice none 0 0, .slice none 0 0]) ∧ Below w.heap.size w w' := by
  go_enter Try.func70, Try.ntmps70
  go_wp2
  exact bodyPost_ret (v := .agg #[.slice none 0 0, .slice none 0 0]) (by simp [results, Try.f70, go_sem]) rfl ⟨rfl, (Below.refl _ _).alloc (Nat.le_refl _) _⟩
theorem plain_some (o : Option Addr) (n c : Nat) (hn : 0 < n) (hm : n ≤ 1000000) (w : World) : Calls Try.prog 70 #[.slice o n c] w fun e w' => ∃ H, e = .returned (.agg #[.slice o n c, .slice (some ⟨H, 0, none⟩) 1 1]) ∧ w'.ownsRow w.heap.size 3 1 (.slice (some ⟨H, 0, none⟩) 1 1) 1 [.int .i64 n] ∧ Below w.heap.size w w' := by
  have e1 : ((n : Int) == 0) = false := by rw [beq_eq_false_iff_ne]; omega
  have e2 : (n == 0) = false := by rw [beq_eq_false_iff_ne]; omega
  go_enter Try.func70, Try.ntmps70
  go_wp2
  refine bodyPost_ret (v := .agg #[.slice o n c, .slice (some ⟨w.heap.size + 1, 0, none⟩) 1 1]) (by simp [results, Try.f70, go_sem]) rfl ⟨w.heap.size + 1, rfl, ?_, ((Below.refl _ _).alloc (Nat.le_refl _) _).alloc (by simp) _⟩
  have := World.ownsRow_lit (base := w.heap.size) (e := 3) (size := 1) (w.alloc (.cells #[.slice o n c, .slice (some ⟨w.heap.size + 1, 0, none⟩) 1 1] 25)) #[.int .i64 n] 1 (by simp) (by decide) rfl
  simpa using this

/-- The rows while Unrank fills them. -/
structure UnR (w wr : World) (Q G n K i kk q : Nat) (cur : Array Value) : Prop where
  res : Blk wr w.heap.size #[.slice none 0 0, .slice none 0 0] 25
  tab : Blk wr Q cur 97
  row : ∃ P : List Rh, P.length = i ∧ unr n K 0 = P ++ unr (n - i) kk q ∧ wr.ownsRow (w.heap.size + 1) 79 2 (.slice (some ⟨G, 0, none⟩) n n) n ((P ++ List.replicate (n - i) (⟨0, 0⟩ : Rh)).flatMap encR)
  bel : Below w.heap.size w wr
theorem UnR.next {w wr : World} {Q G n K i kk q : Nat} {cur : Array Value} (h : UnR w wr Q G n K i kk q cur) (hQ : Q < G) (hi : i < n) (c : Nat) (hc : c = min (kk / tT (n - (i + 1)) q) q) :
    UnR w (wr.setCell ⟨G, i * 2, none⟩ (.int .i64 (c : Nat))) Q G n K (i + 1) (kk - c * tT (n - (i + 1)) q) (max q (c + 1)) cur := by
  obtain ⟨h1, h2, ⟨P, hP, hu, hr⟩, hB⟩ := h
  have hG := (hr.lt G rfl).1
  refine ⟨h1.other (by omega) _ _, h2.other (by omega) _ _, ⟨P ++ [⟨c, 0⟩], by simp [hP], ?_, ?_⟩, hB.setCell (p := ⟨G, i * 2, none⟩) (by show w.heap.size ≤ G; omega) _⟩
  · rw [hu, show n - i = (n - (i + 1)) + 1 by omega]
    simp only [unr, ← hc]
    simp
  · have h3 := own_setK hr (o := i * 2) (by omega) (.int .i64 (c : Nat))
    have h4 : (P ++ List.replicate (n - i) (⟨0, 0⟩ : Rh))[i]? = some ⟨0, 0⟩ := by
      rw [List.getElem?_append_right (by omega), List.getElem?_replicate, if_pos (by omega)]
    have h5 := fl_set (enc := encR) (k := 2) encR_len h4 (j := 0) (y := ⟨c, 0⟩) (v := .int .i64 (c : Nat)) (by decide) rfl
    rw [Nat.add_zero] at h5
    rw [h5] at h3
    have h6 : (P ++ List.replicate (n - i) (⟨0, 0⟩ : Rh)).set i ⟨c, 0⟩ = (P ++ [⟨c, 0⟩]) ++ List.replicate (n - (i + 1)) (⟨0, 0⟩ : Rh) := by
      rw [List.set_append_right _ _ (by omega), hP, Nat.sub_self, show n - i = (n - (i + 1)) + 1 by omega, List.replicate_succ, List.set_cons_zero]
      simp
    rw [h6] at h3
    exact h3
def UnI (w : World) (Q G n K : Nat) (cur : Array Value) (i kv c : Value) (wr : World) : Prop := ∃ i' kk q : Nat, i = .int .i64 i' ∧ kv = .int .i64 kk ∧ c = .int .i64 q ∧ i' ≤ n ∧ q ≤ i' ∧ kk ≤ K ∧ UnR w wr Q G n K i' kk q cur

set_option maxHeartbeats 8000000 in
theorem unrank_any (n k T : Nat) (hn : n ≤ 25) (hT : Hid (tT n 0 = T)) (hk : k < T) (w : World) :
    Calls Try.prog 45 #[.int .i64 n, .int .i64 k] w fun e w' => ∃ vl vs, e = .returned (.tuple #[.agg #[vl, vs], .int .i64 0]) ∧ w'.ownsRow w.heap.size 79 2 vl n ((unr n k 0).flatMap encR) ∧ w'.ownsRow w.heap.size 3 1 vs (unS n).length ((unS n).flatMap encI) ∧ Below w.heap.size w w' := by
  have hTle : T ≤ 4638590332229999353 := by rw [← hT.out]; exact tT_le _ _ (by omega)
  have hmk := fun W => make_rhymes W n (by omega)
  have d1 : decide ((k : Int) < 0) = false := decide_eq_false (by omega)
  have d2 : decide ((T : Int) ≤ (k : Int)) = false := decide_eq_false (by omega)
  have d3 : decide (T ≤ k) = false := decide_eq_false (by omega)
  have hTT := Lib.hid hT
  go_enter Try.func45, Try.ntmps45
  go_wp2_with (fail)
  refine (count_any n T hn hTT.out _).mono ?_
  rintro e W2 ⟨rfl, hB2⟩
  have b2 := (Blk.new w #[.slice none 0 0, .slice none 0 0] 25).below' hB2
  have hB2' := ((Below.refl _ w).alloc (Nat.le_refl _) (.cells #[.slice none 0 0, .slice none 0 0] 25)).trans (hB2.mono (by simp))
  have HB2 := Lib.hid (And.intro hB2' b2)
  clear hB2 hB2' b2
  go_wp2_with (fail)
  refine (reckon_all _).mono ?_
  rintro e W3 ⟨cur, rfl, hz, hc, hB, hcl⟩
  have z0 : (Try.zeroCells97).size = 676 := by kernel_rfl
  have hi : (Try.prog.info? 97).map (·.size) = some cur.size := by rw [hz]; kernel_rfl
  have hA := heap_alloc_new W3 (.cells Try.zeroCells97 97)
  have HH := Lib.hid (And.intro hz (And.intro hc (And.intro hcl (And.intro z0 (And.intro hi hA)))))
  have HB3 := Lib.hid (And.intro (HB2.out.1.trans (hB.mono HB2.out.1.size)) (HB2.out.2.below' hB))
  clear hz hc hcl z0 hi hA hB
  obtain ⟨W4, hW4⟩ : ∃ W4, (W3.alloc (.cells Try.zeroCells97 97)).setRow W3.heap.size cur = W4 := ⟨_, rfl⟩
  have b4 : Blk W4 W3.heap.size cur 97 := hW4 ▸ setRow_heap _ _ _ _ _ _ HH.out.2.2.2.2.2
  have hB4 : Below W3.heap.size W3 W4 := hW4 ▸ below_setRow ((Below.refl _ _).alloc (Nat.le_refl _) _) (Nat.le_refl _) cur
  have HB4 := Lib.hid (And.intro (HB3.out.1.trans (hB4.mono HB3.out.1.size)) (And.intro b4 (HB3.out.2.below' hB4)))
  clear b4 hB4
  obtain ⟨W5, hW5⟩ : ∃ W5, W4.alloc (.cells (madeCells #[.int .i64 0, .int .i64 0] (n * 2)) 79) = W5 := ⟨_, rfl⟩
  go_wp2_with (refine wpList_store_row rfl 97 _ _ rfl W3.heap.size cur rfl rfl 97 Try.zeroCells97 HH.out.2.2.2.2.2 HH.out.2.2.2.2.1 (HH.out.2.2.2.1.trans HH.out.1.symm) HH.out.2.2.1 ?_; rw [hW4])
  try rw [hW5]
  have hS : UnR w W5 W3.heap.size W4.heap.size n k 0 k 0 cur := by
    have hr := World.ownsRow_lit (base := w.heap.size + 1) (e := 79) (size := 2) W4 (madeCells #[.int .i64 0, .int .i64 0] (n * 2)) n HB4.out.2.2.lt (by unfold maxLen; omega) (size_madeCells _ _)
    rw [made_rhymes, hW5] at hr
    have hb := hW5 ▸ (Below.refl _ W4).alloc (Nat.le_refl _) (.cells (madeCells #[.int .i64 0, .int .i64 0] (n * 2)) 79)
    exact ⟨HB4.out.2.2.below' hb, HB4.out.2.1.below' hb, ⟨[], rfl, rfl, hr⟩, HB4.out.1.trans (hb.mono HB4.out.1.size)⟩
  have hQG : W3.heap.size < W4.heap.size := HB4.out.2.1.lt
  obtain ⟨Q, hQ⟩ : ∃ Q, W3.heap.size = Q := ⟨_, rfl⟩
  obtain ⟨G, hG⟩ : ∃ G, W4.heap.size = G := ⟨_, rfl⟩
  rw [hQ, hG] at hS hQG ⊢
  have HS := Lib.hid hS
  clear hS hW4 hW5 hQ hG d1 d2 d3 hmk
  go_loopw [36, 1, 10] (UnI w Q G n k cur) (fun i _ _ _ => n - (intOf i).toNat)
  case atStart => exact ⟨0, k, 0, rfl, rfl, rfl, by omega, by omega, by omega, HS.out⟩
  case round =>
    obtain ⟨i, kk, q, rfl, rfl, rfl, hin, hqi, hkk, hU⟩ := hrel
    by_cases hlt : i < n
    · obtain ⟨m, hm⟩ : ∃ m, n - (i + 1) = m := ⟨_, rfl⟩
      obtain ⟨T', hT'⟩ : ∃ T', tT m q = T' := ⟨_, rfl⟩
      have hmq : m + q ≤ 25 := by omega
      have hT1 : 1 ≤ T' := by rw [← hT']; exact tT_pos _ _ hmq
      have hT2 : T' ≤ 4638590332229999353 := by rw [← hT']; exact tT_le _ _ hmq
      obtain ⟨d, hd⟩ : ∃ d, kk / T' = d := ⟨_, rfl⟩
      obtain ⟨c, hc⟩ : ∃ c, min d q = c := ⟨_, rfl⟩
      obtain ⟨p, hp⟩ : ∃ p, c * T' = p := ⟨_, rfl⟩
      have hpk : p ≤ kk := by
        have h1 : d * T' ≤ kk := by rw [← hd]; exact Nat.div_mul_le_self _ _
        have h2 : c * T' ≤ d * T' := Nat.mul_le_mul_right _ (by omega)
        omega
      have hdk : d ≤ kk := by rw [← hd]; exact Nat.div_le_self _ _
      have hN := hU.next hQG hlt c (by rw [hm, hT', hd, hc])
      rw [hm, hT', hp] at hN
      have t5 : wr.cell? ⟨Q, m * 26 + q, none⟩ = some (.int .i64 (T' : Nat)) := by
        have h1 := hU.tab.cell (m * 26 + q)
        rw [HH.out.2.1 m q hmq, hT'] at h1
        exact h1
      obtain ⟨P, hP, _, hr⟩ := hU.row
      have f0 := own_freeK hr (i * 2)
      have c0 : wr.cell? ⟨G, i * 2, none⟩ = some (.int .i64 0) := by
        have h1 := hr.cellAt (i * 2) (by omega)
        have h4 : (P ++ List.replicate (n - i) (⟨0, 0⟩ : Rh))[i]? = some ⟨0, 0⟩ := by
          rw [List.getElem?_append_right (by omega), List.getElem?_replicate, if_pos (by omega)]
        have h5 := fl_get (enc := encR) (k := 2) encR_len h4 (j := 0) (by decide)
        rw [Nat.add_zero] at h5
        rw [h1, h5]; rfl
      have s1 : (n : Int) - 1 - (i : Int) = (m : Int) := by omega
      have z1 : ((T' : Int) == 0) = false := by rw [beq_eq_false_iff_ne]; omega
      have z2 : (T' == 0) = false := by rw [beq_eq_false_iff_ne]; omega
      have v1 : (kk : Int) / (T' : Int) = (d : Int) := by rw [← hd]; simp
      have v2 : min (d : Int) (q : Int) = (c : Int) := by omega
      have v3 : (c : Int) * (T' : Int) = (p : Int) := by rw [← hp]; simp
      have hcq : c ≤ q := by omega
      have HN := Lib.hid hN
      have HM := Lib.hid hm
      clear hr hU hN hd hc hp hT' hm hP
      rcases (by omega : (q < d ∧ c = q) ∨ (¬ q < d ∧ d = c)) with ⟨h1, h2⟩ | ⟨h1, h2⟩
      · subst h2
        have g1 : decide (c < d) = true := decide_eq_true h1
        have hmax : max c (c + 1) = c + 1 := by omega
        have HN2 := HN.out
        rw [hmax] at HN2
        have HE := Lib.hid HN2
        clear HN2 hmax v2
        go_wp2
        exact ⟨⟨i + 1, kk - p, c + 1, by go_num, by go_num, by go_num, by omega, by omega, by omega, HE.out⟩, by simp [intOf]; omega⟩
      · subst h2
        have g1 : decide (q < d) = false := decide_eq_false h1
        clear v2
        by_cases h3 : q < d + 1
        · have hmax : max q (d + 1) = d + 1 := by omega
          have HN2 := HN.out
          rw [hmax] at HN2
          have HE := Lib.hid HN2
          clear HN2 hmax
          go_wp2
          exact ⟨⟨i + 1, kk - p, d + 1, by go_num, by go_num, by first | go_num | (rw [if_pos (by omega)]; go_num), by omega, by omega, by omega, HE.out⟩, by simp [intOf]; omega⟩
        · have hmax : max q (d + 1) = q := by omega
          have HN2 := HN.out
          rw [hmax] at HN2
          have HE := Lib.hid HN2
          clear HN2 hmax
          go_wp2
          exact ⟨⟨i + 1, kk - p, q, by go_num, by go_num, by first | rfl | (rw [if_neg (by omega)]), by omega, by omega, by omega, HE.out⟩, by simp [intOf]; omega⟩
    · obtain rfl : i = n := by omega
      obtain ⟨b0, _, ⟨P, hP, hu, hr⟩, hB⟩ := hU
      rw [Nat.sub_self] at hu hr
      simp only [unr, List.append_nil, List.replicate_zero] at hu hr
      rw [← hu] at hr
      have HR := Lib.hid (And.intro b0 (And.intro hr hB))
      clear b0 hr hB hu hP
      by_cases h0 : i = 0
      · subst h0
        go_wp2_with (fail)
        refine (plain_nil _ _ _).mono ?_
        rintro e W6 ⟨rfl, hB6⟩
        have b6 := HR.out.1.below' hB6
        have z0 := b6.cell 0
        have z1 := b6.cell 1
        have f0 := b6.frozen 0
        have f1 := b6.frozen 1
        simp only [List.getElem?_toArray, List.getElem?_cons_succ, List.getElem?_cons_zero] at z0 z1
        have hend := ((HR.out.2.2.trans (hB6.mono HR.out.2.2.size)).setCell (p := ⟨w.heap.size, 0, none⟩) (Nat.le_refl _) (.slice none 0 0)).setCell (p := ⟨w.heap.size, 1, none⟩) (Nat.le_refl _) (.slice none 0 0)
        have b7 := (b6.set 0 (.slice none 0 0)).set 1 (.slice none 0 0)
        have q0 := b7.cell 0
        have q1 := b7.cell 1
        simp only [List.setIfInBounds_toArray, List.set_cons_zero, List.set_cons_succ, List.getElem?_toArray, List.getElem?_cons_succ, List.getElem?_cons_zero] at q0 q1
        have g0 : ((W6.setCell ⟨w.heap.size, 0, none⟩ (.slice none 0 0)).setCell ⟨w.heap.size, 1, none⟩ (.slice none 0 0)).ownsRow w.heap.size 79 2 (.slice none 0 0) 0 ((unr 0 k 0).flatMap encR) := World.ownsRow_nil _ _ _ _
        have g1 : ((W6.setCell ⟨w.heap.size, 0, none⟩ (.slice none 0 0)).setCell ⟨w.heap.size, 1, none⟩ (.slice none 0 0)).ownsRow w.heap.size 3 1 (.slice none 0 0) (unS 0).length ((unS 0).flatMap encI) := World.ownsRow_nil _ _ _ _
        obtain ⟨F, hF⟩ : ∃ F, (W6.setCell ⟨w.heap.size, 0, none⟩ (.slice none 0 0)).setCell ⟨w.heap.size, 1, none⟩ (.slice none 0 0) = F := ⟨_, rfl⟩
        rw [hF] at hend q0 q1 g0 g1
        have HF := Lib.hid (And.intro hend (And.intro g0 g1))
        clear b6 b7 hend hB6 g0 g1
        go_wp2
        clear hF
        exact bodyPost_ret (v := .tuple #[.agg #[.slice none 0 0, .slice none 0 0], .int .i64 0]) (by simp [results, Try.f45, go_sem, q0, q1]) rfl ⟨_, _, rfl, HF.out.2.1, HF.out.2.2, HF.out.1⟩
      · go_wp2_with (fail)
        refine (plain_some _ i i (by omega) (by omega) _).mono ?_
        rintro e W6 ⟨H, rfl, hH, hB6⟩
        have b6 := HR.out.1.below' hB6
        have z0 := b6.cell 0
        have z1 := b6.cell 1
        have f0 := b6.frozen 0
        have f1 := b6.frozen 1
        simp only [List.getElem?_toArray, List.getElem?_cons_succ, List.getElem?_cons_zero] at z0 z1
        have hend := ((HR.out.2.2.trans (hB6.mono HR.out.2.2.size)).setCell (p := ⟨w.heap.size, 0, none⟩) (Nat.le_refl _) (.slice (some ⟨G, 0, none⟩) i i)).setCell (p := ⟨w.heap.size, 1, none⟩) (Nat.le_refl _) (.slice (some ⟨H, 0, none⟩) 1 1)
        have b7 := (b6.set 0 (.slice (some ⟨G, 0, none⟩) i i)).set 1 (.slice (some ⟨H, 0, none⟩) 1 1)
        have q0 := b7.cell 0
        have q1 := b7.cell 1
        simp only [List.setIfInBounds_toArray, List.set_cons_zero, List.set_cons_succ, List.getElem?_toArray, List.getElem?_cons_succ, List.getElem?_cons_zero] at q0 q1
        have g0 := own_base (own_low (own_low (own_below HR.out.2.1 hB6) (Nat.lt_succ_self _) 0 (.slice (some ⟨G, 0, none⟩) i i)) (Nat.lt_succ_self _) 1 (.slice (some ⟨H, 0, none⟩) 1 1)) (Nat.le_succ _)
        have g1 := own_base (own_low (own_low hH HR.out.1.lt 0 (.slice (some ⟨G, 0, none⟩) i i)) HR.out.1.lt 1 (.slice (some ⟨H, 0, none⟩) 1 1)) (Nat.le_of_lt HR.out.1.lt)
        have hS1 : unS i = [(i : Int)] := if_neg h0
        rw [show [Value.int .i64 (i : Int)] = (unS i).flatMap encI by rw [hS1]; rfl] at g1
        have g1 : ((W6.setCell ⟨w.heap.size, 0, none⟩ (.slice (some ⟨G, 0, none⟩) i i)).setCell ⟨w.heap.size, 1, none⟩ (.slice (some ⟨H, 0, none⟩) 1 1)).ownsRow w.heap.size 3 1 (.slice (some ⟨H, 0, none⟩) 1 1) (unS i).length ((unS i).flatMap encI) := by
          rw [show (unS i).length = 1 by rw [hS1]; rfl]
          exact g1
        clear hS1 hH
        obtain ⟨F, hF⟩ : ∃ F, (W6.setCell ⟨w.heap.size, 0, none⟩ (.slice (some ⟨G, 0, none⟩) i i)).setCell ⟨w.heap.size, 1, none⟩ (.slice (some ⟨H, 0, none⟩) 1 1) = F := ⟨_, rfl⟩
        rw [hF] at hend q0 q1 g0 g1
        have HF := Lib.hid (And.intro hend (And.intro g0 g1))
        clear b6 b7 hend hB6 g0 g1
        go_wp2
        clear hF
        exact bodyPost_ret (v := .tuple #[.agg #[.slice (some ⟨G, 0, none⟩) i i, .slice (some ⟨H, 0, none⟩) 1 1], .int .i64 0]) (by simp [results, Try.f45, go_sem, q0, q1]) rfl ⟨_, _, rfl, HF.out.2.1, HF.out.2.2, HF.out.1⟩
end Go.Proofs.Ytdcmkiggnmajgaa
