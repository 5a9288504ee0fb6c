/- Stage 16: Unrank, what is refused; the document's Count and Unrank. -/
import Derived.Test.YtdcmkiggnmajgaaVm
namespace Go.Proofs.Ytdcmkiggnmajgaa
set_option linter.unusedVariables false
set_option linter.unusedSimpArgs false
open Go Go.RowKit Go.Shelf
set_option maxRecDepth 100000

theorem unrank_end (w W2 : World) (hb : Blk W2 w.heap.size #[.slice none 0 0, .slice none 0 0] 25) (hB : Below w.heap.size w W2) : (W2.cell? ⟨w.heap.size, 0, none⟩ = some (.slice none 0 0) ∧ W2.cell? ⟨w.heap.size, 1, none⟩ = some (.slice none 0 0) ∧ W2.frozen? ⟨w.heap.size, 0, none⟩ = false ∧ W2.frozen? ⟨w.heap.size, 1, none⟩ = false) ∧
    ((W2.setCell ⟨w.heap.size, 0, none⟩ (.slice none 0 0)).setCell ⟨w.heap.size, 1, none⟩ (.slice none 0 0)).cell? ⟨w.heap.size, 0, none⟩ = some (.slice none 0 0) ∧ ((W2.setCell ⟨w.heap.size, 0, none⟩ (.slice none 0 0)).setCell ⟨w.heap.size, 1, none⟩ (.slice none 0 0)).cell? ⟨w.heap.size, 1, none⟩ = some (.slice none 0 0) ∧
    Below w.heap.size w ((W2.setCell ⟨w.heap.size, 0, none⟩ (.slice none 0 0)).setCell ⟨w.heap.size, 1, none⟩ (.slice none 0 0)) := by
  have b3 := (hb.set 0 (.slice none 0 0)).set 1 (.slice none 0 0)
  have q0 := b3.cell 0
  have q1 := b3.cell 1
  simp only [List.setIfInBounds_toArray, List.set_cons_zero, List.set_cons_succ, List.getElem?_toArray, List.getElem?_cons_succ, List.getElem?_cons_zero] at q0 q1
  exact ⟨⟨hb.cell 0, hb.cell 1, hb.frozen 0, hb.frozen 1⟩, q0, q1, (hB.setCell (p := ⟨w.heap.size, 0, none⟩) (Nat.le_refl _) _).setCell (p := ⟨w.heap.size, 1, none⟩) (Nat.le_refl _) _⟩
theorem unrank_no (n k : Int) (T : Nat) (hT : Hid (0 ≤ n → n ≤ 25 → tT n.toNat 0 = T)) (h : n < 0 ∨ 25 < n ∨ k < 0 ∨ (T : Int) ≤ k) (w : World) :
    Calls Try.prog 45 #[.int .i64 n, .int .i64 k] w fun e w' => e = .returned (.tuple #[.agg #[.slice none 0 0, .slice none 0 0], .int .i64 2]) ∧ Below w.heap.size w w' := by
  have hB0 := (Below.refl _ w).alloc (Nat.le_refl _) (.cells #[.slice none 0 0, .slice none 0 0] 25)
  have b0 := Blk.new w #[.slice none 0 0, .slice none 0 0] 25
  by_cases hn : n < 0 ∨ 25 < n
  · obtain ⟨W1, hW1⟩ : ∃ W1, w.alloc (.cells #[.slice none 0 0, .slice none 0 0] 25) = W1 := ⟨_, rfl⟩
    rw [hW1] at hB0 b0
    have HB := Lib.hid (And.intro hB0 b0)
    clear h hB0 b0
    have cC := fun W => count_no n hn W
    clear hn hT
    go_enter Try.func45, Try.ntmps45
    go_wp2_with (fail)
    clear hW1
    refine (cC _).mono ?_
    rintro e w1 ⟨rfl, hw1⟩
    subst hw1
    obtain ⟨⟨z0, z1, f0, f1⟩, q0, q1, hend⟩ := unrank_end w _ HB.out.2 HB.out.1
    have HE := Lib.hid hend
    clear cC hend
    go_wp2
    exact bodyPost_ret (v := .tuple #[.agg #[.slice none 0 0, .slice none 0 0], .int .i64 2]) (by simp [results, Try.f45, go_sem, q0, q1]) rfl ⟨rfl, HE.out⟩
  · obtain ⟨m, rfl⟩ : ∃ m : Nat, n = (m : Int) := ⟨n.toNat, by omega⟩
    have hT2 : tT m 0 = T := by simpa using hT.out (by omega) (by omega)
    have cC := fun W => count_any m T (by omega) (Lib.hid hT2) W
    have HB := Lib.hid (And.intro hB0 b0)
    have hk : k < 0 ∨ (¬ k < 0 ∧ (T : Int) ≤ k) := by omega
    clear h hB0 b0 hT hT2 hn
    rcases hk with hk | ⟨hk1, hk⟩
    · have d1 : decide (k < 0) = true := decide_eq_true hk
      go_enter Try.func45, Try.ntmps45
      go_wp2_with (fail)
      refine (cC _).mono ?_
      rintro e w1 ⟨rfl, hB1⟩
      obtain ⟨⟨z0, z1, f0, f1⟩, q0, q1, hend⟩ := unrank_end w _ (HB.out.2.below' hB1) (HB.out.1.trans (hB1.mono HB.out.1.size))
      have HE := Lib.hid hend
      clear cC hend hB1
      go_wp2
      exact bodyPost_ret (v := .tuple #[.agg #[.slice none 0 0, .slice none 0 0], .int .i64 2]) (by simp [results, Try.f45, go_sem, q0, q1]) rfl ⟨rfl, HE.out⟩
    · have d1 : decide (k < 0) = false := decide_eq_false hk1
      have d2 : decide ((T : Int) ≤ k) = true := decide_eq_true hk
      go_enter Try.func45, Try.ntmps45
      go_wp2_with (fail)
      refine (cC _).mono ?_
      rintro e w1 ⟨rfl, hB1⟩
      obtain ⟨⟨z0, z1, f0, f1⟩, q0, q1, hend⟩ := unrank_end w _ (HB.out.2.below' hB1) (HB.out.1.trans (hB1.mono HB.out.1.size))
      have HE := Lib.hid hend
      clear cC hend hB1
      go_wp2
      exact bodyPost_ret (v := .tuple #[.agg #[.slice none 0 0, .slice none 0 0], .int .i64 2]) (by simp [results, Try.f45, go_sem, q0, q1]) rfl ⟨rfl, HE.out⟩
theorem refCount_any (n T : Nat) (hn : n ≤ 25) (hT : Hid (tT n 0 = T)) (w : World) : Calls Try.prog 47 #[.int .i64 n] w fun e w' => e = .returned (.int .i64 (T : Nat)) ∧ Below w.heap.size w w' := by
  go_enter Try.func47, Try.ntmps47
  go_wp2_with (fail)
  refine (ways_any n 0 T (by omega) hT _).mono ?_
  rintro e w1 ⟨rfl, hB⟩
  go_wp2
  go_ret
  exact ⟨rfl, hB⟩

theorem min_by {kk T q j : Nat} (hT : 1 ≤ T) (hj : j * T ≤ kk) (hq : j ≤ q) (h : j = q ∨ kk - j * T < T) : j = min (kk / T) q := by
  have h1 : j ≤ kk / T := (Nat.le_div_iff_mul_le hT).2 hj
  rcases h with h | h
  · omega
  · have h2 : kk / T < j + 1 := (Nat.div_lt_iff_lt_mul hT).2 (by rw [Nat.succ_mul]; omega)
    omega
structure UrB (w wr : World) (n K i kk q : Nat) (P : List Rh) (vl : Value) : Prop where
  res : Blk wr w.heap.size #[.slice none 0 0, .slice none 0 0] 25
  sch : SchB wr (w.heap.size + 1) (w.heap.size + 2) vl (.slice none 0 0) P []
  len : P.length = i
  unr : unr n K 0 = P ++ unr (n - i) kk q
  bel : Below w.heap.size w wr
theorem UrB.below {w W W' : World} {n K i kk q : Nat} {P : List Rh} {vl : Value} (h : UrB w W n K i kk q P vl) (hb : Below W.heap.size W W') : UrB w W' n K i kk q P vl :=
  ⟨h.res.below' hb, h.sch.below hb, h.len, h.unr, h.bel.trans (hb.mono h.bel.size)⟩
theorem UrB.put {w W w3 : World} {n K i kk q j : Nat} {P : List Rh} {vl v3 : Value} (h : UrB w W n K i kk q P vl) (hlt : i < n) (hj : j = min (kk / tT (n - (i + 1)) q) q)
    (hown : w3.ownsRow (w.heap.size + 2) 79 2 v3 (P.length + 1) (P.flatMap encR ++ [.int .i64 j, .int .i64 0])) (hg : W.grownBy w3 vl.ownBlock) :
    UrB w (w3.setCell ⟨w.heap.size + 1, 0, none⟩ v3) n K (i + 1) (kk - j * tT (n - (i + 1)) q) (max q (j + 1)) (P ++ [⟨j, 0⟩]) v3 := by
  obtain ⟨h1, h2, h3, h4, h5⟩ := h
  have hlo : ∀ g, vl.ownBlock = some g → w.heap.size + 2 ≤ g := fun g e => (h2.2.1.lt g e).1
  refine ⟨(h1.kept hg (fun e => by have := hlo _ e.symm; omega)).other (by omega) _ _, h2.putL (by omega) hg (by rw [List.flatMap_append]; exact hown) (by simp), by simp [h3], ?_, ?_⟩
  · rw [h4, show n - i = (n - (i + 1)) + 1 by omega]
    simp only [Go.Proofs.Ytdcmkiggnmajgaa.unr, ← hj]
    simp
  · exact (h5.grown hg h5.size (fun r e => by have := hlo r e; omega)).setCell (p := ⟨w.heap.size + 1, 0, none⟩) (Nat.le_succ _) _
def UrI (w : World) (n K : Nat) (kv c i : Value) (wr : World) : Prop := ∃ (i' kk q : Nat) (P : List Rh) (vl : Value), i = .int .i64 i' ∧ kv = .int .i64 kk ∧ c = .int .i64 q ∧ i' ≤ n ∧ q ≤ i' ∧ kk ≤ K ∧ UrB w wr n K i' kk q P vl
def UjI (W0 : World) (kk T q : Nat) (kv j : Value) (wr : World) : Prop := ∃ j' : Nat, kv = .int .i64 ((kk - j' * T : Nat) : Int) ∧ j = .int .i64 j' ∧ j' ≤ q ∧ j' * T ≤ kk ∧ Below W0.heap.size W0 wr

set_option maxHeartbeats 8000000 in
theorem refUnrank_any (n k : Nat) (hn : n ≤ 25) (hk : k ≤ 4638590332229999353) (w : World) :
    Calls Try.prog 48 #[.int .i64 n, .int .i64 k] w fun e w' => ∃ vl vs, e = .returned (.agg #[vl, vs]) ∧ w'.ownsRow w.heap.size 79 2 vl n ((unr n k 0).flatMap encR) ∧ w'.ownsRow w.heap.size 3 1 vs (unS n).length ((unS n).flatMap encI) ∧ Below w.heap.size w w' := by
  obtain ⟨j0, hj, hy0, hy1, hy2⟩ := info_parts infoRhyme
  obtain ⟨W0, hW0⟩ : ∃ W0, (w.alloc (.cells #[.slice none 0 0, .slice none 0 0] 25)).alloc (.cells #[.slice none 0 0, .slice none 0 0] 25) = W0 := ⟨_, rfl⟩
  have hS : UrB w W0 n k 0 k 0 [] (.slice none 0 0) := by
    have b0 := (Blk.new w #[.slice none 0 0, .slice none 0 0] 25).alloc (.cells #[.slice none 0 0, .slice none 0 0] 25)
    have b1 := Blk.new (w.alloc (.cells #[.slice none 0 0, .slice none 0 0] 25)) #[.slice none 0 0, .slice none 0 0] 25
    rw [World.size_alloc] at b1
    rw [hW0] at b0 b1
    exact ⟨b0, ⟨b1, World.ownsRow_nil _ _ _ _, World.ownsRow_nil _ _ _ _⟩, rfl, rfl, hW0 ▸ ((Below.refl _ _).alloc (Nat.le_refl _) _).alloc (by simp) _⟩
  have HS := Lib.hid hS
  clear hS
  go_enter Try.func48, Try.ntmps48
  go_wp2
  clear hW0
  go_loopw [1, 6, 7] (UrI w n k) (fun _ _ i _ => n - (intOf i).toNat)
  case atStart => exact ⟨0, k, 0, [], _, rfl, rfl, rfl, by omega, by omega, by omega, HS.out⟩
  case round =>
    obtain ⟨i, kk, q, P, vl, rfl, rfl, rfl, hin, hqi, hkk, hU⟩ := hrel
    by_cases hlt : i < n
    · have g0 : decide ((i : Int) < (n : Int)) = true := decide_eq_true (by omega)
      obtain ⟨m, hm⟩ : ∃ m, n - (i + 1) = m := ⟨_, rfl⟩
      obtain ⟨T, hT⟩ : ∃ T, tT m q = T := ⟨_, rfl⟩
      have hmq : m + q ≤ 25 := by omega
      have hT1 : 1 ≤ T := by rw [← hT]; exact tT_pos _ _ hmq
      have hT2 : T ≤ 4638590332229999353 := by rw [← hT]; exact tT_le _ _ hmq
      have cW := fun W => ways_any m q T hmq (Lib.hid hT) W
      have s1 : (n : Int) - (i : Int) - 1 = (m : Int) := by omega
      have HM := Lib.hid (And.intro hm hT)
      have HU := Lib.hid hU
      clear hm hT hU
      go_wp2
      obtain ⟨V, hV⟩ : ∃ V, V = wr := ⟨_, rfl⟩
      subst hV
      go_loopw [1, 9] (UjI V kk T q) (fun _ j _ => q - (intOf j).toNat)
      case atStart => exact ⟨0, by simp, rfl, by omega, by simp, Below.refl _ _⟩
      case round =>
        obtain ⟨j, rfl, rfl, hjq, hjT, hB⟩ := hrel
        obtain ⟨p, hp⟩ : ∃ p, j * T = p := ⟨_, rfl⟩
        rw [hp] at hjT ⊢
        obtain ⟨u, hu⟩ : ∃ u, kk - p = u := ⟨_, rfl⟩
        rw [hu]
        have HP := Lib.hid (And.intro hp hu)
        have HB := Lib.hid hB
        have hukk : u ≤ kk := by omega
        have HF : Hid (j = q ∨ u < T → j = min (kk / T) q) := Lib.hid (fun h => min_by hT1 (by rw [HP.out.1]; exact hjT) hjq (by rw [HP.out.1, HP.out.2]; exact h))
        clear hp hu hB
        by_cases h1 : j < q
        · have g1 : decide (j < q) = true := decide_eq_true h1
          have g2 : decide ((j : Int) < (q : Int)) = true := decide_eq_true (by omega)
          by_cases h2 : T ≤ u
          · have g3 : decide (T ≤ u) = true := decide_eq_true h2
            have g4 : decide ((T : Int) ≤ (u : Int)) = true := decide_eq_true (by omega)
            have HS := Lib.hid (show (j + 1) * T ≤ kk ∧ kk - (j + 1) * T = u - T by rw [Nat.succ_mul, HP.out.1]; have := HP.out.2; omega)
            go_wp2_with (fail)
            refine (cW _).mono ?_
            rintro e w2 ⟨rfl, hB2⟩
            have HB2 := Lib.hid (HB.out.trans (hB2.mono HB.out.size))
            clear hB2
            go_wp2_with (fail)
            refine (cW _).mono ?_
            rintro e w3 ⟨rfl, hB3⟩
            have HB3 := Lib.hid (HB2.out.trans (hB3.mono HB2.out.size))
            clear hB3
            go_wp2
            go_roundw
            case rel => exact ⟨j + 1, by rw [HS.out.2]; go_num, by go_num, by omega, HS.out.1, HB3.out⟩
            case measure => simp [intOf]; omega
          · have g3 : decide (T ≤ u) = false := decide_eq_false h2
            have g4 : decide ((T : Int) ≤ (u : Int)) = false := decide_eq_false (by omega)
            go_wp2_with (fail)
            refine (cW _).mono ?_
            rintro e w2 ⟨rfl, hB2⟩
            have HB2 := Lib.hid (HB.out.trans (hB2.mono HB.out.size))
            clear hB2
            have hmin := HF.out (.inr (by omega))
            have hU2 := HU.out.below HB2.out
            obtain ⟨oL, cL, rfl, hoL⟩ := own_slice hU2.sch.2.1
            have x0 : w2.cell? ⟨w.heap.size + 1, 0, none⟩ = some (.slice oL P.length cL) := hU2.sch.1.cell 0
            have hU3 := hU2.below ((Below.refl _ _).alloc (Nat.le_refl _) (.cells #[.int .i64 j, .int .i64 0] 79))
            have hnew := heap_alloc_new w2 (.cells #[.int .i64 j, .int .i64 0] 79)
            have hPl : P.length ≤ 25 := by have := hU2.len; omega
            have HU3 := Lib.hid (And.intro hU3 (And.intro hnew hmin))
            clear hU2 hU3 hnew hmin hoL
            have hlast : ∀ Z v3, UrB w Z n k (i + 1) (kk - j * T) (max q (j + 1)) (P ++ [⟨j, 0⟩]) v3 → UrB w Z n k (i + 1) u (max q (j + 1)) (P ++ [⟨j, 0⟩]) v3 := fun Z v3 h => by rw [HP.out.1, HP.out.2] at h; exact h
            have HL := Lib.hid hlast
            clear hlast
            have h3 : ¬ q < j + 1 := by omega
            have hmax : max q (j + 1) = q := by omega
            have e3 : decide (q < j + 1) = false := decide_eq_false h3
            rw [hmax] at HL
            clear hmax
            go_wp2_with (at_builtin; refine wpList_append_own _ rfl _ _ 22 rfl (w.heap.size + 2) 79 j0 (.agg #[.int .i64 0, .int .i64 0]) 2 16 Try.underlying22 hj hy0 hy1 hy2 rfl (by decide) _ _ _ rfl HU3.out.1.sch.2.1 ⟨w2.heap.size, 0, none⟩ 1 1 [.int .i64 j, .int .i64 0] rfl rfl (World.news_of_block (cs := #[.int .i64 j, .int .i64 0]) (t := 79) (fr := (0, 0)) HU3.out.2.1) (fun x hx => by simp at hx; rcases hx with rfl | rfl <;> rfl) (by unfold maxLen; omega) (by omega) (by have := HU3.out.1.bel.size; have := HU3.out.1.sch.1.lt; simp at *; omega) ?_; intro v3 w3 hown3 hg3 _; have hN := HL.out _ _ (by have h9 := HU3.out.1.put hlt (by rw [HM.out.1, HM.out.2]; exact HU3.out.2.2) hown3 hg3; rw [HM.out.1, HM.out.2, show max q (j + 1) = q by omega] at h9; exact h9); have k3 := HU3.out.1.sch.1.kept hg3 (fun e => by have := (HU3.out.1.sch.2.1.lt _ e.symm).1; omega); have k30 := k3.cell 0; have k31 := k3.frozen 0; obtain ⟨o3, c3, rfl, _⟩ := own_slice hown3; have HN := Lib.hid hN; clear hN k3 hown3 hg3)
            exact ⟨⟨i + 1, u, q, P ++ [⟨j, 0⟩], _, by go_num, rfl, by first | rfl | (rw [if_neg (by omega)]), by omega, by omega, by omega, HN.out⟩, by simp [intOf]; omega⟩
        · have g1 : decide (j < q) = false := decide_eq_false h1
          have g2 : decide ((j : Int) < (q : Int)) = false := decide_eq_false (by omega)
          have hmin := HF.out (.inl (by omega))
          have hU2 := HU.out.below HB.out
          obtain ⟨oL, cL, rfl, hoL⟩ := own_slice hU2.sch.2.1
          have x0 : wr.cell? ⟨w.heap.size + 1, 0, none⟩ = some (.slice oL P.length cL) := hU2.sch.1.cell 0
          have hU3 := hU2.below ((Below.refl _ _).alloc (Nat.le_refl _) (.cells #[.int .i64 j, .int .i64 0] 79))
          have hnew := heap_alloc_new wr (.cells #[.int .i64 j, .int .i64 0] 79)
          have hPl : P.length ≤ 25 := by have := hU2.len; omega
          have HU3 := Lib.hid (And.intro hU3 (And.intro hnew hmin))
          clear hU2 hU3 hnew hmin hoL
          have hlast : ∀ Z v3, UrB w Z n k (i + 1) (kk - j * T) (max q (j + 1)) (P ++ [⟨j, 0⟩]) v3 → UrB w Z n k (i + 1) u (max q (j + 1)) (P ++ [⟨j, 0⟩]) v3 := fun Z v3 h => by rw [HP.out.1, HP.out.2] at h; exact h
          have HL := Lib.hid hlast
          clear hlast
          have hmax : max q (q + 1) = q + 1 := by omega
          obtain rfl : q = j := by omega
          rw [hmax] at HL
          clear hmax
          go_wp2_with (at_builtin; refine wpList_append_own _ rfl _ _ 22 rfl (w.heap.size + 2) 79 j0 (.agg #[.int .i64 0, .int .i64 0]) 2 16 Try.underlying22 hj hy0 hy1 hy2 rfl (by decide) _ _ _ rfl HU3.out.1.sch.2.1 ⟨wr.heap.size, 0, none⟩ 1 1 [.int .i64 q, .int .i64 0] rfl rfl (World.news_of_block (cs := #[.int .i64 q, .int .i64 0]) (t := 79) (fr := (0, 0)) HU3.out.2.1) (fun x hx => by simp at hx; rcases hx with rfl | rfl <;> rfl) (by unfold maxLen; omega) (by omega) (by have := HU3.out.1.bel.size; have := HU3.out.1.sch.1.lt; simp at *; omega) ?_; intro v3 w3 hown3 hg3 _; have hN := HL.out _ _ (by have h9 := HU3.out.1.put hlt (by rw [HM.out.1, HM.out.2]; exact HU3.out.2.2) hown3 hg3; rw [HM.out.1, HM.out.2, show max q (q + 1) = q + 1 by omega] at h9; exact h9); have k3 := HU3.out.1.sch.1.kept hg3 (fun e => by have := (HU3.out.1.sch.2.1.lt _ e.symm).1; omega); have k30 := k3.cell 0; have k31 := k3.frozen 0; obtain ⟨o3, c3, rfl, _⟩ := own_slice hown3; have HN := Lib.hid hN; clear hN k3 hown3 hg3)
          exact ⟨⟨i + 1, u, q + 1, P ++ [⟨q, 0⟩], _, by go_num, rfl, by go_num, by omega, by omega, by omega, HN.out⟩, by simp [intOf]; omega⟩
    · obtain rfl : i = n := by omega
      have g0 : decide ((i : Int) < (i : Int)) = false := decide_eq_false (by omega)
      obtain ⟨hb, hs, hP, hu, hB⟩ := hU
      rw [Nat.sub_self] at hu
      simp only [Go.Proofs.Ytdcmkiggnmajgaa.unr, List.append_nil] at hu
      rw [← hu] at hs
      have hlen := unr_len i k 0
      obtain ⟨oL, cL, rfl, hoL⟩ := own_slice hs.2.1
      rw [hlen] at hs
      have fin : ∀ (Y : World) (vl vs : Value) (m : Nat) (S : List Int), Blk Y w.heap.size #[.slice none 0 0, .slice none 0 0] 25 → SchB Y (w.heap.size + 1) (w.heap.size + 2) vl vs (unr i k 0) S → Below w.heap.size w Y → unS i = S →
          ∃ F, (Y.setCell ⟨w.heap.size, 0, none⟩ vl).setCell ⟨w.heap.size, 1, none⟩ vs = F ∧ F.cell? ⟨w.heap.size, 0, none⟩ = some vl ∧ F.cell? ⟨w.heap.size, 1, none⟩ = some vs ∧ F.ownsRow w.heap.size 79 2 vl i ((unr i k 0).flatMap encR) ∧ F.ownsRow w.heap.size 3 1 vs (unS i).length ((unS i).flatMap encI) ∧ Below w.heap.size w F := by
        intro Y vl vs m S hb hs hB e
        have b2 := (hb.set 0 vl).set 1 vs
        have q0 := b2.cell 0
        have q1 := b2.cell 1
        simp only [List.setIfInBounds_toArray, List.set_cons_zero, List.set_cons_succ, List.getElem?_toArray, List.getElem?_cons_succ, List.getElem?_cons_zero] at q0 q1
        have r0 := own_base (own_low (own_low hs.2.1 (by omega : w.heap.size < w.heap.size + 2) 0 vl) (by omega : w.heap.size < w.heap.size + 2) 1 vs) (by omega : w.heap.size ≤ w.heap.size + 2)
        have r1 := own_base (own_low (own_low hs.2.2 (by omega : w.heap.size < w.heap.size + 2) 0 vl) (by omega : w.heap.size < w.heap.size + 2) 1 vs) (by omega : w.heap.size ≤ w.heap.size + 2)
        rw [hlen] at r0
        rw [← e] at r1
        exact ⟨_, rfl, q0, q1, r0, r1, (hB.setCell (p := ⟨w.heap.size, 0, none⟩) (Nat.le_refl _) vl).setCell (p := ⟨w.heap.size, 1, none⟩) (Nat.le_refl _) vs⟩
      by_cases h0 : i = 0
      · subst h0
        have x0 : wr.cell? ⟨w.heap.size + 1, 0, none⟩ = some (.slice oL 0 cL) := hs.1.cell 0
        have x1 : wr.cell? ⟨w.heap.size + 1, 1, none⟩ = some (.slice none 0 0) := hs.1.cell 1
        have f0 := hb.frozen 0
        have f1 := hb.frozen 1
        have z0 : wr.cell? ⟨w.heap.size, 0, none⟩ = some (.slice none 0 0) := hb.cell 0
        have z1 : wr.cell? ⟨w.heap.size, 1, none⟩ = some (.slice none 0 0) := hb.cell 1
        obtain ⟨F, hF, q0, q1, r0, r1, rB⟩ := fin wr (.slice oL 0 cL) (.slice none 0 0) 0 [] hb hs hB rfl
        have HF := Lib.hid (And.intro r0 (And.intro r1 rB))
        clear r0 r1 rB fin hs hb hB hlen hoL hP hu
        go_wp2
        clear hF
        exact bodyPost_ret (v := .agg #[.slice oL 0 cL, .slice none 0 0]) (by simp [results, Try.f48, go_sem, q0, q1]) rfl ⟨_, _, rfl, HF.out.1, HF.out.2.1, HF.out.2.2⟩
      · have h1 : decide ((0 : Int) < (i : Int)) = true := decide_eq_true (by omega)
        have h2 : decide (0 < i) = true := decide_eq_true (by omega)
        obtain ⟨X, hX⟩ : ∃ X, wr.alloc (.cells #[.int .i64 (i : Int)] 3) = X := ⟨_, rfl⟩
        have hlt2 := hs.1.lt
        have hrow : X.ownsRow (w.heap.size + 2) 3 1 (.slice (some ⟨wr.heap.size, 0, none⟩) 1 1) 1 ([(i : Int)].flatMap encI) := hX ▸ World.ownsRow_lit (base := w.heap.size + 2) (e := 3) (size := 1) wr #[.int .i64 i] 1 (by omega) (by decide) rfl
        have hsX : SchB X (w.heap.size + 1) (w.heap.size + 2) (.slice oL i cL) (.slice none 0 0) (unr i k 0) [] := hX ▸ hs.alloc _
        have hbX : Blk X w.heap.size #[.slice none 0 0, .slice none 0 0] 25 := hX ▸ hb.alloc _
        have hBX : Below w.heap.size w X := hX ▸ hB.alloc hB.size _
        obtain ⟨Y, hY⟩ : ∃ Y, X.setCell ⟨w.heap.size + 1, 1, none⟩ (.slice (some ⟨wr.heap.size, 0, none⟩) 1 1) = Y := ⟨_, rfl⟩
        have hsY : SchB Y (w.heap.size + 1) (w.heap.size + 2) (.slice oL i cL) (.slice (some ⟨wr.heap.size, 0, none⟩) 1 1) (unr i k 0) [(i : Int)] := hY ▸ ⟨hsX.1.set 1 _, own_low hsX.2.1 (by omega) 1 _, own_low hrow (by omega) 1 _⟩
        have hbY : Blk Y w.heap.size #[.slice none 0 0, .slice none 0 0] 25 := hY ▸ hbX.other (by omega) _ _
        have hBY : Below w.heap.size w Y := hY ▸ hBX.setCell (p := ⟨w.heap.size + 1, 1, none⟩) (Nat.le_succ _) _
        have y1 : X.cell? ⟨w.heap.size + 1, 1, none⟩ = some (.slice none 0 0) := hsX.1.cell 1
        have f2 := hsX.1.frozen 1
        have x0 : Y.cell? ⟨w.heap.size + 1, 0, none⟩ = some (.slice oL i cL) := hsY.1.cell 0
        have x1 : Y.cell? ⟨w.heap.size + 1, 1, none⟩ = some (.slice (some ⟨wr.heap.size, 0, none⟩) 1 1) := hsY.1.cell 1
        have f0 := hbY.frozen 0
        have f1 := hbY.frozen 1
        have z0 : Y.cell? ⟨w.heap.size, 0, none⟩ = some (.slice none 0 0) := hbY.cell 0
        have z1 : Y.cell? ⟨w.heap.size, 1, none⟩ = some (.slice none 0 0) := hbY.cell 1
        obtain ⟨F, hF, q0, q1, r0, r1, rB⟩ := fin Y _ _ 0 [(i : Int)] hbY hsY hBY (if_neg h0)
        have HF := Lib.hid (And.intro r0 (And.intro r1 rB))
        clear r0 r1 rB fin hs hb hB hlen hoL hP hu hsX hbX hBX hsY hbY hBY hrow hlt2 h0
        go_wp2
        try rw [hF]
        clear hF
        exact bodyPost_ret (v := .agg #[.slice oL i cL, .slice (some ⟨wr.heap.size, 0, none⟩) 1 1]) (by simp [results, Try.f48, go_sem, q0, q1]) rfl ⟨_, _, rfl, HF.out.1, HF.out.2.1, HF.out.2.2⟩
end Go.Proofs.Ytdcmkiggnmajgaa
