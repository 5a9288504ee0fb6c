/- Stage 16: the law SchemeCounts. -/
import Derived.Test.YtdcmkiggnmajgaaVp
import Derived.RangeFuncLeaves
namespace Go.Proofs.Ytdcmkiggnmajgaa
set_option linter.unusedVariables false
set_option linter.unusedSimpArgs false
open Go Go.RowKit Go.Shelf
set_option maxRecDepth 100000

def mkD (D : Nat) : Deferred := { target := .collected D, args := #[] }
theorem belowV_put {V w : World} {D : Nat} (o : Obj) (hD : w.heap.size ≤ D) : Below w.heap.size V (V.putObj D o) :=
  ⟨rfl, rfl, rfl, by simp, fun k hk => World.putObj_heap_other (by omega)⟩
theorem leavesM_all {F : Fence} {n : Nat} {P : Program} {fn : Func} {tmps : Array Value} {R : Ending → World → Prop} {p : Nat} {bv : Value} {w : World} (hp : p < w.heap.size) (hres : ∀ W : World, W.cell? ⟨p, 0, none⟩ = some bv → (results fn tmps).run P W = .ok bv W) :
    ∀ (Ds : List Nat) (W : World), Ds.Pairwise (· > ·) → (∀ D ∈ Ds, w.heap.size ≤ D ∧ W.heap[D]? = some (.deferred (some []))) → W.cell? ⟨p, 0, none⟩ = some bv → (∀ W' : World, Below w.heap.size W W' → R (.returned bv) W') → LeavesInM F n P fn tmps R (Ds.map mkD) .returning W := by
  intro Ds
  induction Ds with
  | nil =>
    intro W _ _ hc hR
    exact ⟨bv, hres W hc, hR W (Below.refl _ _)⟩
  | cons D Ds ih =>
    intro W hpw hD hc hR
    obtain ⟨h1, h2⟩ := hD D (by simp)
    have hpw := List.pairwise_cons.1 hpw
    refine ⟨by simp, .inl ⟨_, _, rfl, run_takeDeferred h2, ?_⟩⟩
    refine ih _ hpw.2 (fun E hE => ?_) ?_ (fun W' hb => hR W' ((belowV_put _ h1).trans hb))
    · obtain ⟨h3, h4⟩ := hD E (List.mem_cons_of_mem _ hE)
      have := hpw.1 E hE
      exact ⟨h3, (World.putObj_heap_other (by omega)).trans h4⟩
    · exact (World.cell?_of_block (w := W) (World.putObj_heap_other (by dsimp only; omega))).trans hc
theorem umod (x c : Int) (h0 : 0 < c) (h1 : c ≤ 9223372036854775807) : ∃ z, wrap64 ((IntKind.u64.wrap x).tmod c) = z ∧ 0 ≤ z ∧ z < c := by
  have hw : 0 ≤ IntKind.u64.wrap x := by
    unfold IntKind.wrap
    simp [IntKind.bits, IntKind.signed]
    exact Int.emod_nonneg _ (by decide)
  have h2 := Int.tmod_nonneg c hw
  have h3 : (IntKind.u64.wrap x).tmod c < c := by rw [Int.tmod_eq_emod_of_nonneg hw]; exact Int.emod_lt_of_pos _ h0
  refine ⟨(IntKind.u64.wrap x).tmod c, ?_, h2, h3⟩
  rw [← wrapEq64]
  exact IntWalk.i64_in _ (by omega)
theorem idx2 (n z : Int) (j : Nat) (hj : j < 2) (hn1 : -9223372036854775808 ≤ n) (hn2 : n ≤ 9223372036854775807) (hz0 : 0 ≤ z) (hz1 : z < 27) : ∃ x, (∀ W, (Instr.index 66 (.agg #[.int .i64 n, .int .i64 z]) (.int .i64 (j : Nat))).run Try.prog W = .ok (.int .i64 x) W) ∧ -9223372036854775808 ≤ x ∧ x ≤ 9223372036854775807 := by
  rcases (by omega : j = 0 ∨ j = 1) with rfl | rfl
  · exact ⟨n, fun W => by simp [Instr.index, asIntOf, run_underlying Try.underlying66, part, Try.isAgg3, Try.sizeOf3], hn1, hn2⟩
  · exact ⟨z, fun W => by simp [Instr.index, asIntOf, run_underlying Try.underlying66, part, Try.isAgg3, Try.sizeOf3], by omega, by omega⟩
theorem idx4 (k y2 : Int) (T i : Nat) (hi : i < 4) (hk1 : -9223372036854775808 ≤ k) (hk2 : k ≤ 9223372036854775807) (hy0 : 0 ≤ y2) (hy1 : y2 < T) (hT : 1 ≤ T) (hT2 : T ≤ 4638590332229999353) : ∃ y, (∀ W, (Instr.index 73 (.agg #[.int .i64 k, .int .i64 y2, .int .i64 ((T : Int) - 1), .int .i64 (T : Nat)]) (.int .i64 (i : Nat))).run Try.prog W = .ok (.int .i64 y) W) ∧ -9223372036854775808 ≤ y ∧ y ≤ 9223372036854775807 := by
  rcases (by omega : i = 0 ∨ i = 1 ∨ i = 2 ∨ i = 3) with rfl | rfl | rfl | rfl
  · exact ⟨k, fun W => by simp [Instr.index, asIntOf, run_underlying Try.underlying73, part, Try.isAgg3, Try.sizeOf3], hk1, hk2⟩
  · exact ⟨y2, fun W => by simp [Instr.index, asIntOf, run_underlying Try.underlying73, part, Try.isAgg3, Try.sizeOf3], by omega, by omega⟩
  · exact ⟨(T : Int) - 1, fun W => by simp [Instr.index, asIntOf, run_underlying Try.underlying73, part, Try.isAgg3, Try.sizeOf3], by omega, by omega⟩
  · exact ⟨(T : Int), fun W => by simp [Instr.index, asIntOf, run_underlying Try.underlying73, part, Try.isAgg3, Try.sizeOf3], by omega, by omega⟩
theorem unS_len (n : Nat) : (unS n).length ≤ 1 := by unfold unS; split <;> simp
theorem equal_un (n k : Nat) (hn : n ≤ 25) (ol os ol' os' : Option Addr) (cl cs cl' cs' : Nat) (w : World) (hr : RowAt w encR 2 ol (unr n k 0)) (ht : RowAt w encI 1 os (unS n)) (hr' : RowAt w encR 2 ol' (unr n k 0)) (ht' : RowAt w encI 1 os' (unS n)) :
    Calls Try.prog 29 #[.agg #[.slice ol n cl, .slice os (unS n).length cs], .agg #[.slice ol' n cl', .slice os' (unS n).length cs']] w fun e w' => e = .returned (.bool true) ∧ Below w.heap.size w w' := by
  have h1 := unr_len n k 0
  have h2 := unS_len n
  have h := equal_any ⟨unr n k 0, unS n⟩ ⟨unr n k 0, unS n⟩ ol os ol' os' cl cs cl' cs' (by show (unr n k 0).length ≤ _; omega) (by show (unS n).length ≤ _; omega) w hr ht hr' ht'
  simp only [h1] at h
  rw [show eqB ⟨unr n k 0, unS n⟩ ⟨unr n k 0, unS n⟩ = true from decide_eq_true rfl] at h
  exact h
theorem wp_loop_m {P : Program} {Q : Exit → Act → World → Prop} {a : Act} {w : World} {c : Code} (Inv : Nat → Act → World → Prop) (m : Nat) (h0 : Inv m a w)
    (hs : ∀ m a w, Inv m a w → c.wp P (Exit.then (fun a' w' => ∃ m', m' < m ∧ Inv m' a' w') Q) a w) : (Code.loop c).wp P Q a w :=
  (wpIn_wide (n := 11)).1 (wpIn_loop_m Inv m h0 (fun m a w h => wpIn_wide.2 (hs m a w h)))

/-- What stands between two rounds. -/
def QcM (s : Sc) (ol os : Option Addr) (cl cs : Nat) (n k z : Int) (w V : World) (m : Nat) (a : Act) (W : World) : Prop :=
  ∃ (Ds : List Nat) (j : Nat) (f : Nat → Value), j + m = 2 ∧ Ds.Pairwise (· > ·) ∧ (∀ D ∈ Ds, V.heap.size ≤ D ∧ W.heap[D]? = some (.deferred (some []))) ∧ Below V.heap.size V W ∧
    a = { tmps := #[(.agg #[.slice ol s.L.length cl, .slice os s.S.length cs]), (.int .i64 n), (.int .i64 k), (.pointer (some ⟨w.heap.size, 0, none⟩)), f 4, f 5, (.pointer (some ⟨w.heap.size + 1, 0, none⟩)), f 7, f 8, f 9, f 10, f 11, f 12, f 13, f 14, f 15, f 16, f 17, f 18, f 19, f 20, f 21, f 22, f 23, f 24, f 25, (.agg #[.int .i64 n, .int .i64 z]), (.int .i64 (j : Nat)), f 28, f 29, f 30, f 31, f 32, f 33, f 34, f 35, f 36, f 37, f 38, f 39, f 40, f 41, f 42, f 43, f 44, f 45, f 46, f 47, f 48, f 49, f 50, f 51, f 52, f 53, f 54, f 55, f 56, f 57, f 58, f 59, f 60, f 61, f 62, f 63, f 64, f 65, f 66, f 67, f 68, f 69, f 70, f 71, f 72, f 73, f 74, f 75, f 76, f 77, f 78, f 79, f 80, f 81, f 82, f 83, f 84, f 85, f 86, f 87, f 88, f 89, f 90, f 91, f 92, f 93, f 94, f 95, f 96, f 97, f 98, f 99, f 100, f 101, f 102, f 103, f 104, f 105, f 106, f 107, f 108, f 109, f 110, f 111, f 112, f 113, f 114, f 115, f 116, f 117, f 118, f 119, f 120, f 121, f 122, f 123, f 124, f 125, f 126, f 127, f 128, f 129, f 130, f 131, f 132, f 133, f 134, f 135, f 136, f 137, f 138, f 139, f 140, f 141, f 142, f 143, f 144, f 145, f 146, f 147, f 148, f 149, f 150, f 151, f 152, f 153, f 154, f 155, f 156], defers := Ds.map mkD }
theorem QcM.mk {s : Sc} {ol os : Option Addr} {cl cs : Nat} {n k z : Int} {w V : World} {m : Nat} {a : Act} {W : World} (Ds : List Nat) (j : Nat) (h1 : j + m = 2) (h2 : Ds.Pairwise (· > ·)) (h3 : ∀ D ∈ Ds, V.heap.size ≤ D ∧ W.heap[D]? = some (.deferred (some []))) (h4 : Below V.heap.size V W)
    (h5 : a = { tmps := #[(.agg #[.slice ol s.L.length cl, .slice os s.S.length cs]), (.int .i64 n), (.int .i64 k), (.pointer (some ⟨w.heap.size, 0, none⟩)), (a.tmps.getD 4 undef), (a.tmps.getD 5 undef), (.pointer (some ⟨w.heap.size + 1, 0, none⟩)), (a.tmps.getD 7 undef), (a.tmps.getD 8 undef), (a.tmps.getD 9 undef), (a.tmps.getD 10 undef), (a.tmps.getD 11 undef), (a.tmps.getD 12 undef), (a.tmps.getD 13 undef), (a.tmps.getD 14 undef), (a.tmps.getD 15 undef), (a.tmps.getD 16 undef), (a.tmps.getD 17 undef), (a.tmps.getD 18 undef), (a.tmps.getD 19 undef), (a.tmps.getD 20 undef), (a.tmps.getD 21 undef), (a.tmps.getD 22 undef), (a.tmps.getD 23 undef), (a.tmps.getD 24 undef), (a.tmps.getD 25 undef), (.agg #[.int .i64 n, .int .i64 z]), (.int .i64 (j : Nat)), (a.tmps.getD 28 undef), (a.tmps.getD 29 undef), (a.tmps.getD 30 undef), (a.tmps.getD 31 undef), (a.tmps.getD 32 undef), (a.tmps.getD 33 undef), (a.tmps.getD 34 undef), (a.tmps.getD 35 undef), (a.tmps.getD 36 undef), (a.tmps.getD 37 undef), (a.tmps.getD 38 undef), (a.tmps.getD 39 undef), (a.tmps.getD 40 undef), (a.tmps.getD 41 undef), (a.tmps.getD 42 undef), (a.tmps.getD 43 undef), (a.tmps.getD 44 undef), (a.tmps.getD 45 undef), (a.tmps.getD 46 undef), (a.tmps.getD 47 undef), (a.tmps.getD 48 undef), (a.tmps.getD 49 undef), (a.tmps.getD 50 undef), (a.tmps.getD 51 undef), (a.tmps.getD 52 undef), (a.tmps.getD 53 undef), (a.tmps.getD 54 undef), (a.tmps.getD 55 undef), (a.tmps.getD 56 undef), (a.tmps.getD 57 undef), (a.tmps.getD 58 undef), (a.tmps.getD 59 undef), (a.tmps.getD 60 undef), (a.tmps.getD 61 undef), (a.tmps.getD 62 undef), (a.tmps.getD 63 undef), (a.tmps.getD 64 undef), (a.tmps.getD 65 undef), (a.tmps.getD 66 undef), (a.tmps.getD 67 undef), (a.tmps.getD 68 undef), (a.tmps.getD 69 undef), (a.tmps.getD 70 undef), (a.tmps.getD 71 undef), (a.tmps.getD 72 undef), (a.tmps.getD 73 undef), (a.tmps.getD 74 undef), (a.tmps.getD 75 undef), (a.tmps.getD 76 undef), (a.tmps.getD 77 undef), (a.tmps.getD 78 undef), (a.tmps.getD 79 undef), (a.tmps.getD 80 undef), (a.tmps.getD 81 undef), (a.tmps.getD 82 undef), (a.tmps.getD 83 undef), (a.tmps.getD 84 undef), (a.tmps.getD 85 undef), (a.tmps.getD 86 undef), (a.tmps.getD 87 undef), (a.tmps.getD 88 undef), (a.tmps.getD 89 undef), (a.tmps.getD 90 undef), (a.tmps.getD 91 undef), (a.tmps.getD 92 undef), (a.tmps.getD 93 undef), (a.tmps.getD 94 undef), (a.tmps.getD 95 undef), (a.tmps.getD 96 undef), (a.tmps.getD 97 undef), (a.tmps.getD 98 undef), (a.tmps.getD 99 undef), (a.tmps.getD 100 undef), (a.tmps.getD 101 undef), (a.tmps.getD 102 undef), (a.tmps.getD 103 undef), (a.tmps.getD 104 undef), (a.tmps.getD 105 undef), (a.tmps.getD 106 undef), (a.tmps.getD 107 undef), (a.tmps.getD 108 undef), (a.tmps.getD 109 undef), (a.tmps.getD 110 undef), (a.tmps.getD 111 undef), (a.tmps.getD 112 undef), (a.tmps.getD 113 undef), (a.tmps.getD 114 undef), (a.tmps.getD 115 undef), (a.tmps.getD 116 undef), (a.tmps.getD 117 undef), (a.tmps.getD 118 undef), (a.tmps.getD 119 undef), (a.tmps.getD 120 undef), (a.tmps.getD 121 undef), (a.tmps.getD 122 undef), (a.tmps.getD 123 undef), (a.tmps.getD 124 undef), (a.tmps.getD 125 undef), (a.tmps.getD 126 undef), (a.tmps.getD 127 undef), (a.tmps.getD 128 undef), (a.tmps.getD 129 undef), (a.tmps.getD 130 undef), (a.tmps.getD 131 undef), (a.tmps.getD 132 undef), (a.tmps.getD 133 undef), (a.tmps.getD 134 undef), (a.tmps.getD 135 undef), (a.tmps.getD 136 undef), (a.tmps.getD 137 undef), (a.tmps.getD 138 undef), (a.tmps.getD 139 undef), (a.tmps.getD 140 undef), (a.tmps.getD 141 undef), (a.tmps.getD 142 undef), (a.tmps.getD 143 undef), (a.tmps.getD 144 undef), (a.tmps.getD 145 undef), (a.tmps.getD 146 undef), (a.tmps.getD 147 undef), (a.tmps.getD 148 undef), (a.tmps.getD 149 undef), (a.tmps.getD 150 undef), (a.tmps.getD 151 undef), (a.tmps.getD 152 undef), (a.tmps.getD 153 undef), (a.tmps.getD 154 undef), (a.tmps.getD 155 undef), (a.tmps.getD 156 undef)], defers := Ds.map mkD }) : QcM s ol os cl cs n k z w V m a W :=
  ⟨Ds, j, fun i => a.tmps.getD i undef, h1, h2, h3, h4, h5⟩

theorem counts_end {w V W Z : World} {Ds : List Nat} {tmps : Array Value} (h1 : Ds.Pairwise (· > ·)) (h2 : ∀ D ∈ Ds, V.heap.size ≤ D ∧ W.heap[D]? = some (.deferred (some []))) (hB : Below V.heap.size V W) (hV : Below w.heap.size w V) (hZ : Below W.heap.size W Z) (hs : w.heap.size + 1 + 1 ≤ V.heap.size)
    (hc : (Z.setCell ⟨w.heap.size + 1, 0, none⟩ (.bool true)).cell? ⟨w.heap.size + 1, 0, none⟩ = some (.bool true)) (hp : tmps[6]?.getD undef = .pointer (some ⟨w.heap.size + 1, 0, none⟩)) :
    LeavesInM Fence.wide 11 Try.prog Try.f9 tmps (fun e w' => e = .returned (.bool true) ∧ Below w.heap.size w w') (Ds.map mkD) .returning (Z.setCell ⟨w.heap.size + 1, 0, none⟩ (.bool true)) := by
  refine leavesM_all (w := V) (p := w.heap.size + 1) (bv := .bool true) (by omega) (fun X hX => ?_) Ds _ h1 (fun D hD => ?_) hc (fun X hX => ⟨rfl, ?_⟩)
  · simp [results, Try.f9, go_sem, hp, hX]
  · obtain ⟨h3, h4⟩ := h2 D hD
    exact ⟨h3, (Below.heap_setCell _ _ _ _ (by dsimp only; omega)).trans ((hZ.block D (Array.getElem?_eq_some_iff.1 h4).1).trans h4)⟩
  · have h5 := hV.trans (hB.mono hV.size)
    have h6 := (h5.trans (hZ.mono h5.size)).setCell (p := ⟨w.heap.size + 1, 0, none⟩) (Nat.le_succ _) (.bool true)
    exact h6.trans (hX.mono hV.size)
set_option maxHeartbeats 16000000 in
theorem counts_in (s : Sc) (ol os : Option Addr) (cl cs : Nat) (hn : s.L.length ≤ 9223372036854775807) (hm : s.S.length ≤ 9223372036854775807) (n k : Int) (hn1 : -9223372036854775808 ≤ n) (hn2 : n ≤ 9223372036854775807) (hk1 : -9223372036854775808 ≤ k) (hk2 : k ≤ 9223372036854775807) (w : World) (hr : RowAt w encR 2 ol s.L) (ht : RowAt w encI 1 os s.S) :
    CallsIn Fence.wide 11 Try.prog 9 #[.agg #[.slice ol s.L.length cl, .slice os s.S.length cs], .int .i64 n, .int .i64 k] w fun e w' => e = .returned (.bool true) ∧ Below w.heap.size w w' := by
  refine callsIn_of_wp_marks Try.func9 rfl trivial ?_ rfl
  simp only [Try.ntmps9, List.size_toArray, List.length_cons, List.length_nil, Nat.reduceAdd, Nat.reduceSub, Array.replicate_succ, Array.replicate_zero, List.push_toArray, List.append_toArray, List.nil_append, List.cons_append]
  refine wpIn_wide.2 ?_
  have b3 := (Blk.new w #[.slice ol s.L.length cl, .slice os s.S.length cs] 25).alloc (.cells #[.bool false] 4)
  have b6 := Blk.new (w.alloc (.cells #[.slice ol s.L.length cl, .slice os s.S.length cs] 25)) #[.bool false] 4
  have hB0 := ((Below.refl _ w).alloc (Nat.le_refl _) (.cells #[.slice ol s.L.length cl, .slice os s.S.length cs] 25)).alloc (by simp) (.cells #[.bool false] 4)
  simp only [World.size_alloc] at b6
  go_wp2_with (fail)
  refine (wakes_any _).mono ?_
  rintro e V ⟨rfl, hB⟩
  have hBV := hB0.trans (hB.mono hB0.size)
  have hVs := hB.size
  simp only [World.size_alloc] at hVs
  have HV := Lib.hid (And.intro hBV (And.intro (b3.below' hB) (And.intro (b6.below' hB) (And.intro (hr.below encR_len (by decide) hBV) (ht.below encI_len (by decide) hBV)))))
  clear hB hBV b3 b6 hB0 hr ht
  go_wp2_with (fail)
  obtain ⟨z, hz, hz0, hz1⟩ := umod n 27 (by decide) (by decide)
  rw [hz]
  clear hz
  refine wp_loop_m (QcM s ol os cl cs n k z w V) 2 (QcM.mk [] 0 rfl List.Pairwise.nil (fun _ h => by cases h) (Below.refl _ _) rfl) ?_
  rintro m a W ⟨Ds, j, f, hjm, hpw, hD, hB, rfl⟩
  have HD := Lib.hid (And.intro hpw hD)
  have HB := Lib.hid hB
  clear hpw hD hB
  by_cases hj2 : j < 2
  · have d0 : decide ((j : Int) < 2) = true := decide_eq_true (by omega)
    obtain ⟨x, hx, hx1, hx2⟩ := idx2 n z j hj2 hn1 hn2 hz0 hz1
    by_cases hx3 : x < 0 ∨ 25 < x
    · have cC := fun W => count_no x hx3 W
      have cU := fun W => unrank_no x 0 (tT x.toNat 0) (Lib.hid fun _ _ => rfl) (hx3.elim .inl (fun h => .inr (.inl h))) W
      have cA := fun W => all_any x W
      have HX := Lib.hid hx3
      clear hx3
      go_wp2_with (fail)
      refine (cC _).mono ?_
      rintro e W1 ⟨rfl, rfl⟩
      rcases (by have := HX.out; omega : x < 0 ∨ (¬ x < 0 ∧ 25 < x)) with h1 | ⟨h0, h1⟩
      · have d1 : decide (x < 0) = true := decide_eq_true h1
        go_wp2_with (fail)
        refine (cU _).mono ?_
        rintro e W2 ⟨rfl, hB2⟩
        obtain ⟨W3, hW3⟩ : ∃ W3, W2.alloc (.cells #[.slice none 0 0, .slice none 0 0] 25) = W3 := ⟨_, rfl⟩
        have b3 : Blk W3 W2.heap.size #[.slice none 0 0, .slice none 0 0] 25 := hW3 ▸ Blk.new W2 _ _
        have hB3 : Below V.heap.size V W3 := hW3 ▸ (HB.out.trans (hB2.mono HB.out.size)).alloc (Nat.le_trans HB.out.size hB2.size) _
        obtain ⟨q, hq⟩ : ∃ q, W2.heap.size = q := ⟨_, rfl⟩
        rw [hq] at b3
        have hO3 : Below W1.heap.size W1 W3 := hW3 ▸ hB2.alloc hB2.size _
        have H3 := Lib.hid (And.intro b3 (And.intro hB3 hO3))
        have HW3 := Lib.hid (And.intro hW3 hq)
        clear b3 hB3 hB2 hO3 hW3 hq
        go_wp2_with (fail)
        rw [HW3.out.1, HW3.out.2]
        refine (cA _).mono ?_
        rintro e W4 ⟨rfl, rfl⟩
        go_wp2_with (fail)
        refine range_no x HX.out W3.heap.size (Blk.new _ _ _) rfl ?_
        intro D W5 hD5 hB5 hk5
        have hB4 := (Below.refl _ W3).alloc (Nat.le_refl _) (.cells #[.int .i64 x] 3)
        have hB5' := hB4.trans (hB5.mono (by simp))
        have b5 := H3.out.1.below' hB5'
        have z0 : W5.cell? ⟨q, 0, none⟩ = some (.slice none 0 0) := b5.cell 0
        have z1 : W5.cell? ⟨q, 1, none⟩ = some (.slice none 0 0) := b5.cell 1
        rw [World.size_alloc] at hD5
        have H5 := Lib.hid (And.intro (H3.out.2.2.trans (hB5'.mono H3.out.2.2.size)) (And.intro hD5 hk5))
        clear hB4 hB5 hB5' b5 hD5 hk5
        go_wp2_with (fail)
        refine (none_nil _).mono ?_
        rintro e W6 ⟨rfl, hB6⟩
        have hO6 := H5.out.1.trans (hB6.mono H5.out.1.size)
        have hD6 := (hB6.block D (Array.getElem?_eq_some_iff.1 H5.out.2.2).1).trans H5.out.2.2
        have H6 : Hid (Below V.heap.size V W6 ∧ (D :: Ds).Pairwise (· > ·) ∧ ∀ E ∈ D :: Ds, V.heap.size ≤ E ∧ W6.heap[E]? = some (.deferred (some []))) := Lib.hid (by
          refine ⟨HB.out.trans (hO6.mono HB.out.size), List.pairwise_cons.2 ⟨fun E hE => ?_, HD.out.1⟩, fun E hE => ?_⟩
          · have h1 := (Array.getElem?_eq_some_iff.1 (HD.out.2 E hE).2).1
            have h2 := H5.out.2.1
            have h3 := H3.out.2.2.size
            show E < D
            omega
          · rcases List.mem_cons.1 hE with rfl | hE
            · have h1 := HB.out.size
              have h2 := H5.out.2.1
              have h3 := H3.out.2.2.size
              exact ⟨by omega, hD6⟩
            · obtain ⟨h1, h2⟩ := HD.out.2 E hE
              exact ⟨h1, (hO6.block E (Array.getElem?_eq_some_iff.1 h2).1).trans h2⟩)
        clear z0 z1 hO6 hD6 hB6
        go_wp2
        exact ⟨m - 1, by omega, QcM.mk (D :: Ds) (j + 1) (by omega) H6.out.2.1 H6.out.2.2 H6.out.1 rfl⟩
      · have d1 : decide (x < 0) = false := decide_eq_false h0
        have d2 : decide (25 < x) = true := decide_eq_true h1
        go_wp2_with (fail)
        refine (cU _).mono ?_
        rintro e W2 ⟨rfl, hB2⟩
        obtain ⟨W3, hW3⟩ : ∃ W3, W2.alloc (.cells #[.slice none 0 0, .slice none 0 0] 25) = W3 := ⟨_, rfl⟩
        have b3 : Blk W3 W2.heap.size #[.slice none 0 0, .slice none 0 0] 25 := hW3 ▸ Blk.new W2 _ _
        have hB3 : Below V.heap.size V W3 := hW3 ▸ (HB.out.trans (hB2.mono HB.out.size)).alloc (Nat.le_trans HB.out.size hB2.size) _
        obtain ⟨q, hq⟩ : ∃ q, W2.heap.size = q := ⟨_, rfl⟩
        rw [hq] at b3
        have hO3 : Below W1.heap.size W1 W3 := hW3 ▸ hB2.alloc hB2.size _
        have H3 := Lib.hid (And.intro b3 (And.intro hB3 hO3))
        have HW3 := Lib.hid (And.intro hW3 hq)
        clear b3 hB3 hB2 hO3 hW3 hq
        go_wp2_with (fail)
        rw [HW3.out.1, HW3.out.2]
        refine (cA _).mono ?_
        rintro e W4 ⟨rfl, rfl⟩
        go_wp2_with (fail)
        refine range_no x HX.out W3.heap.size (Blk.new _ _ _) rfl ?_
        intro D W5 hD5 hB5 hk5
        have hB4 := (Below.refl _ W3).alloc (Nat.le_refl _) (.cells #[.int .i64 x] 3)
        have hB5' := hB4.trans (hB5.mono (by simp))
        have b5 := H3.out.1.below' hB5'
        have z0 : W5.cell? ⟨q, 0, none⟩ = some (.slice none 0 0) := b5.cell 0
        have z1 : W5.cell? ⟨q, 1, none⟩ = some (.slice none 0 0) := b5.cell 1
        rw [World.size_alloc] at hD5
        have H5 := Lib.hid (And.intro (H3.out.2.2.trans (hB5'.mono H3.out.2.2.size)) (And.intro hD5 hk5))
        clear hB4 hB5 hB5' b5 hD5 hk5
        go_wp2_with (fail)
        refine (none_nil _).mono ?_
        rintro e W6 ⟨rfl, hB6⟩
        have hO6 := H5.out.1.trans (hB6.mono H5.out.1.size)
        have hD6 := (hB6.block D (Array.getElem?_eq_some_iff.1 H5.out.2.2).1).trans H5.out.2.2
        have H6 : Hid (Below V.heap.size V W6 ∧ (D :: Ds).Pairwise (· > ·) ∧ ∀ E ∈ D :: Ds, V.heap.size ≤ E ∧ W6.heap[E]? = some (.deferred (some []))) := Lib.hid (by
          refine ⟨HB.out.trans (hO6.mono HB.out.size), List.pairwise_cons.2 ⟨fun E hE => ?_, HD.out.1⟩, fun E hE => ?_⟩
          · have h1 := (Array.getElem?_eq_some_iff.1 (HD.out.2 E hE).2).1
            have h2 := H5.out.2.1
            have h3 := H3.out.2.2.size
            show E < D
            omega
          · rcases List.mem_cons.1 hE with rfl | hE
            · have h1 := HB.out.size
              have h2 := H5.out.2.1
              have h3 := H3.out.2.2.size
              exact ⟨by omega, hD6⟩
            · obtain ⟨h1, h2⟩ := HD.out.2 E hE
              exact ⟨h1, (hO6.block E (Array.getElem?_eq_some_iff.1 h2).1).trans h2⟩)
        clear z0 z1 hO6 hD6 hB6
        go_wp2
        exact ⟨m - 1, by omega, QcM.mk (D :: Ds) (j + 1) (by omega) H6.out.2.1 H6.out.2.2 H6.out.1 rfl⟩
    · obtain ⟨xn, rfl⟩ : ∃ xn : Nat, x = (xn : Int) := ⟨x.toNat, by omega⟩
      have hx4 : xn ≤ 25 := by omega
      obtain ⟨T, hT⟩ : ∃ T, tT xn 0 = T := ⟨_, rfl⟩
      have HT := Lib.hid hT
      have hT1 : 1 ≤ T := by rw [← hT]; exact tT_pos _ _ (by omega)
      have hT2 : T ≤ 4638590332229999353 := by rw [← hT]; exact tT_le _ _ (by omega)
      clear hT hx3 hx1 hx2
      have d1 : decide ((xn : Int) < 0) = false := decide_eq_false (by omega)
      have d2 : decide ((25 : Int) < (xn : Int)) = false := decide_eq_false (by omega)
      have d3 : decide (25 < xn) = false := decide_eq_false (by omega)
      have uT : IntKind.u64.wrap (T : Int) = (T : Int) := by unfold IntKind.wrap; simp [IntKind.bits, IntKind.signed]; omega
      have uT0 : ((T : Int) == 0) = false := by rw [beq_eq_false_iff_ne]; omega
      have uT1 : (T == 0) = false := by rw [beq_eq_false_iff_ne]; omega
      obtain ⟨y2, hy, hy0, hy1⟩ := umod k T (by omega) (by omega)
      go_wp2_with (fail)
      refine (count_any xn T hx4 HT.out _).mono ?_
      rintro e W2 ⟨rfl, hB2⟩
      have H2 := Lib.hid hB2
      clear hB2
      go_wp2_with (fail)
      refine (refCount_any xn T hx4 HT.out _).mono ?_
      rintro e W3 ⟨rfl, hB3⟩
      have H3 := Lib.hid (H2.out.trans (hB3.mono H2.out.size))
      clear hB3
      go_wp2_with (fail)
      try rw [hy]
      clear hy uT uT0 uT1
      obtain ⟨W1, hW1⟩ : ∃ W1, W1 = W := ⟨_, rfl⟩
      subst hW1
      obtain ⟨W0, hW0⟩ : ∃ W0, W0 = W3 := ⟨_, rfl⟩
      subst hW0
      go_loopw [83] (fun i X => ∃ i' : Nat, i = .int .i64 i' ∧ i' ≤ 4 ∧ Below W1.heap.size W1 X) (fun i _ => 4 - (intOf i).toNat)
      case atStart => exact ⟨0, rfl, by omega, H3.out⟩
      case round =>
        obtain ⟨i, rfl, hi4, hBX⟩ := hrel
        have HX := Lib.hid hBX
        clear hBX
        by_cases hilt : i < 4
        · have g0 : decide ((i : Int) < 4) = true := decide_eq_true (by omega)
          obtain ⟨y, hyi, hyb1, hyb2⟩ := idx4 k y2 T i hilt hk1 hk2 hy0 hy1 hT1 hT2
          by_cases hyr : y < 0 ∨ (T : Int) ≤ y
          · have cU := fun W => unrank_no (xn : Int) y T (Lib.hid fun _ _ => HT.out) (.inr (.inr hyr)) W
            rcases (by omega : y < 0 ∨ (¬ y < 0 ∧ (T : Int) ≤ y)) with h1 | ⟨h0, h1⟩
            · have e1 : decide (y < 0) = true := decide_eq_true h1
              go_wp2_with (fail)
              refine (cU _).mono ?_
              rintro e X2 ⟨rfl, hb2⟩
              have hB2 := ((HX.out.trans (hb2.mono HX.out.size)).alloc (Nat.le_trans HX.out.size hb2.size) (.cells #[.slice none 0 0, .slice none 0 0] 25))
              have H2 := Lib.hid hB2
              clear hB2 hb2
              go_wp2_with (fail)
              refine (none_nil _).mono ?_
              rintro e X3 ⟨rfl, hb3⟩
              have H4 := Lib.hid (H2.out.trans (hb3.mono H2.out.size))
              clear hb3
              go_wp2
              go_roundw
              case rel => exact ⟨i + 1, by go_num, by omega, H4.out⟩
              case measure => simp [intOf]; omega
            · have e1 : decide (y < 0) = false := decide_eq_false h0
              have e2 : decide ((T : Int) ≤ y) = true := decide_eq_true h1
              go_wp2_with (fail)
              refine (cU _).mono ?_
              rintro e X2 ⟨rfl, hb2⟩
              have hB2 := ((HX.out.trans (hb2.mono HX.out.size)).alloc (Nat.le_trans HX.out.size hb2.size) (.cells #[.slice none 0 0, .slice none 0 0] 25))
              have H2 := Lib.hid hB2
              clear hB2 hb2
              go_wp2_with (fail)
              refine (none_nil _).mono ?_
              rintro e X3 ⟨rfl, hb3⟩
              have H4 := Lib.hid (H2.out.trans (hb3.mono H2.out.size))
              clear hb3
              go_wp2
              go_roundw
              case rel => exact ⟨i + 1, by go_num, by omega, H4.out⟩
              case measure => simp [intOf]; omega
          · obtain ⟨yn, rfl⟩ : ∃ yn : Nat, y = (yn : Int) := ⟨y.toNat, by omega⟩
            have hyT : yn < T := by omega
            clear hyr hyb1 hyb2
            have e1 : decide ((yn : Int) < 0) = false := decide_eq_false (by omega)
            have e2 : decide ((T : Int) ≤ (yn : Int)) = false := decide_eq_false (by omega)
            have e3 : decide (T ≤ yn) = false := decide_eq_false (by omega)
            go_wp2_with (fail)
            refine (unrank_any xn yn T hx4 HT.out hyT _).mono ?_
            rintro e X2 ⟨vl, vs, rfl, hrl, hrs, hb2⟩
            obtain ⟨ol2, cl2, rfl, _⟩ := own_slice hrl
            obtain ⟨os2, cs2, rfl, _⟩ := own_slice hrs
            have b2 := Blk.new X2 #[.slice ol2 xn cl2, .slice os2 (unS xn).length cs2] 25
            have hB2 := ((HX.out.trans (hb2.mono HX.out.size)).alloc (Nat.le_trans HX.out.size hb2.size) (.cells #[.slice ol2 xn cl2, .slice os2 (unS xn).length cs2] 25))
            have hba := (Below.refl X2.heap.size X2).alloc (Nat.le_refl _) (.cells #[.slice ol2 xn cl2, .slice os2 (unS xn).length cs2] 25)
            have hrl2 := own_below hrl hba
            have hrs2 := own_below hrs hba
            obtain ⟨X3, hX3⟩ : ∃ X3, X2.alloc (.cells #[.slice ol2 xn cl2, .slice os2 (unS xn).length cs2] 25) = X3 := ⟨_, rfl⟩
            obtain ⟨q, hq⟩ : ∃ q, X2.heap.size = q := ⟨_, rfl⟩
            rw [hX3] at b2 hB2 hrl2 hrs2
            rw [hq] at b2
            have H2 := Lib.hid (And.intro b2 (And.intro hB2 (And.intro hrl2 hrs2)))
            have HN := Lib.hid (And.intro hX3 hq)
            clear b2 hB2 hba hb2 hrl2 hrs2 hrl hrs hX3 hq
            go_wp2_with (fail)
            rw [HN.out.1, HN.out.2]
            obtain ⟨b2, hB2, hrl2, hrs2⟩ := H2.out
            have z0 : X3.cell? ⟨q, 0, none⟩ = some (.slice ol2 xn cl2) := b2.cell 0
            have z1 : X3.cell? ⟨q, 1, none⟩ = some (.slice os2 (unS xn).length cs2) := b2.cell 1
            have hql := b2.lt
            clear b2 hB2 hrl2 hrs2
            go_region_held3 (fun w' => w'.cell? ⟨q, 0, none⟩ = some (.slice ol2 xn cl2) ∧ w'.cell? ⟨q, 1, none⟩ = some (.slice os2 (unS xn).length cs2)) (first | exact ⟨z0, z1⟩ | exact ⟨(hb4.cell (p := ⟨q, 0, none⟩) hql).trans z0, (hb4.cell (p := ⟨q, 1, none⟩) hql).trans z1⟩ | exact ⟨(hb5.cell (p := ⟨q, 0, none⟩) (Nat.lt_of_lt_of_le hql hb4.size)).trans ((hb4.cell (p := ⟨q, 0, none⟩) hql).trans z0), (hb5.cell (p := ⟨q, 1, none⟩) (Nat.lt_of_lt_of_le hql hb4.size)).trans ((hb4.cell (p := ⟨q, 1, none⟩) hql).trans z1)⟩) (first | (go_at_call 48; refine (refUnrank_any xn yn hx4 (by omega) _).mono ?_; rintro e X4 ⟨vl3, vs3, rfl, hl3, hs3, hb4⟩; obtain ⟨ol3, cl3, rfl, _⟩ := own_slice hl3; obtain ⟨os3, cs3, rfl, _⟩ := own_slice hs3) | (go_at_call 29; refine (equal_un xn yn hx4 _ _ _ _ _ _ _ _ _ (RowAt.of_own encR_len (own_below (World.ownsRow.drew H2.out.2.2.1) hb4) (unr_len _ _ _)) (RowAt.of_own encI_len (own_below (World.ownsRow.drew H2.out.2.2.2) hb4) rfl) (RowAt.of_own encR_len hl3 (unr_len _ _ _)) (RowAt.of_own encI_len hs3 rfl)).mono ?_; rintro e X5 ⟨rfl, hb5⟩))
            have H5 := Lib.hid ((H2.out.2.1.drew.trans (hb4.mono H2.out.2.1.size)).trans (hb5.mono (Nat.le_trans H2.out.2.1.size hb4.size)))
            rename_i hHeld
            clear hHeld hb4 hb5 z0 z1 hl3 hs3
            go_wp2
            go_roundw
            case rel => exact ⟨i + 1, by go_num, by omega, H5.out⟩
            case measure => simp [intOf]; omega
        · have g0 : decide ((i : Int) < 4) = false := decide_eq_false (by omega)
          go_wp2
          exact ⟨m - 1, by omega, QcM.mk Ds (j + 1) (by omega) HD.out.1 (fun E hE => by obtain ⟨h1, h2⟩ := HD.out.2 E hE; exact ⟨h1, (HX.out.block E (Array.getElem?_eq_some_iff.1 h2).1).trans h2⟩) (HB.out.trans (HX.out.mono HB.out.size)) rfl⟩
  · have d0 : decide ((j : Int) < 2) = false := decide_eq_false (by omega)
    have hBW := HB.out
    have b3 := HV.out.2.1.below' hBW
    have c30 : W.cell? ⟨w.heap.size, 0, none⟩ = some (.slice ol s.L.length cl) := b3.cell 0
    have c31 : W.cell? ⟨w.heap.size, 1, none⟩ = some (.slice os s.S.length cs) := b3.cell 1
    have hr := HV.out.2.2.2.1.below encR_len (by decide) hBW
    have ht := HV.out.2.2.2.2.below encI_len (by decide) hBW
    have HR := Lib.hid (And.intro hr (And.intro ht b3))
    clear hr ht b3 hBW
    cases hmay : mayB s with
    | false =>
      have HM := Lib.hid hmay
      clear hmay
      go_wp2_with (fail)
      refine (rank_no s ol os cl cs hn hm _ HR.out.1 HR.out.2.1 HM.out).mono ?_
      rintro e X1 ⟨rfl, hb1⟩
      have H1 := Lib.hid hb1
      have c30 : X1.cell? ⟨w.heap.size, 0, none⟩ = some (.slice ol s.L.length cl) := at_below c30 hb1
      have c31 : X1.cell? ⟨w.heap.size, 1, none⟩ = some (.slice os s.S.length cs) := at_below c31 hb1
      clear hb1
      go_wp2_with (fail)
      refine (may_any s ol os cl cs hn hm _ (HR.out.1.below encR_len (by decide) H1.out) (HR.out.2.1.below encI_len (by decide) H1.out)).mono ?_
      rintro e X2 ⟨rfl, hb2⟩
      have HP := Lib.hid (H1.out.trans (hb2.mono H1.out.size))
      clear hb2
      rw [HM.out]
      go_wp2_with (fail)
      refine (wakes_any _).mono ?_
      rintro e Z ⟨rfl, hbZ⟩
      have HZ := Lib.hid (HP.out.trans (hbZ.mono HP.out.size))
      clear hbZ
      have b6 := (HV.out.2.2.1.below' HB.out).below' HZ.out
      have c6 : Z.cell? ⟨w.heap.size + 1, 0, none⟩ = some (.bool false) := b6.cell 0
      have f6 := b6.frozen 0
      have g6 : (Z.setCell ⟨w.heap.size + 1, 0, none⟩ (.bool true)).cell? ⟨w.heap.size + 1, 0, none⟩ = some (.bool true) := (b6.set 0 (.bool true)).cell 0
      have HG := Lib.hid g6
      clear b6 g6
      go_wp2
      exact counts_end HD.out.1 HD.out.2 HB.out HV.out.1 HZ.out hVs HG.out rfl
    | true =>
      cases hpl : plainB s with
      | false =>
        have hpe := plain_eq s hmay
        rw [hpl] at hpe
        have HM := Lib.hid (And.intro hmay (And.intro hpl hpe))
        clear hmay hpl hpe
        go_wp2_with (fail)
        refine (rank_np s ol os cl cs hn hm _ HR.out.1 HR.out.2.1 HM.out.1 HM.out.2.1).mono ?_
        rintro e X1 ⟨rfl, hb1⟩
        have H1 := Lib.hid hb1
        have c30 : X1.cell? ⟨w.heap.size, 0, none⟩ = some (.slice ol s.L.length cl) := at_below c30 hb1
        have c31 : X1.cell? ⟨w.heap.size, 1, none⟩ = some (.slice os s.S.length cs) := at_below c31 hb1
        clear hb1
        go_wp2_with (fail)
        refine (may_any s ol os cl cs hn hm _ (HR.out.1.below encR_len (by decide) H1.out) (HR.out.2.1.below encI_len (by decide) H1.out)).mono ?_
        rintro e X2 ⟨rfl, hb2⟩
        have H2 := Lib.hid (H1.out.trans (hb2.mono H1.out.size))
        have c30 : X2.cell? ⟨w.heap.size, 0, none⟩ = some (.slice ol s.L.length cl) := at_below c30 hb2
        have c31 : X2.cell? ⟨w.heap.size, 1, none⟩ = some (.slice os s.S.length cs) := at_below c31 hb2
        clear hb2
        rw [HM.out.1]
        go_wp2_with (fail)
        refine (refPlain_may s ol os cl cs hn hm _ (HR.out.1.below encR_len (by decide) H2.out) (HR.out.2.1.below encI_len (by decide) H2.out) HM.out.1).mono ?_
        rintro e X3 ⟨rfl, hb3⟩
        have HP := Lib.hid (H2.out.trans (hb3.mono H2.out.size))
        have c30 : X3.cell? ⟨w.heap.size, 0, none⟩ = some (.slice ol s.L.length cl) := at_below c30 hb3
        clear hb3
        cases hpn : plnB s with
        | false =>
          clear hpn
          go_wp2_with (fail)
          refine (wakes_any _).mono ?_
          rintro e Z ⟨rfl, hbZ⟩
          have HZ := Lib.hid (HP.out.trans (hbZ.mono HP.out.size))
          clear hbZ
          have b6 := (HV.out.2.2.1.below' HB.out).below' HZ.out
          have c6 : Z.cell? ⟨w.heap.size + 1, 0, none⟩ = some (.bool false) := b6.cell 0
          have f6 := b6.frozen 0
          have g6 : (Z.setCell ⟨w.heap.size + 1, 0, none⟩ (.bool true)).cell? ⟨w.heap.size + 1, 0, none⟩ = some (.bool true) := (b6.set 0 (.bool true)).cell 0
          have HG := Lib.hid g6
          clear b6 g6
          go_wp2
          exact counts_end HD.out.1 HD.out.2 HB.out HV.out.1 HZ.out hVs HG.out rfl
        | true =>
          have hlen : 25 < s.L.length := by
            have h := HM.out.2.2
            rw [hpn] at h
            simpa using h.symm
          have e1 : decide ((25 : Int) < (s.L.length : Int)) = true := decide_eq_true (by omega)
          have e2 : decide (25 < s.L.length) = true := decide_eq_true hlen
          clear hpn
          go_wp2_with (fail)
          refine (wakes_any _).mono ?_
          rintro e Z ⟨rfl, hbZ⟩
          have HZ := Lib.hid (HP.out.trans (hbZ.mono HP.out.size))
          clear hbZ
          have b6 := (HV.out.2.2.1.below' HB.out).below' HZ.out
          have c6 : Z.cell? ⟨w.heap.size + 1, 0, none⟩ = some (.bool false) := b6.cell 0
          have f6 := b6.frozen 0
          have g6 : (Z.setCell ⟨w.heap.size + 1, 0, none⟩ (.bool true)).cell? ⟨w.heap.size + 1, 0, none⟩ = some (.bool true) := (b6.set 0 (.bool true)).cell 0
          have HG := Lib.hid g6
          clear b6 g6
          go_wp2
          exact counts_end HD.out.1 HD.out.2 HB.out HV.out.1 HZ.out hVs HG.out rfl
      | true =>
        have hpe := plain_eq s hmay
        rw [hpl] at hpe
        have hpe2 : plnB s = true ∧ s.L.length ≤ 25 := by simpa using hpe.symm
        have hpS : plS 0 s.L = true := by
          unfold plainB at hpl
          simp only [Bool.and_eq_true, decide_eq_true_iff] at hpl
          exact hpl.2
        obtain ⟨R, hRR⟩ : ∃ R, rnk s.L 0 = R := ⟨_, rfl⟩
        have e1 : decide ((25 : Int) < (s.L.length : Int)) = false := decide_eq_false (by omega)
        have e2 : decide (25 < s.L.length) = false := decide_eq_false (by omega)
        have HM := Lib.hid (And.intro hmay (And.intro hpl (And.intro hpe2 (And.intro hRR hpS))))
        clear hmay hpl hpe hpe2 hRR hpS
        go_wp2_with (fail)
        refine (rank_any s ol os cl cs R hn hm _ HR.out.1 HR.out.2.1 HM.out.1 HM.out.2.1 (Lib.hid HM.out.2.2.2.1)).mono ?_
        rintro e X1 ⟨rfl, hb1⟩
        have H1 := Lib.hid hb1
        have c30 : X1.cell? ⟨w.heap.size, 0, none⟩ = some (.slice ol s.L.length cl) := at_below c30 hb1
        have c31 : X1.cell? ⟨w.heap.size, 1, none⟩ = some (.slice os s.S.length cs) := at_below c31 hb1
        clear hb1
        go_wp2_with (fail)
        refine (may_any s ol os cl cs hn hm _ (HR.out.1.below encR_len (by decide) H1.out) (HR.out.2.1.below encI_len (by decide) H1.out)).mono ?_
        rintro e X2 ⟨rfl, hb2⟩
        have H2 := Lib.hid (H1.out.trans (hb2.mono H1.out.size))
        have c30 : X2.cell? ⟨w.heap.size, 0, none⟩ = some (.slice ol s.L.length cl) := at_below c30 hb2
        have c31 : X2.cell? ⟨w.heap.size, 1, none⟩ = some (.slice os s.S.length cs) := at_below c31 hb2
        clear hb2
        rw [HM.out.1]
        go_wp2_with (fail)
        refine (refPlain_may s ol os cl cs hn hm _ (HR.out.1.below encR_len (by decide) H2.out) (HR.out.2.1.below encI_len (by decide) H2.out) HM.out.1).mono ?_
        rintro e X3 ⟨rfl, hb3⟩
        have H3 := Lib.hid (H2.out.trans (hb3.mono H2.out.size))
        have c30 : X3.cell? ⟨w.heap.size, 0, none⟩ = some (.slice ol s.L.length cl) := at_below c30 hb3
        have c31 : X3.cell? ⟨w.heap.size, 1, none⟩ = some (.slice os s.S.length cs) := at_below c31 hb3
        clear hb3
        rw [HM.out.2.2.1.1]
        go_wp2_with (fail)
        refine (refRank_any s ol os cl cs R _ (HR.out.1.below encR_len (by decide) H3.out) HM.out.2.2.1.2 HM.out.2.2.2.2 (Lib.hid HM.out.2.2.2.1)).mono ?_
        rintro e X4 ⟨rfl, hb4⟩
        have HP := Lib.hid (H3.out.trans (hb4.mono H3.out.size))
        clear hb4
        go_wp2_with (fail)
        refine (wakes_any _).mono ?_
        rintro e Z ⟨rfl, hbZ⟩
        have HZ := Lib.hid (HP.out.trans (hbZ.mono HP.out.size))
        clear hbZ
        have b6 := (HV.out.2.2.1.below' HB.out).below' HZ.out
        have c6 : Z.cell? ⟨w.heap.size + 1, 0, none⟩ = some (.bool false) := b6.cell 0
        have f6 := b6.frozen 0
        have g6 : (Z.setCell ⟨w.heap.size + 1, 0, none⟩ (.bool true)).cell? ⟨w.heap.size + 1, 0, none⟩ = some (.bool true) := (b6.set 0 (.bool true)).cell 0
        have HG := Lib.hid g6
        clear b6 g6
        go_wp2
        exact counts_end HD.out.1 HD.out.2 HB.out HV.out.1 HZ.out hVs HG.out rfl
theorem counts_law (s : Sc) (ol os : Option Addr) (cl cs : Nat) (hn : s.L.length ≤ 9223372036854775807) (hm : s.S.length ≤ 9223372036854775807) (n k : Int) (hn1 : -9223372036854775808 ≤ n ∧ n ≤ 9223372036854775807) (hk1 : -9223372036854775808 ≤ k ∧ k ≤ 9223372036854775807) (w : World) (hr : RowAt w encR 2 ol s.L) (ht : RowAt w encI 1 os s.S) :
    Calls Try.prog 9 #[.agg #[.slice ol s.L.length cl, .slice os s.S.length cs], .int .i64 n, .int .i64 k] w fun e w' => e = .returned (.bool true) ∧ Below w.heap.size w w' :=
  callsIn_wide.1 (counts_in s ol os cl cs hn hm n k hn1.1 hn1.2 hk1.1 hk1.2 w hr ht)
end Go.Proofs.Ytdcmkiggnmajgaa
