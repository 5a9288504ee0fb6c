/- Stage 16: spoil. -/
import Derived.Test.YtdcmkiggnmajgaaV2
namespace Go.Proofs.Ytdcmkiggnmajgaa
set_option linter.unusedVariables false
set_option linter.unusedSimpArgs false
open Go Go.RowKit Go.Shelf
set_option maxRecDepth 100000

/-- All but two blocks is as it was. -/
def Gr2 (w W : World) (r1 r2 : Option Nat) : Prop := W.os = w.os ∧ W.tape = w.tape ∧ W.output = w.output ∧ w.heap.size ≤ W.heap.size ∧ ∀ k, k < w.heap.size → some k ≠ r1 → some k ≠ r2 → W.heap[k]? = w.heap[k]?
theorem Gr2.refl (w : World) (r1 r2 : Option Nat) : Gr2 w w r1 r2 := ⟨rfl, rfl, rfl, Nat.le_refl _, fun _ _ _ _ => rfl⟩
theorem Gr2.step {w X Y : World} {r1 r2 row : Option Nat} (h : Gr2 w X r1 r2) (hg : X.grownBy Y row) (hr : ∀ r, row = some r → some r = r1 ∨ some r = r2 ∨ w.heap.size ≤ r) : Gr2 w Y r1 r2 := by
  obtain ⟨a, b, c, d, e⟩ := h
  refine ⟨hg.os.trans a, hg.tape.trans b, hg.output.trans c, Nat.le_trans d hg.size, fun k hk h1 h2 => (hg.block k (by omega) (fun e' => ?_)).trans (e k hk h1 h2)⟩
  rcases hr k e'.symm with h | h | h
  · exact h1 h
  · exact h2 h
  · omega
/-- Both rows and the variable that names them. -/
def SpB (w : World) (base : Nat) (vl vs : Value) (n m : Nat) (W : World) : Prop := ∃ xs ys, W.ownsRow base 79 2 vl n xs ∧ W.ownsRow base 3 1 vs m ys ∧ Blk W w.heap.size #[vl, vs] 25 ∧ Gr2 w W vl.ownBlock vs.ownBlock
theorem SpB.setL {w W : World} {base g n c m o : Nat} {vs u : Value} (h : SpB w base (.slice (some ⟨g, 0, none⟩) n c) vs n m W) (ho : o < n * 2) : SpB w base (.slice (some ⟨g, 0, none⟩) n c) vs n m (W.setCell ⟨g, o, none⟩ u) := by
  obtain ⟨xs, ys, h1, h2, h3, h4⟩ := h
  have hn := h3.not_row (by decide) h1
  refine ⟨_, ys, own_setK h1 ho u, h2.kept (grownBy_setCell W g o u) ?_, h3.other (fun e => hn (by rw [e]; rfl)) o u, h4.step (grownBy_setCell W g o u) (fun r e => .inl (by rw [← e]; rfl))⟩
  have := rows_apart h2 h1 ne_IR
  simpa [Value.ownBlock] using this
theorem SpB.setS {w W : World} {base g n c m o : Nat} {vl u : Value} (h : SpB w base vl (.slice (some ⟨g, 0, none⟩) m c) n m W) (ho : o < m) : SpB w base vl (.slice (some ⟨g, 0, none⟩) m c) n m (W.setCell ⟨g, o, none⟩ u) := by
  obtain ⟨xs, ys, h1, h2, h3, h4⟩ := h
  have hn := h3.not_row (by decide) h2
  refine ⟨xs, _, h1.kept (grownBy_setCell W g o u) ?_, own_setK h2 (by omega) u, h3.other (fun e => hn (by rw [e]; rfl)) o u, h4.step (grownBy_setCell W g o u) (fun r e => .inr (.inl (by rw [← e]; rfl)))⟩
  have := rows_apart h1 h2 ne_RI
  simpa [Value.ownBlock] using this
/-- 'append' as one operation, with its place. -/
theorem opwp_append_at {P : Program} {o : Oper} {K : Act → World → Prop} {Q : Exit → Act → World → Prop} {a : Act} {w : World} (s x : Operand) (t : TypeId)
    (ho : o.op = .call { callee := .builtin .append, args := #[s, x], argTypes := #[t, t] })
    (base : Nat) (e : TypeId) (i : TypeInfo) (z : Value) (size bytes : Nat) (ht : P.underlying t = some (.slice e)) (hi : P.info? e = some i) (hz : i.zero = some z)
    (hsize : i.size = size) (hby : i.bytes = bytes) (hzs : z.cells.size = size) (hsz : 0 < size)
    (v : Value) (n : Nat) (xs : List Value) (hs : a.eval s = v) (hown : w.ownsRow base e size v n xs)
    (ad : Addr) (m c : Nat) (news : List Value) (hx : a.eval x = .slice (some ad) m c) (hl : news.length = m * size) (hnews : ∀ j u, news[j]? = some u → w.cell? (ad.add j) = some u) (h1 : ∀ u ∈ news, u.oneCell' = true)
    (h63 : n + m ≤ maxLen) (hbytes : (n + m) * bytes ≤ 140737488355328) (hbase : base ≤ w.heap.size)
    (h : ∀ v' w', w'.ownsRow base e size v' (n + m) (xs ++ news) → w.grownBy w' v.ownBlock → (v'.ownBlock = v.ownBlock ∨ v'.ownBlock = some w.heap.size) → K (a.put o.dst v') w') : o.wp P a w K Q := by
  obtain ⟨v', w', hr, h2, h3, _, h5⟩ := run_append_own_at (P := P) w base t o.type e i z size bytes ht hi hz hsize hby hzs hsz v n xs hown ad m c news hl hnews h1 h63 hbytes hbase
  unfold Oper.wp execOp
  simp only [ho, resolve, invoke, builtin, Sem.run_bind, Sem.run_pure, Result.andThen_ok, List.map_toArray, List.map_cons, List.map_nil, hs, hx, hr]
  exact h v' w' h2 h3 h5

set_option maxHeartbeats 16000000 in
theorem spoil_any (vl vs : Value) (n m base : Nat) (xs ys : List Value) (hn : n ≤ 1048576) (hm : m ≤ 1048576) (w : World) (hb : base ≤ w.heap.size) (hL : w.ownsRow base 79 2 vl n xs) (hS : w.ownsRow base 3 1 vs m ys) :
    Calls Try.prog 30 #[.agg #[vl, vs]] w fun e w' => e = .returned (.tuple #[]) ∧ Gr2 w w' vl.ownBlock vs.ownBlock := by
  obtain ⟨i0, hi, hz0, hz1, hz2⟩ := info_parts infoInt
  obtain ⟨j0, hj, hy0, hy1, hy2⟩ := info_parts infoRhyme
  obtain ⟨ol, cl, rfl, hol⟩ := own_slice hL
  obtain ⟨os, cs, rfl, hos⟩ := own_slice hS
  have h0 : SpB w base (.slice ol n cl) (.slice os m cs) n m (w.alloc (.cells #[.slice ol n cl, .slice os m cs] 25)) :=
    ⟨xs, ys, hL.alloc _, hS.alloc _, Blk.new w _ _, (Gr2.refl w _ _).step (World.grownBy_alloc w _ none) (by simp)⟩
  have H0 := Lib.hid (And.intro h0 (And.intro hol hos))
  clear h0 hL hS hol hos
  go_enter Try.func30, Try.ntmps30
  go_wp2
  go_loopw [9] (fun i W => ∃ k : Nat, i = .int .i64 k ∧ k ≤ n ∧ SpB w base (.slice ol n cl) (.slice os m cs) n m W) (fun i _ => n - (intOf i).toNat)
  case atStart => exact ⟨0, rfl, by omega, H0.out.1⟩
  case round =>
    obtain ⟨k, rfl, hk, hP⟩ := hrel
    obtain ⟨xs, ys, h1, h2, h3, h4⟩ := hP
    have x0 : wr.cell? ⟨w.heap.size, 0, none⟩ = some (.slice ol n cl) := h3.cell 0
    have x1 : wr.cell? ⟨w.heap.size, 1, none⟩ = some (.slice os m cs) := h3.cell 1
    have HP := Lib.hid (show SpB w base (.slice ol n cl) (.slice os m cs) n m wr from ⟨xs, ys, h1, h2, h3, h4⟩)
    by_cases hlt : k < n
    · obtain ⟨g, rfl⟩ := H0.out.2.1 (by omega)
      obtain ⟨u, hu⟩ : ∃ u, wr.cell? ⟨g, k * 2, none⟩ = some u := ⟨_, (h1.cellAt (k * 2) (by omega)).trans (List.getElem?_eq_getElem (by rw [h1.1]; omega))⟩
      obtain ⟨v, hv⟩ : ∃ u, wr.cell? ⟨g, k * 2 + 1, none⟩ = some u := ⟨_, (h1.cellAt (k * 2 + 1) (by omega)).trans (List.getElem?_eq_getElem (by rw [h1.1]; omega))⟩
      have f0 := own_freeK h1 (k * 2)
      have f1 := own_freeK h1 (k * 2 + 1)
      have HN := Lib.hid ((HP.out.setL (o := k * 2) (u := .int .i64 (-7)) (by omega)).setL (o := k * 2 + 1) (u := .int .i64 (-7)) (by omega))
      clear h1 h2 h3 h4
      go_wp2
      go_roundw
      case rel => exact ⟨k + 1, by go_num, by omega, HN.out⟩
      case measure => simp [intOf]; omega
    · clear h1 h2 h3 h4
      go_wp2
      go_loopw [21] (fun i W => ∃ k : Nat, i = .int .i64 k ∧ k ≤ m ∧ SpB w base (.slice ol n cl) (.slice os m cs) n m W) (fun i _ => m - (intOf i).toNat)
      case atStart => exact ⟨0, rfl, by omega, HP.out⟩
      case round =>
        obtain ⟨k, rfl, hk, hP⟩ := hrel
        obtain ⟨xs, ys, h1, h2, h3, h4⟩ := hP
        have x0 : wr.cell? ⟨w.heap.size, 0, none⟩ = some (.slice ol n cl) := h3.cell 0
        have x1 : wr.cell? ⟨w.heap.size, 1, none⟩ = some (.slice os m cs) := h3.cell 1
        have HP := Lib.hid (show SpB w base (.slice ol n cl) (.slice os m cs) n m wr from ⟨xs, ys, h1, h2, h3, h4⟩)
        by_cases hlt : k < m
        · obtain ⟨g, rfl⟩ := H0.out.2.2 (by omega)
          obtain ⟨u, hu⟩ : ∃ u, wr.cell? ⟨g, k, none⟩ = some u := ⟨_, (h2.cellAt k (by omega)).trans (List.getElem?_eq_getElem (by rw [h2.1]; omega))⟩
          have f0 := own_freeK h2 k
          have HN := Lib.hid (HP.out.setS (o := k) (u := .int .i64 (-7)) hlt)
          clear h1 h2 h3 h4
          go_wp2
          go_roundw
          case rel => exact ⟨k + 1, by go_num, by omega, HN.out⟩
          case measure => simp [intOf]; omega
        · have hws := h4.2.2.2.1
          go_wp2
          refine wp_region_noPanic ?_
          refine wp_region_g (S := untilG [] (fun W => Blk W w.heap.size #[.slice ol n cl, .slice os m cs] 25)) (by kernel_rfl) ?_
          obtain ⟨X0, hX0⟩ : ∃ Y, wr.drew = Y := ⟨_, rfl⟩
          have T0 : Blk X0 w.heap.size #[.slice ol n cl, .slice os m cs] 25 := hX0 ▸ h3.drew
          have L0 : X0.ownsRow base 79 2 (.slice ol n cl) n xs := hX0 ▸ drew_row h1
          have S0 : X0.ownsRow base 3 1 (.slice os m cs) m ys := hX0 ▸ drew_row h2
          have G0 : Gr2 w X0 (Value.slice ol n cl).ownBlock (Value.slice os m cs).ownBlock := hX0 ▸ h4
          rw [hX0]
          clear hX0 h1 h2 h3 h4 x0 x1
          refine wpAnyG_take [0, 1, 5, 10] (i := 0) (v := (.pointer (some ⟨w.heap.size, 0, none⟩))) rfl (by kernel_rfl) (by kernel_rfl) (by kernel_rfl) (by kernel_rfl) (by kernel_rfl) (by kernel_rfl) (by kernel_rfl) (by kernel_rfl) (fun _ _ _ h => h) (Or.inl ⟨by rfl, ?hy⟩) T0 ?_
          case hy =>
            intro X hX
            go_simp
          try simp only [Act.put, List.getElem_toArray, List.getElem_cons_zero, List.getElem_cons_succ, List.setIfInBounds_toArray, List.set_cons_zero, List.set_cons_succ]
          refine wpAnyG_take [1, 5, 10] (i := 1) (v := (.slice ol n cl)) rfl (by kernel_rfl) (by kernel_rfl) (by kernel_rfl) (by kernel_rfl) (by kernel_rfl) (by kernel_rfl) (by kernel_rfl) (by kernel_rfl) (fun _ _ _ h => h) (Or.inl ⟨by rfl, ?hy⟩) T0 ?_
          case hy =>
            intro X hX
            have e0 := hX.cell 0
            have e1 := hX.cell 1
            simp only [List.getElem?_toArray, List.getElem?_cons_succ, List.getElem?_cons_zero] at e0 e1
            go_simp
          try simp only [Act.put, List.getElem_toArray, List.getElem_cons_zero, List.getElem_cons_succ, List.setIfInBounds_toArray, List.set_cons_zero, List.set_cons_succ]
          refine wpAnyG_take [2, 4, 5, 10] (i := 2) (v := (.agg #[.int .i64 (-9), .int .i64 0])) rfl (by kernel_rfl) (by kernel_rfl) (by kernel_rfl) (by kernel_rfl) (by kernel_rfl) (by kernel_rfl) (by kernel_rfl) (by kernel_rfl) (fun _ _ _ h => h) (Or.inl ⟨by rfl, ?hy⟩) T0 ?_
          case hy =>
            intro X hX
            go_simp
          try simp only [Act.put, List.getElem_toArray, List.getElem_cons_zero, List.getElem_cons_succ, List.setIfInBounds_toArray, List.set_cons_zero, List.set_cons_succ]
          refine wpAnyG_take [3, 4, 5, 10] (i := 3) (v := (.agg #[.int .i64 0, .int .i64 0])) rfl (by kernel_rfl) (by kernel_rfl) (by kernel_rfl) (by kernel_rfl) (by kernel_rfl) (by kernel_rfl) (by kernel_rfl) (by kernel_rfl) (fun _ _ _ h => h) (Or.inl ⟨by rfl, ?hy⟩) T0 ?_
          case hy =>
            intro X hX
            go_simp
          try simp only [Act.put, List.getElem_toArray, List.getElem_cons_zero, List.getElem_cons_succ, List.setIfInBounds_toArray, List.set_cons_zero, List.set_cons_succ]
          refine wpAnyG_take [6, 7, 9, 11] (i := 6) (v := (.pointer (some ⟨w.heap.size, 1, none⟩))) rfl (by kernel_rfl) (by kernel_rfl) (by kernel_rfl) (by kernel_rfl) (by kernel_rfl) (by kernel_rfl) (by kernel_rfl) (by kernel_rfl) (fun _ _ _ h => h) (Or.inl ⟨by rfl, ?hy⟩) T0 ?_
          case hy =>
            intro X hX
            go_simp
          try simp only [Act.put, List.getElem_toArray, List.getElem_cons_zero, List.getElem_cons_succ, List.setIfInBounds_toArray, List.set_cons_zero, List.set_cons_succ]
          refine wpAnyG_take [7, 9, 11] (i := 7) (v := (.slice os m cs)) rfl (by kernel_rfl) (by kernel_rfl) (by kernel_rfl) (by kernel_rfl) (by kernel_rfl) (by kernel_rfl) (by kernel_rfl) (by kernel_rfl) (fun _ _ _ h => h) (Or.inl ⟨by rfl, ?hy⟩) T0 ?_
          case hy =>
            intro X hX
            have e0 := hX.cell 0
            have e1 := hX.cell 1
            simp only [List.getElem?_toArray, List.getElem?_cons_succ, List.getElem?_cons_zero] at e0 e1
            go_simp
          try simp only [Act.put, List.getElem_toArray, List.getElem_cons_zero, List.getElem_cons_succ, List.setIfInBounds_toArray, List.set_cons_zero, List.set_cons_succ]
          refine wpAnyG_all (rs := [4, 8]) (by kernel_rfl) (by simp) ?_
          intro i hi_
          simp only [List.mem_cons, List.not_mem_nil, or_false] at hi_
          rcases hi_ with rfl | rfl
          · refine wpOp_now rfl rfl ?_
            go_simp
            have N4 := Blk.new X0 #[.int .i64 (-9), .int .i64 0, .int .i64 0, .int .i64 0] 79
            have T0 := T0.alloc (.cells #[.int .i64 (-9), .int .i64 0, .int .i64 0, .int .i64 0] 79)
            have L0 := L0.alloc (.cells #[.int .i64 (-9), .int .i64 0, .int .i64 0, .int .i64 0] 79)
            have S0 := S0.alloc (.cells #[.int .i64 (-9), .int .i64 0, .int .i64 0, .int .i64 0] 79)
            have G0 := G0.step (World.grownBy_alloc X0 (.cells #[.int .i64 (-9), .int .i64 0, .int .i64 0, .int .i64 0] 79) none) (by simp)
            obtain ⟨A4, hA4⟩ : ∃ A, X0.heap.size = A := ⟨_, rfl⟩
            obtain ⟨X1, hX1⟩ : ∃ Y, X0.alloc (.cells #[.int .i64 (-9), .int .i64 0, .int .i64 0, .int .i64 0] 79) = Y := ⟨_, rfl⟩
            rw [hA4] at N4 ⊢
            rw [hX1] at T0 L0 S0 G0 N4  ⊢
            clear hX1 hA4
            refine ⟨fun _ => T0, ?_⟩
            try simp only [Act.put, List.getElem_toArray, List.getElem_cons_zero, List.getElem_cons_succ, List.setIfInBounds_toArray, List.set_cons_zero, List.set_cons_succ]
            refine wpAnyG_all (rs := [5, 8]) (by kernel_rfl) (by simp) ?_
            intro i hi_
            simp only [List.mem_cons, List.not_mem_nil, or_false] at hi_
            rcases hi_ with rfl | rfl
            · refine wpOp_now rfl rfl ?_
              have hb5 := G0.2.2.2.1
              refine opwp_append_at _ _ 22 rfl base 79 j0 (.agg #[.int .i64 0, .int .i64 0]) 2 16 Try.underlying22 hj hy0 hy1 hy2 rfl (by decide) (.slice ol n cl) n xs rfl L0 ⟨A4, 0, none⟩ 2 2 [.int .i64 (-9), .int .i64 0, .int .i64 0, .int .i64 0] rfl rfl (World.news_of_block (cs := #[.int .i64 (-9), .int .i64 0, .int .i64 0, .int .i64 0]) (t := 79) (fr := (0, 0)) N4) (fun x hx => by simp at hx; rcases hx with rfl | rfl | rfl | rfl <;> rfl) (by unfold maxLen; omega) (by omega) (by omega) ?_
              intro v5 X2 H5 hg5 hw5
              have hw5 : v5.ownBlock = (Value.slice ol n cl).ownBlock ∨ ∃ z, v5.ownBlock = some z ∧ w.heap.size ≤ z := hw5.imp id (fun h => ⟨_, h, hb5⟩)
              have G0 := G0.step hg5 (fun r e => .inl e.symm)
              have S0 := S0.kept hg5 (rows_apart S0 L0 ne_IR)
              have T0 := T0.kept hg5 (T0.not_row (by decide) L0)
              clear L0 N4 hg5
              obtain ⟨o5, c5, rfl, ho5⟩ := own_slice H5
              obtain ⟨g5, rfl⟩ := ho5 (by omega)
              clear ho5
              refine ⟨fun _ => T0, ?_⟩
              try simp only [Act.put, List.getElem_toArray, List.getElem_cons_zero, List.getElem_cons_succ, List.setIfInBounds_toArray, List.set_cons_zero, List.set_cons_succ]
              refine wpAnyG_all (rs := [8]) (by kernel_rfl) (by simp) ?_
              intro i hi_
              simp only [List.mem_cons, List.not_mem_nil, or_false] at hi_
              subst hi_
              refine wpOp_now rfl rfl ?_
              go_simp
              have N8 := Blk.new X2 #[.int .i64 (-9), .int .i64 (-9)] 3
              have T0 := T0.alloc (.cells #[.int .i64 (-9), .int .i64 (-9)] 3)
              have S0 := S0.alloc (.cells #[.int .i64 (-9), .int .i64 (-9)] 3)
              have G0 := G0.step (World.grownBy_alloc X2 (.cells #[.int .i64 (-9), .int .i64 (-9)] 3) none) (by simp)
              have H5 := H5.alloc (.cells #[.int .i64 (-9), .int .i64 (-9)] 3)
              obtain ⟨A8, hA8⟩ : ∃ A, X2.heap.size = A := ⟨_, rfl⟩
              obtain ⟨X3, hX3⟩ : ∃ Y, X2.alloc (.cells #[.int .i64 (-9), .int .i64 (-9)] 3) = Y := ⟨_, rfl⟩
              rw [hA8] at N8 ⊢
              rw [hX3] at T0 S0 G0 N8  H5 ⊢
              clear hX3 hA8
              refine ⟨fun _ => T0, ?_⟩
              try simp only [Act.put, List.getElem_toArray, List.getElem_cons_zero, List.getElem_cons_succ, List.setIfInBounds_toArray, List.set_cons_zero, List.set_cons_succ]
              refine wpAnyG_all (rs := [9]) (by kernel_rfl) (by simp) ?_
              intro i hi_
              simp only [List.mem_cons, List.not_mem_nil, or_false] at hi_
              subst hi_
              refine wpOp_now rfl rfl ?_
              have hb9 := G0.2.2.2.1
              refine opwp_append_at _ _ 23 rfl base 3 i0 (.int .i64 0) 1 8 Try.underlying23 hi hz0 hz1 hz2 rfl (by decide) (.slice os m cs) m ys rfl S0 ⟨A8, 0, none⟩ 2 2 [.int .i64 (-9), .int .i64 (-9)] rfl rfl (World.news_of_block (cs := #[.int .i64 (-9), .int .i64 (-9)]) (t := 3) (fr := (0, 0)) N8) (fun x hx => by simp at hx; rcases hx with rfl | rfl <;> rfl) (by unfold maxLen; omega) (by omega) (by omega) ?_
              intro v9 X4 H9 hg9 hw9
              have hw9 : v9.ownBlock = (Value.slice os m cs).ownBlock ∨ ∃ z, v9.ownBlock = some z ∧ w.heap.size ≤ z := hw9.imp id (fun h => ⟨_, h, hb9⟩)
              have G0 := G0.step hg9 (fun r e => .inr (.inl e.symm))
              have H5 := H5.kept hg9 (rows_apart H5 S0 ne_RI)
              have T0 := T0.kept hg9 (T0.not_row (by decide) S0)
              clear S0 N8 hg9
              obtain ⟨o9, c9, rfl, ho9⟩ := own_slice H9
              obtain ⟨g9, rfl⟩ := ho9 (by omega)
              clear ho9
              refine ⟨fun _ => T0, ?_⟩
              try simp only [Act.put, List.getElem_toArray, List.getElem_cons_zero, List.getElem_cons_succ, List.setIfInBounds_toArray, List.set_cons_zero, List.set_cons_succ]
              refine wpAnyG_all (rs := [10]) (by kernel_rfl) (by simp) ?_
              intro i hi_
              simp only [List.mem_cons, List.not_mem_nil, or_false] at hi_
              subst hi_
              refine wpOp_now rfl rfl ?_
              go_simp
              refine ⟨fun _ => T0, ?_⟩
              try simp only [Act.put, List.getElem_toArray, List.getElem_cons_zero, List.getElem_cons_succ, List.setIfInBounds_toArray, List.set_cons_zero, List.set_cons_succ]
              refine wpAnyG_all (rs := [11]) (by kernel_rfl) (by simp) ?_
              intro i hi_
              simp only [List.mem_cons, List.not_mem_nil, or_false] at hi_
              subst hi_
              refine wpOp_now rfl rfl ?_
              go_simp
              refine ⟨fun _ => T0, ?_⟩
              try simp only [Act.put, List.getElem_toArray, List.getElem_cons_zero, List.getElem_cons_succ, List.setIfInBounds_toArray, List.set_cons_zero, List.set_cons_succ]
              refine wpAnyG_done (by kernel_rfl) ?_ _
              refine NoPanic.normal ?_
              obtain ⟨u5, hu5⟩ : ∃ u, X4.cell? ⟨g5, 0, none⟩ = some u := ⟨_, (H5.cellAt 0 (by omega)).trans (List.getElem?_eq_getElem (by rw [H5.1]; omega))⟩
              obtain ⟨u9, hu9⟩ : ∃ u, X4.cell? ⟨g9, 0, none⟩ = some u := ⟨_, (H9.cellAt 0 (by omega)).trans (List.getElem?_eq_getElem (by rw [H9.1]; omega))⟩
              have f5 := own_freeK H5 0
              have f9 := own_freeK H9 0
              have hne : g5 ≠ g9 := by have := rows_apart H5 H9 ne_RI; simpa [Value.ownBlock] using this
              have hne2 : g9 ≠ g5 := fun e => hne e.symm
              have hend : Gr2 w ((X4.setCell ⟨g5, 0, none⟩ (.int .i64 (-9))).setCell ⟨g9, 0, none⟩ (.int .i64 (-9))) (Value.slice ol n cl).ownBlock (Value.slice os m cs).ownBlock := by
                refine (G0.step (grownBy_setCell _ g5 0 _) (fun r e => ?_)).step (grownBy_setCell _ g9 0 _) (fun r e => ?_)
                · cases e
                  rcases hw5 with h | ⟨z, h, h'⟩
                  · exact .inl h
                  · have : g5 = z := by simpa [Value.ownBlock] using h
                    exact .inr (.inr (by omega))
                · cases e
                  rcases hw9 with h | ⟨z, h, h'⟩
                  · exact .inr (.inl h)
                  · have : g9 = z := by simpa [Value.ownBlock] using h
                    exact .inr (.inr (by omega))
              have HZ := Lib.hid hend
              clear hend G0 H5 H9 hw5 hw9 T0
              go_wp2
              go_end0
              exact ⟨rfl, HZ.out⟩
            · refine wpOp_now rfl rfl ?_
              go_simp
              have N8 := Blk.new X1 #[.int .i64 (-9), .int .i64 (-9)] 3
              have N4 := N4.alloc (.cells #[.int .i64 (-9), .int .i64 (-9)] 3)
              have T0 := T0.alloc (.cells #[.int .i64 (-9), .int .i64 (-9)] 3)
              have L0 := L0.alloc (.cells #[.int .i64 (-9), .int .i64 (-9)] 3)
              have S0 := S0.alloc (.cells #[.int .i64 (-9), .int .i64 (-9)] 3)
              have G0 := G0.step (World.grownBy_alloc X1 (.cells #[.int .i64 (-9), .int .i64 (-9)] 3) none) (by simp)
              obtain ⟨A8, hA8⟩ : ∃ A, X1.heap.size = A := ⟨_, rfl⟩
              obtain ⟨X7, hX7⟩ : ∃ Y, X1.alloc (.cells #[.int .i64 (-9), .int .i64 (-9)] 3) = Y := ⟨_, rfl⟩
              rw [hA8] at N8 ⊢
              rw [hX7] at T0 L0 S0 G0 N8 N4 ⊢
              clear hX7 hA8
              refine ⟨fun _ => T0, ?_⟩
              try simp only [Act.put, List.getElem_toArray, List.getElem_cons_zero, List.getElem_cons_succ, List.setIfInBounds_toArray, List.set_cons_zero, List.set_cons_succ]
              refine wpAnyG_all (rs := [5]) (by kernel_rfl) (by simp) ?_
              intro i hi_
              simp only [List.mem_cons, List.not_mem_nil, or_false] at hi_
              subst hi_
              refine wpOp_now rfl rfl ?_
              have hb5 := G0.2.2.2.1
              refine opwp_append_at _ _ 22 rfl base 79 j0 (.agg #[.int .i64 0, .int .i64 0]) 2 16 Try.underlying22 hj hy0 hy1 hy2 rfl (by decide) (.slice ol n cl) n xs rfl L0 ⟨A4, 0, none⟩ 2 2 [.int .i64 (-9), .int .i64 0, .int .i64 0, .int .i64 0] rfl rfl (World.news_of_block (cs := #[.int .i64 (-9), .int .i64 0, .int .i64 0, .int .i64 0]) (t := 79) (fr := (0, 0)) N4) (fun x hx => by simp at hx; rcases hx with rfl | rfl | rfl | rfl <;> rfl) (by unfold maxLen; omega) (by omega) (by omega) ?_
              intro v5 X8 H5 hg5 hw5
              have hw5 : v5.ownBlock = (Value.slice ol n cl).ownBlock ∨ ∃ z, v5.ownBlock = some z ∧ w.heap.size ≤ z := hw5.imp id (fun h => ⟨_, h, hb5⟩)
              have G0 := G0.step hg5 (fun r e => .inl e.symm)
              have S0 := S0.kept hg5 (rows_apart S0 L0 ne_IR)
              have N8 := N8.kept hg5 (N8.not_row ne_IR L0)
              have T0 := T0.kept hg5 (T0.not_row (by decide) L0)
              clear L0 N4 hg5
              obtain ⟨o5, c5, rfl, ho5⟩ := own_slice H5
              obtain ⟨g5, rfl⟩ := ho5 (by omega)
              clear ho5
              refine ⟨fun _ => T0, ?_⟩
              try simp only [Act.put, List.getElem_toArray, List.getElem_cons_zero, List.getElem_cons_succ, List.setIfInBounds_toArray, List.set_cons_zero, List.set_cons_succ]
              refine wpAnyG_all (rs := [9]) (by kernel_rfl) (by simp) ?_
              intro i hi_
              simp only [List.mem_cons, List.not_mem_nil, or_false] at hi_
              subst hi_
              refine wpOp_now rfl rfl ?_
              have hb9 := G0.2.2.2.1
              refine opwp_append_at _ _ 23 rfl base 3 i0 (.int .i64 0) 1 8 Try.underlying23 hi hz0 hz1 hz2 rfl (by decide) (.slice os m cs) m ys rfl S0 ⟨A8, 0, none⟩ 2 2 [.int .i64 (-9), .int .i64 (-9)] rfl rfl (World.news_of_block (cs := #[.int .i64 (-9), .int .i64 (-9)]) (t := 3) (fr := (0, 0)) N8) (fun x hx => by simp at hx; rcases hx with rfl | rfl <;> rfl) (by unfold maxLen; omega) (by omega) (by omega) ?_
              intro v9 X9 H9 hg9 hw9
              have hw9 : v9.ownBlock = (Value.slice os m cs).ownBlock ∨ ∃ z, v9.ownBlock = some z ∧ w.heap.size ≤ z := hw9.imp id (fun h => ⟨_, h, hb9⟩)
              have G0 := G0.step hg9 (fun r e => .inr (.inl e.symm))
              have H5 := H5.kept hg9 (rows_apart H5 S0 ne_RI)
              have T0 := T0.kept hg9 (T0.not_row (by decide) S0)
              clear S0 N8 hg9
              obtain ⟨o9, c9, rfl, ho9⟩ := own_slice H9
              obtain ⟨g9, rfl⟩ := ho9 (by omega)
              clear ho9
              refine ⟨fun _ => T0, ?_⟩
              try simp only [Act.put, List.getElem_toArray, List.getElem_cons_zero, List.getElem_cons_succ, List.setIfInBounds_toArray, List.set_cons_zero, List.set_cons_succ]
              refine wpAnyG_all (rs := [10]) (by kernel_rfl) (by simp) ?_
              intro i hi_
              simp only [List.mem_cons, List.not_mem_nil, or_false] at hi_
              subst hi_
              refine wpOp_now rfl rfl ?_
              go_simp
              refine ⟨fun _ => T0, ?_⟩
              try simp only [Act.put, List.getElem_toArray, List.getElem_cons_zero, List.getElem_cons_succ, List.setIfInBounds_toArray, List.set_cons_zero, List.set_cons_succ]
              refine wpAnyG_all (rs := [11]) (by kernel_rfl) (by simp) ?_
              intro i hi_
              simp only [List.mem_cons, List.not_mem_nil, or_false] at hi_
              subst hi_
              refine wpOp_now rfl rfl ?_
              go_simp
              refine ⟨fun _ => T0, ?_⟩
              try simp only [Act.put, List.getElem_toArray, List.getElem_cons_zero, List.getElem_cons_succ, List.setIfInBounds_toArray, List.set_cons_zero, List.set_cons_succ]
              refine wpAnyG_done (by kernel_rfl) ?_ _
              refine NoPanic.normal ?_
              obtain ⟨u5, hu5⟩ : ∃ u, X9.cell? ⟨g5, 0, none⟩ = some u := ⟨_, (H5.cellAt 0 (by omega)).trans (List.getElem?_eq_getElem (by rw [H5.1]; omega))⟩
              obtain ⟨u9, hu9⟩ : ∃ u, X9.cell? ⟨g9, 0, none⟩ = some u := ⟨_, (H9.cellAt 0 (by omega)).trans (List.getElem?_eq_getElem (by rw [H9.1]; omega))⟩
              have f5 := own_freeK H5 0
              have f9 := own_freeK H9 0
              have hne : g5 ≠ g9 := by have := rows_apart H5 H9 ne_RI; simpa [Value.ownBlock] using this
              have hne2 : g9 ≠ g5 := fun e => hne e.symm
              have hend : Gr2 w ((X9.setCell ⟨g5, 0, none⟩ (.int .i64 (-9))).setCell ⟨g9, 0, none⟩ (.int .i64 (-9))) (Value.slice ol n cl).ownBlock (Value.slice os m cs).ownBlock := by
                refine (G0.step (grownBy_setCell _ g5 0 _) (fun r e => ?_)).step (grownBy_setCell _ g9 0 _) (fun r e => ?_)
                · cases e
                  rcases hw5 with h | ⟨z, h, h'⟩
                  · exact .inl h
                  · have : g5 = z := by simpa [Value.ownBlock] using h
                    exact .inr (.inr (by omega))
                · cases e
                  rcases hw9 with h | ⟨z, h, h'⟩
                  · exact .inr (.inl h)
                  · have : g9 = z := by simpa [Value.ownBlock] using h
                    exact .inr (.inr (by omega))
              have HZ := Lib.hid hend
              clear hend G0 H5 H9 hw5 hw9 T0
              go_wp2
              go_end0
              exact ⟨rfl, HZ.out⟩
          · refine wpOp_now rfl rfl ?_
            go_simp
            have N8 := Blk.new X0 #[.int .i64 (-9), .int .i64 (-9)] 3
            have T0 := T0.alloc (.cells #[.int .i64 (-9), .int .i64 (-9)] 3)
            have L0 := L0.alloc (.cells #[.int .i64 (-9), .int .i64 (-9)] 3)
            have S0 := S0.alloc (.cells #[.int .i64 (-9), .int .i64 (-9)] 3)
            have G0 := G0.step (World.grownBy_alloc X0 (.cells #[.int .i64 (-9), .int .i64 (-9)] 3) none) (by simp)
            obtain ⟨A8, hA8⟩ : ∃ A, X0.heap.size = A := ⟨_, rfl⟩
            obtain ⟨X12, hX12⟩ : ∃ Y, X0.alloc (.cells #[.int .i64 (-9), .int .i64 (-9)] 3) = Y := ⟨_, rfl⟩
            rw [hA8] at N8 ⊢
            rw [hX12] at T0 L0 S0 G0 N8  ⊢
            clear hX12 hA8
            refine ⟨fun _ => T0, ?_⟩
            try simp only [Act.put, List.getElem_toArray, List.getElem_cons_zero, List.getElem_cons_succ, List.setIfInBounds_toArray, List.set_cons_zero, List.set_cons_succ]
            refine wpAnyG_all (rs := [4]) (by kernel_rfl) (by simp) ?_
            intro i hi_
            simp only [List.mem_cons, List.not_mem_nil, or_false] at hi_
            subst hi_
            refine wpOp_now rfl rfl ?_
            go_simp
            have N4 := Blk.new X12 #[.int .i64 (-9), .int .i64 0, .int .i64 0, .int .i64 0] 79
            have N8 := N8.alloc (.cells #[.int .i64 (-9), .int .i64 0, .int .i64 0, .int .i64 0] 79)
            have T0 := T0.alloc (.cells #[.int .i64 (-9), .int .i64 0, .int .i64 0, .int .i64 0] 79)
            have L0 := L0.alloc (.cells #[.int .i64 (-9), .int .i64 0, .int .i64 0, .int .i64 0] 79)
            have S0 := S0.alloc (.cells #[.int .i64 (-9), .int .i64 0, .int .i64 0, .int .i64 0] 79)
            have G0 := G0.step (World.grownBy_alloc X12 (.cells #[.int .i64 (-9), .int .i64 0, .int .i64 0, .int .i64 0] 79) none) (by simp)
            obtain ⟨A4, hA4⟩ : ∃ A, X12.heap.size = A := ⟨_, rfl⟩
            obtain ⟨X13, hX13⟩ : ∃ Y, X12.alloc (.cells #[.int .i64 (-9), .int .i64 0, .int .i64 0, .int .i64 0] 79) = Y := ⟨_, rfl⟩
            rw [hA4] at N4 ⊢
            rw [hX13] at T0 L0 S0 G0 N4 N8 ⊢
            clear hX13 hA4
            refine ⟨fun _ => T0, ?_⟩
            try simp only [Act.put, List.getElem_toArray, List.getElem_cons_zero, List.getElem_cons_succ, List.setIfInBounds_toArray, List.set_cons_zero, List.set_cons_succ]
            refine wpAnyG_all (rs := [5]) (by kernel_rfl) (by simp) ?_
            intro i hi_
            simp only [List.mem_cons, List.not_mem_nil, or_false] at hi_
            subst hi_
            refine wpOp_now rfl rfl ?_
            have hb5 := G0.2.2.2.1
            refine opwp_append_at _ _ 22 rfl base 79 j0 (.agg #[.int .i64 0, .int .i64 0]) 2 16 Try.underlying22 hj hy0 hy1 hy2 rfl (by decide) (.slice ol n cl) n xs rfl L0 ⟨A4, 0, none⟩ 2 2 [.int .i64 (-9), .int .i64 0, .int .i64 0, .int .i64 0] rfl rfl (World.news_of_block (cs := #[.int .i64 (-9), .int .i64 0, .int .i64 0, .int .i64 0]) (t := 79) (fr := (0, 0)) N4) (fun x hx => by simp at hx; rcases hx with rfl | rfl | rfl | rfl <;> rfl) (by unfold maxLen; omega) (by omega) (by omega) ?_
            intro v5 X14 H5 hg5 hw5
            have hw5 : v5.ownBlock = (Value.slice ol n cl).ownBlock ∨ ∃ z, v5.ownBlock = some z ∧ w.heap.size ≤ z := hw5.imp id (fun h => ⟨_, h, hb5⟩)
            have G0 := G0.step hg5 (fun r e => .inl e.symm)
            have S0 := S0.kept hg5 (rows_apart S0 L0 ne_IR)
            have N8 := N8.kept hg5 (N8.not_row ne_IR L0)
            have T0 := T0.kept hg5 (T0.not_row (by decide) L0)
            clear L0 N4 hg5
            obtain ⟨o5, c5, rfl, ho5⟩ := own_slice H5
            obtain ⟨g5, rfl⟩ := ho5 (by omega)
            clear ho5
            refine ⟨fun _ => T0, ?_⟩
            try simp only [Act.put, List.getElem_toArray, List.getElem_cons_zero, List.getElem_cons_succ, List.setIfInBounds_toArray, List.set_cons_zero, List.set_cons_succ]
            refine wpAnyG_all (rs := [9]) (by kernel_rfl) (by simp) ?_
            intro i hi_
            simp only [List.mem_cons, List.not_mem_nil, or_false] at hi_
            subst hi_
            refine wpOp_now rfl rfl ?_
            have hb9 := G0.2.2.2.1
            refine opwp_append_at _ _ 23 rfl base 3 i0 (.int .i64 0) 1 8 Try.underlying23 hi hz0 hz1 hz2 rfl (by decide) (.slice os m cs) m ys rfl S0 ⟨A8, 0, none⟩ 2 2 [.int .i64 (-9), .int .i64 (-9)] rfl rfl (World.news_of_block (cs := #[.int .i64 (-9), .int .i64 (-9)]) (t := 3) (fr := (0, 0)) N8) (fun x hx => by simp at hx; rcases hx with rfl | rfl <;> rfl) (by unfold maxLen; omega) (by omega) (by omega) ?_
            intro v9 X15 H9 hg9 hw9
            have hw9 : v9.ownBlock = (Value.slice os m cs).ownBlock ∨ ∃ z, v9.ownBlock = some z ∧ w.heap.size ≤ z := hw9.imp id (fun h => ⟨_, h, hb9⟩)
            have G0 := G0.step hg9 (fun r e => .inr (.inl e.symm))
            have H5 := H5.kept hg9 (rows_apart H5 S0 ne_RI)
            have T0 := T0.kept hg9 (T0.not_row (by decide) S0)
            clear S0 N8 hg9
            obtain ⟨o9, c9, rfl, ho9⟩ := own_slice H9
            obtain ⟨g9, rfl⟩ := ho9 (by omega)
            clear ho9
            refine ⟨fun _ => T0, ?_⟩
            try simp only [Act.put, List.getElem_toArray, List.getElem_cons_zero, List.getElem_cons_succ, List.setIfInBounds_toArray, List.set_cons_zero, List.set_cons_succ]
            refine wpAnyG_all (rs := [10]) (by kernel_rfl) (by simp) ?_
            intro i hi_
            simp only [List.mem_cons, List.not_mem_nil, or_false] at hi_
            subst hi_
            refine wpOp_now rfl rfl ?_
            go_simp
            refine ⟨fun _ => T0, ?_⟩
            try simp only [Act.put, List.getElem_toArray, List.getElem_cons_zero, List.getElem_cons_succ, List.setIfInBounds_toArray, List.set_cons_zero, List.set_cons_succ]
            refine wpAnyG_all (rs := [11]) (by kernel_rfl) (by simp) ?_
            intro i hi_
            simp only [List.mem_cons, List.not_mem_nil, or_false] at hi_
            subst hi_
            refine wpOp_now rfl rfl ?_
            go_simp
            refine ⟨fun _ => T0, ?_⟩
            try simp only [Act.put, List.getElem_toArray, List.getElem_cons_zero, List.getElem_cons_succ, List.setIfInBounds_toArray, List.set_cons_zero, List.set_cons_succ]
            refine wpAnyG_done (by kernel_rfl) ?_ _
            refine NoPanic.normal ?_
            obtain ⟨u5, hu5⟩ : ∃ u, X15.cell? ⟨g5, 0, none⟩ = some u := ⟨_, (H5.cellAt 0 (by omega)).trans (List.getElem?_eq_getElem (by rw [H5.1]; omega))⟩
            obtain ⟨u9, hu9⟩ : ∃ u, X15.cell? ⟨g9, 0, none⟩ = some u := ⟨_, (H9.cellAt 0 (by omega)).trans (List.getElem?_eq_getElem (by rw [H9.1]; omega))⟩
            have f5 := own_freeK H5 0
            have f9 := own_freeK H9 0
            have hne : g5 ≠ g9 := by have := rows_apart H5 H9 ne_RI; simpa [Value.ownBlock] using this
            have hne2 : g9 ≠ g5 := fun e => hne e.symm
            have hend : Gr2 w ((X15.setCell ⟨g5, 0, none⟩ (.int .i64 (-9))).setCell ⟨g9, 0, none⟩ (.int .i64 (-9))) (Value.slice ol n cl).ownBlock (Value.slice os m cs).ownBlock := by
              refine (G0.step (grownBy_setCell _ g5 0 _) (fun r e => ?_)).step (grownBy_setCell _ g9 0 _) (fun r e => ?_)
              · cases e
                rcases hw5 with h | ⟨z, h, h'⟩
                · exact .inl h
                · have : g5 = z := by simpa [Value.ownBlock] using h
                  exact .inr (.inr (by omega))
              · cases e
                rcases hw9 with h | ⟨z, h, h'⟩
                · exact .inr (.inl h)
                · have : g9 = z := by simpa [Value.ownBlock] using h
                  exact .inr (.inr (by omega))
            have HZ := Lib.hid hend
            clear hend G0 H5 H9 hw5 hw9 T0
            go_wp2
            go_end0
            exact ⟨rfl, HZ.out⟩
end Go.Proofs.Ytdcmkiggnmajgaa
