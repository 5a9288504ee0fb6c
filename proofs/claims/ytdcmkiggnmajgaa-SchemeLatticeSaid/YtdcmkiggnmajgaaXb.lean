/- Stage 16: Copy, the document's. -/
import Derived.Test.YtdcmkiggnmajgaaVs
import Derived.Test.YtdcmkiggnmajgaaCg
import Derived.Laws.MakeOwn
namespace Go.Proofs.Ytdcmkiggnmajgaa
set_option linter.unusedVariables false
set_option linter.unusedSimpArgs false
open Go Go.RowKit Go.Shelf
set_option maxRecDepth 100000

/-- make(.., 0, c) as one operation of a region. -/
theorem opwp_make {P : Program} {o : Oper} {K : Act → World → Prop} {Q : Exit → Act → World → Prop} {a : Act} {w : World} (t : TypeId) (l c : Operand) (ho : o.op = .makeSlice t l c)
    (base : Nat) (e : TypeId) (i : TypeInfo) (z : Value) (size : Nat) (ht : P.underlying t = some (.slice e)) (hi : P.info? e = some i) (hz : i.zero = some z) (hsize : i.size = size)
    (n : Nat) (hl : a.eval l = .int .i64 0) (hc : a.eval c = .int .i64 (n : Int)) (hbytes : i.bytes * n ≤ 281474976710656) (h63 : n ≤ maxLen) (hbase : base ≤ w.heap.size)
    (h : ∀ w', w'.ownsRow base e size (.slice (some ⟨w.heap.size, 0, none⟩) 0 n) 0 [] → w.grownBy w' none → K (a.put o.dst (.slice (some ⟨w.heap.size, 0, none⟩) 0 n)) w') : o.wp P a w K Q := by
  obtain ⟨w', hr, h2, h3⟩ := run_make_own (P := P) w base t e i z size ht hi hz hsize .i64 .i64 n hbytes h63 hbase
  unfold Oper.wp execOp
  simp only [ho, resolve, invoke, builtin, Sem.run_bind, Sem.run_pure, Result.andThen_ok, List.map_toArray, List.map_cons, List.map_nil, hl, hc, hr]
  exact h w' h2 h3
/-- 'append(.., l...)' of a list that came in, as one operation of a region. -/
theorem opwp_append_src {α : Type} {enc : α → List Value} {size : Nat} (hk : ∀ x, (enc x).length = size) {P : Program} {o : Oper} {K : Act → World → Prop} {Q : Exit → Act → World → Prop} {a : Act} {w : World} (s x : Operand) (t : TypeId)
    (ho : o.op = .call { callee := .builtin .append, args := #[s, x], argTypes := #[t, t] })
    (base : Nat) (e : TypeId) (i : TypeInfo) (z : Value) (bytes : Nat) (ht : P.underlying t = some (.slice e)) (hi : P.info? e = some i) (hz : i.zero = some z)
    (hsize : i.size = size) (hby : i.bytes = bytes) (hzs : z.cells.size = size) (hsz : 0 < size)
    (v : Value) (n : Nat) (xs : List Value) (hs : a.eval s = v) (hown : w.ownsRow base e size v n xs)
    (l : List α) (oa : Option Addr) (c : Nat) (hf : NForm oa l.length c) (hr : RowAt w enc size oa l) (hone : ∀ u ∈ l.flatMap enc, u.oneCell' = true) (hx : a.eval x = .slice oa l.length c)
    (h63 : n + l.length ≤ maxLen) (hbytes : (n + l.length) * bytes ≤ 140737488355328) (hbase : base ≤ w.heap.size)
    (h : ∀ v' w', w'.ownsRow base e size v' (n + l.length) (xs ++ l.flatMap enc) → w.grownBy w' v.ownBlock → K (a.put o.dst v') w') : o.wp P a w K Q := by
  rcases hf with ⟨rfl, rfl, h0⟩ | ⟨ad, rfl, _, _⟩
  · obtain rfl : l = [] := List.eq_nil_of_length_eq_zero h0
    have hrun := run_append_owned_none (P := P) (w := w) base t o.type e i size ht hi v n xs hown
    unfold Oper.wp execOp
    simp only [ho, resolve, invoke, builtin, Sem.run_bind, Sem.run_pure, Result.andThen_ok, List.map_toArray, List.map_cons, List.map_nil, hs, hx, hrun, List.length_nil]
    exact h v w (by simpa using hown) ⟨rfl, rfl, rfl, Nat.le_refl _, fun _ _ _ => rfl⟩
  · have hnews : ∀ j u, (l.flatMap enc)[j]? = some u → w.cell? (ad.add j) = some u := by
      intro j u hu
      have h0 : 0 < l.length := by
        cases l with
        | nil => simp at hu
        | cons x r => simp
      obtain ⟨y, hy⟩ : ∃ x, l[0]? = some x := ⟨_, List.getElem?_eq_getElem h0⟩
      obtain ⟨g, off, e, _⟩ := hr 0 y hy
      cases e
      exact rowAt_news hk hsz hr j u hu
    exact opwp_append s x t ho base e i z size bytes ht hi hz hsize hby hzs hsz v n xs hs hown ad l.length c (l.flatMap enc) hx (fl_len hk l) hnews hone h63 hbytes hbase h
theorem kept_none (v : Value) : v.ownBlock = none ∨ v.ownBlock ≠ none := by cases h : v.ownBlock <;> simp
theorem below_row {w0 W w' : World} {row : Option Nat} (h : Below w0.heap.size w0 W) (hg : W.grownBy w' row) (hr : ∀ r, row = some r → w0.heap.size ≤ r) : Below w0.heap.size w0 w' := h.grown hg h.size hr

set_option maxHeartbeats 8000000 in
theorem copy_any (s : Sc) (ol os : Option Addr) (cl cs : Nat) (hfl : NForm ol s.L.length cl) (hfs : NForm os s.S.length cs) (h1 : s.L.length ≤ 8796093021952) (h3 : s.S.length ≤ 17592186043904) (w : World) (hr : RowAt w encR 2 ol s.L) (ht : RowAt w encI 1 os s.S) :
    Calls Try.prog 31 #[.agg #[.slice ol s.L.length cl, .slice os s.S.length cs]] w fun e w' => ∃ vl vs, e = .returned (.agg #[vl, vs]) ∧ w'.ownsRow w.heap.size 79 2 vl s.L.length (s.L.flatMap encR) ∧ w'.ownsRow w.heap.size 3 1 vs s.S.length (s.S.flatMap encI) ∧ Below w.heap.size w w' := by
  obtain ⟨i0, hi, hz0, hz1, hz2⟩ := info_parts infoInt
  obtain ⟨j0, hj, hy0, hy1, hy2⟩ := info_parts infoRhyme
  have hB0 := ((Below.refl _ w).alloc (Nat.le_refl _) (.cells #[.slice ol s.L.length cl, .slice os s.S.length cs] 25)).alloc (by simp) (.cells #[.slice none 0 0, .slice none 0 0] 25)
  have b1 := (Blk.new w #[.slice ol s.L.length cl, .slice os s.S.length cs] 25).alloc (.cells #[.slice none 0 0, .slice none 0 0] 25)
  have b2 := Blk.new (w.alloc (.cells #[.slice ol s.L.length cl, .slice os s.S.length cs] 25)) #[.slice none 0 0, .slice none 0 0] 25
  rw [World.size_alloc] at b2
  obtain ⟨W1, hW1⟩ : ∃ W1, (w.alloc (.cells #[.slice ol s.L.length cl, .slice os s.S.length cs] 25)).alloc (.cells #[.slice none 0 0, .slice none 0 0] 25) = W1 := ⟨_, rfl⟩
  rw [hW1] at hB0 b1 b2
  have c0 : W1.cell? ⟨w.heap.size, 0, none⟩ = some (.slice ol s.L.length cl) := b1.cell 0
  have c1 : W1.cell? ⟨w.heap.size, 1, none⟩ = some (.slice os s.S.length cs) := b1.cell 1
  have HW := Lib.hid (And.intro hB0 (And.intro b2 (And.intro (hr.below encR_len (by decide) hB0) (ht.below encI_len (by decide) hB0))))
  have hw2 : w.heap.size + 2 ≤ W1.heap.size := by have := b2.lt; omega
  clear hB0 b1 b2 hr ht
  go_enter Try.func31, Try.ntmps31
  go_wp2_with (fail)
  try rw [hW1]
  clear hW1
  refine wp_region_noPanic ?_
  refine wp_region_g (S := untilG [17] (fun X => Below W1.heap.size W1 X)) (by kernel_rfl) ?_
  have T0 : Below W1.heap.size W1 W1.drew := (Below.refl _ _).drew
  obtain ⟨X0, hX0⟩ : ∃ X, W1.drew = X := ⟨_, rfl⟩
  rw [hX0] at T0 ⊢
  clear hX0
  have s1 : IntKind.i64.wrap ((s.L.length : Int) + 3) = ((s.L.length + 3 : Nat) : Int) := IntWalk.i64_in _ (by omega)
  have s2 : IntKind.i64.wrap ((s.S.length : Int) + 3) = ((s.S.length + 3 : Nat) : Int) := IntWalk.i64_in _ (by omega)
  refine wpAnyG_take [0, 1, 2, 3, 4, 7, 16, 17] (i := 0) (v := (.pointer (some ⟨w.heap.size, 0, none⟩))) rfl (by kernel_rfl) (by kernel_rfl) (by kernel_rfl) (by kernel_rfl) (by kernel_rfl) (by kernel_rfl) (by kernel_rfl) (by kernel_rfl) (fun _ _ _ h => h) (Or.inl ⟨by rfl, ?hy⟩) T0 ?_
  case hy =>
    intro X hX
    go_simp
  try simp only [Act.put, List.getElem_toArray, List.getElem_cons_zero, List.getElem_cons_succ, List.setIfInBounds_toArray, List.set_cons_zero, List.set_cons_succ]
  refine wpAnyG_take [1, 2, 3, 4, 7, 16, 17] (i := 1) (v := (.slice ol s.L.length cl)) rfl (by kernel_rfl) (by kernel_rfl) (by kernel_rfl) (by kernel_rfl) (by kernel_rfl) (by kernel_rfl) (by kernel_rfl) (by kernel_rfl) (fun _ _ _ h => h) (Or.inl ⟨by rfl, ?hy⟩) T0 ?_
  case hy =>
    intro X hX
    have e0 := at_below c0 hX
    go_simp
  try simp only [Act.put, List.getElem_toArray, List.getElem_cons_zero, List.getElem_cons_succ, List.setIfInBounds_toArray, List.set_cons_zero, List.set_cons_succ]
  refine wpAnyG_take [2, 3, 4, 7, 16, 17] (i := 2) (v := (.int .i64 (s.L.length : Nat))) rfl (by kernel_rfl) (by kernel_rfl) (by kernel_rfl) (by kernel_rfl) (by kernel_rfl) (by kernel_rfl) (by kernel_rfl) (by kernel_rfl) (fun _ _ _ h => h) (Or.inl ⟨by rfl, ?hy⟩) T0 ?_
  case hy =>
    intro X hX
    go_simp
  try simp only [Act.put, List.getElem_toArray, List.getElem_cons_zero, List.getElem_cons_succ, List.setIfInBounds_toArray, List.set_cons_zero, List.set_cons_succ]
  refine wpAnyG_take [3, 4, 7, 16, 17] (i := 3) (v := (.int .i64 ((s.L.length + 3 : Nat) : Int))) rfl (by kernel_rfl) (by kernel_rfl) (by kernel_rfl) (by kernel_rfl) (by kernel_rfl) (by kernel_rfl) (by kernel_rfl) (by kernel_rfl) (fun _ _ _ h => h) (Or.inl ⟨by rfl, ?hy⟩) T0 ?_
  case hy =>
    intro X hX
    (first | (go_simp; done) | (go_simp; exact s1) | (go_simp; rw [s1]))
  try simp only [Act.put, List.getElem_toArray, List.getElem_cons_zero, List.getElem_cons_succ, List.setIfInBounds_toArray, List.set_cons_zero, List.set_cons_succ]
  refine wpAnyG_take [5, 6, 7, 16, 17] (i := 5) (v := (.pointer (some ⟨w.heap.size, 0, none⟩))) rfl (by kernel_rfl) (by kernel_rfl) (by kernel_rfl) (by kernel_rfl) (by kernel_rfl) (by kernel_rfl) (by kernel_rfl) (by kernel_rfl) (fun _ _ _ h => h) (Or.inl ⟨by rfl, ?hy⟩) T0 ?_
  case hy =>
    intro X hX
    go_simp
  try simp only [Act.put, List.getElem_toArray, List.getElem_cons_zero, List.getElem_cons_succ, List.setIfInBounds_toArray, List.set_cons_zero, List.set_cons_succ]
  refine wpAnyG_take [6, 7, 16, 17] (i := 6) (v := (.slice ol s.L.length cl)) rfl (by kernel_rfl) (by kernel_rfl) (by kernel_rfl) (by kernel_rfl) (by kernel_rfl) (by kernel_rfl) (by kernel_rfl) (by kernel_rfl) (fun _ _ _ h => h) (Or.inl ⟨by rfl, ?hy⟩) T0 ?_
  case hy =>
    intro X hX
    have e0 := at_below c0 hX
    go_simp
  try simp only [Act.put, List.getElem_toArray, List.getElem_cons_zero, List.getElem_cons_succ, List.setIfInBounds_toArray, List.set_cons_zero, List.set_cons_succ]
  refine wpAnyG_take [8, 9, 10, 11, 12, 15, 16, 17] (i := 8) (v := (.pointer (some ⟨w.heap.size, 1, none⟩))) rfl (by kernel_rfl) (by kernel_rfl) (by kernel_rfl) (by kernel_rfl) (by kernel_rfl) (by kernel_rfl) (by kernel_rfl) (by kernel_rfl) (fun _ _ _ h => h) (Or.inl ⟨by rfl, ?hy⟩) T0 ?_
  case hy =>
    intro X hX
    go_simp
  try simp only [Act.put, List.getElem_toArray, List.getElem_cons_zero, List.getElem_cons_succ, List.setIfInBounds_toArray, List.set_cons_zero, List.set_cons_succ]
  refine wpAnyG_take [9, 10, 11, 12, 15, 16, 17] (i := 9) (v := (.slice os s.S.length cs)) rfl (by kernel_rfl) (by kernel_rfl) (by kernel_rfl) (by kernel_rfl) (by kernel_rfl) (by kernel_rfl) (by kernel_rfl) (by kernel_rfl) (fun _ _ _ h => h) (Or.inl ⟨by rfl, ?hy⟩) T0 ?_
  case hy =>
    intro X hX
    have e0 := at_below c1 hX
    go_simp
  try simp only [Act.put, List.getElem_toArray, List.getElem_cons_zero, List.getElem_cons_succ, List.setIfInBounds_toArray, List.set_cons_zero, List.set_cons_succ]
  refine wpAnyG_take [10, 11, 12, 15, 16, 17] (i := 10) (v := (.int .i64 (s.S.length : Nat))) rfl (by kernel_rfl) (by kernel_rfl) (by kernel_rfl) (by kernel_rfl) (by kernel_rfl) (by kernel_rfl) (by kernel_rfl) (by kernel_rfl) (fun _ _ _ h => h) (Or.inl ⟨by rfl, ?hy⟩) T0 ?_
  case hy =>
    intro X hX
    go_simp
  try simp only [Act.put, List.getElem_toArray, List.getElem_cons_zero, List.getElem_cons_succ, List.setIfInBounds_toArray, List.set_cons_zero, List.set_cons_succ]
  refine wpAnyG_take [11, 12, 15, 16, 17] (i := 11) (v := (.int .i64 ((s.S.length + 3 : Nat) : Int))) rfl (by kernel_rfl) (by kernel_rfl) (by kernel_rfl) (by kernel_rfl) (by kernel_rfl) (by kernel_rfl) (by kernel_rfl) (by kernel_rfl) (fun _ _ _ h => h) (Or.inl ⟨by rfl, ?hy⟩) T0 ?_
  case hy =>
    intro X hX
    (first | (go_simp; done) | (go_simp; exact s2) | (go_simp; rw [s2]))
  try simp only [Act.put, List.getElem_toArray, List.getElem_cons_zero, List.getElem_cons_succ, List.setIfInBounds_toArray, List.set_cons_zero, List.set_cons_succ]
  refine wpAnyG_take [13, 14, 15, 16, 17] (i := 13) (v := (.pointer (some ⟨w.heap.size, 1, none⟩))) rfl (by kernel_rfl) (by kernel_rfl) (by kernel_rfl) (by kernel_rfl) (by kernel_rfl) (by kernel_rfl) (by kernel_rfl) (by kernel_rfl) (fun _ _ _ h => h) (Or.inl ⟨by rfl, ?hy⟩) T0 ?_
  case hy =>
    intro X hX
    go_simp
  try simp only [Act.put, List.getElem_toArray, List.getElem_cons_zero, List.getElem_cons_succ, List.setIfInBounds_toArray, List.set_cons_zero, List.set_cons_succ]
  refine wpAnyG_take [14, 15, 16, 17] (i := 14) (v := (.slice os s.S.length cs)) rfl (by kernel_rfl) (by kernel_rfl) (by kernel_rfl) (by kernel_rfl) (by kernel_rfl) (by kernel_rfl) (by kernel_rfl) (by kernel_rfl) (fun _ _ _ h => h) (Or.inl ⟨by rfl, ?hy⟩) T0 ?_
  case hy =>
    intro X hX
    have e0 := at_below c1 hX
    go_simp
  try simp only [Act.put, List.getElem_toArray, List.getElem_cons_zero, List.getElem_cons_succ, List.setIfInBounds_toArray, List.set_cons_zero, List.set_cons_succ]
  refine wpAnyG_all (rs := [4, 12]) (by kernel_rfl) (by simp) ?_
  intro i hii
  simp only [List.mem_cons, List.not_mem_nil, or_false] at hii
  rcases hii with rfl | rfl
  · skip
    refine wpOp_now rfl rfl ?_
    refine opwp_make 22 _ _ rfl W1.heap.size 79 j0 (.agg #[.int .i64 0, .int .i64 0]) 2 Try.underlying22 hj hy0 hy1 (s.L.length + 3) rfl rfl (by rw [hy2]; omega) (by unfold maxLen; omega) T0.size ?_
    intro Y4 h4 hg4
    replace T0 := below_row T0 hg4 (fun r e => by cases e)
    clear hg4
    refine ⟨fun _ => T0, ?_⟩
    try simp only [Act.put, List.getElem_toArray, List.getElem_cons_zero, List.getElem_cons_succ, List.setIfInBounds_toArray, List.set_cons_zero, List.set_cons_succ]
    refine wpAnyG_all (rs := [7, 12]) (by kernel_rfl) (by simp) ?_
    intro i hii
    simp only [List.mem_cons, List.not_mem_nil, or_false] at hii
    rcases hii with rfl | rfl
    · skip
      refine wpOp_now rfl rfl ?_
      refine opwp_append_src encR_len _ _ 22 rfl W1.heap.size 79 j0 (.agg #[.int .i64 0, .int .i64 0]) 16 Try.underlying22 hj hy0 hy1 hy2 rfl (by decide) _ _ _ rfl h4 s.L ol cl hfl (HW.out.2.2.1.below encR_len (by decide) T0) (encR_one _) rfl (by unfold maxLen; omega) (by omega) T0.size ?_
      intro v7 Y7 h7 hg7
      rw [Nat.zero_add, List.nil_append] at h7
      replace T0 := below_row T0 hg7 (fun r e => (h4.lt r e).1)
      obtain ⟨o7, c7, rfl, _⟩ := own_slice h7
      clear hg7 h4
      refine ⟨fun _ => T0, ?_⟩
      try simp only [Act.put, List.getElem_toArray, List.getElem_cons_zero, List.getElem_cons_succ, List.setIfInBounds_toArray, List.set_cons_zero, List.set_cons_succ]
      refine wpAnyG_all (rs := [12]) (by kernel_rfl) (by simp) ?_
      intro i hii
      simp only [List.mem_cons, List.not_mem_nil, or_false] at hii
      subst hii
      refine wpOp_now rfl rfl ?_
      refine opwp_make 23 _ _ rfl W1.heap.size 3 i0 (.int .i64 0) 1 Try.underlying23 hi hz0 hz1 (s.S.length + 3) rfl rfl (by rw [hz2]; omega) (by unfold maxLen; omega) T0.size ?_
      intro Y12 h12 hg12
      replace h7 := h7.kept hg12 (kept_none _)
      replace T0 := below_row T0 hg12 (fun r e => by cases e)
      clear hg12
      refine ⟨fun _ => T0, ?_⟩
      try simp only [Act.put, List.getElem_toArray, List.getElem_cons_zero, List.getElem_cons_succ, List.setIfInBounds_toArray, List.set_cons_zero, List.set_cons_succ]
      refine wpAnyG_all (rs := [15]) (by kernel_rfl) (by simp) ?_
      intro i hii
      simp only [List.mem_cons, List.not_mem_nil, or_false] at hii
      subst hii
      refine wpOp_now rfl rfl ?_
      refine opwp_append_src encI_len _ _ 23 rfl W1.heap.size 3 i0 (.int .i64 0) 8 Try.underlying23 hi hz0 hz1 hz2 rfl (by decide) _ _ _ rfl h12 s.S os cs hfs (HW.out.2.2.2.below encI_len (by decide) T0) (encI_one _) rfl (by unfold maxLen; omega) (by omega) T0.size ?_
      intro v15 Y15 h15 hg15
      rw [Nat.zero_add, List.nil_append] at h15
      replace h7 := h7.kept hg15 (rows_apart h7 h12 ne_RI)
      replace T0 := below_row T0 hg15 (fun r e => (h12.lt r e).1)
      obtain ⟨o15, c15, rfl, _⟩ := own_slice h15
      clear hg15 h12
      refine ⟨fun _ => T0, ?_⟩
      try simp only [Act.put, List.getElem_toArray, List.getElem_cons_zero, List.getElem_cons_succ, List.setIfInBounds_toArray, List.set_cons_zero, List.set_cons_succ]
      refine wpAnyG_take [16, 17] (i := 16) (v := (.agg #[.slice o7 s.L.length c7, .slice o15 s.S.length c15])) rfl (by kernel_rfl) (by kernel_rfl) (by kernel_rfl) (by kernel_rfl) (by kernel_rfl) (by kernel_rfl) (by kernel_rfl) (by kernel_rfl) (fun _ _ _ h => h) (Or.inl ⟨by rfl, ?hy⟩) T0 ?_
      case hy =>
        intro X hX
        go_simp
      try simp only [Act.put, List.getElem_toArray, List.getElem_cons_zero, List.getElem_cons_succ, List.setIfInBounds_toArray, List.set_cons_zero, List.set_cons_succ]
      have hlo : w.heap.size + 2 ≤ W1.heap.size := hw2
      have b5 := HW.out.2.1.below' T0
      have f0 := b5.frozen 0
      have f1 := b5.frozen 1
      have z0 : Y15.cell? ⟨w.heap.size + 1, 0, none⟩ = some (.slice none 0 0) := b5.cell 0
      have z1 : Y15.cell? ⟨w.heap.size + 1, 1, none⟩ = some (.slice none 0 0) := b5.cell 1
      have b6 := (b5.set 0 (.slice o7 s.L.length c7)).set 1 (.slice o15 s.S.length c15)
      have g0 := b6.cell 0
      have g1 := b6.cell 1
      simp only [List.setIfInBounds_toArray, List.set_cons_zero, List.set_cons_succ, List.getElem?_toArray, List.getElem?_cons_succ, List.getElem?_cons_zero] at g0 g1
      have r0 := own_base (own_low (own_low h7 (by omega : w.heap.size + 1 < W1.heap.size) 0 (.slice o7 s.L.length c7)) (by omega : w.heap.size + 1 < W1.heap.size) 1 (.slice o15 s.S.length c15)) (by omega : w.heap.size ≤ W1.heap.size)
      have r1 := own_base (own_low (own_low h15 (by omega : w.heap.size + 1 < W1.heap.size) 0 (.slice o7 s.L.length c7)) (by omega : w.heap.size + 1 < W1.heap.size) 1 (.slice o15 s.S.length c15)) (by omega : w.heap.size ≤ W1.heap.size)
      have hBB := HW.out.1.trans (T0.mono HW.out.1.size)
      have rB := (hBB.setCell (p := ⟨w.heap.size + 1, 0, none⟩) (Nat.le_succ _) (.slice o7 s.L.length c7)).setCell (p := ⟨w.heap.size + 1, 1, none⟩) (Nat.le_succ _) (.slice o15 s.S.length c15)
      obtain ⟨F, hF⟩ : ∃ F, (Y15.setCell ⟨w.heap.size + 1, 0, none⟩ (.slice o7 s.L.length c7)).setCell ⟨w.heap.size + 1, 1, none⟩ (.slice o15 s.S.length c15) = F := ⟨_, rfl⟩
      rw [hF] at g0 g1 r0 r1 rB
      have HE := Lib.hid (And.intro r0 (And.intro r1 rB))
      clear b5 b6 r0 r1 rB hBB
      refine wpAnyG_all (rs := [17]) (by kernel_rfl) (by simp) ?_
      intro i hi17
      simp only [List.mem_cons, List.not_mem_nil, or_false] at hi17
      subst hi17
      refine wpOp_now rfl rfl ?_
      go_simp
      try rw [hF]
      refine ⟨fun h => (nomatch (show (false : Bool) = true from h)), ?_⟩
      try simp only [Act.put, List.getElem_toArray, List.getElem_cons_zero, List.getElem_cons_succ, List.setIfInBounds_toArray, List.set_cons_zero, List.set_cons_succ]
      refine wpAnyG_done (by kernel_rfl) ?_ _
      refine NoPanic.normal ?_
      clear hF f0 f1 z0 z1
      go_wp2
      exact bodyPost_ret (v := .agg #[.slice o7 s.L.length c7, .slice o15 s.S.length c15]) (by simp [results, Try.f31, go_sem, g0, g1]) rfl ⟨_, _, rfl, HE.out.1, HE.out.2.1, HE.out.2.2⟩
    · skip
      refine wpOp_now rfl rfl ?_
      refine opwp_make 23 _ _ rfl W1.heap.size 3 i0 (.int .i64 0) 1 Try.underlying23 hi hz0 hz1 (s.S.length + 3) rfl rfl (by rw [hz2]; omega) (by unfold maxLen; omega) T0.size ?_
      intro Y12 h12 hg12
      replace h4 := h4.kept hg12 (kept_none _)
      replace T0 := below_row T0 hg12 (fun r e => by cases e)
      clear hg12
      refine ⟨fun _ => T0, ?_⟩
      try simp only [Act.put, List.getElem_toArray, List.getElem_cons_zero, List.getElem_cons_succ, List.setIfInBounds_toArray, List.set_cons_zero, List.set_cons_succ]
      refine wpAnyG_all (rs := [7]) (by kernel_rfl) (by simp) ?_
      intro i hii
      simp only [List.mem_cons, List.not_mem_nil, or_false] at hii
      subst hii
      refine wpOp_now rfl rfl ?_
      refine opwp_append_src encR_len _ _ 22 rfl W1.heap.size 79 j0 (.agg #[.int .i64 0, .int .i64 0]) 16 Try.underlying22 hj hy0 hy1 hy2 rfl (by decide) _ _ _ rfl h4 s.L ol cl hfl (HW.out.2.2.1.below encR_len (by decide) T0) (encR_one _) rfl (by unfold maxLen; omega) (by omega) T0.size ?_
      intro v7 Y7 h7 hg7
      rw [Nat.zero_add, List.nil_append] at h7
      replace h12 := h12.kept hg7 (rows_apart h12 h4 ne_IR)
      replace T0 := below_row T0 hg7 (fun r e => (h4.lt r e).1)
      obtain ⟨o7, c7, rfl, _⟩ := own_slice h7
      clear hg7 h4
      refine ⟨fun _ => T0, ?_⟩
      try simp only [Act.put, List.getElem_toArray, List.getElem_cons_zero, List.getElem_cons_succ, List.setIfInBounds_toArray, List.set_cons_zero, List.set_cons_succ]
      refine wpAnyG_all (rs := [15]) (by kernel_rfl) (by simp) ?_
      intro i hii
      simp only [List.mem_cons, List.not_mem_nil, or_false] at hii
      subst hii
      refine wpOp_now rfl rfl ?_
      refine opwp_append_src encI_len _ _ 23 rfl W1.heap.size 3 i0 (.int .i64 0) 8 Try.underlying23 hi hz0 hz1 hz2 rfl (by decide) _ _ _ rfl h12 s.S os cs hfs (HW.out.2.2.2.below encI_len (by decide) T0) (encI_one _) rfl (by unfold maxLen; omega) (by omega) T0.size ?_
      intro v15 Y15 h15 hg15
      rw [Nat.zero_add, List.nil_append] at h15
      replace h7 := h7.kept hg15 (rows_apart h7 h12 ne_RI)
      replace T0 := below_row T0 hg15 (fun r e => (h12.lt r e).1)
      obtain ⟨o15, c15, rfl, _⟩ := own_slice h15
      clear hg15 h12
      refine ⟨fun _ => T0, ?_⟩
      try simp only [Act.put, List.getElem_toArray, List.getElem_cons_zero, List.getElem_cons_succ, List.setIfInBounds_toArray, List.set_cons_zero, List.set_cons_succ]
      refine wpAnyG_take [16, 17] (i := 16) (v := (.agg #[.slice o7 s.L.length c7, .slice o15 s.S.length c15])) rfl (by kernel_rfl) (by kernel_rfl) (by kernel_rfl) (by kernel_rfl) (by kernel_rfl) (by kernel_rfl) (by kernel_rfl) (by kernel_rfl) (fun _ _ _ h => h) (Or.inl ⟨by rfl, ?hy⟩) T0 ?_
      case hy =>
        intro X hX
        go_simp
      try simp only [Act.put, List.getElem_toArray, List.getElem_cons_zero, List.getElem_cons_succ, List.setIfInBounds_toArray, List.set_cons_zero, List.set_cons_succ]
      have hlo : w.heap.size + 2 ≤ W1.heap.size := hw2
      have b5 := HW.out.2.1.below' T0
      have f0 := b5.frozen 0
      have f1 := b5.frozen 1
      have z0 : Y15.cell? ⟨w.heap.size + 1, 0, none⟩ = some (.slice none 0 0) := b5.cell 0
      have z1 : Y15.cell? ⟨w.heap.size + 1, 1, none⟩ = some (.slice none 0 0) := b5.cell 1
      have b6 := (b5.set 0 (.slice o7 s.L.length c7)).set 1 (.slice o15 s.S.length c15)
      have g0 := b6.cell 0
      have g1 := b6.cell 1
      simp only [List.setIfInBounds_toArray, List.set_cons_zero, List.set_cons_succ, List.getElem?_toArray, List.getElem?_cons_succ, List.getElem?_cons_zero] at g0 g1
      have r0 := own_base (own_low (own_low h7 (by omega : w.heap.size + 1 < W1.heap.size) 0 (.slice o7 s.L.length c7)) (by omega : w.heap.size + 1 < W1.heap.size) 1 (.slice o15 s.S.length c15)) (by omega : w.heap.size ≤ W1.heap.size)
      have r1 := own_base (own_low (own_low h15 (by omega : w.heap.size + 1 < W1.heap.size) 0 (.slice o7 s.L.length c7)) (by omega : w.heap.size + 1 < W1.heap.size) 1 (.slice o15 s.S.length c15)) (by omega : w.heap.size ≤ W1.heap.size)
      have hBB := HW.out.1.trans (T0.mono HW.out.1.size)
      have rB := (hBB.setCell (p := ⟨w.heap.size + 1, 0, none⟩) (Nat.le_succ _) (.slice o7 s.L.length c7)).setCell (p := ⟨w.heap.size + 1, 1, none⟩) (Nat.le_succ _) (.slice o15 s.S.length c15)
      obtain ⟨F, hF⟩ : ∃ F, (Y15.setCell ⟨w.heap.size + 1, 0, none⟩ (.slice o7 s.L.length c7)).setCell ⟨w.heap.size + 1, 1, none⟩ (.slice o15 s.S.length c15) = F := ⟨_, rfl⟩
      rw [hF] at g0 g1 r0 r1 rB
      have HE := Lib.hid (And.intro r0 (And.intro r1 rB))
      clear b5 b6 r0 r1 rB hBB
      refine wpAnyG_all (rs := [17]) (by kernel_rfl) (by simp) ?_
      intro i hi17
      simp only [List.mem_cons, List.not_mem_nil, or_false] at hi17
      subst hi17
      refine wpOp_now rfl rfl ?_
      go_simp
      try rw [hF]
      refine ⟨fun h => (nomatch (show (false : Bool) = true from h)), ?_⟩
      try simp only [Act.put, List.getElem_toArray, List.getElem_cons_zero, List.getElem_cons_succ, List.setIfInBounds_toArray, List.set_cons_zero, List.set_cons_succ]
      refine wpAnyG_done (by kernel_rfl) ?_ _
      refine NoPanic.normal ?_
      clear hF f0 f1 z0 z1
      go_wp2
      exact bodyPost_ret (v := .agg #[.slice o7 s.L.length c7, .slice o15 s.S.length c15]) (by simp [results, Try.f31, go_sem, g0, g1]) rfl ⟨_, _, rfl, HE.out.1, HE.out.2.1, HE.out.2.2⟩
  · skip
    refine wpOp_now rfl rfl ?_
    refine opwp_make 23 _ _ rfl W1.heap.size 3 i0 (.int .i64 0) 1 Try.underlying23 hi hz0 hz1 (s.S.length + 3) rfl rfl (by rw [hz2]; omega) (by unfold maxLen; omega) T0.size ?_
    intro Y12 h12 hg12
    replace T0 := below_row T0 hg12 (fun r e => by cases e)
    clear hg12
    refine ⟨fun _ => T0, ?_⟩
    try simp only [Act.put, List.getElem_toArray, List.getElem_cons_zero, List.getElem_cons_succ, List.setIfInBounds_toArray, List.set_cons_zero, List.set_cons_succ]
    refine wpAnyG_all (rs := [4]) (by kernel_rfl) (by simp) ?_
    intro i hii
    simp only [List.mem_cons, List.not_mem_nil, or_false] at hii
    subst hii
    refine wpOp_now rfl rfl ?_
    refine opwp_make 22 _ _ rfl W1.heap.size 79 j0 (.agg #[.int .i64 0, .int .i64 0]) 2 Try.underlying22 hj hy0 hy1 (s.L.length + 3) rfl rfl (by rw [hy2]; omega) (by unfold maxLen; omega) T0.size ?_
    intro Y4 h4 hg4
    replace h12 := h12.kept hg4 (kept_none _)
    replace T0 := below_row T0 hg4 (fun r e => by cases e)
    clear hg4
    refine ⟨fun _ => T0, ?_⟩
    try simp only [Act.put, List.getElem_toArray, List.getElem_cons_zero, List.getElem_cons_succ, List.setIfInBounds_toArray, List.set_cons_zero, List.set_cons_succ]
    refine wpAnyG_all (rs := [7]) (by kernel_rfl) (by simp) ?_
    intro i hii
    simp only [List.mem_cons, List.not_mem_nil, or_false] at hii
    subst hii
    refine wpOp_now rfl rfl ?_
    refine opwp_append_src encR_len _ _ 22 rfl W1.heap.size 79 j0 (.agg #[.int .i64 0, .int .i64 0]) 16 Try.underlying22 hj hy0 hy1 hy2 rfl (by decide) _ _ _ rfl h4 s.L ol cl hfl (HW.out.2.2.1.below encR_len (by decide) T0) (encR_one _) rfl (by unfold maxLen; omega) (by omega) T0.size ?_
    intro v7 Y7 h7 hg7
    rw [Nat.zero_add, List.nil_append] at h7
    replace h12 := h12.kept hg7 (rows_apart h12 h4 ne_IR)
    replace T0 := below_row T0 hg7 (fun r e => (h4.lt r e).1)
    obtain ⟨o7, c7, rfl, _⟩ := own_slice h7
    clear hg7 h4
    refine ⟨fun _ => T0, ?_⟩
    try simp only [Act.put, List.getElem_toArray, List.getElem_cons_zero, List.getElem_cons_succ, List.setIfInBounds_toArray, List.set_cons_zero, List.set_cons_succ]
    refine wpAnyG_all (rs := [15]) (by kernel_rfl) (by simp) ?_
    intro i hii
    simp only [List.mem_cons, List.not_mem_nil, or_false] at hii
    subst hii
    refine wpOp_now rfl rfl ?_
    refine opwp_append_src encI_len _ _ 23 rfl W1.heap.size 3 i0 (.int .i64 0) 8 Try.underlying23 hi hz0 hz1 hz2 rfl (by decide) _ _ _ rfl h12 s.S os cs hfs (HW.out.2.2.2.below encI_len (by decide) T0) (encI_one _) rfl (by unfold maxLen; omega) (by omega) T0.size ?_
    intro v15 Y15 h15 hg15
    rw [Nat.zero_add, List.nil_append] at h15
    replace h7 := h7.kept hg15 (rows_apart h7 h12 ne_RI)
    replace T0 := below_row T0 hg15 (fun r e => (h12.lt r e).1)
    obtain ⟨o15, c15, rfl, _⟩ := own_slice h15
    clear hg15 h12
    refine ⟨fun _ => T0, ?_⟩
    try simp only [Act.put, List.getElem_toArray, List.getElem_cons_zero, List.getElem_cons_succ, List.setIfInBounds_toArray, List.set_cons_zero, List.set_cons_succ]
    refine wpAnyG_take [16, 17] (i := 16) (v := (.agg #[.slice o7 s.L.length c7, .slice o15 s.S.length c15])) rfl (by kernel_rfl) (by kernel_rfl) (by kernel_rfl) (by kernel_rfl) (by kernel_rfl) (by kernel_rfl) (by kernel_rfl) (by kernel_rfl) (fun _ _ _ h => h) (Or.inl ⟨by rfl, ?hy⟩) T0 ?_
    case hy =>
      intro X hX
      go_simp
    try simp only [Act.put, List.getElem_toArray, List.getElem_cons_zero, List.getElem_cons_succ, List.setIfInBounds_toArray, List.set_cons_zero, List.set_cons_succ]
    have hlo : w.heap.size + 2 ≤ W1.heap.size := hw2
    have b5 := HW.out.2.1.below' T0
    have f0 := b5.frozen 0
    have f1 := b5.frozen 1
    have z0 : Y15.cell? ⟨w.heap.size + 1, 0, none⟩ = some (.slice none 0 0) := b5.cell 0
    have z1 : Y15.cell? ⟨w.heap.size + 1, 1, none⟩ = some (.slice none 0 0) := b5.cell 1
    have b6 := (b5.set 0 (.slice o7 s.L.length c7)).set 1 (.slice o15 s.S.length c15)
    have g0 := b6.cell 0
    have g1 := b6.cell 1
    simp only [List.setIfInBounds_toArray, List.set_cons_zero, List.set_cons_succ, List.getElem?_toArray, List.getElem?_cons_succ, List.getElem?_cons_zero] at g0 g1
    have r0 := own_base (own_low (own_low h7 (by omega : w.heap.size + 1 < W1.heap.size) 0 (.slice o7 s.L.length c7)) (by omega : w.heap.size + 1 < W1.heap.size) 1 (.slice o15 s.S.length c15)) (by omega : w.heap.size ≤ W1.heap.size)
    have r1 := own_base (own_low (own_low h15 (by omega : w.heap.size + 1 < W1.heap.size) 0 (.slice o7 s.L.length c7)) (by omega : w.heap.size + 1 < W1.heap.size) 1 (.slice o15 s.S.length c15)) (by omega : w.heap.size ≤ W1.heap.size)
    have hBB := HW.out.1.trans (T0.mono HW.out.1.size)
    have rB := (hBB.setCell (p := ⟨w.heap.size + 1, 0, none⟩) (Nat.le_succ _) (.slice o7 s.L.length c7)).setCell (p := ⟨w.heap.size + 1, 1, none⟩) (Nat.le_succ _) (.slice o15 s.S.length c15)
    obtain ⟨F, hF⟩ : ∃ F, (Y15.setCell ⟨w.heap.size + 1, 0, none⟩ (.slice o7 s.L.length c7)).setCell ⟨w.heap.size + 1, 1, none⟩ (.slice o15 s.S.length c15) = F := ⟨_, rfl⟩
    rw [hF] at g0 g1 r0 r1 rB
    have HE := Lib.hid (And.intro r0 (And.intro r1 rB))
    clear b5 b6 r0 r1 rB hBB
    refine wpAnyG_all (rs := [17]) (by kernel_rfl) (by simp) ?_
    intro i hi17
    simp only [List.mem_cons, List.not_mem_nil, or_false] at hi17
    subst hi17
    refine wpOp_now rfl rfl ?_
    go_simp
    try rw [hF]
    refine ⟨fun h => (nomatch (show (false : Bool) = true from h)), ?_⟩
    try simp only [Act.put, List.getElem_toArray, List.getElem_cons_zero, List.getElem_cons_succ, List.setIfInBounds_toArray, List.set_cons_zero, List.set_cons_succ]
    refine wpAnyG_done (by kernel_rfl) ?_ _
    refine NoPanic.normal ?_
    clear hF f0 f1 z0 z1
    go_wp2
    exact bodyPost_ret (v := .agg #[.slice o7 s.L.length c7, .slice o15 s.S.length c15]) (by simp [results, Try.f31, go_sem, g0, g1]) rfl ⟨_, _, rfl, HE.out.1, HE.out.2.1, HE.out.2.2⟩
end Go.Proofs.Ytdcmkiggnmajgaa
