/- Places: what a map tells: Byte, Unit. -/
import Derived.Test.YtjlfdoonhfkabaaQf
import Derived.BigQuiet
namespace Go.Proofs.Ytjlfdoonhfkabaa
set_option linter.unusedVariables false
set_option linter.unusedSimpArgs false
open Go Go.RowKit Go.Shelf
set_option maxRecDepth 100000

theorem asks_byte (s : ByteArray) (b : Nat) (x : Int) (w : World) (h : w.cell? ⟨b, 0, none⟩ = some (.int .i64 x)) : Asks s 40 #[.pointer (some ⟨b, 0, none⟩)] (fun p => decide ((p.b : Int) ≤ x)) w :=
  ⟨enters_of Try.func40 (by kernel_rfl) rfl, fun W k hW hk => byte1_any (pK s k) b x W (at_below h hW)⟩
theorem asks_first (s : ByteArray) (b : Nat) (x : Int) (w : World) (h : w.cell? ⟨b, 0, none⟩ = some (.int .i64 x)) : Asks s 52 #[.pointer (some ⟨b, 0, none⟩)] (fun p => decide ((p.b : Int) ≤ x)) w :=
  ⟨enters_of Try.func52 (by kernel_rfl) rfl, fun W k hW hk => first1_any (pK s k) b x W (at_below h hW)⟩
theorem asks_down (s : ByteArray) (b : Nat) (x : Int) (w : World) (h : w.cell? ⟨b, 0, none⟩ = some (.int .i64 x)) : Asks s 51 #[.pointer (some ⟨b, 0, none⟩)] (fun p => decide ((p.b : Int) ≤ x)) w :=
  ⟨enters_of Try.func51 (by kernel_rfl) rfl, fun W k hW hk => down1_any (pK s k) b x W (at_below h hW)⟩
theorem asks_unit (s : ByteArray) (b : Nat) (x : Int) (w : World) (h : w.cell? ⟨b, 0, none⟩ = some (.int .i64 x)) : Asks s 41 #[.pointer (some ⟨b, 0, none⟩)] (fun p => decide ((p.u : Int) ≤ x)) w :=
  ⟨enters_of Try.func41 (by kernel_rfl) rfl, fun W k hW hk => unit1_any (pK s k) b x W (at_below h hW)⟩
theorem asks_move (s : ByteArray) (b : Nat) (x : Int) (w : World) (h : w.cell? ⟨b, 0, none⟩ = some (.int .i64 x)) : Asks s 38 #[.pointer (some ⟨b, 0, none⟩)] (fun p => decide ((p.u : Int) ≤ x)) w :=
  ⟨enters_of Try.func38 (by kernel_rfl) rfl, fun W k hW hk => move1_any (pK s k) b x W (at_below h hW)⟩

/-- last, at a number of bytes; at a number of units. -/
theorem last_byte {s : ByteArray} (hs : s.size ≤ 65536) {m g : Nat} {cb : Array Value} {w : World} (hM : MapAt s m w) {x j : Nat} (hq : Asks s g cb (fun p => decide ((p.b : Int) ≤ (x : Int))) w) (hj : j ≤ nP s) (h1 : (pK s j).b ≤ x) (h2 : j < nP s → x < (pK s (j + 1)).b) :
    Calls Try.prog 37 #[.pointer (some ⟨m, 0, none⟩), .func (.func g) #[] cb] w fun e w' => e = .returned (plV (pK s j)) ∧ Below w.heap.size w w' := by
  have hm : ∀ a b, a ≤ b → b ≤ nP s → decide (((pK s b).b : Int) ≤ (x : Int)) = true → decide (((pK s a).b : Int) ≤ (x : Int)) = true := fun a b hab _ h => by
    have := pK_b_le s hab; rw [decide_eq_true_eq] at h ⊢; omega
  exact last_any s hs m g cb _ w hM hq hm (by simp [pK]) j hj (cntP_is hj hm (by rw [decide_eq_true_eq]; omega) (fun h => by have := h2 h; rw [decide_eq_false_iff_not]; omega))
theorem last_unit {s : ByteArray} (hs : s.size ≤ 65536) {m g : Nat} {cb : Array Value} {w : World} (hM : MapAt s m w) {x j : Nat} (hq : Asks s g cb (fun p => decide ((p.u : Int) ≤ (x : Int))) w) (hj : j ≤ nP s) (h1 : (pK s j).u ≤ x) (h2 : j < nP s → x < (pK s (j + 1)).u) :
    Calls Try.prog 37 #[.pointer (some ⟨m, 0, none⟩), .func (.func g) #[] cb] w fun e w' => e = .returned (plV (pK s j)) ∧ Below w.heap.size w w' := by
  have hm : ∀ a b, a ≤ b → b ≤ nP s → decide (((pK s b).u : Int) ≤ (x : Int)) = true → decide (((pK s a).u : Int) ≤ (x : Int)) = true := fun a b hab _ h => by
    have := pK_u_le s hab; rw [decide_eq_true_eq] at h ⊢; omega
  exact last_any s hs m g cb _ w hM hq hm (by simp [pK]) j hj (cntP_is hj hm (by rw [decide_eq_true_eq]; omega) (fun h => by have := h2 h; rw [decide_eq_false_iff_not]; omega))

theorem mapAt_text {s : ByteArray} {m : Nat} {W : World} (h : MapAt s m W) : W.cell? ⟨m, 0, none⟩ = some (.string s) := by
  obtain ⟨ga, ca, gb, cb, h1, _⟩ := h
  exact h1.cell 0

set_option maxHeartbeats 2000000 in
theorem byte_any (s : ByteArray) (hs : s.size ≤ 65536) (m : Nat) (w : World) (hM : MapAt s m w) (x : Nat) (hx : x ≤ s.size) (j : Nat) (hj : j ≤ nP s) (h1 : (pK s j).b ≤ x) (h2 : j < nP s → x < (pK s (j + 1)).b) :
    Calls Try.prog 17 #[.pointer (some ⟨m, 0, none⟩), .int .i64 x] w fun e w' => e = .returned (.tuple #[plV (pK s j), .int .i64 (x - (pK s j).b : Nat), .int .i64 0]) ∧ Below w.heap.size w w' := by
  have hx0 : decide ((x : Int) < 0) = false := decide_eq_false (by omega)
  have hx1 : decide ((s.size : Int) < (x : Int)) = false := decide_eq_false (by omega)
  have ht : ∀ o1 o2, ((w.alloc o1).alloc o2).cell? ⟨m, 0, none⟩ = some (.string s) := fun o1 o2 => at_below (mapAt_text hM) (((Below.refl _ w).alloc (Nat.le_refl _) _).alloc (by simp) _)
  have hB3 : ∀ o1 o2, Below w.heap.size w ((w.alloc o1).alloc o2) := fun o1 o2 => (((Below.refl _ w).alloc (Nat.le_refl _) _).alloc (by simp) _)
  have hL := fun (W0 : World) (hM0 : MapAt s m W0) (b : Nat) (hb : W0.cell? ⟨b, 0, none⟩ = some (.int .i64 x)) => last_byte hs hM0 (asks_byte s b x W0 hb) hj h1 h2
  obtain ⟨p, hp⟩ : ∃ p, pK s j = p := ⟨_, rfl⟩
  rw [hp] at h1 hL ⊢
  clear hp h2
  obtain ⟨pb, pk, pu, pl, pc⟩ := p
  simp only at h1
  have hsub : (x : Int) - (pb : Int) = ((x - pb : Nat) : Int) := by omega
  obtain ⟨q, hq⟩ : ∃ q, x - pb = q := ⟨_, rfl⟩
  rw [hq] at hsub ⊢
  have hql : q ≤ x := by omega
  have hwr : IntKind.i64.wrap (q : Int) = (q : Int) := IntWalk.i64_in _ (by omega)
  clear hq
  simp only [plV] at hL ⊢
  go_enter Try.func17, Try.ntmps17
  go_wp2
  go_quiet (fail)
  go_wp2_with fail
  have b0 := ((Boxed.new w 3 (.int .i64 x)).alloc (.cells #[.int .i64 0, .int .i64 0, .int .i64 0, .int .i64 0, .int .i64 0] 28))
  have b1 := Blk.new (w.alloc (.cells #[.int .i64 x] 3)) #[.int .i64 0, .int .i64 0, .int .i64 0, .int .i64 0, .int .i64 0] 28
  have bB := (hB3 (.cells #[.int .i64 x] 3) (.cells #[.int .i64 0, .int .i64 0, .int .i64 0, .int .i64 0, .int .i64 0] 28))
  have c0 : Boxed (((w.alloc (.cells #[.int .i64 x] 3)).alloc (.cells #[.int .i64 0, .int .i64 0, .int .i64 0, .int .i64 0, .int .i64 0] 28)).drewN nq) w.heap.size 3 (.int .i64 x) := b0
  have c1 : Blk (((w.alloc (.cells #[.int .i64 x] 3)).alloc (.cells #[.int .i64 0, .int .i64 0, .int .i64 0, .int .i64 0, .int .i64 0] 28)).drewN nq) (w.heap.size + 1) #[.int .i64 0, .int .i64 0, .int .i64 0, .int .i64 0, .int .i64 0] 28 := by
    have := b1; simp only [World.size_alloc] at this; exact this
  have cB : Below w.heap.size w (((w.alloc (.cells #[.int .i64 x] 3)).alloc (.cells #[.int .i64 0, .int .i64 0, .int .i64 0, .int .i64 0, .int .i64 0] 28)).drewN nq) := ⟨bB.os, bB.tape, bB.output, bB.size, bB.block⟩
  obtain ⟨W0, hW0⟩ : ∃ W0, (((w.alloc (.cells #[.int .i64 x] 3)).alloc (.cells #[.int .i64 0, .int .i64 0, .int .i64 0, .int .i64 0, .int .i64 0] 28)).drewN nq) = W0 := ⟨_, rfl⟩
  rw [hW0] at c0 c1 cB ⊢
  clear hW0 b0 b1 bB ht hB3
  refine (hL W0 (mapAt_below hM cB) w.heap.size c0.cell).mono ?_
  rintro e w2 ⟨rfl, hb2⟩
  have hB2 := cB.trans (hb2.mono cB.size)
  have z0 := c0.lt
  have d0 := (show Blk _ _ _ _ from c0).below' hb2
  have d1 := c1.below' hb2
  have e3 := d1.lt
  go_wp2
  have f0 := (d0.alloc (.cells #[.int .i64 pb, .int .i64 pk, .int .i64 pu, .int .i64 pl, .int .i64 pc] 28)).drew
  have f1 := (d1.alloc (.cells #[.int .i64 pb, .int .i64 pk, .int .i64 pu, .int .i64 pl, .int .i64 pc] 28)).drew
  have f2 := (Blk.new w2 #[.int .i64 pb, .int .i64 pk, .int .i64 pu, .int .i64 pl, .int .i64 pc] 28).drew
  have fB := (hB2.alloc hB2.size (.cells #[.int .i64 pb, .int .i64 pk, .int .i64 pu, .int .i64 pl, .int .i64 pc] 28)).drew
  refine wp_region_noPanic ?_
  refine wp_region_g (S := untilG [] (fun X => X.cell? ⟨w.heap.size, 0, none⟩ = some (.int .i64 x) ∧ ∀ o, X.cell? ⟨w2.heap.size, o, none⟩ = ([.int .i64 pb, .int .i64 pk, .int .i64 pu, .int .i64 pl, .int .i64 pc] : List Value)[o]?)) (by kernel_rfl) ?_
  obtain ⟨X0, hX0⟩ : ∃ X, (w2.alloc (.cells #[.int .i64 pb, .int .i64 pk, .int .i64 pu, .int .i64 pl, .int .i64 pc] 28)).drew = X := ⟨_, rfl⟩
  rw [hX0] at f0 f1 f2 fB ⊢
  have hbw := hB2.size
  clear hX0 hL d0 d1 c0 c1 cB hb2 hB2 hM
  have T0 : X0.cell? ⟨w.heap.size, 0, none⟩ = some (.int .i64 x) ∧ ∀ o, X0.cell? ⟨w2.heap.size, o, none⟩ = ([.int .i64 pb, .int .i64 pk, .int .i64 pu, .int .i64 pl, .int .i64 pc] : List Value)[o]? := ⟨f0.cell 0, fun o => by have := f2.cell o; simpa using this⟩
  refine wpAnyG_take [0] (i := 0) (v := (.agg #[.int .i64 pb, .int .i64 pk, .int .i64 pu, .int .i64 pl, .int .i64 pc])) rfl (by kernel_rfl) (by kernel_rfl) (by kernel_rfl) (by kernel_rfl) (by kernel_rfl) (by kernel_rfl) (by kernel_rfl) (by kernel_rfl) (fun _ _ _ h => h) (Or.inl ⟨by rfl, ?hy⟩) T0 ?_
  case hy =>
    intro X hX
    have hX1 := hX.2
    go_simp
  try simp only [Act.put, List.getElem_toArray, List.getElem_cons_zero, List.getElem_cons_succ, List.setIfInBounds_toArray, List.set_cons_zero, List.set_cons_succ]
  refine wpAnyG_take [1] (i := 1) (v := (.int .i64 x)) rfl (by kernel_rfl) (by kernel_rfl) (by kernel_rfl) (by kernel_rfl) (by kernel_rfl) (by kernel_rfl) (by kernel_rfl) (by kernel_rfl) (fun _ _ _ h => h) (Or.inl ⟨by rfl, ?hy⟩) T0 ?_
  case hy =>
    intro X hX
    have hX1 := hX.1
    go_simp
  try simp only [Act.put, List.getElem_toArray, List.getElem_cons_zero, List.getElem_cons_succ, List.setIfInBounds_toArray, List.set_cons_zero, List.set_cons_succ]
  refine wpAnyG_take [2] (i := 2) (v := (.pointer (some ⟨w2.heap.size, 0, none⟩))) rfl (by kernel_rfl) (by kernel_rfl) (by kernel_rfl) (by kernel_rfl) (by kernel_rfl) (by kernel_rfl) (by kernel_rfl) (by kernel_rfl) (fun _ _ _ h => h) (Or.inl ⟨by rfl, ?hy⟩) T0 ?_
  case hy =>
    intro X hX
    skip
    go_simp
  try simp only [Act.put, List.getElem_toArray, List.getElem_cons_zero, List.getElem_cons_succ, List.setIfInBounds_toArray, List.set_cons_zero, List.set_cons_succ]
  refine wpAnyG_take [3] (i := 3) (v := (.int .i64 pb)) rfl (by kernel_rfl) (by kernel_rfl) (by kernel_rfl) (by kernel_rfl) (by kernel_rfl) (by kernel_rfl) (by kernel_rfl) (by kernel_rfl) (fun _ _ _ h => h) (Or.inl ⟨by rfl, ?hy⟩) T0 ?_
  case hy =>
    intro X hX
    have hX1 := hX.2
    go_simp
  try simp only [Act.put, List.getElem_toArray, List.getElem_cons_zero, List.getElem_cons_succ, List.setIfInBounds_toArray, List.set_cons_zero, List.set_cons_succ]
  refine wpAnyG_take [4] (i := 4) (v := (.int .i64 q)) rfl (by kernel_rfl) (by kernel_rfl) (by kernel_rfl) (by kernel_rfl) (by kernel_rfl) (by kernel_rfl) (by kernel_rfl) (by kernel_rfl) (fun _ _ _ h => h) (Or.inl ⟨by rfl, ?hy⟩) T0 ?_
  case hy =>
    intro X hX
    skip
    go_simp
  try simp only [Act.put, List.getElem_toArray, List.getElem_cons_zero, List.getElem_cons_succ, List.setIfInBounds_toArray, List.set_cons_zero, List.set_cons_succ]
  have f3 := f1.frozen
  have f4 := f1.cell
  have f5 := f1.lt
  refine wpAnyG_all (rs := [5]) (by kernel_rfl) (by simp) ?_
  intro i hi
  simp only [List.mem_cons, List.not_mem_nil, or_false] at hi
  subst hi
  refine wpOp_now rfl rfl ?_
  go_simp
  have g0 := ((((f0.other (B' := w.heap.size + 1) (by omega) 0 (.int .i64 pb)).other (B' := w.heap.size + 1) (by omega) 1 (.int .i64 pk)).other (B' := w.heap.size + 1) (by omega) 2 (.int .i64 pu)).other (B' := w.heap.size + 1) (by omega) 3 (.int .i64 pl)).other (B' := w.heap.size + 1) (by omega) 4 (.int .i64 pc)
  have g2 := ((((f2.other (B' := w.heap.size + 1) (by omega) 0 (.int .i64 pb)).other (B' := w.heap.size + 1) (by omega) 1 (.int .i64 pk)).other (B' := w.heap.size + 1) (by omega) 2 (.int .i64 pu)).other (B' := w.heap.size + 1) (by omega) 3 (.int .i64 pl)).other (B' := w.heap.size + 1) (by omega) 4 (.int .i64 pc)
  have g1 := ((((f1.set 0 (.int .i64 pb)).set 1 (.int .i64 pk)).set 2 (.int .i64 pu)).set 3 (.int .i64 pl)).set 4 (.int .i64 pc)
  have gB := ((((fB.setCell (p := ⟨w.heap.size + 1, 0, none⟩) (by dsimp only; omega) (.int .i64 pb)).setCell (p := ⟨w.heap.size + 1, 1, none⟩) (by dsimp only; omega) (.int .i64 pk)).setCell (p := ⟨w.heap.size + 1, 2, none⟩) (by dsimp only; omega) (.int .i64 pu)).setCell (p := ⟨w.heap.size + 1, 3, none⟩) (by dsimp only; omega) (.int .i64 pl)).setCell (p := ⟨w.heap.size + 1, 4, none⟩) (by dsimp only; omega) (.int .i64 pc)
  obtain ⟨X1, hX1⟩ : ∃ X1, ((((X0.setCell ⟨w.heap.size + 1, 0, none⟩ (.int .i64 pb)).setCell ⟨w.heap.size + 1, 1, none⟩ (.int .i64 pk)).setCell ⟨w.heap.size + 1, 2, none⟩ (.int .i64 pu)).setCell ⟨w.heap.size + 1, 3, none⟩ (.int .i64 pl)).setCell ⟨w.heap.size + 1, 4, none⟩ (.int .i64 pc) = X1 := ⟨_, rfl⟩
  rw [hX1] at g0 g1 g2 gB ⊢
  clear hX1
  have T0 : X1.cell? ⟨w.heap.size, 0, none⟩ = some (.int .i64 x) ∧ ∀ o, X1.cell? ⟨w2.heap.size, o, none⟩ = ([.int .i64 pb, .int .i64 pk, .int .i64 pu, .int .i64 pl, .int .i64 pc] : List Value)[o]? := ⟨g0.cell 0, fun o => by have := g2.cell o; simpa using this⟩
  refine ⟨fun _ => T0, ?_⟩
  try simp only [Act.put, List.getElem_toArray, List.getElem_cons_zero, List.getElem_cons_succ, List.setIfInBounds_toArray, List.set_cons_zero, List.set_cons_succ]
  refine wpAnyG_take [6] (i := 6) (v := (.int .i64 q)) rfl (by kernel_rfl) (by kernel_rfl) (by kernel_rfl) (by kernel_rfl) (by kernel_rfl) (by kernel_rfl) (by kernel_rfl) (by kernel_rfl) (fun _ _ _ h => h) (Or.inl ⟨by rfl, ?hy⟩) T0 ?_
  case hy =>
    intro X hX
    skip
    go_simp
  try simp only [Act.put, List.getElem_toArray, List.getElem_cons_zero, List.getElem_cons_succ, List.setIfInBounds_toArray, List.set_cons_zero, List.set_cons_succ]
  refine wpAnyG_take [7] (i := 7) (v := (.int .i64 0)) rfl (by kernel_rfl) (by kernel_rfl) (by kernel_rfl) (by kernel_rfl) (by kernel_rfl) (by kernel_rfl) (by kernel_rfl) (by kernel_rfl) (fun _ _ _ h => h) (Or.inl ⟨by rfl, ?hy⟩) T0 ?_
  case hy =>
    intro X hX
    skip
    go_simp
  try simp only [Act.put, List.getElem_toArray, List.getElem_cons_zero, List.getElem_cons_succ, List.setIfInBounds_toArray, List.set_cons_zero, List.set_cons_succ]
  refine wpAnyG_done (by kernel_rfl) ?_ _
  refine NoPanic.normal ?_
  have k1 := g1.cell
  have k2 := g1.lt
  simp at k1
  go_wp2
  refine bodyPost_ret (v := .tuple #[.agg #[.int .i64 pb, .int .i64 pk, .int .i64 pu, .int .i64 pl, .int .i64 pc], .int .i64 q, .int .i64 0]) (by simp [results, Try.f17, go_sem, k1, k2]) rfl ⟨rfl, gB⟩

theorem field_u (a b c d e : Value) (X : World) (h : c.cells = #[c]) : (Instr.field 28 (.agg #[a, b, c, d, e]) 2).run Try.prog X = .ok c X := by kernel_rfl
theorem field_k (a b c d e : Value) (X : World) : (Instr.field 28 (.agg #[a, b, c, d, e]) 1).run Try.prog X = .ok b X := by kernel_rfl

set_option maxHeartbeats 2000000 in
theorem end_any (s : ByteArray) (hs : s.size ≤ 65536) (m : Nat) (w : World) (hM : MapAt s m w) :
    Calls Try.prog 14 #[.pointer (some ⟨m, 0, none⟩)] w fun e w' => e = .returned (plV (pK s (nP s))) ∧ Below w.heap.size w w' := by
  obtain ⟨ga, ca, gb, cb', h1, h2, h3⟩ := hM
  have hc := map_cells h2 (Nat.le_refl _)
  have hmc := h1.cell 1
  simp only [List.getElem?_toArray, List.getElem?_cons_succ, List.getElem?_cons_zero] at hmc
  have hnP := nP_le s
  obtain ⟨p, hp⟩ : ∃ p, pK s (nP s) = p := ⟨_, rfl⟩
  rw [hp] at hc ⊢
  clear hp h2 h3
  obtain ⟨pb, pk, pu, pl, pc⟩ := p
  obtain ⟨d0, d1, d2, d3, d4⟩ := hc
  obtain ⟨n, hn⟩ : ∃ n, nP s = n := ⟨_, rfl⟩
  rw [hn] at hmc d0 d1 d2 d3 d4 hnP
  have i0 : (0 : Int) ≤ (n : Int) := by omega
  have i1 : (n : Int) < ((n + 1 : Nat) : Int) := by omega
  have i2 : (n : Int) < (n : Int) + 1 := by omega
  have i3 : ((n + 1 : Nat) : Int) - 1 = (n : Int) := by omega
  have i4 : (n : Int) + 1 - 1 = (n : Int) := by omega
  have i5 : IntKind.i64.wrap (n : Int) = (n : Int) := IntWalk.i64_in _ (by omega)
  clear h1 hn
  simp only [plV]
  have q1 := Blk.new w #[.int .i64 0, .int .i64 0, .int .i64 0, .int .i64 0, .int .i64 0] 28
  have qB : Below w.heap.size w (w.alloc (.cells #[.int .i64 0, .int .i64 0, .int .i64 0, .int .i64 0, .int .i64 0] 28)) := (Below.refl _ w).alloc (Nat.le_refl _) _
  go_enter Try.func14, Try.ntmps14
  go_wp2
  refine wp_region_noPanic ?_
  refine wp_region_g (S := untilG [] (fun X => Below w.heap.size w X)) (by kernel_rfl) ?_
  obtain ⟨X0, hX0⟩ : ∃ X, (w.alloc (.cells #[.int .i64 0, .int .i64 0, .int .i64 0, .int .i64 0, .int .i64 0] 28)).drew = X := ⟨_, rfl⟩
  have T0 : Below w.heap.size w X0 := hX0 ▸ qB.drew
  have f1 := q1.drew
  rw [hX0] at f1 ⊢
  clear hX0
  refine wpAnyG_take [0] (i := 0) (v := (.pointer (some ⟨m, 0, none⟩))) rfl (by kernel_rfl) (by kernel_rfl) (by kernel_rfl) (by kernel_rfl) (by kernel_rfl) (by kernel_rfl) (by kernel_rfl) (by kernel_rfl) (fun _ _ _ h => h) (Or.inl ⟨by rfl, ?hy⟩) T0 ?_
  case hy =>
    intro X hX
    skip
    go_simp
  try simp only [Act.put, List.getElem_toArray, List.getElem_cons_zero, List.getElem_cons_succ, List.setIfInBounds_toArray, List.set_cons_zero, List.set_cons_succ]
  refine wpAnyG_take [1] (i := 1) (v := (.pointer (some ⟨m, 0, none⟩))) rfl (by kernel_rfl) (by kernel_rfl) (by kernel_rfl) (by kernel_rfl) (by kernel_rfl) (by kernel_rfl) (by kernel_rfl) (by kernel_rfl) (fun _ _ _ h => h) (Or.inl ⟨by rfl, ?hy⟩) T0 ?_
  case hy =>
    intro X hX
    skip
    go_simp
  try simp only [Act.put, List.getElem_toArray, List.getElem_cons_zero, List.getElem_cons_succ, List.setIfInBounds_toArray, List.set_cons_zero, List.set_cons_succ]
  refine wpAnyG_take [2] (i := 2) (v := (.pointer (some ⟨m, 1, none⟩))) rfl (by kernel_rfl) (by kernel_rfl) (by kernel_rfl) (by kernel_rfl) (by kernel_rfl) (by kernel_rfl) (by kernel_rfl) (by kernel_rfl) (fun _ _ _ h => h) (Or.inl ⟨by rfl, ?hy⟩) T0 ?_
  case hy =>
    intro X hX
    skip
    go_simp
  try simp only [Act.put, List.getElem_toArray, List.getElem_cons_zero, List.getElem_cons_succ, List.setIfInBounds_toArray, List.set_cons_zero, List.set_cons_succ]
  refine wpAnyG_take [3] (i := 3) (v := (.slice (some ⟨ga, 0, none⟩) (n + 1) ca)) rfl (by kernel_rfl) (by kernel_rfl) (by kernel_rfl) (by kernel_rfl) (by kernel_rfl) (by kernel_rfl) (by kernel_rfl) (by kernel_rfl) (fun _ _ _ h => h) (Or.inl ⟨by rfl, ?hy⟩) T0 ?_
  case hy =>
    intro X hX
    have e1 := at_below hmc hX
    go_simp
  try simp only [Act.put, List.getElem_toArray, List.getElem_cons_zero, List.getElem_cons_succ, List.setIfInBounds_toArray, List.set_cons_zero, List.set_cons_succ]
  refine wpAnyG_take [4] (i := 4) (v := (.pointer (some ⟨m, 0, none⟩))) rfl (by kernel_rfl) (by kernel_rfl) (by kernel_rfl) (by kernel_rfl) (by kernel_rfl) (by kernel_rfl) (by kernel_rfl) (by kernel_rfl) (fun _ _ _ h => h) (Or.inl ⟨by rfl, ?hy⟩) T0 ?_
  case hy =>
    intro X hX
    skip
    go_simp
  try simp only [Act.put, List.getElem_toArray, List.getElem_cons_zero, List.getElem_cons_succ, List.setIfInBounds_toArray, List.set_cons_zero, List.set_cons_succ]
  refine wpAnyG_take [5] (i := 5) (v := (.pointer (some ⟨m, 0, none⟩))) rfl (by kernel_rfl) (by kernel_rfl) (by kernel_rfl) (by kernel_rfl) (by kernel_rfl) (by kernel_rfl) (by kernel_rfl) (by kernel_rfl) (fun _ _ _ h => h) (Or.inl ⟨by rfl, ?hy⟩) T0 ?_
  case hy =>
    intro X hX
    skip
    go_simp
  try simp only [Act.put, List.getElem_toArray, List.getElem_cons_zero, List.getElem_cons_succ, List.setIfInBounds_toArray, List.set_cons_zero, List.set_cons_succ]
  refine wpAnyG_take [6] (i := 6) (v := (.pointer (some ⟨m, 1, none⟩))) rfl (by kernel_rfl) (by kernel_rfl) (by kernel_rfl) (by kernel_rfl) (by kernel_rfl) (by kernel_rfl) (by kernel_rfl) (by kernel_rfl) (fun _ _ _ h => h) (Or.inl ⟨by rfl, ?hy⟩) T0 ?_
  case hy =>
    intro X hX
    skip
    go_simp
  try simp only [Act.put, List.getElem_toArray, List.getElem_cons_zero, List.getElem_cons_succ, List.setIfInBounds_toArray, List.set_cons_zero, List.set_cons_succ]
  refine wpAnyG_take [7] (i := 7) (v := (.slice (some ⟨ga, 0, none⟩) (n + 1) ca)) rfl (by kernel_rfl) (by kernel_rfl) (by kernel_rfl) (by kernel_rfl) (by kernel_rfl) (by kernel_rfl) (by kernel_rfl) (by kernel_rfl) (fun _ _ _ h => h) (Or.inl ⟨by rfl, ?hy⟩) T0 ?_
  case hy =>
    intro X hX
    have e1 := at_below hmc hX
    go_simp
  try simp only [Act.put, List.getElem_toArray, List.getElem_cons_zero, List.getElem_cons_succ, List.setIfInBounds_toArray, List.set_cons_zero, List.set_cons_succ]
  refine wpAnyG_take [8] (i := 8) (v := (.int .i64 (n + 1 : Nat))) rfl (by kernel_rfl) (by kernel_rfl) (by kernel_rfl) (by kernel_rfl) (by kernel_rfl) (by kernel_rfl) (by kernel_rfl) (by kernel_rfl) (fun _ _ _ h => h) (Or.inl ⟨by rfl, ?hy⟩) T0 ?_
  case hy =>
    intro X hX
    skip
    go_simp
  try simp only [Act.put, List.getElem_toArray, List.getElem_cons_zero, List.getElem_cons_succ, List.setIfInBounds_toArray, List.set_cons_zero, List.set_cons_succ]
  refine wpAnyG_take [9] (i := 9) (v := (.int .i64 n)) rfl (by kernel_rfl) (by kernel_rfl) (by kernel_rfl) (by kernel_rfl) (by kernel_rfl) (by kernel_rfl) (by kernel_rfl) (by kernel_rfl) (fun _ _ _ h => h) (Or.inl ⟨by rfl, ?hy⟩) T0 ?_
  case hy =>
    intro X hX
    skip
    go_simp
  try simp only [Act.put, List.getElem_toArray, List.getElem_cons_zero, List.getElem_cons_succ, List.setIfInBounds_toArray, List.set_cons_zero, List.set_cons_succ]
  refine wpAnyG_take [10] (i := 10) (v := (.pointer (some ⟨ga, n * 5, none⟩))) rfl (by kernel_rfl) (by kernel_rfl) (by kernel_rfl) (by kernel_rfl) (by kernel_rfl) (by kernel_rfl) (by kernel_rfl) (by kernel_rfl) (fun _ _ _ h => h) (Or.inl ⟨by rfl, ?hy⟩) T0 ?_
  case hy =>
    intro X hX
    skip
    go_simp
  try simp only [Act.put, List.getElem_toArray, List.getElem_cons_zero, List.getElem_cons_succ, List.setIfInBounds_toArray, List.set_cons_zero, List.set_cons_succ]
  refine wpAnyG_take [11] (i := 11) (v := (.agg #[.int .i64 pb, .int .i64 pk, .int .i64 pu, .int .i64 pl, .int .i64 pc])) rfl (by kernel_rfl) (by kernel_rfl) (by kernel_rfl) (by kernel_rfl) (by kernel_rfl) (by kernel_rfl) (by kernel_rfl) (by kernel_rfl) (fun _ _ _ h => h) (Or.inl ⟨by rfl, ?hy⟩) T0 ?_
  case hy =>
    intro X hX
    have e0 := at_below d0 hX
    have e1 := at_below d1 hX
    have e2 := at_below d2 hX
    have e3 := at_below d3 hX
    have e4 := at_below d4 hX
    go_simp
  try simp only [Act.put, List.getElem_toArray, List.getElem_cons_zero, List.getElem_cons_succ, List.setIfInBounds_toArray, List.set_cons_zero, List.set_cons_succ]
  have f3 := f1.frozen
  have f4 := f1.cell
  have f5 := f1.lt
  refine wpAnyG_all (rs := [12]) (by kernel_rfl) (by simp) ?_
  intro i hi
  simp only [List.mem_cons, List.not_mem_nil, or_false] at hi
  subst hi
  refine wpOp_now rfl rfl ?_
  go_simp
  have g1 := ((((f1.set 0 (.int .i64 pb)).set 1 (.int .i64 pk)).set 2 (.int .i64 pu)).set 3 (.int .i64 pl)).set 4 (.int .i64 pc)
  have gB := ((((T0.setCell (p := ⟨w.heap.size, 0, none⟩) (by dsimp only; omega) (.int .i64 pb)).setCell (p := ⟨w.heap.size, 1, none⟩) (by dsimp only; omega) (.int .i64 pk)).setCell (p := ⟨w.heap.size, 2, none⟩) (by dsimp only; omega) (.int .i64 pu)).setCell (p := ⟨w.heap.size, 3, none⟩) (by dsimp only; omega) (.int .i64 pl)).setCell (p := ⟨w.heap.size, 4, none⟩) (by dsimp only; omega) (.int .i64 pc)
  refine ⟨fun _ => gB, ?_⟩
  refine wpAnyG_done (by kernel_rfl) ?_ _
  refine NoPanic.normal ?_
  have k1 := g1.cell
  have k2 := g1.lt
  simp at k1
  obtain ⟨X1, hX1⟩ : ∃ X1, ((((X0.setCell ⟨w.heap.size, 0, none⟩ (.int .i64 pb)).setCell ⟨w.heap.size, 1, none⟩ (.int .i64 pk)).setCell ⟨w.heap.size, 2, none⟩ (.int .i64 pu)).setCell ⟨w.heap.size, 3, none⟩ (.int .i64 pl)).setCell ⟨w.heap.size, 4, none⟩ (.int .i64 pc) = X1 := ⟨_, rfl⟩
  rw [hX1] at gB k1 k2 ⊢
  clear hX1 f1 f3 f4 f5 T0 g1
  go_wp2
  refine bodyPost_ret (v := .agg #[.int .i64 pb, .int .i64 pk, .int .i64 pu, .int .i64 pl, .int .i64 pc]) (by simp [results, Try.f14, go_sem, k1, k2]) rfl ⟨rfl, gB⟩

set_option maxHeartbeats 2000000 in
theorem unit_any (s : ByteArray) (hs : s.size ≤ 65536) (m : Nat) (w : World) (hM : MapAt s m w) (x : Nat) (hx : x ≤ (pK s (nP s)).u) (j : Nat) (hj : j ≤ nP s) (h1 : (pK s j).u ≤ x) (h2 : j < nP s → x < (pK s (j + 1)).u) :
    Calls Try.prog 19 #[.pointer (some ⟨m, 0, none⟩), .int .i64 x] w fun e w' => e = .returned (.tuple #[plV (pK s j), .int .i64 (x - (pK s j).u : Nat), .int .i64 0]) ∧ Below w.heap.size w w' := by
  have hx0 : decide ((x : Int) < 0) = false := decide_eq_false (by omega)
  have hxe := hx
  have hxb := pK_u_bound s (nP s)
  have hnP := nP_le s
  have hx6 : x ≤ 131072 := by omega
  clear hxb hnP
  have hB3 : ∀ o1 o2, Below w.heap.size w ((w.alloc o1).alloc o2) := fun o1 o2 => (((Below.refl _ w).alloc (Nat.le_refl _) _).alloc (by simp) _)
  have hL := fun (W0 : World) (hM0 : MapAt s m W0) (b : Nat) (hb : W0.cell? ⟨b, 0, none⟩ = some (.int .i64 x)) => last_unit hs hM0 (asks_unit s b x W0 hb) hj h1 h2
  obtain ⟨p, hp⟩ : ∃ p, pK s j = p := ⟨_, rfl⟩
  rw [hp] at h1 hL ⊢
  clear hp h2
  obtain ⟨pb, pk, pu, pl, pc⟩ := p
  simp only at h1
  have hsub : (x : Int) - (pu : Int) = ((x - pu : Nat) : Int) := by omega
  obtain ⟨q, hq⟩ : ∃ q, x - pu = q := ⟨_, rfl⟩
  rw [hq] at hsub ⊢
  have hql : q ≤ x := by omega
  have hwr : IntKind.i64.wrap (q : Int) = (q : Int) := IntWalk.i64_in _ (by omega)
  clear hq
  simp only [plV] at hL ⊢
  go_enter Try.func19, Try.ntmps19
  go_wp2
  have b0 := ((Boxed.new w 3 (.int .i64 x)).alloc (.cells #[.int .i64 0, .int .i64 0, .int .i64 0, .int .i64 0, .int .i64 0] 28))
  have b1 := Blk.new (w.alloc (.cells #[.int .i64 x] 3)) #[.int .i64 0, .int .i64 0, .int .i64 0, .int .i64 0, .int .i64 0] 28
  have bB := (hB3 (.cells #[.int .i64 x] 3) (.cells #[.int .i64 0, .int .i64 0, .int .i64 0, .int .i64 0, .int .i64 0] 28)).drew
  have c0 := (show Blk _ _ _ _ from b0).drew
  have c1 := b1.drew
  simp only [World.size_alloc] at c1
  obtain ⟨X0, hX0⟩ : ∃ X, ((w.alloc (.cells #[.int .i64 x] 3)).alloc (.cells #[.int .i64 0, .int .i64 0, .int .i64 0, .int .i64 0, .int .i64 0] 28)).drew = X := ⟨_, rfl⟩
  refine wp_region_noPanic ?_
  refine wp_region_g (S := untilG [] (fun X => Below X0.heap.size X0 X)) (by kernel_rfl) ?_
  rw [hX0] at c0 c1 bB ⊢
  have T0 : Below X0.heap.size X0 X0 := Below.refl _ _
  have ct := c0.cell 0
  simp only [List.getElem?_toArray, List.getElem?_cons_zero] at ct
  clear hX0 b0 b1 hB3
  refine wpAnyG_take [0] (i := 0) (v := (.int .i64 x)) rfl (by kernel_rfl) (by kernel_rfl) (by kernel_rfl) (by kernel_rfl) (by kernel_rfl) (by kernel_rfl) (by kernel_rfl) (by kernel_rfl) (fun _ _ _ h => h) (Or.inl ⟨by rfl, ?hy⟩) T0 ?_
  case hy =>
    intro X hX
    have e1 := at_below ct hX
    go_simp
  try simp only [Act.put, List.getElem_toArray, List.getElem_cons_zero, List.getElem_cons_succ, List.setIfInBounds_toArray, List.set_cons_zero, List.set_cons_succ]
  refine wpAnyG_take [1] (i := 1) (v := (.bool false)) rfl (by kernel_rfl) (by kernel_rfl) (by kernel_rfl) (by kernel_rfl) (by kernel_rfl) (by kernel_rfl) (by kernel_rfl) (by kernel_rfl) (fun _ _ _ h => h) (Or.inl ⟨by rfl, ?hy⟩) T0 ?_
  case hy =>
    intro X hX
    skip
    go_simp
  try simp only [Act.put, List.getElem_toArray, List.getElem_cons_zero, List.getElem_cons_succ, List.setIfInBounds_toArray, List.set_cons_zero, List.set_cons_succ]
  refine wpAnyG_take [2] (i := 2) (v := (.bool false)) rfl (by kernel_rfl) (by kernel_rfl) (by kernel_rfl) (by kernel_rfl) (by kernel_rfl) (by kernel_rfl) (by kernel_rfl) (by kernel_rfl) (fun _ _ _ h => h) (Or.inl ⟨by rfl, ?hy⟩) T0 ?_
  case hy =>
    intro X hX
    skip
    go_simp
  try simp only [Act.put, List.getElem_toArray, List.getElem_cons_zero, List.getElem_cons_succ, List.setIfInBounds_toArray, List.set_cons_zero, List.set_cons_succ]
  refine wpAnyG_take [3] (i := 3) (v := (.int .i64 x)) rfl (by kernel_rfl) (by kernel_rfl) (by kernel_rfl) (by kernel_rfl) (by kernel_rfl) (by kernel_rfl) (by kernel_rfl) (by kernel_rfl) (fun _ _ _ h => h) (Or.inl ⟨by rfl, ?hy⟩) T0 ?_
  case hy =>
    intro X hX
    have e1 := at_below ct hX
    go_simp
  try simp only [Act.put, List.getElem_toArray, List.getElem_cons_zero, List.getElem_cons_succ, List.setIfInBounds_toArray, List.set_cons_zero, List.set_cons_succ]
  refine wpAnyG_take [4] (i := 4) (v := (.pointer (some ⟨m, 0, none⟩))) rfl (by kernel_rfl) (by kernel_rfl) (by kernel_rfl) (by kernel_rfl) (by kernel_rfl) (by kernel_rfl) (by kernel_rfl) (by kernel_rfl) (fun _ _ _ h => h) (Or.inl ⟨by rfl, ?hy⟩) T0 ?_
  case hy =>
    intro X hX
    skip
    go_simp
  try simp only [Act.put, List.getElem_toArray, List.getElem_cons_zero, List.getElem_cons_succ, List.setIfInBounds_toArray, List.set_cons_zero, List.set_cons_succ]
  refine wpAnyG_all (rs := [5]) (by kernel_rfl) (by simp) ?_
  intro i hi
  simp only [List.mem_cons, List.not_mem_nil, or_false] at hi
  subst hi
  refine wpOp_open rfl (by rfl) ?_
  go_simp
  refine (end_any s hs m X0 (mapAt_below hM bB)).mono ?_
  rintro e W0 ⟨rfl, hbe⟩
  replace T0 := hbe
  refine ⟨fun _ => T0, ?_⟩
  obtain ⟨pe, hpe⟩ : ∃ pe, pK s (nP s) = pe := ⟨_, rfl⟩
  rw [hpe] at hxe ⊢
  clear hpe
  obtain ⟨eb, ek, eu, el, ec⟩ := pe
  simp only at hxe
  have hx1 : decide ((eu : Int) < (x : Int)) = false := decide_eq_false (by omega)
  simp only [plV]
  try simp only [Act.put, List.getElem_toArray, List.getElem_cons_zero, List.getElem_cons_succ, List.setIfInBounds_toArray, List.set_cons_zero, List.set_cons_succ]
  refine wpAnyG_take [6] (i := 6) (v := (.int .i64 eu)) rfl (by kernel_rfl) (by kernel_rfl) (by kernel_rfl) (by kernel_rfl) (by kernel_rfl) (by kernel_rfl) (by kernel_rfl) (by kernel_rfl) (fun _ _ _ h => h) (Or.inl ⟨by rfl, ?hy⟩) T0 ?_
  case hy =>
    intro X hX
    have e9 := fun (X : World) => field_u (.int .i64 eb) (.int .i64 ek) (.int .i64 eu) (.int .i64 el) (.int .i64 ec) X rfl
    go_simp
  try simp only [Act.put, List.getElem_toArray, List.getElem_cons_zero, List.getElem_cons_succ, List.setIfInBounds_toArray, List.set_cons_zero, List.set_cons_succ]
  refine wpAnyG_take [7] (i := 7) (v := (.bool false)) rfl (by kernel_rfl) (by kernel_rfl) (by kernel_rfl) (by kernel_rfl) (by kernel_rfl) (by kernel_rfl) (by kernel_rfl) (by kernel_rfl) (fun _ _ _ h => h) (Or.inl ⟨by rfl, ?hy⟩) T0 ?_
  case hy =>
    intro X hX
    skip
    go_simp
  try simp only [Act.put, List.getElem_toArray, List.getElem_cons_zero, List.getElem_cons_succ, List.setIfInBounds_toArray, List.set_cons_zero, List.set_cons_succ]
  refine wpAnyG_take [8] (i := 8) (v := (.bool false)) rfl (by kernel_rfl) (by kernel_rfl) (by kernel_rfl) (by kernel_rfl) (by kernel_rfl) (by kernel_rfl) (by kernel_rfl) (by kernel_rfl) (fun _ _ _ h => h) (Or.inl ⟨by rfl, ?hy⟩) T0 ?_
  case hy =>
    intro X hX
    skip
    go_simp
  try simp only [Act.put, List.getElem_toArray, List.getElem_cons_zero, List.getElem_cons_succ, List.setIfInBounds_toArray, List.set_cons_zero, List.set_cons_succ]
  refine wpAnyG_done (by kernel_rfl) ?_ _
  refine NoPanic.normal ?_
  replace c0 : Boxed W0 w.heap.size 3 (.int .i64 x) := c0.below' hbe
  replace c1 := c1.below' hbe
  have cB := bB.trans (hbe.mono bB.size)
  clear T0 ct bB hbe
  go_wp2_with fail
  refine (hL W0 (mapAt_below hM cB) w.heap.size c0.cell).mono ?_
  rintro e w2 ⟨rfl, hb2⟩
  have hB2 := cB.trans (hb2.mono cB.size)
  have z0 := c0.lt
  have d0 := (show Blk _ _ _ _ from c0).below' hb2
  have d1 := c1.below' hb2
  have e3 := d1.lt
  go_wp2
  have f0 := (d0.alloc (.cells #[.int .i64 pb, .int .i64 pk, .int .i64 pu, .int .i64 pl, .int .i64 pc] 28)).drew
  have f1 := (d1.alloc (.cells #[.int .i64 pb, .int .i64 pk, .int .i64 pu, .int .i64 pl, .int .i64 pc] 28)).drew
  have f2 := (Blk.new w2 #[.int .i64 pb, .int .i64 pk, .int .i64 pu, .int .i64 pl, .int .i64 pc] 28).drew
  have fB := (hB2.alloc hB2.size (.cells #[.int .i64 pb, .int .i64 pk, .int .i64 pu, .int .i64 pl, .int .i64 pc] 28)).drew
  refine wp_region_noPanic ?_
  refine wp_region_g (S := untilG [] (fun X => X.cell? ⟨w.heap.size, 0, none⟩ = some (.int .i64 x) ∧ ∀ o, X.cell? ⟨w2.heap.size, o, none⟩ = ([.int .i64 pb, .int .i64 pk, .int .i64 pu, .int .i64 pl, .int .i64 pc] : List Value)[o]?)) (by kernel_rfl) ?_
  obtain ⟨X0, hX0⟩ : ∃ X, (w2.alloc (.cells #[.int .i64 pb, .int .i64 pk, .int .i64 pu, .int .i64 pl, .int .i64 pc] 28)).drew = X := ⟨_, rfl⟩
  rw [hX0] at f0 f1 f2 fB ⊢
  have hbw := hB2.size
  clear hX0 hL d0 d1 c0 c1 cB hb2 hB2 hM
  have T0 : X0.cell? ⟨w.heap.size, 0, none⟩ = some (.int .i64 x) ∧ ∀ o, X0.cell? ⟨w2.heap.size, o, none⟩ = ([.int .i64 pb, .int .i64 pk, .int .i64 pu, .int .i64 pl, .int .i64 pc] : List Value)[o]? := ⟨f0.cell 0, fun o => by have := f2.cell o; simpa using this⟩
  refine wpAnyG_take [0] (i := 0) (v := (.agg #[.int .i64 pb, .int .i64 pk, .int .i64 pu, .int .i64 pl, .int .i64 pc])) rfl (by kernel_rfl) (by kernel_rfl) (by kernel_rfl) (by kernel_rfl) (by kernel_rfl) (by kernel_rfl) (by kernel_rfl) (by kernel_rfl) (fun _ _ _ h => h) (Or.inl ⟨by rfl, ?hy⟩) T0 ?_
  case hy =>
    intro X hX
    have hX1 := hX.2
    go_simp
  try simp only [Act.put, List.getElem_toArray, List.getElem_cons_zero, List.getElem_cons_succ, List.setIfInBounds_toArray, List.set_cons_zero, List.set_cons_succ]
  refine wpAnyG_take [1] (i := 1) (v := (.int .i64 x)) rfl (by kernel_rfl) (by kernel_rfl) (by kernel_rfl) (by kernel_rfl) (by kernel_rfl) (by kernel_rfl) (by kernel_rfl) (by kernel_rfl) (fun _ _ _ h => h) (Or.inl ⟨by rfl, ?hy⟩) T0 ?_
  case hy =>
    intro X hX
    have hX1 := hX.1
    go_simp
  try simp only [Act.put, List.getElem_toArray, List.getElem_cons_zero, List.getElem_cons_succ, List.setIfInBounds_toArray, List.set_cons_zero, List.set_cons_succ]
  refine wpAnyG_take [2] (i := 2) (v := (.pointer (some ⟨w2.heap.size, 2, none⟩))) rfl (by kernel_rfl) (by kernel_rfl) (by kernel_rfl) (by kernel_rfl) (by kernel_rfl) (by kernel_rfl) (by kernel_rfl) (by kernel_rfl) (fun _ _ _ h => h) (Or.inl ⟨by rfl, ?hy⟩) T0 ?_
  case hy =>
    intro X hX
    skip
    go_simp
  try simp only [Act.put, List.getElem_toArray, List.getElem_cons_zero, List.getElem_cons_succ, List.setIfInBounds_toArray, List.set_cons_zero, List.set_cons_succ]
  refine wpAnyG_take [3] (i := 3) (v := (.int .i64 pu)) rfl (by kernel_rfl) (by kernel_rfl) (by kernel_rfl) (by kernel_rfl) (by kernel_rfl) (by kernel_rfl) (by kernel_rfl) (by kernel_rfl) (fun _ _ _ h => h) (Or.inl ⟨by rfl, ?hy⟩) T0 ?_
  case hy =>
    intro X hX
    have hX1 := hX.2
    go_simp
  try simp only [Act.put, List.getElem_toArray, List.getElem_cons_zero, List.getElem_cons_succ, List.setIfInBounds_toArray, List.set_cons_zero, List.set_cons_succ]
  refine wpAnyG_take [4] (i := 4) (v := (.int .i64 q)) rfl (by kernel_rfl) (by kernel_rfl) (by kernel_rfl) (by kernel_rfl) (by kernel_rfl) (by kernel_rfl) (by kernel_rfl) (by kernel_rfl) (fun _ _ _ h => h) (Or.inl ⟨by rfl, ?hy⟩) T0 ?_
  case hy =>
    intro X hX
    skip
    go_simp
  try simp only [Act.put, List.getElem_toArray, List.getElem_cons_zero, List.getElem_cons_succ, List.setIfInBounds_toArray, List.set_cons_zero, List.set_cons_succ]
  have f3 := f1.frozen
  have f4 := f1.cell
  have f5 := f1.lt
  refine wpAnyG_all (rs := [5]) (by kernel_rfl) (by simp) ?_
  intro i hi
  simp only [List.mem_cons, List.not_mem_nil, or_false] at hi
  subst hi
  refine wpOp_now rfl rfl ?_
  go_simp
  have g0 := ((((f0.other (B' := w.heap.size + 1) (by omega) 0 (.int .i64 pb)).other (B' := w.heap.size + 1) (by omega) 1 (.int .i64 pk)).other (B' := w.heap.size + 1) (by omega) 2 (.int .i64 pu)).other (B' := w.heap.size + 1) (by omega) 3 (.int .i64 pl)).other (B' := w.heap.size + 1) (by omega) 4 (.int .i64 pc)
  have g2 := ((((f2.other (B' := w.heap.size + 1) (by omega) 0 (.int .i64 pb)).other (B' := w.heap.size + 1) (by omega) 1 (.int .i64 pk)).other (B' := w.heap.size + 1) (by omega) 2 (.int .i64 pu)).other (B' := w.heap.size + 1) (by omega) 3 (.int .i64 pl)).other (B' := w.heap.size + 1) (by omega) 4 (.int .i64 pc)
  have g1 := ((((f1.set 0 (.int .i64 pb)).set 1 (.int .i64 pk)).set 2 (.int .i64 pu)).set 3 (.int .i64 pl)).set 4 (.int .i64 pc)
  have gB := ((((fB.setCell (p := ⟨w.heap.size + 1, 0, none⟩) (by dsimp only; omega) (.int .i64 pb)).setCell (p := ⟨w.heap.size + 1, 1, none⟩) (by dsimp only; omega) (.int .i64 pk)).setCell (p := ⟨w.heap.size + 1, 2, none⟩) (by dsimp only; omega) (.int .i64 pu)).setCell (p := ⟨w.heap.size + 1, 3, none⟩) (by dsimp only; omega) (.int .i64 pl)).setCell (p := ⟨w.heap.size + 1, 4, none⟩) (by dsimp only; omega) (.int .i64 pc)
  obtain ⟨X1, hX1⟩ : ∃ X1, ((((X0.setCell ⟨w.heap.size + 1, 0, none⟩ (.int .i64 pb)).setCell ⟨w.heap.size + 1, 1, none⟩ (.int .i64 pk)).setCell ⟨w.heap.size + 1, 2, none⟩ (.int .i64 pu)).setCell ⟨w.heap.size + 1, 3, none⟩ (.int .i64 pl)).setCell ⟨w.heap.size + 1, 4, none⟩ (.int .i64 pc) = X1 := ⟨_, rfl⟩
  rw [hX1] at g0 g1 g2 gB ⊢
  clear hX1
  have T0 : X1.cell? ⟨w.heap.size, 0, none⟩ = some (.int .i64 x) ∧ ∀ o, X1.cell? ⟨w2.heap.size, o, none⟩ = ([.int .i64 pb, .int .i64 pk, .int .i64 pu, .int .i64 pl, .int .i64 pc] : List Value)[o]? := ⟨g0.cell 0, fun o => by have := g2.cell o; simpa using this⟩
  refine ⟨fun _ => T0, ?_⟩
  try simp only [Act.put, List.getElem_toArray, List.getElem_cons_zero, List.getElem_cons_succ, List.setIfInBounds_toArray, List.set_cons_zero, List.set_cons_succ]
  refine wpAnyG_take [6] (i := 6) (v := (.int .i64 q)) rfl (by kernel_rfl) (by kernel_rfl) (by kernel_rfl) (by kernel_rfl) (by kernel_rfl) (by kernel_rfl) (by kernel_rfl) (by kernel_rfl) (fun _ _ _ h => h) (Or.inl ⟨by rfl, ?hy⟩) T0 ?_
  case hy =>
    intro X hX
    skip
    go_simp
  try simp only [Act.put, List.getElem_toArray, List.getElem_cons_zero, List.getElem_cons_succ, List.setIfInBounds_toArray, List.set_cons_zero, List.set_cons_succ]
  refine wpAnyG_take [7] (i := 7) (v := (.int .i64 0)) rfl (by kernel_rfl) (by kernel_rfl) (by kernel_rfl) (by kernel_rfl) (by kernel_rfl) (by kernel_rfl) (by kernel_rfl) (by kernel_rfl) (fun _ _ _ h => h) (Or.inl ⟨by rfl, ?hy⟩) T0 ?_
  case hy =>
    intro X hX
    skip
    go_simp
  try simp only [Act.put, List.getElem_toArray, List.getElem_cons_zero, List.getElem_cons_succ, List.setIfInBounds_toArray, List.set_cons_zero, List.set_cons_succ]
  refine wpAnyG_done (by kernel_rfl) ?_ _
  refine NoPanic.normal ?_
  have k1 := g1.cell
  have k2 := g1.lt
  simp at k1
  go_wp2
  refine bodyPost_ret (v := .tuple #[.agg #[.int .i64 pb, .int .i64 pk, .int .i64 pu, .int .i64 pl, .int .i64 pc], .int .i64 q, .int .i64 0]) (by simp [results, Try.f19, go_sem, k1, k2]) rfl ⟨rfl, gB⟩

end Go.Proofs.Ytjlfdoonhfkabaa
