/- Places: the last place of which a thing holds. -/
import Derived.Test.YtjlfdoonhfkabaaQe
namespace Go.Proofs.Ytjlfdoonhfkabaa
set_option linter.unusedVariables false
set_option linter.unusedSimpArgs false
open Go Go.RowKit Go.Shelf
set_option maxRecDepth 100000

/-- The cells of place number k. -/
theorem map_cells {s : ByteArray} {ga k : Nat} {W : World} (h : ∀ j, j < (nP s + 1) * 5 → W.cell? ⟨ga, j, none⟩ = (plS s (nP s + 1))[j]?) (hk : k ≤ nP s) :
    W.cell? ⟨ga, k * 5, none⟩ = some (.int .i64 (pK s k).b) ∧ W.cell? ⟨ga, k * 5 + 1, none⟩ = some (.int .i64 (pK s k).k) ∧ W.cell? ⟨ga, k * 5 + 2, none⟩ = some (.int .i64 (pK s k).u) ∧ W.cell? ⟨ga, k * 5 + 3, none⟩ = some (.int .i64 (pK s k).l) ∧ W.cell? ⟨ga, k * 5 + 4, none⟩ = some (.int .i64 (pK s k).c) := by
  have e := fun j (hj : j < 5) => (h (k * 5 + j) (by omega)).trans (plS_get s (nP s + 1) k j (by omega) hj)
  exact ⟨e 0 (by omega), e 1 (by omega), e 2 (by omega), e 3 (by omega), e 4 (by omega)⟩

/-- What a function says of places, whenever it is asked. -/
def Asks (s : ByteArray) (g : Nat) (cb : Array Value) (q : Pl → Bool) (w : World) : Prop :=
  (∀ args w, (callFunc g args).run Try.prog w = .ok (.enter g args) w) ∧ ∀ (W : World) (k : Nat), Below w.heap.size w W → k ≤ nP s → Calls Try.prog g (#[plV (pK s k)] ++ cb) W fun e W' => e = .returned (.bool (q (pK s k))) ∧ Below W.heap.size W W'

set_option maxHeartbeats 2000000 in
theorem last1_any (s : ByteArray) (hs : s.size ≤ 65536) (m bA bM g : Nat) (cb : Array Value) (q : Pl → Bool) (W : World) (hM : MapAt s m W) (hA : W.cell? ⟨bA, 0, none⟩ = some (.func (.func g) #[] cb)) (hm : W.cell? ⟨bM, 0, none⟩ = some (.pointer (some ⟨m, 0, none⟩)))
    (hq : Asks s g cb q W) (i : Nat) (hi : i ≤ nP s) :
    Calls Try.prog 50 #[.int .i64 i, .pointer (some ⟨bA, 0, none⟩), .pointer (some ⟨bM, 0, none⟩)] W fun e W' => e = .returned (.bool (!q (pK s i))) ∧ Below W.heap.size W W' := by
  obtain ⟨ga, ca, gb, cb', h1, h2, h3⟩ := hM
  have hc := map_cells h2 hi
  have hmc := h1.cell 1
  simp only [List.getElem?_toArray, List.getElem?_cons_succ, List.getElem?_cons_zero] at hmc
  have hnP := nP_le s
  have hQ := fun X hX => hq.2 X i hX hi
  have eg := hq.1
  obtain ⟨p, hp⟩ : ∃ p, pK s i = p := ⟨_, rfl⟩
  rw [hp] at hc hQ ⊢
  clear hp h2 h3 hq
  obtain ⟨pb, pk, pu, pl, pc⟩ := p
  obtain ⟨d0, d1, d2, d3, d4⟩ := hc
  simp only [plV] at hQ
  obtain ⟨Q, hQq⟩ : ∃ Q, q { b := pb, k := pk, u := pu, l := pl, c := pc } = Q := ⟨_, rfl⟩
  rw [hQq] at hQ ⊢
  clear hQq
  have hi0 : (0 : Int) ≤ (i : Int) := by omega
  have hi1 : (i : Int) < ((nP s + 1 : Nat) : Int) := by omega
  have hi2 : (i : Int) < (nP s : Int) + 1 := by omega
  go_enter Try.func50, Try.ntmps50
  go_wp2
  refine wp_region_noPanic ?_
  refine wp_region_g (S := untilG [] (fun X => Below W.heap.size W X)) (by kernel_rfl) ?_
  have T0 : Below W.heap.size W W.drew := (Below.refl _ _).drew
  obtain ⟨X0, hX0⟩ : ∃ X, W.drew = X := ⟨_, rfl⟩
  rw [hX0] at T0 ⊢
  have B0 := T0
  clear hX0
  refine wpAnyG_take [0] (i := 0) (v := (.func (.func g) #[] cb)) rfl (by kernel_rfl) (by kernel_rfl) (by kernel_rfl) (by kernel_rfl) (by kernel_rfl) (by kernel_rfl) (by kernel_rfl) (by kernel_rfl) (fun _ _ _ h => h) (Or.inl ⟨by rfl, ?hy⟩) T0 ?_
  case hy =>
    intro X hX
    have e1 := at_below hA hX
    go_simp
  try simp only [Act.put, List.getElem_toArray, List.getElem_cons_zero, List.getElem_cons_succ, List.setIfInBounds_toArray, List.set_cons_zero, List.set_cons_succ]
  refine wpAnyG_take [1] (i := 1) (v := (.pointer (some ⟨m, 0, none⟩))) rfl (by kernel_rfl) (by kernel_rfl) (by kernel_rfl) (by kernel_rfl) (by kernel_rfl) (by kernel_rfl) (by kernel_rfl) (by kernel_rfl) (fun _ _ _ h => h) (Or.inl ⟨by rfl, ?hy⟩) T0 ?_
  case hy =>
    intro X hX
    have e1 := at_below hm hX
    go_simp
  try simp only [Act.put, List.getElem_toArray, List.getElem_cons_zero, List.getElem_cons_succ, List.setIfInBounds_toArray, List.set_cons_zero, List.set_cons_succ]
  refine wpAnyG_take [2] (i := 2) (v := (.pointer (some ⟨m, 0, none⟩))) rfl (by kernel_rfl) (by kernel_rfl) (by kernel_rfl) (by kernel_rfl) (by kernel_rfl) (by kernel_rfl) (by kernel_rfl) (by kernel_rfl) (fun _ _ _ h => h) (Or.inl ⟨by rfl, ?hy⟩) T0 ?_
  case hy =>
    intro X hX
    skip
    go_simp
  try simp only [Act.put, List.getElem_toArray, List.getElem_cons_zero, List.getElem_cons_succ, List.setIfInBounds_toArray, List.set_cons_zero, List.set_cons_succ]
  refine wpAnyG_take [3] (i := 3) (v := (.pointer (some ⟨m, 1, none⟩))) rfl (by kernel_rfl) (by kernel_rfl) (by kernel_rfl) (by kernel_rfl) (by kernel_rfl) (by kernel_rfl) (by kernel_rfl) (by kernel_rfl) (fun _ _ _ h => h) (Or.inl ⟨by rfl, ?hy⟩) T0 ?_
  case hy =>
    intro X hX
    skip
    go_simp
  try simp only [Act.put, List.getElem_toArray, List.getElem_cons_zero, List.getElem_cons_succ, List.setIfInBounds_toArray, List.set_cons_zero, List.set_cons_succ]
  refine wpAnyG_take [4] (i := 4) (v := (.slice (some ⟨ga, 0, none⟩) (nP s + 1) ca)) rfl (by kernel_rfl) (by kernel_rfl) (by kernel_rfl) (by kernel_rfl) (by kernel_rfl) (by kernel_rfl) (by kernel_rfl) (by kernel_rfl) (fun _ _ _ h => h) (Or.inl ⟨by rfl, ?hy⟩) T0 ?_
  case hy =>
    intro X hX
    have e1 := at_below hmc hX
    go_simp
  try simp only [Act.put, List.getElem_toArray, List.getElem_cons_zero, List.getElem_cons_succ, List.setIfInBounds_toArray, List.set_cons_zero, List.set_cons_succ]
  refine wpAnyG_take [5] (i := 5) (v := (.int .i64 i)) rfl (by kernel_rfl) (by kernel_rfl) (by kernel_rfl) (by kernel_rfl) (by kernel_rfl) (by kernel_rfl) (by kernel_rfl) (by kernel_rfl) (fun _ _ _ h => h) (Or.inl ⟨by rfl, ?hy⟩) T0 ?_
  case hy =>
    intro X hX
    skip
    go_simp
  try simp only [Act.put, List.getElem_toArray, List.getElem_cons_zero, List.getElem_cons_succ, List.setIfInBounds_toArray, List.set_cons_zero, List.set_cons_succ]
  refine wpAnyG_take [6] (i := 6) (v := (.pointer (some ⟨ga, i * 5, none⟩))) rfl (by kernel_rfl) (by kernel_rfl) (by kernel_rfl) (by kernel_rfl) (by kernel_rfl) (by kernel_rfl) (by kernel_rfl) (by kernel_rfl) (fun _ _ _ h => h) (Or.inl ⟨by rfl, ?hy⟩) T0 ?_
  case hy =>
    intro X hX
    skip
    go_simp
  try simp only [Act.put, List.getElem_toArray, List.getElem_cons_zero, List.getElem_cons_succ, List.setIfInBounds_toArray, List.set_cons_zero, List.set_cons_succ]
  refine wpAnyG_take [7] (i := 7) (v := (.agg #[.int .i64 pb, .int .i64 pk, .int .i64 pu, .int .i64 pl, .int .i64 pc])) rfl (by kernel_rfl) (by kernel_rfl) (by kernel_rfl) (by kernel_rfl) (by kernel_rfl) (by kernel_rfl) (by kernel_rfl) (by kernel_rfl) (fun _ _ _ h => h) (Or.inl ⟨by rfl, ?hy⟩) T0 ?_
  case hy =>
    intro X hX
    have e0 := at_below d0 hX
    have e1 := at_below d1 hX
    have e2 := at_below d2 hX
    have e3 := at_below d3 hX
    have e4 := at_below d4 hX
    go_simp
  try simp only [Act.put, List.getElem_toArray, List.getElem_cons_zero, List.getElem_cons_succ, List.setIfInBounds_toArray, List.set_cons_zero, List.set_cons_succ]
  refine wpAnyG_all (rs := [8]) (by kernel_rfl) (by simp) ?_
  intro i hi
  simp only [List.mem_cons, List.not_mem_nil, or_false] at hi
  subst hi
  refine wpOp_now rfl rfl ?_
  go_simp
  refine (hQ X0 B0).mono ?_
  rintro e X1 ⟨rfl, b1⟩
  have B1 := B0.trans (b1.mono B0.size)
  have T0 := B1
  refine ⟨fun _ => T0, ?_⟩
  try simp only [Act.put, List.getElem_toArray, List.getElem_cons_zero, List.getElem_cons_succ, List.setIfInBounds_toArray, List.set_cons_zero, List.set_cons_succ]
  refine wpAnyG_take [9] (i := 9) (v := (.bool (!Q))) rfl (by kernel_rfl) (by kernel_rfl) (by kernel_rfl) (by kernel_rfl) (by kernel_rfl) (by kernel_rfl) (by kernel_rfl) (by kernel_rfl) (fun _ _ _ h => h) (Or.inl ⟨by rfl, ?hy⟩) T0 ?_
  case hy =>
    intro X hX
    skip
    go_simp
  try simp only [Act.put, List.getElem_toArray, List.getElem_cons_zero, List.getElem_cons_succ, List.setIfInBounds_toArray, List.set_cons_zero, List.set_cons_succ]
  refine wpAnyG_take [10] (i := 10) (v := (.bool (!Q))) rfl (by kernel_rfl) (by kernel_rfl) (by kernel_rfl) (by kernel_rfl) (by kernel_rfl) (by kernel_rfl) (by kernel_rfl) (by kernel_rfl) (fun _ _ _ h => h) (Or.inl ⟨by rfl, ?hy⟩) T0 ?_
  case hy =>
    intro X hX
    skip
    go_simp
  try simp only [Act.put, List.getElem_toArray, List.getElem_cons_zero, List.getElem_cons_succ, List.setIfInBounds_toArray, List.set_cons_zero, List.set_cons_succ]
  refine wpAnyG_done (by kernel_rfl) ?_ _
  refine NoPanic.normal ?_
  go_wp2
  go_ret
  exact ⟨rfl, B1⟩

set_option maxHeartbeats 2000000 in
theorem last_any (s : ByteArray) (hs : s.size ≤ 65536) (m g : Nat) (cb : Array Value) (q : Pl → Bool) (w : World) (hM : MapAt s m w) (hq : Asks s g cb q w)
    (hmono : ∀ a b, a ≤ b → b ≤ nP s → q (pK s b) = true → q (pK s a) = true) (h0 : q (pK s 0) = true) (j : Nat) (hj : j ≤ nP s) (hcnt : cntP s q = j + 1) :
    Calls Try.prog 37 #[.pointer (some ⟨m, 0, none⟩), .func (.func g) #[] cb] w fun e w' => e = .returned (plV (pK s j)) ∧ Below w.heap.size w w' := by
  have hnP := nP_le s
  have b0 := ((Boxed.new w 23 (.pointer (some ⟨m, 0, none⟩))).alloc (.cells #[.func (.func g) #[] cb] 79)).alloc (.cells #[.int .i64 0, .int .i64 0, .int .i64 0, .int .i64 0, .int .i64 0] 28)
  have b1 := (Boxed.new (w.alloc (.cells #[.pointer (some ⟨m, 0, none⟩)] 23)) 79 (.func (.func g) #[] cb)).alloc (.cells #[.int .i64 0, .int .i64 0, .int .i64 0, .int .i64 0, .int .i64 0] 28)
  have b2 := Blk.new ((w.alloc (.cells #[.pointer (some ⟨m, 0, none⟩)] 23)).alloc (.cells #[.func (.func g) #[] cb] 79)) #[.int .i64 0, .int .i64 0, .int .i64 0, .int .i64 0, .int .i64 0] 28
  have bB : Below w.heap.size w (((w.alloc (.cells #[.pointer (some ⟨m, 0, none⟩)] 23)).alloc (.cells #[.func (.func g) #[] cb] 79)).alloc (.cells #[.int .i64 0, .int .i64 0, .int .i64 0, .int .i64 0, .int .i64 0] 28)) := (((Below.refl _ w).alloc (Nat.le_refl _) _).alloc (by simp) _).alloc (by simp; omega) _
  simp only [World.size_alloc] at b1 b2
  have hM0 := hM
  obtain ⟨ga, ca, gb, cb', k1, k2, k3⟩ := hM
  have hmc := k1.cell 1
  simp only [List.getElem?_toArray, List.getElem?_cons_succ, List.getElem?_cons_zero] at hmc
  have hmA : ∀ o1 o2 o3, (((w.alloc o1).alloc o2).alloc o3).cell? ⟨m, 1, none⟩ = some (.slice (some ⟨ga, 0, none⟩) (nP s + 1) ca) := fun o1 o2 o3 => at_below hmc ((((Below.refl _ w).alloc (Nat.le_refl _) _).alloc (by simp) _).alloc (by simp; omega) _)
  have enters := enters_of Try.func50 (by kernel_rfl) rfl
  obtain ⟨W3, hW3⟩ : ∃ W3, (((w.alloc (.cells #[.pointer (some ⟨m, 0, none⟩)] 23)).alloc (.cells #[.func (.func g) #[] cb] 79)).alloc (.cells #[.int .i64 0, .int .i64 0, .int .i64 0, .int .i64 0, .int .i64 0] 28)) = W3 := ⟨_, rfl⟩
  have hz3 : W3.heap.size = w.heap.size + 3 := by rw [← hW3]; simp
  rw [hW3] at b0 b1 b2 bB
  have hS := search_any 50 #[.pointer (some ⟨w.heap.size + 1, 0, none⟩), .pointer (some ⟨w.heap.size, 0, none⟩)] (nP s + 1) (fun i => !q (pK s i)) W3 (fun _ _ => enters _ _) (by omega)
    (fun X i hX hi => last1_any s hs m (w.heap.size + 1) w.heap.size g cb q X (mapAt_below (mapAt_below hM0 bB) hX) (at_below b1.cell hX) (at_below b0.cell hX) ⟨hq.1, fun Y k hY hk => hq.2 Y k ((bB.trans (hX.mono bB.size)).trans (hY.mono ((bB.trans (hX.mono bB.size)).size))) hk⟩ i (by omega))
    (fun a b hab hb h => by
      cases h2 : q (pK s b) with
      | false => rfl
      | true =>
        have := hmono a b hab (by omega) h2
        simp only [this] at h; cases h)
  have hcn : (List.range (nP s + 1)).countP (fun i => !(fun i => !q (pK s i)) i) = j + 1 := by
    rw [← hcnt, cntP]
    congr 1
    funext i
    simp
  rw [hcn] at hS
  have hc := fun X (hX : Below w.heap.size w X) => map_cells (s := s) (ga := ga) (k := j) (W := X) (fun i hi => cell_le (plS_len s _) k2 hX i hi) hj
  have hmX := fun X (hX : Below w.heap.size w X) => at_below hmc hX
  obtain ⟨p, hp⟩ : ∃ p, pK s j = p := ⟨_, rfl⟩
  rw [hp] at hc ⊢
  clear hp k2 k3 hcn hcnt hmono h0 hq hM0
  obtain ⟨pb, pk, pu, pl, pc⟩ := p
  have hj1 : (j : Int) < ((nP s + 1 : Nat) : Int) := by omega
  have hj2 : (j : Int) < (nP s : Int) + 1 := by omega
  have hj0 : (0 : Int) ≤ (j : Int) := by omega
  have hj3 : ((j + 1 : Nat) : Int) - 1 = (j : Int) := by omega
  have hj4 : (j : Int) + 1 - 1 = (j : Int) := by omega
  have f0 := b0.cell
  have f1 := b1.cell
  have f2 := hmX W3 bB
  have f3 := b2.cell
  have f4 := b2.frozen
  simp only [plV]
  go_enter Try.func37, Try.ntmps37
  go_wp2_with (first | (go_at_call 49; (try rw [hW3]); refine hS.mono ?_; rintro e w2 ⟨rfl, hb2⟩; have hB2 := bB.trans (hb2.mono bB.size); obtain ⟨d0, d1, d2, d3, d4⟩ := hc w2 hB2; have e0 := hmX w2 hB2; have e1 := at_below b0.cell hb2; have e2 := (b2.below' hb2).cell; have e3 := (b2.below' hb2).frozen; have e4 := (b2.below' hb2).lt))
  refine bodyPost_ret (v := .agg #[.int .i64 pb, .int .i64 pk, .int .i64 pu, .int .i64 pl, .int .i64 pc]) (by simp [results, Try.f37, go_sem, e2, e4]) rfl ⟨rfl, ?_⟩
  exact ((((hB2.setCell (p := ⟨_, 0, none⟩) (by dsimp only; omega) _).setCell (p := ⟨_, 1, none⟩) (by dsimp only; omega) _).setCell (p := ⟨_, 2, none⟩) (by dsimp only; omega) _).setCell (p := ⟨_, 3, none⟩) (by dsimp only; omega) _).setCell (p := ⟨_, 4, none⟩) (by dsimp only; omega) _

set_option maxHeartbeats 400000 in
theorem byte1_any (p : Pl) (b : Nat) (x : Int) (W : World) (h : W.cell? ⟨b, 0, none⟩ = some (.int .i64 x)) :
    Calls Try.prog 40 #[plV p, .pointer (some ⟨b, 0, none⟩)] W fun e W' => e = .returned (.bool (decide ((p.b : Int) ≤ x))) ∧ Below W.heap.size W W' := by
  have hA : ∀ o, (W.alloc o).cell? ⟨b, 0, none⟩ = some (.int .i64 x) := fun o => at_below h ((Below.refl _ W).alloc (Nat.le_refl _) _)
  obtain ⟨pb, pk, pu, pl, pc⟩ := p
  simp only [plV]
  go_enter Try.func40, Try.ntmps40
  go_wp2
  go_ret
  exact ⟨by simp, (Below.refl _ W).alloc (Nat.le_refl _) _⟩

set_option maxHeartbeats 400000 in
theorem first1_any (p : Pl) (b : Nat) (x : Int) (W : World) (h : W.cell? ⟨b, 0, none⟩ = some (.int .i64 x)) :
    Calls Try.prog 52 #[plV p, .pointer (some ⟨b, 0, none⟩)] W fun e W' => e = .returned (.bool (decide ((p.b : Int) ≤ x))) ∧ Below W.heap.size W W' := by
  have hA : ∀ o, (W.alloc o).cell? ⟨b, 0, none⟩ = some (.int .i64 x) := fun o => at_below h ((Below.refl _ W).alloc (Nat.le_refl _) _)
  obtain ⟨pb, pk, pu, pl, pc⟩ := p
  simp only [plV]
  go_enter Try.func52, Try.ntmps52
  go_wp2
  go_ret
  exact ⟨by simp, (Below.refl _ W).alloc (Nat.le_refl _) _⟩

set_option maxHeartbeats 400000 in
theorem down1_any (p : Pl) (b : Nat) (x : Int) (W : World) (h : W.cell? ⟨b, 0, none⟩ = some (.int .i64 x)) :
    Calls Try.prog 51 #[plV p, .pointer (some ⟨b, 0, none⟩)] W fun e W' => e = .returned (.bool (decide ((p.b : Int) ≤ x))) ∧ Below W.heap.size W W' := by
  have hA : ∀ o, (W.alloc o).cell? ⟨b, 0, none⟩ = some (.int .i64 x) := fun o => at_below h ((Below.refl _ W).alloc (Nat.le_refl _) _)
  obtain ⟨pb, pk, pu, pl, pc⟩ := p
  simp only [plV]
  go_enter Try.func51, Try.ntmps51
  go_wp2
  go_ret
  exact ⟨by simp, (Below.refl _ W).alloc (Nat.le_refl _) _⟩

set_option maxHeartbeats 400000 in
theorem unit1_any (p : Pl) (b : Nat) (x : Int) (W : World) (h : W.cell? ⟨b, 0, none⟩ = some (.int .i64 x)) :
    Calls Try.prog 41 #[plV p, .pointer (some ⟨b, 0, none⟩)] W fun e W' => e = .returned (.bool (decide ((p.u : Int) ≤ x))) ∧ Below W.heap.size W W' := by
  have hA : ∀ o, (W.alloc o).cell? ⟨b, 0, none⟩ = some (.int .i64 x) := fun o => at_below h ((Below.refl _ W).alloc (Nat.le_refl _) _)
  obtain ⟨pb, pk, pu, pl, pc⟩ := p
  simp only [plV]
  go_enter Try.func41, Try.ntmps41
  go_wp2
  go_ret
  exact ⟨by simp, (Below.refl _ W).alloc (Nat.le_refl _) _⟩

set_option maxHeartbeats 400000 in
theorem move1_any (p : Pl) (b : Nat) (x : Int) (W : World) (h : W.cell? ⟨b, 0, none⟩ = some (.int .i64 x)) :
    Calls Try.prog 38 #[plV p, .pointer (some ⟨b, 0, none⟩)] W fun e W' => e = .returned (.bool (decide ((p.u : Int) ≤ x))) ∧ Below W.heap.size W W' := by
  have hA : ∀ o, (W.alloc o).cell? ⟨b, 0, none⟩ = some (.int .i64 x) := fun o => at_below h ((Below.refl _ W).alloc (Nat.le_refl _) _)
  obtain ⟨pb, pk, pu, pl, pc⟩ := p
  simp only [plV]
  go_enter Try.func38, Try.ntmps38
  go_wp2
  go_ret
  exact ⟨by simp, (Below.refl _ W).alloc (Nat.le_refl _) _⟩
end Go.Proofs.Ytjlfdoonhfkabaa
