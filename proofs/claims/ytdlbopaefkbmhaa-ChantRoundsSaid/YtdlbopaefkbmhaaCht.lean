/- Stage 31: what the laws compare: Same, Equal, notes. -/
import Derived.Test.YtdlbopaefkbmhaaChn
namespace Go.Proofs.Ytdlbopaefkbmhaa
set_option linter.unusedVariables false
set_option linter.unusedSimpArgs false
open Go Go.RowKit Go.Shelf
set_option maxRecDepth 100000

theorem grownBy_none_refl (W : World) (r : Option Nat) : W.grownBy W r := ⟨rfl, rfl, rfl, Nat.le_refl _, fun _ _ _ => rfl⟩

theorem bits_run (b : Nat) (w : World) : (callFunc 29 #[.float .f64 b]).run Try.prog w = .ok (.value (.int .u64 b)) w := by kernel_rfl

set_option maxHeartbeats 1000000 in
theorem same_yes (x y : Nat) (h : FSame x y) (w : World) : Calls Try.prog 23 #[.float .f64 x, .float .f64 y] w fun e w' => e = .returned (.bool true) ∧ w' = w := by
  have hb := bits_run
  by_cases hxy : x = y
  · subst hxy
    have e : ((x : Int) == (x : Int)) = true := by simp
    clear h
    go_enter Try.func23, Try.ntmps23
    go_wp2
    go_ret
    exact ⟨rfl, rfl⟩
  · rcases h with h | ⟨h1, h2⟩
    · exact absurd h hxy
    · have e : ((x : Int) == (y : Int)) = false := by rw [beq_eq_false_iff_ne]; omega
      have n1 := neq_self x
      have n2 := neq_self y
      rw [h1] at n1
      rw [h2] at n2
      clear h1 h2
      go_enter Try.func23, Try.ntmps23
      go_wp2
      go_ret
      exact ⟨rfl, rfl⟩
/-- Two notes are one, but for a NaN's bits. -/
def NtSame (x y : Nt) : Prop := x.line = y.line ∧ x.beat = y.beat ∧ x.word = y.word ∧ x.strong = y.strong ∧ FSame x.at' y.at' ∧ FSame x.long y.long
theorem NtSame.refl (x : Nt) : NtSame x x := ⟨rfl, rfl, rfl, rfl, .refl _, .refl _⟩
set_option maxHeartbeats 2000000 in
theorem equal_yes (x y : Nt) (h : NtSame x y) (w : World) : Calls Try.prog 19 #[.agg (encN x).toArray, .agg (encN y).toArray] w fun e w' => e = .returned (.bool true) ∧ Below w.heap.size w w' := by
  obtain ⟨xl, xb, xw, xs, xa, xo⟩ := x
  obtain ⟨yl, yb, yw, ys, ya, yo⟩ := y
  obtain ⟨h1, h2, h3, h4, h5, h6⟩ := h
  simp only at h1 h2 h3 h4 h5 h6
  subst h1 h2 h3 h4
  have cA := fun W => same_yes xa ya h5 W
  have cB := fun W => same_yes xo yo h6 W
  have k1 : ((xl : Int) == xl) = true := by simp
  have k2 : ((xb : Int) == xb) = true := by simp
  have k3 : ((xw : Int) == xw) = true := by simp
  have k4 : (xs == xs) = true := by simp
  have hB := ((Below.refl w.heap.size w).alloc (Nat.le_refl _) (.cells #[.int .i64 xl, .int .i64 xb, .int .i64 xw, .bool xs, .float .f64 xa, .float .f64 xo] 37)).alloc (by simp) (.cells #[.int .i64 xl, .int .i64 xb, .int .i64 xw, .bool xs, .float .f64 ya, .float .f64 yo] 37)
  clear h5 h6
  simp only [encN]
  go_enter Try.func19, Try.ntmps19
  go_wp2_with (fail)
  refine (cA _).mono ?_
  rintro e w' ⟨rfl, rfl⟩
  go_wp2_with (fail)
  refine (cB _).mono ?_
  rintro e w' ⟨rfl, rfl⟩
  go_wp2
  go_ret
  exact ⟨rfl, hB⟩

def NotesSame (l l' : List Nt) : Prop := l.length = l'.length ∧ ∀ (i : Nat) (x y : Nt), l[i]? = some x → l'[i]? = some y → NtSame x y
theorem NotesSame.refl (l : List Nt) : NotesSame l l := ⟨rfl, fun i x y h h' => by rw [h] at h'; cases h'; exact .refl _⟩
set_option maxHeartbeats 4000000 in
theorem notes_yes (l l' : List Nt) (o o' : Option Addr) (c c' : Nat) (h : NotesSame l l') (hn : l.length ≤ 4398046511104) (w : World) (hr : RowAt w encN 6 o l) (hr' : RowAt w encN 6 o' l') :
    Calls Try.prog 10 #[.slice o l.length c, .slice o' l'.length c'] w fun e w' => e = .returned (.bool true) ∧ Below w.heap.size w w' := by
  have hl := h.1
  obtain ⟨n, hnn⟩ : ∃ n, l.length = n := ⟨_, rfl⟩
  rw [hnn] at hn hl
  rw [← hl, hnn]
  have k1 : ((n : Int) != (n : Int)) = false := by simp
  have HN := Lib.hid (And.intro hnn hl)
  clear hnn hl
  go_enter Try.func10, Try.ntmps10
  go_wp2
  go_loopw [13] (fun i wr => ∃ k : Nat, i = .int .i64 k ∧ k ≤ n ∧ Below w.heap.size w wr) (fun i _ => n - (intOf i).toNat)
  case atStart => exact ⟨0, rfl, by omega, Below.refl _ _⟩
  case round =>
    obtain ⟨k, rfl, hk, hB⟩ := hrel
    by_cases hlt : k < n
    · obtain ⟨x, hx⟩ : ∃ x, l[k]? = some x := ⟨_, List.getElem?_eq_getElem (by rw [HN.out.1]; exact hlt)⟩
      obtain ⟨y, hy⟩ : ∃ y, l'[k]? = some y := ⟨_, List.getElem?_eq_getElem (by rw [← HN.out.2]; exact hlt)⟩
      obtain ⟨g, off, rfl, hcl⟩ := (hr.below encN_len (by decide) hB) k x hx
      obtain ⟨g', off', rfl, hcl'⟩ := (hr'.below encN_len (by decide) hB) k y hy
      have cE := fun W => equal_yes x y (h.2 k x y hx hy) W
      obtain ⟨xl, xb, xw, xs, xa, xo⟩ := x
      obtain ⟨yl, yb, yw, ys, ya, yo⟩ := y
      have x0 := hcl 0 (by decide)
      have x1 := hcl 1 (by decide)
      have x2 := hcl 2 (by decide)
      have x3 := hcl 3 (by decide)
      have x4 := hcl 4 (by decide)
      have x5 := hcl 5 (by decide)
      have y0 := hcl' 0 (by decide)
      have y1 := hcl' 1 (by decide)
      have y2 := hcl' 2 (by decide)
      have y3 := hcl' 3 (by decide)
      have y4 := hcl' 4 (by decide)
      have y5 := hcl' 5 (by decide)
      simp only [encN, List.getElem?_cons_succ, List.getElem?_cons_zero, Nat.add_zero] at x0 x1 x2 x3 x4 x5 y0 y1 y2 y3 y4 y5
      simp only [encN] at cE
      have q1 : (0 : Int) ≤ (k : Int) := by omega
      have q2 : (k : Int) < (n : Int) := by omega
      have HB := Lib.hid hB
      clear hcl hcl' hx hy hr hr' hB
      go_wp2_with (fail)
      refine wp_region_noPanic ?_
      refine wp_region_g (S := untilG [] (fun Y => Below wr.heap.size wr Y)) (by kernel_rfl) ?_
      obtain ⟨X0, hX0⟩ : ∃ Y, wr.drew = Y := ⟨_, rfl⟩
      have T0 : Below wr.heap.size wr X0 := hX0 ▸ (Below.refl wr.heap.size wr).drew
      rw [hX0]
      clear hX0
      refine wpAnyG_take [0, 2, 3, 8, 9] (i := 0) (v := (.slice (some ⟨g, off, none⟩) n c)) rfl (by kernel_rfl) (by kernel_rfl) (by kernel_rfl) (by kernel_rfl) (by kernel_rfl) (by kernel_rfl) (by kernel_rfl) (by kernel_rfl) (fun _ _ _ h => h) (Or.inl ⟨by rfl, ?hy⟩) T0 ?_
      case hy =>
        intro X hX
        go_simp
      try simp only [Act.put, List.getElem_toArray, List.getElem_cons_zero, List.getElem_cons_succ, List.setIfInBounds_toArray, List.set_cons_zero, List.set_cons_succ]
      refine wpAnyG_take [1, 2, 3, 8, 9] (i := 1) (v := (.int .i64 k)) rfl (by kernel_rfl) (by kernel_rfl) (by kernel_rfl) (by kernel_rfl) (by kernel_rfl) (by kernel_rfl) (by kernel_rfl) (by kernel_rfl) (fun _ _ _ h => h) (Or.inl ⟨by rfl, ?hy⟩) T0 ?_
      case hy =>
        intro X hX
        go_simp
      try simp only [Act.put, List.getElem_toArray, List.getElem_cons_zero, List.getElem_cons_succ, List.setIfInBounds_toArray, List.set_cons_zero, List.set_cons_succ]
      refine wpAnyG_take [2, 3, 8, 9] (i := 2) (v := (.pointer (some ⟨g, off + k * 6, none⟩))) rfl (by kernel_rfl) (by kernel_rfl) (by kernel_rfl) (by kernel_rfl) (by kernel_rfl) (by kernel_rfl) (by kernel_rfl) (by kernel_rfl) (fun _ _ _ h => h) (Or.inl ⟨by rfl, ?hy⟩) T0 ?_
      case hy =>
        intro X hX
        go_simp
      try simp only [Act.put, List.getElem_toArray, List.getElem_cons_zero, List.getElem_cons_succ, List.setIfInBounds_toArray, List.set_cons_zero, List.set_cons_succ]
      refine wpAnyG_take [3, 8, 9] (i := 3) (v := (.agg #[.int .i64 xl, .int .i64 xb, .int .i64 xw, .bool xs, .float .f64 xa, .float .f64 xo])) rfl (by kernel_rfl) (by kernel_rfl) (by kernel_rfl) (by kernel_rfl) (by kernel_rfl) (by kernel_rfl) (by kernel_rfl) (by kernel_rfl) (fun _ _ _ h => h) (Or.inl ⟨by rfl, ?hy⟩) T0 ?_
      case hy =>
        intro X hX
        have e0 := at_below x0 hX
        have e1 := at_below x1 hX
        have e2 := at_below x2 hX
        have e3 := at_below x3 hX
        have e4 := at_below x4 hX
        have e5 := at_below x5 hX
        go_simp
      try simp only [Act.put, List.getElem_toArray, List.getElem_cons_zero, List.getElem_cons_succ, List.setIfInBounds_toArray, List.set_cons_zero, List.set_cons_succ]
      refine wpAnyG_take [4, 6, 7, 8, 9] (i := 4) (v := (.slice (some ⟨g', off', none⟩) n c')) rfl (by kernel_rfl) (by kernel_rfl) (by kernel_rfl) (by kernel_rfl) (by kernel_rfl) (by kernel_rfl) (by kernel_rfl) (by kernel_rfl) (fun _ _ _ h => h) (Or.inl ⟨by rfl, ?hy⟩) T0 ?_
      case hy =>
        intro X hX
        go_simp
      try simp only [Act.put, List.getElem_toArray, List.getElem_cons_zero, List.getElem_cons_succ, List.setIfInBounds_toArray, List.set_cons_zero, List.set_cons_succ]
      refine wpAnyG_all (rs := [5]) (by kernel_rfl) (by simp) ?_
      intro i hi
      simp only [List.mem_cons, List.not_mem_nil, or_false] at hi
      subst hi
      refine wpOp_now rfl rfl ?_
      go_simp
      refine ⟨fun _ => T0, ?_⟩
      try simp only [Act.put, List.getElem_toArray, List.getElem_cons_zero, List.getElem_cons_succ, List.setIfInBounds_toArray, List.set_cons_zero, List.set_cons_succ]
      refine wpAnyG_take [6, 7, 8, 9] (i := 6) (v := (.pointer (some ⟨g', off' + k * 6, none⟩))) rfl (by kernel_rfl) (by kernel_rfl) (by kernel_rfl) (by kernel_rfl) (by kernel_rfl) (by kernel_rfl) (by kernel_rfl) (by kernel_rfl) (fun _ _ _ h => h) (Or.inl ⟨by rfl, ?hy⟩) T0 ?_
      case hy =>
        intro X hX
        go_simp
      try simp only [Act.put, List.getElem_toArray, List.getElem_cons_zero, List.getElem_cons_succ, List.setIfInBounds_toArray, List.set_cons_zero, List.set_cons_succ]
      refine wpAnyG_take [7, 8, 9] (i := 7) (v := (.agg #[.int .i64 yl, .int .i64 yb, .int .i64 yw, .bool ys, .float .f64 ya, .float .f64 yo])) rfl (by kernel_rfl) (by kernel_rfl) (by kernel_rfl) (by kernel_rfl) (by kernel_rfl) (by kernel_rfl) (by kernel_rfl) (by kernel_rfl) (fun _ _ _ h => h) (Or.inl ⟨by rfl, ?hy⟩) T0 ?_
      case hy =>
        intro X hX
        have e0 := at_below y0 hX
        have e1 := at_below y1 hX
        have e2 := at_below y2 hX
        have e3 := at_below y3 hX
        have e4 := at_below y4 hX
        have e5 := at_below y5 hX
        go_simp
      try simp only [Act.put, List.getElem_toArray, List.getElem_cons_zero, List.getElem_cons_succ, List.setIfInBounds_toArray, List.set_cons_zero, List.set_cons_succ]
      refine wpAnyG_all (rs := [8]) (by kernel_rfl) (by simp) ?_
      intro i hi
      simp only [List.mem_cons, List.not_mem_nil, or_false] at hi
      subst hi
      refine wpOp_now rfl rfl ?_
      go_simp
      refine (cE _).mono ?_
      rintro e Y8 ⟨rfl, hb⟩
      replace T0 := T0.trans (hb.mono T0.size)
      clear hb
      refine ⟨fun _ => T0, ?_⟩
      try simp only [Act.put, List.getElem_toArray, List.getElem_cons_zero, List.getElem_cons_succ, List.setIfInBounds_toArray, List.set_cons_zero, List.set_cons_succ]
      refine wpAnyG_all (rs := [9]) (by kernel_rfl) (by simp) ?_
      intro i hi
      simp only [List.mem_cons, List.not_mem_nil, or_false] at hi
      subst hi
      refine wpOp_now rfl rfl ?_
      go_simp
      refine ⟨fun _ => T0, ?_⟩
      try simp only [Act.put, List.getElem_toArray, List.getElem_cons_zero, List.getElem_cons_succ, List.setIfInBounds_toArray, List.set_cons_zero, List.set_cons_succ]
      refine wpAnyG_done (by kernel_rfl) ?_ _
      refine NoPanic.normal ?_
      have hB2 := HB.out.trans (T0.mono HB.out.size)
      clear T0 x0 x1 x2 x3 x4 x5 y0 y1 y2 y3 y4 y5
      go_wp2
      go_roundw
      case rel => exact ⟨k + 1, by go_num, by omega, hB2⟩
      case measure => simp [intOf]; omega
    · obtain rfl : k = n := by omega
      go_wp2
      go_ret
      exact ⟨rfl, hB⟩
end Go.Proofs.Ytdlbopaefkbmhaa
