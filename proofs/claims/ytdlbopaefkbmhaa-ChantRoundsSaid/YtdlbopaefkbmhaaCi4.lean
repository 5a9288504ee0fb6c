/- Stage 31: ChantRounds. -/
import Derived.Test.YtdlbopaefkbmhaaCi3
import Derived.Test.YtdlbopaefkbmhaaCi0
namespace Go.Proofs.Ytdlbopaefkbmhaa
set_option linter.unusedVariables false
set_option linter.unusedSimpArgs false
open Go Go.RowKit Go.Shelf
set_option maxRecDepth 100000

theorem ob_ne {a r : Option Nat} (h : ∀ g, a = some g → r = some g → False) : a = none ∨ a ≠ r := by
  cases a with
  | none => exact .inl rfl
  | some g => exact .inr fun e => h g rfl e.symm
/-- What stands behind k rounds of the law's own loop. -/
def LwR (L : List Nt) (o : Option Addr) (gf b1 b2 b : Nat) (vw va : Value) (ws1 ws2 : List (List Nt)) (sv1 sv2 : List Value) (w : World) (k : Nat) (W : World) : Prop :=
  RowAt W encN 6 (some ⟨gf, 0, none⟩) (room9 L) ∧ RowAt W encN 6 o L ∧ W.ownsRow b1 22 1 vw b sv1 ∧ SvW b1 W ws1 sv1 ∧ W.ownsRow b2 22 1 va b sv2 ∧
  (∀ (i : Nat) (lv : List Nt), k ≤ i → ws2[i]? = some lv → ∃ ol cp, sv2[i]? = some (.slice ol lv.length cp) ∧ W.ownsRow b2 37 6 (.slice ol lv.length cp) lv.length (lv.flatMap encN)) ∧ Below w.heap.size w W
section
variable {L : List Nt} {o : Option Addr} {gf b1 b2 b k : Nat} {vw va : Value} {ws1 ws2 : List (List Nt)} {sv1 sv2 : List Value} {w W W' : World}
theorem LwR.below (h : LwR L o gf b1 b2 b vw va ws1 ws2 sv1 sv2 w k W) (hb : Below W.heap.size W W') : LwR L o gf b1 b2 b vw va ws1 ws2 sv1 sv2 w k W' := by
  obtain ⟨h1, h2, h3, h4, h5, h6, h7⟩ := h
  refine ⟨h1.below encN_len (by decide) hb, h2.below encN_len (by decide) hb, own_below h3 hb, h4.below hb, own_below h5 hb, fun i lv hi hl => ?_, h7.trans (hb.mono h7.size)⟩
  obtain ⟨ol, cp, a1, a2⟩ := h6 i lv hi hl
  exact ⟨ol, cp, a1, own_below a2 hb⟩
theorem LwR.spoil {lv : List Nt} {ol : Option Addr} {cp : Nat} (h : LwR L o gf b1 b2 b vw va ws1 ws2 sv1 sv2 w k W) (hs : sv2[k]? = some (.slice ol lv.length cp)) (hv : W.ownsRow b2 37 6 (.slice ol lv.length cp) lv.length (lv.flatMap encN))
    (hp : sv2.Pairwise (fun a c => ∀ g, a.ownBlock = some g → c.ownBlock ≠ some g)) (c1 : gf < b2) (c2 : ∀ g off, o = some ⟨g, off, none⟩ → L ≠ [] → g < b2) (c4 : ∀ a ∈ sv1, ∀ g, a.ownBlock = some g → g < b2) (c5 : w.heap.size ≤ b2)
    (hg : W.grownBy W' (Value.slice ol lv.length cp).ownBlock) : LwR L o gf b1 b2 b vw va ws1 ws2 sv1 sv2 w (k + 1) W' := by
  obtain ⟨h1, h2, h3, h4, h5, h6, h7⟩ := h
  have hlt : ∀ g, (Value.slice ol lv.length cp).ownBlock = some g → b2 ≤ g := fun g e => (hv.lt g e).1
  refine ⟨h1.keep hg (fun g off e _ e2 => by cases e; have := hlt _ e2; omega), h2.keep hg (fun g off e hne e2 => by have := hlt _ e2; have := c2 g off e hne; omega), h3.kept hg (rows_apart h3 hv (by decide)), ⟨h4.1, fun i l' hi => ?_, h4.2.2⟩, h5.kept hg (rows_apart h5 hv (by decide)), fun i l' hi hl => ?_, h7.grown hg h7.size (fun r e => by have := hlt r e; omega)⟩
  · obtain ⟨ol', cp', a1, a2⟩ := h4.2.1 i l' hi
    exact ⟨ol', cp', a1, a2.kept hg (ob_ne fun g e1 e2 => by have := c4 _ (List.mem_of_getElem? a1) g e1; have := hlt g e2; omega)⟩
  · obtain ⟨ol', cp', a1, a2⟩ := h6 i l' (by omega) hl
    refine ⟨ol', cp', a1, a2.kept hg (ob_ne fun g e1 e2 => ?_)⟩
    have hi1 : i < sv2.length := (List.getElem?_eq_some_iff.1 a1).1
    have hk1 : k < sv2.length := (List.getElem?_eq_some_iff.1 hs).1
    have := List.pairwise_iff_getElem.1 hp k i hk1 hi1 (by omega) g (by rw [(List.getElem?_eq_some_iff.1 hs).2]; exact e2)
    rw [(List.getElem?_eq_some_iff.1 a1).2] at this
    exact this e1
end
set_option maxHeartbeats 16000000 in
theorem rounds_no (l : List Nt) (o : Option Addr) (cap delay : Nat) (v er : Int) (her : er = 2 ∨ er = 3) (hf : NForm o l.length cap) (hn : l.length ≤ 65536) (w : World) (hr : RowAt w encN 6 o l)
    (cD : ∀ W, Calls Try.prog 6 #[.slice o (l.take 200).length cap, .int .i64 v, .float .f64 delay] W fun e w' => e = .returned (.tuple #[.slice none 0 0, .int .i64 er]) ∧ Below W.heap.size W w')
    (cP : ∀ (o' : Option Addr) (c' : Nat) W, Calls Try.prog 8 #[.slice o' (l.take 200).length c', .int .i64 v, .float .f64 delay] W fun e w' => e = .returned (.tuple #[.slice none 0 0, .int .i64 er]) ∧ Below W.heap.size W w') :
    Calls Try.prog 3 #[.slice o l.length cap, .int .i64 v, .float .f64 delay] w fun e w' => e = .returned (.bool true) ∧ Below w.heap.size w w' := by
  have c1 := fun W => few_any l o cap hf W
  have hrL : RowAt w encN 6 o (l.take 200) := rowAt_take hr 200
  have hfL : NForm o (l.take 200).length cap := hf.take (by rw [List.length_take]; omega)
  have hnL : (l.take 200).length ≤ 1048576 := by rw [List.length_take]; omega
  obtain ⟨L, hL⟩ : ∃ L, l.take 200 = L := ⟨_, rfl⟩
  obtain ⟨n, hnn⟩ : ∃ n, l.length = n := ⟨_, rfl⟩
  rw [hL] at c1 hrL hfL hnL cD cP
  rw [hnn] at c1 hn ⊢
  have e1 : decide ((n : Int) ≤ 65536) = true := decide_eq_true (by omega)
  have e1n : decide (n ≤ 65536) = true := decide_eq_true hn
  have c3 := fun W h => room_any L o cap hfL (by omega) W h
  have hR9 : (room9 L).length = L.length + 9 := by simp [room9]
  have k1 : (er != er) = false := by simp
  clear her hr hf hL hnn
  go_enter Try.func3, Try.ntmps3
  go_wp2_with (fail)
  refine (wakes_any _).mono ?_
  rintro e w1 ⟨rfl, hb1⟩
  have hr1 := hrL.below encN_len (by decide) hb1
  go_wp2_with (fail)
  refine (c1 _).mono ?_
  rintro e w' ⟨rfl, hw⟩
  obtain rfl : w1 = w' := hw.symm
  clear hw
  go_wp2_with (fail)
  refine (cD _).mono ?_
  rintro e w2 ⟨rfl, hb2⟩
  have hB2 := hb1.trans (hb2.mono hb1.size)
  have hr2 := hr1.below encN_len (by decide) hb2
  clear hb1 hb2 hr1
  go_wp2_with (fail)
  refine (c3 _ hr2).mono ?_
  rintro e w3 ⟨of, cf, rfl, hownF, hb3⟩
  have hB3 := hB2.trans (hb3.mono hB2.size)
  have hr3 := hr2.below encN_len (by decide) hb3
  have hF3 : RowAt w3 encN 6 of (room9 L) := RowAt.of_own encN_len hownF rfl
  obtain ⟨gf, hgf⟩ : ∃ g, of = some ⟨g, 0, none⟩ := by
    obtain ⟨o', c', e', ho'⟩ := own_slice hownF
    cases e'
    exact ho' (by omega)
  subst hgf
  have hgf3 := hownF.lt gf rfl
  have hcf : L.length + 9 ≤ cf ∧ cf ≤ 9223372036854775807 := by
    rcases hownF.2 with ⟨e, _⟩ | ⟨g, c, cur, e, _, _, h1, h2, _⟩
    · cases e
    · simp only [Value.slice.injEq, Option.some.injEq, Addr.mk.injEq, and_true, true_and] at e
      obtain ⟨rfl, rfl⟩ := e
      exact ⟨by omega, h2⟩
  have hfF : NForm (some ⟨gf, 0, none⟩) L.length cf := .inr ⟨_, rfl, by omega, hcf.2⟩
  have c8 := fun W h h' => stayed_yes L o (some ⟨gf, 0, none⟩) cap cf (by omega) W h h'
  have hcl : L.length ≤ cf := by omega
  have c7 := fun W => cP (some ⟨gf, 0, none⟩) cf W
  have HC := Lib.hid (And.intro hgf3 hcf)
  clear hownF hb3 hr2 hgf3 hcf hB2 c3 cP cD
  rw [hR9] at c8 ⊢
  go_wp2_with (fail)
  refine (c7 _).mono ?_
  rintro e w4 ⟨rfl, hb4⟩
  have hB4 := hB3.trans (hb4.mono hB3.size)
  have hr4 := hr3.below encN_len (by decide) hb4
  have hF4 := hF3.below encN_len (by decide) hb4
  clear hb4 hr3 hF3 hB3
  go_wp2_with (fail)
  refine (c8 _ hF4 hr4).mono ?_
  rintro e w5 ⟨rfl, hb5⟩
  have hB5 := hB4.trans (hb5.mono hB4.size)
  have hr5 := hr4.below encN_len (by decide) hb5
  have hF5 := hF4.below encN_len (by decide) hb5
  clear hb5 hr4 hF4 hB4
  go_wp2
  go_loopw [57] (fun i wr => i = .int .i64 0 ∧ wr = w5) (fun _ _ => 0)
  case atStart => exact ⟨rfl, rfl⟩
  case round =>
    obtain ⟨rfl, hwr⟩ := hrel
    obtain rfl : w5 = wr := hwr.symm
    clear hwr
    go_wp2_with (fail)
    refine (c8 _ hF5 hr5).mono ?_
    rintro e w6 ⟨rfl, hb6⟩
    have hB6 := hB5.trans (hb6.mono hB5.size)
    clear hb6 hr5 hF5 hB5
    go_wp2_with (fail)
    refine (wakes_any _).mono ?_
    rintro e w7 ⟨rfl, hb7⟩
    have hB7 := hB6.trans (hb7.mono hB6.size)
    go_wp2
    go_ret
    exact ⟨rfl, hB7⟩

set_option maxHeartbeats 16000000 in
theorem rounds_far (L : List Nt) (o : Option Addr) (cap delay : Nat) (v er : Int) (her : er = 2 ∨ er = 3) (hf : NForm o L.length cap) (hn : 65536 < L.length) (hn2 : L.length ≤ 2932031007317) (w : World) (hr : RowAt w encN 6 o L)
    (cD : ∀ W, Calls Try.prog 6 #[.slice o L.length cap, .int .i64 v, .float .f64 delay] W fun e w' => e = .returned (.tuple #[.slice none 0 0, .int .i64 er]) ∧ Below W.heap.size W w')
    (cP : ∀ (o' : Option Addr) (c' : Nat) W, Calls Try.prog 8 #[.slice o' L.length c', .int .i64 v, .float .f64 delay] W fun e w' => e = .returned (.tuple #[.slice none 0 0, .int .i64 er]) ∧ Below W.heap.size W w') :
    Calls Try.prog 3 #[.slice o L.length cap, .int .i64 v, .float .f64 delay] w fun e w' => e = .returned (.bool true) ∧ Below w.heap.size w w' := by
  have hrL := hr
  have hfL := hf
  have hnL := hn2
  have e1 : decide ((L.length : Int) ≤ 65536) = false := decide_eq_false (by omega)
  have e1n : decide (L.length ≤ 65536) = false := decide_eq_false (by omega)
  have c3 := fun W h => room_any L o cap hfL (by omega) W h
  have hR9 : (room9 L).length = L.length + 9 := by simp [room9]
  have k1 : (er != er) = false := by simp
  clear her hr hf
  go_enter Try.func3, Try.ntmps3
  go_wp2_with (fail)
  refine (wakes_any _).mono ?_
  rintro e w1 ⟨rfl, hb1⟩
  have hr1 := hrL.below encN_len (by decide) hb1
  go_wp2_with (fail)
  refine (cD _).mono ?_
  rintro e w2 ⟨rfl, hb2⟩
  have hB2 := hb1.trans (hb2.mono hb1.size)
  have hr2 := hr1.below encN_len (by decide) hb2
  clear hb1 hb2 hr1
  go_wp2_with (fail)
  refine (c3 _ hr2).mono ?_
  rintro e w3 ⟨of, cf, rfl, hownF, hb3⟩
  have hB3 := hB2.trans (hb3.mono hB2.size)
  have hr3 := hr2.below encN_len (by decide) hb3
  have hF3 : RowAt w3 encN 6 of (room9 L) := RowAt.of_own encN_len hownF rfl
  obtain ⟨gf, hgf⟩ : ∃ g, of = some ⟨g, 0, none⟩ := by
    obtain ⟨o', c', e', ho'⟩ := own_slice hownF
    cases e'
    exact ho' (by omega)
  subst hgf
  have hgf3 := hownF.lt gf rfl
  have hcf : L.length + 9 ≤ cf ∧ cf ≤ 9223372036854775807 := by
    rcases hownF.2 with ⟨e, _⟩ | ⟨g, c, cur, e, _, _, h1, h2, _⟩
    · cases e
    · simp only [Value.slice.injEq, Option.some.injEq, Addr.mk.injEq, and_true, true_and] at e
      obtain ⟨rfl, rfl⟩ := e
      exact ⟨by omega, h2⟩
  have hfF : NForm (some ⟨gf, 0, none⟩) L.length cf := .inr ⟨_, rfl, by omega, hcf.2⟩
  have c8 := fun W h h' => stayed_yes L o (some ⟨gf, 0, none⟩) cap cf (by omega) W h h'
  have hcl : L.length ≤ cf := by omega
  have c7 := fun W => cP (some ⟨gf, 0, none⟩) cf W
  have HC := Lib.hid (And.intro hgf3 hcf)
  clear hownF hb3 hr2 hgf3 hcf hB2 c3 cP cD
  rw [hR9] at c8 ⊢
  go_wp2_with (fail)
  refine (c7 _).mono ?_
  rintro e w4 ⟨rfl, hb4⟩
  have hB4 := hB3.trans (hb4.mono hB3.size)
  have hr4 := hr3.below encN_len (by decide) hb4
  have hF4 := hF3.below encN_len (by decide) hb4
  clear hb4 hr3 hF3 hB3
  go_wp2_with (fail)
  refine (c8 _ hF4 hr4).mono ?_
  rintro e w5 ⟨rfl, hb5⟩
  have hB5 := hB4.trans (hb5.mono hB4.size)
  have hr5 := hr4.below encN_len (by decide) hb5
  have hF5 := hF4.below encN_len (by decide) hb5
  clear hb5 hr4 hF4 hB4
  go_wp2
  go_loopw [57] (fun i wr => i = .int .i64 0 ∧ wr = w5) (fun _ _ => 0)
  case atStart => exact ⟨rfl, rfl⟩
  case round =>
    obtain ⟨rfl, hwr⟩ := hrel
    obtain rfl : w5 = wr := hwr.symm
    clear hwr
    go_wp2_with (fail)
    refine (c8 _ hF5 hr5).mono ?_
    rintro e w6 ⟨rfl, hb6⟩
    have hB6 := hB5.trans (hb6.mono hB5.size)
    clear hb6 hr5 hF5 hB5
    go_wp2_with (fail)
    refine (wakes_any _).mono ?_
    rintro e w7 ⟨rfl, hb7⟩
    have hB7 := hB6.trans (hb7.mono hB6.size)
    go_wp2
    go_ret
    exact ⟨rfl, hB7⟩

set_option maxHeartbeats 16000000 in
theorem rounds_ok (l : List Nt) (o : Option Addr) (cap delay p : Nat) (hf : NForm o l.length cap) (hn : l.length ≤ 65536) (hp1 : 1 ≤ p) (hp2 : p ≤ 16) (h : errR p delay = false) (w : World) (hr : RowAt w encN 6 o l) :
    Calls Try.prog 3 #[.slice o l.length cap, .int .i64 p, .float .f64 delay] w fun e w' => e = .returned (.bool true) ∧ Below w.heap.size w w' := by
  have c1 := fun W => few_any l o cap hf W
  have hrL : RowAt w encN 6 o (l.take 200) := rowAt_take hr 200
  have hfL : NForm o (l.take 200).length cap := hf.take (by rw [List.length_take]; omega)
  have hnL : (l.take 200).length ≤ 200 := by rw [List.length_take]; omega
  obtain ⟨L, hL⟩ : ∃ L, l.take 200 = L := ⟨_, rfl⟩
  obtain ⟨n, hnn⟩ : ∃ n, l.length = n := ⟨_, rfl⟩
  rw [hL] at c1 hrL hfL hnL
  rw [hnn] at c1 hn ⊢
  have e1 : decide ((n : Int) ≤ 65536) = true := decide_eq_true (by omega)
  have e1n : decide (n ≤ 65536) = true := decide_eq_true hn
  have hpn : p * L.length ≤ 65536 := Nat.le_trans (Nat.mul_le_mul hp2 hnL) (by decide)
  have c2 := fun W hh => roundD_ok L o cap delay p hp1 hp2 hpn h W hh
  have c3 := fun W h => room_any L o cap hfL (by omega) W h
  have hR9 : (room9 L).length = L.length + 9 := by simp [room9]
  have k1 : ((p : Int) != (p : Int)) = false := by simp
  clear hr hf hL hnn
  go_enter Try.func3, Try.ntmps3
  go_wp2_with (fail)
  refine (wakes_any _).mono ?_
  rintro e w1 ⟨rfl, hb1⟩
  have hr1 := hrL.below encN_len (by decide) hb1
  go_wp2_with (fail)
  refine (c1 _).mono ?_
  rintro e w' ⟨rfl, hw⟩
  obtain rfl : w1 = w' := hw.symm
  clear hw
  go_wp2_with (fail)
  refine (c2 _ hr1).mono ?_
  rintro e w2 ⟨ow, cw, ws1, sv1, rfl, hl1, hV1, hS1, hO1, hb2⟩
  have hB2 := hb1.trans (hb2.mono hb1.size)
  have hr2 := hr1.below encN_len (by decide) hb2
  obtain ⟨b1, hb1n⟩ : ∃ b, w1.heap.size = b := ⟨_, rfl⟩
  rw [hb1n] at hS1 hO1
  clear hb1 hb2 hr1 c2 hb1n
  go_wp2_with (fail)
  refine (c3 _ hr2).mono ?_
  rintro e w3 ⟨of, cf, rfl, hownF, hb3⟩
  have hB3 := hB2.trans (hb3.mono hB2.size)
  have hr3 := hr2.below encN_len (by decide) hb3
  have hS13 := hS1.below hb3
  have hO13 := own_below hO1 hb3
  clear hS1 hO1
  have hF3 : RowAt w3 encN 6 of (room9 L) := RowAt.of_own encN_len hownF rfl
  obtain ⟨gf, hgf⟩ : ∃ g, of = some ⟨g, 0, none⟩ := by
    obtain ⟨o', c', e', ho'⟩ := own_slice hownF
    cases e'
    exact ho' (by omega)
  subst hgf
  have hgf3 := hownF.lt gf rfl
  have hcf : L.length + 9 ≤ cf ∧ cf ≤ 9223372036854775807 := by
    rcases hownF.2 with ⟨e, _⟩ | ⟨g, c, cur, e, _, _, h1, h2, _⟩
    · cases e
    · simp only [Value.slice.injEq, Option.some.injEq, Addr.mk.injEq, and_true, true_and] at e
      obtain ⟨rfl, rfl⟩ := e
      exact ⟨by omega, h2⟩
  have hfF : NForm (some ⟨gf, 0, none⟩) L.length cf := .inr ⟨_, rfl, by omega, hcf.2⟩
  have c8 := fun W h h' => stayed_yes L o (some ⟨gf, 0, none⟩) cap cf (by omega) W h h'
  have hcl : L.length ≤ cf := by omega
  have c7 := fun W hh => round_ok L (some ⟨gf, 0, none⟩) cf delay p hfF hp1 hp2 hpn h W hh
  have HC := Lib.hid (And.intro hgf3 hcf)
  have lt1 := hS13.lt
  have lt_o : ∀ g off, o = some ⟨g, off, none⟩ → L ≠ [] → g < w3.heap.size := fun g off e hne => by
    subst e; exact hr3.lt encN_len (by decide) hne
  have lt_F := hgf3.2
  have lt_w := hB3.size
  clear hownF hb3 hr2 hgf3 hcf hB2 c3
  rw [hR9] at c8 ⊢
  go_wp2_with (fail)
  refine (c7 _ hF3.pre).mono ?_
  rintro e w4 ⟨oa, ca, ws2, sv2, rfl, hl2, hV2, hS2, hO2, hb4⟩
  have hB4 := hB3.trans (hb4.mono hB3.size)
  have K4 : LwR L o gf b1 w3.heap.size p (.slice ow p cw) (.slice oa p ca) ws1 ws2 sv1 sv2 w 0 w4 :=
    ⟨hF3.below encN_len (by decide) hb4, hr3.below encN_len (by decide) hb4, own_below hO13 hb4, hS13.below hb4, hO2, fun i lv _ hi => hS2.2.1 i lv hi, hB4⟩
  obtain ⟨b2, hb2n⟩ : ∃ b, w3.heap.size = b := ⟨_, rfl⟩
  rw [hb2n] at K4 lt1 lt_o lt_F lt_w
  have hpw := hS2.2.2
  have ha0 : ∃ g, oa = some ⟨g, 0, none⟩ := by
    obtain ⟨o', c', e', ho'⟩ := own_slice hO2
    cases e'
    exact ho' (by omega)
  have hw0 : ∃ g, ow = some ⟨g, 0, none⟩ := by
    obtain ⟨o', c', e', ho'⟩ := own_slice hO13
    cases e'
    exact ho' (by omega)
  obtain ⟨ga, rfl⟩ := ha0
  obtain ⟨gw, rfl⟩ := hw0
  have HP := Lib.hid (And.intro hl1 (And.intro hV1 (And.intro hl2 (And.intro hV2 (And.intro hpw (And.intro lt1 (And.intro lt_o (And.intro lt_F lt_w))))))))
  clear hb4 hr3 hF3 hB3 hB4 hO13 hS13 hS2 hO2 hl1 hV1 hl2 hV2 hpw lt1 lt_o lt_F lt_w hb2n c7
  go_wp2_with (fail)
  refine (c8 _ K4.1 K4.2.1).mono ?_
  rintro e w5 ⟨rfl, hb5⟩
  have K5 := K4.below hb5
  clear hb5 K4
  go_wp2
  go_loopw [57] (fun i wr => ∃ k : Nat, i = .int .i64 k ∧ k ≤ p ∧ LwR L o gf b1 b2 p (.slice (some ⟨gw, 0, none⟩) p cw) (.slice (some ⟨ga, 0, none⟩) p ca) ws1 ws2 sv1 sv2 w k wr) (fun i _ => p - (intOf i).toNat)
  case atStart => exact ⟨0, rfl, by omega, K5⟩
  case round =>
    obtain ⟨k, rfl, hk, hK⟩ := hrel
    clear K5
    by_cases hlt : k < p
    · obtain ⟨hl1, hV1, hl2, hV2, hpw, lt1, lt_o, lt_F, lt_w⟩ := HP.out
      obtain ⟨lw, hlw⟩ : ∃ x, ws1[k]? = some x := ⟨_, List.getElem?_eq_getElem (by omega)⟩
      obtain ⟨la, hla⟩ : ∃ x, ws2[k]? = some x := ⟨_, List.getElem?_eq_getElem (by omega)⟩
      obtain ⟨o1, p1, hs1, hw1⟩ := hK.2.2.2.1.2.1 k lw hlw
      obtain ⟨o2, p2, hs2, hw2⟩ := hK.2.2.2.2.2.1 k la (Nat.le_refl _) hla
      have m1 := (hK.2.2.1.cellAt k (by omega)).trans hs1
      have m2 := (hK.2.2.2.2.1.cellAt k (by omega)).trans hs2
      have n1 := (hV1 k lw hlw).1
      have n2 := (hV2 k la hla).1
      have hN := (hV2 k la hla).same (hV1 k lw hlw)
      have hA : RowAt wr encN 6 o2 la := RowAt.of_own encN_len hw2 rfl
      have hW : RowAt wr encN 6 o1 lw := RowAt.of_own encN_len hw1 rfl
      have c9 := fun W h h' => notes_yes la lw o2 o1 p2 p1 hN (by omega) W h h'
      have c10 := fun W h => spoil_any (.slice o2 la.length p2) la.length b2 (la.flatMap encN) (by omega) W h
      rw [n1] at m1
      rw [n2] at m2
      have hstep : ∀ (W W' : World), LwR L o gf b1 b2 p (.slice (some ⟨gw, 0, none⟩) p cw) (.slice (some ⟨ga, 0, none⟩) p ca) ws1 ws2 sv1 sv2 w k W → W.ownsRow b2 37 6 (.slice o2 la.length p2) la.length (la.flatMap encN) → W.grownBy W' (Value.slice o2 la.length p2).ownBlock → LwR L o gf b1 b2 p (.slice (some ⟨gw, 0, none⟩) p cw) (.slice (some ⟨ga, 0, none⟩) p ca) ws1 ws2 sv1 sv2 w (k + 1) W' := fun W W' a b c => LwR.spoil a hs2 b hpw lt_F lt_o lt1 lt_w c
      rw [n2] at c9 c10 hstep hw2
      rw [n1] at c9
      have HS := Lib.hid (And.intro hK (And.intro hstep (And.intro hw2 (And.intro hA hW))))
      have q1 : (0 : Int) ≤ (k : Int) := by omega
      have q2 : (k : Int) < (p : Int) := by omega
      clear hl1 hV1 hl2 hV2 hpw lt1 lt_o lt_F lt_w hlw hla hs1 hs2 hw1 hw2 hN hA hW hstep hK n1 n2
      go_wp2_with (fail)
      refine wp_region_noPanic ?_
      refine wp_region_g (S := untilG [] (fun Y => Below wr.heap.size wr Y)) (by kernel_rfl) ?_
      obtain ⟨X0, hX0⟩ : ∃ Y, wr.drew = Y := ⟨_, rfl⟩
      have T0 : Below wr.heap.size wr X0 := hX0 ▸ (Below.refl wr.heap.size wr).drew
      rw [hX0]
      clear hX0
      refine wpAnyG_take [0, 2, 3, 8, 9] (i := 0) (v := (.slice (some ⟨ga, 0, none⟩) p ca)) rfl (by kernel_rfl) (by kernel_rfl) (by kernel_rfl) (by kernel_rfl) (by kernel_rfl) (by kernel_rfl) (by kernel_rfl) (by kernel_rfl) (fun _ _ _ h => h) (Or.inl ⟨by rfl, ?hy⟩) T0 ?_
      case hy =>
        intro X hX
        go_simp
      try simp only [Act.put, List.getElem_toArray, List.getElem_cons_zero, List.getElem_cons_succ, List.setIfInBounds_toArray, List.set_cons_zero, List.set_cons_succ]
      refine wpAnyG_take [1, 2, 3, 8, 9] (i := 1) (v := (.int .i64 k)) rfl (by kernel_rfl) (by kernel_rfl) (by kernel_rfl) (by kernel_rfl) (by kernel_rfl) (by kernel_rfl) (by kernel_rfl) (by kernel_rfl) (fun _ _ _ h => h) (Or.inl ⟨by rfl, ?hy⟩) T0 ?_
      case hy =>
        intro X hX
        go_simp
      try simp only [Act.put, List.getElem_toArray, List.getElem_cons_zero, List.getElem_cons_succ, List.setIfInBounds_toArray, List.set_cons_zero, List.set_cons_succ]
      refine wpAnyG_take [2, 3, 8, 9] (i := 2) (v := (.pointer (some ⟨ga, k, none⟩))) rfl (by kernel_rfl) (by kernel_rfl) (by kernel_rfl) (by kernel_rfl) (by kernel_rfl) (by kernel_rfl) (by kernel_rfl) (by kernel_rfl) (fun _ _ _ h => h) (Or.inl ⟨by rfl, ?hy⟩) T0 ?_
      case hy =>
        intro X hX
        go_simp
      try simp only [Act.put, List.getElem_toArray, List.getElem_cons_zero, List.getElem_cons_succ, List.setIfInBounds_toArray, List.set_cons_zero, List.set_cons_succ]
      refine wpAnyG_take [3, 8, 9] (i := 3) (v := (.slice o2 L.length p2)) rfl (by kernel_rfl) (by kernel_rfl) (by kernel_rfl) (by kernel_rfl) (by kernel_rfl) (by kernel_rfl) (by kernel_rfl) (by kernel_rfl) (fun _ _ _ h => h) (Or.inl ⟨by rfl, ?hy⟩) T0 ?_
      case hy =>
        intro X hX
        have e0 := at_below m2 hX
        go_simp
      try simp only [Act.put, List.getElem_toArray, List.getElem_cons_zero, List.getElem_cons_succ, List.setIfInBounds_toArray, List.set_cons_zero, List.set_cons_succ]
      refine wpAnyG_take [4, 6, 7, 8, 9] (i := 4) (v := (.slice (some ⟨gw, 0, none⟩) p cw)) rfl (by kernel_rfl) (by kernel_rfl) (by kernel_rfl) (by kernel_rfl) (by kernel_rfl) (by kernel_rfl) (by kernel_rfl) (by kernel_rfl) (fun _ _ _ h => h) (Or.inl ⟨by rfl, ?hy⟩) T0 ?_
      case hy =>
        intro X hX
        go_simp
      try simp only [Act.put, List.getElem_toArray, List.getElem_cons_zero, List.getElem_cons_succ, List.setIfInBounds_toArray, List.set_cons_zero, List.set_cons_succ]
      refine wpAnyG_all (rs := [5]) (by kernel_rfl) (by simp) ?_
      intro i hi
      simp only [List.mem_cons, List.not_mem_nil, or_false] at hi
      subst hi
      refine wpOp_now rfl rfl ?_
      go_simp
      refine ⟨fun _ => T0, ?_⟩
      try simp only [Act.put, List.getElem_toArray, List.getElem_cons_zero, List.getElem_cons_succ, List.setIfInBounds_toArray, List.set_cons_zero, List.set_cons_succ]
      refine wpAnyG_take [6, 7, 8, 9] (i := 6) (v := (.pointer (some ⟨gw, k, none⟩))) rfl (by kernel_rfl) (by kernel_rfl) (by kernel_rfl) (by kernel_rfl) (by kernel_rfl) (by kernel_rfl) (by kernel_rfl) (by kernel_rfl) (fun _ _ _ h => h) (Or.inl ⟨by rfl, ?hy⟩) T0 ?_
      case hy =>
        intro X hX
        go_simp
      try simp only [Act.put, List.getElem_toArray, List.getElem_cons_zero, List.getElem_cons_succ, List.setIfInBounds_toArray, List.set_cons_zero, List.set_cons_succ]
      refine wpAnyG_take [7, 8, 9] (i := 7) (v := (.slice o1 L.length p1)) rfl (by kernel_rfl) (by kernel_rfl) (by kernel_rfl) (by kernel_rfl) (by kernel_rfl) (by kernel_rfl) (by kernel_rfl) (by kernel_rfl) (fun _ _ _ h => h) (Or.inl ⟨by rfl, ?hy⟩) T0 ?_
      case hy =>
        intro X hX
        have e0 := at_below m1 hX
        go_simp
      try simp only [Act.put, List.getElem_toArray, List.getElem_cons_zero, List.getElem_cons_succ, List.setIfInBounds_toArray, List.set_cons_zero, List.set_cons_succ]
      refine wpAnyG_all (rs := [8]) (by kernel_rfl) (by simp) ?_
      intro i hi
      simp only [List.mem_cons, List.not_mem_nil, or_false] at hi
      subst hi
      refine wpOp_now rfl rfl ?_
      go_simp
      refine (c9 _ (HS.out.2.2.2.1.below encN_len (by decide) T0) (HS.out.2.2.2.2.below encN_len (by decide) T0)).mono ?_
      rintro e Y8 ⟨rfl, hb⟩
      replace T0 := T0.trans (hb.mono T0.size)
      clear hb
      refine ⟨fun _ => T0, ?_⟩
      try simp only [Act.put, List.getElem_toArray, List.getElem_cons_zero, List.getElem_cons_succ, List.setIfInBounds_toArray, List.set_cons_zero, List.set_cons_succ]
      refine wpAnyG_all (rs := [9]) (by kernel_rfl) (by simp) ?_
      intro i hi
      simp only [List.mem_cons, List.not_mem_nil, or_false] at hi
      subst hi
      refine wpOp_now rfl rfl ?_
      go_simp
      refine ⟨fun _ => T0, ?_⟩
      try simp only [Act.put, List.getElem_toArray, List.getElem_cons_zero, List.getElem_cons_succ, List.setIfInBounds_toArray, List.set_cons_zero, List.set_cons_succ]
      refine wpAnyG_done (by kernel_rfl) ?_ _
      refine NoPanic.normal ?_
      obtain ⟨hK, hstep, hw2, hA, hW⟩ := HS.out
      have K6 := hK.below T0
      have hw6 := own_below hw2 T0
      have m6 := at_below m2 T0
      have HS2 := Lib.hid (And.intro K6 (And.intro hstep hw6))
      clear hK hstep hw2 hA hW K6 T0 m1 m2
      go_wp2_with (fail)
      refine (c10 _ hw6).mono ?_
      rintro e w9 ⟨rfl, hg⟩
      have K9 := HS2.out.2.1 _ _ HS2.out.1 HS2.out.2.2 hg
      clear hg hw6 m6
      go_wp2
      go_roundw
      case rel => exact ⟨k + 1, by go_num, by omega, K9⟩
      case measure => simp [intOf]; omega
    · obtain rfl : k = p := by omega
      go_wp2_with (fail)
      refine (c8 _ hK.1 hK.2.1).mono ?_
      rintro e w6 ⟨rfl, hb6⟩
      have hB6 := hK.2.2.2.2.2.2.trans (hb6.mono hK.2.2.2.2.2.2.size)
      clear hb6 hK
      go_wp2_with (fail)
      refine (wakes_any _).mono ?_
      rintro e w7 ⟨rfl, hb7⟩
      have hB7 := hB6.trans (hb7.mono hB6.size)
      go_wp2
      go_ret
      exact ⟨rfl, hB7⟩

theorem rounds_law (l : List Nt) (o : Option Addr) (cap delay : Nat) (v : Int) (hf : NForm o l.length cap) (hn2 : l.length ≤ 2932031007317) (w : World) (hr : RowAt w encN 6 o l) :
    Calls Try.prog 3 #[.slice o l.length cap, .int .i64 v, .float .f64 delay] w fun e w' => e = .returned (.bool true) ∧ Below w.heap.size w w' := by
  cases he : errR v delay with
  | true =>
    by_cases hn : l.length ≤ 65536
    · exact rounds_no l o cap delay v 2 (.inl rfl) hf hn w hr (fun W => roundD_arg _ o cap delay v he W) (fun o' c' W => round_arg _ o' c' delay v he W)
    · exact rounds_far l o cap delay v 2 (.inl rfl) hf (by omega) hn2 w hr (fun W => roundD_arg _ o cap delay v he W) (fun o' c' W => round_arg _ o' c' delay v he W)
  | false =>
    have he' := he
    unfold errR at he'
    simp only [Bool.or_eq_false_iff, decide_eq_false_iff_not] at he'
    obtain ⟨⟨⟨h1, h2⟩, _⟩, _⟩ := he'
    obtain ⟨p, rfl⟩ : ∃ p : Nat, v = p := ⟨v.toNat, by omega⟩
    by_cases hn : l.length ≤ 65536
    · exact rounds_ok l o cap delay p hf hn (by omega) (by omega) he w hr
    · have hb : 65536 < p * l.length := Nat.lt_of_lt_of_le (by omega) (Nat.le_mul_of_pos_left l.length (by omega : 0 < p))
      exact rounds_far l o cap delay p 3 (.inr rfl) hf (by omega) hn2 w hr (fun W => roundD_long _ o cap delay p (by omega) (by omega) hn2 hb he W) (fun o' c' W => round_long _ o' c' delay p (by omega) (by omega) hn2 hb he W)
end Go.Proofs.Ytdlbopaefkbmhaa
