/- Places: what a map tells: Text, Lines, Rune, Line. -/
import Derived.Test.YtjlfdoonhfkabaaQg
namespace Go.Proofs.Ytjlfdoonhfkabaa
set_option linter.unusedVariables false
set_option linter.unusedSimpArgs false
open Go Go.RowKit Go.Shelf
set_option maxRecDepth 100000

set_option maxHeartbeats 400000 in
theorem text_any (s : ByteArray) (m : Nat) (w : World) (hM : MapAt s m w) :
    Calls Try.prog 24 #[.pointer (some ⟨m, 0, none⟩)] w fun e w' => e = .returned (.string s) ∧ w = w' := by
  have h := mapAt_text hM
  go_enter Try.func24, Try.ntmps24
  go_wp2
  go_ret
  exact ⟨rfl, rfl⟩

set_option maxHeartbeats 400000 in
theorem lines_any (s : ByteArray) (m : Nat) (w : World) (hM : MapAt s m w) :
    Calls Try.prog 23 #[.pointer (some ⟨m, 0, none⟩)] w fun e w' => e = .returned (.int .i64 (rws s).length) ∧ w = w' := by
  obtain ⟨ga, ca, gb, cb, h1, _⟩ := hM
  have h := h1.cell 2
  simp only [List.getElem?_toArray, List.getElem?_cons_succ, List.getElem?_cons_zero] at h
  go_enter Try.func23, Try.ntmps23
  go_wp2
  go_ret
  exact ⟨rfl, rfl⟩

set_option maxHeartbeats 2000000 in
theorem rune_any (s : ByteArray) (hs : s.size ≤ 65536) (m : Nat) (w : World) (hM : MapAt s m w) (k : Nat) (hk : k ≤ nP s) :
    Calls Try.prog 18 #[.pointer (some ⟨m, 0, none⟩), .int .i64 k] w fun e w' => e = .returned (.tuple #[plV (pK s k), .int .i64 0]) ∧ Below w.heap.size w w' := by
  obtain ⟨ga, ca, gb, cb', h1, h2, h3⟩ := hM
  have hc := fun o => map_cells (W := w.alloc o) (s := s) (ga := ga) (k := k) (fun j hj => cell_le (plS_len s _) h2 ((Below.refl _ w).alloc (Nat.le_refl _) o) j hj) hk
  have hmc := h1.cell 1
  simp only [List.getElem?_toArray, List.getElem?_cons_succ, List.getElem?_cons_zero] at hmc
  have hmA : ∀ o, (w.alloc o).cell? ⟨m, 1, none⟩ = some (.slice (some ⟨ga, 0, none⟩) (nP s + 1) ca) := fun o => at_below hmc ((Below.refl _ w).alloc (Nat.le_refl _) o)
  have hnP := nP_le s
  obtain ⟨p, hp⟩ : ∃ p, pK s k = p := ⟨_, rfl⟩
  rw [hp] at hc ⊢
  clear hp h2 h3 h1
  obtain ⟨pb, pk, pu, pl, pc⟩ := p
  have d0 := fun o => (hc o).1
  have d1 := fun o => (hc o).2.1
  have d2 := fun o => (hc o).2.2.1
  have d3 := fun o => (hc o).2.2.2.1
  have d4 := fun o => (hc o).2.2.2.2
  clear hc
  have k0 : (0 : Int) ≤ (k : Int) := by omega
  have k1 : decide ((k : Int) < 0) = false := decide_eq_false (by omega)
  have k2 : decide (((nP s + 1 : Nat) : Int) ≤ (k : Int)) = false := decide_eq_false (by omega)
  have k3 : (k : Int) < ((nP s + 1 : Nat) : Int) := by omega
  have k4 : (k : Int) < (nP s : Int) + 1 := by omega
  simp only [plV]
  go_enter Try.func18, Try.ntmps18
  go_wp2
  exact bodyPost_ret (v := .tuple #[.agg #[.int .i64 pb, .int .i64 pk, .int .i64 pu, .int .i64 pl, .int .i64 pc], .int .i64 0]) (by simp [results, Try.f18, go_sem]) rfl ⟨rfl, (Below.refl _ w).alloc (Nat.le_refl _) _⟩

theorem rwC_get : ∀ (l : List (Nat × Nat × Nat)) (k : Nat) (r : Nat × Nat × Nat), l[k]? = some r → (rwC l)[k * 3]? = some (.int .i64 r.1) ∧ (rwC l)[k * 3 + 1]? = some (.int .i64 r.2.1) ∧ (rwC l)[k * 3 + 2]? = some (.int .i64 r.2.2)
  | [], k, r, h => by simp at h
  | x :: l, 0, r, h => by
    simp at h; subst h
    exact ⟨rfl, rfl, rfl⟩
  | x :: l, k + 1, r, h => by
    have h' := rwC_get l k r (by simpa using h)
    have e : rwC (x :: l) = [.int .i64 x.1, .int .i64 x.2.1, .int .i64 x.2.2] ++ rwC l := by simp [rwC]
    rw [e]
    refine ⟨?_, ?_, ?_⟩
    · rw [List.getElem?_append_right (by simp; omega)]; simpa [show (k + 1) * 3 - 3 = k * 3 by omega] using h'.1
    · rw [List.getElem?_append_right (by simp; omega)]; simpa [show (k + 1) * 3 + 1 - 3 = k * 3 + 1 by omega] using h'.2.1
    · rw [List.getElem?_append_right (by simp; omega)]; simpa [show (k + 1) * 3 + 2 - 3 = k * 3 + 2 by omega] using h'.2.2

set_option maxHeartbeats 2000000 in
theorem first_any (s : ByteArray) (hs : s.size ≤ 65536) (m : Nat) (w : World) (hM : MapAt s m w) (k fr tt ee : Nat) (hk : (rws s)[k]? = some (fr, tt, ee)) (j : Nat) (hj : j ≤ nP s) (h1 : (pK s j).b ≤ fr) (h2 : j < nP s → fr < (pK s (j + 1)).b) :
    Calls Try.prog 42 #[.pointer (some ⟨m, 0, none⟩), .int .i64 k] w fun e w' => e = .returned (plV (pK s j)) ∧ Below w.heap.size w w' := by
  have hM0 := hM
  obtain ⟨ga, ca, gb, cb', k1, k2, k3⟩ := hM
  have hkl : k < (rws s).length := (List.getElem?_eq_some_iff.1 hk).1
  have hr := (rwC_get _ _ _ hk).1
  have hcf := (k3 (k * 3) (by omega)).trans hr
  have hmc := k1.cell 2
  simp only [List.getElem?_toArray, List.getElem?_cons_succ, List.getElem?_cons_zero] at hmc
  have hcA : ∀ o, (w.alloc o).cell? ⟨gb, k * 3, none⟩ = some (.int .i64 fr) := fun o => at_below hcf ((Below.refl _ w).alloc (Nat.le_refl _) o)
  have hmA : ∀ o, (w.alloc o).cell? ⟨m, 2, none⟩ = some (.slice (some ⟨gb, 0, none⟩) (rws s).length cb') := fun o => at_below hmc ((Below.refl _ w).alloc (Nat.le_refl _) o)
  have hL := fun (W0 : World) (hM0 : MapAt s m W0) (b : Nat) (hb : W0.cell? ⟨b, 0, none⟩ = some (.int .i64 fr)) => last_byte hs hM0 (asks_first s b fr W0 hb) hj h1 h2
  obtain ⟨p, hp⟩ : ∃ p, pK s j = p := ⟨_, rfl⟩
  rw [hp] at hL ⊢
  clear hp h1 h2 k2 k3 hr hcf hk
  obtain ⟨pb, pk, pu, pl, pc⟩ := p
  simp only [plV] at hL ⊢
  have i0 : (0 : Int) ≤ (k : Int) := by omega
  have i1 : (k : Int) < ((rws s).length : Int) := by omega
  have b0 := (Blk.new w #[.int .i64 0, .int .i64 0, .int .i64 0, .int .i64 0, .int .i64 0] 28).alloc (.cells #[.int .i64 fr] 3)
  have b1 := Boxed.new (w.alloc (.cells #[.int .i64 0, .int .i64 0, .int .i64 0, .int .i64 0, .int .i64 0] 28)) 3 (.int .i64 fr)
  have bB : Below w.heap.size w ((w.alloc (.cells #[.int .i64 0, .int .i64 0, .int .i64 0, .int .i64 0, .int .i64 0] 28)).alloc (.cells #[.int .i64 fr] 3)) := ((Below.refl _ w).alloc (Nat.le_refl _) _).alloc (by simp) _
  simp only [World.size_alloc] at b1
  go_enter Try.func42, Try.ntmps42
  go_wp2_with (first | (go_at_call 37; refine (hL _ (mapAt_below hM0 bB) _ b1.cell).mono ?_; rintro e w2 ⟨rfl, hb2⟩; have hB2 := bB.trans (hb2.mono bB.size); have d0 := b0.below' hb2; have e1 := d0.cell; have e2 := d0.frozen; have e3 := d0.lt))
  refine bodyPost_ret (v := .agg #[.int .i64 pb, .int .i64 pk, .int .i64 pu, .int .i64 pl, .int .i64 pc]) (by simp [results, Try.f42, go_sem, e1, e3]) rfl ⟨rfl, ?_⟩
  exact ((((hB2.setCell (p := ⟨_, 0, none⟩) (by dsimp only; omega) _).setCell (p := ⟨_, 1, none⟩) (by dsimp only; omega) _).setCell (p := ⟨_, 2, none⟩) (by dsimp only; omega) _).setCell (p := ⟨_, 3, none⟩) (by dsimp only; omega) _).setCell (p := ⟨_, 4, none⟩) (by dsimp only; omega) _

set_option maxHeartbeats 2000000 in
theorem line_any (s : ByteArray) (hs : s.size ≤ 65536) (m : Nat) (w : World) (hM : MapAt s m w) (k fr tt ee : Nat) (hk : (rws s)[k]? = some (fr, tt, ee)) (j : Nat) (hj : j ≤ nP s) (h1 : (pK s j).b ≤ fr) (h2 : j < nP s → fr < (pK s (j + 1)).b)
    (c : Nat) (hjc : j + c ≤ nP s) (hl : (pK s (j + c)).l = k) :
    Calls Try.prog 20 #[.pointer (some ⟨m, 0, none⟩), .int .i64 k, .int .i64 c] w fun e w' => e = .returned (.tuple #[plV (pK s (j + c)), .int .i64 0]) ∧ Below w.heap.size w w' := by
  have hnP := nP_le s
  have hrl := rws_len s
  have hkl : k < (rws s).length := (List.getElem?_eq_some_iff.1 hk).1
  have hF := fun (W0 : World) (hM0 : MapAt s m W0) => first_any s hs m W0 hM0 k fr tt ee hk j hj h1 h2
  have hkj := pK_k s j
  have hM0 := hM
  obtain ⟨ga, ca, gb, cb', k1, k2, k3⟩ := hM
  have hmc := k1.cell 1
  have hmr := k1.cell 2
  simp only [List.getElem?_toArray, List.getElem?_cons_succ, List.getElem?_cons_zero] at hmc hmr
  have hrA : ∀ o, (w.alloc o).cell? ⟨m, 2, none⟩ = some (.slice (some ⟨gb, 0, none⟩) (rws s).length cb') := fun o => at_below hmr ((Below.refl _ w).alloc (Nat.le_refl _) o)
  obtain ⟨J, hJ⟩ : ∃ J, j + c = J := ⟨_, rfl⟩
  rw [hJ] at hjc hl ⊢
  have hJi : (j : Int) + (c : Int) = (J : Int) := by omega
  have hc := fun X (hX : Below w.heap.size w X) => map_cells (s := s) (ga := ga) (k := J) (W := X) (fun i hi => cell_le (plS_len s _) k2 hX i hi) hjc
  have hmX := fun X (hX : Below w.heap.size w X) => at_below hmc hX
  obtain ⟨q, hq⟩ : ∃ q, pK s j = q := ⟨_, rfl⟩
  rw [hq] at hF hkj
  obtain ⟨p, hp⟩ : ∃ p, pK s J = p := ⟨_, rfl⟩
  rw [hp] at hc hl ⊢
  clear hp hq h1 h2 k2 k3 hk k1
  obtain ⟨qb, qk, qu, ql, qc⟩ := q
  obtain ⟨pb, pk, pu, pl, pc⟩ := p
  simp only at hkj hl
  subst hkj
  subst hl
  simp only [plV] at hF ⊢
  obtain ⟨n, hn⟩ : ∃ n, nP s = n := ⟨_, rfl⟩
  rw [hn] at hnP hj hjc hmX
  obtain ⟨R, hR⟩ : ∃ R, (rws s).length = R := ⟨_, rfl⟩
  rw [hR] at hrl hkl hrA
  clear hn hR hmr hmc
  have i0 : decide ((pl : Int) < 0) = false := decide_eq_false (by omega)
  have i1 : decide ((R : Int) ≤ (pl : Int)) = false := decide_eq_false (by omega)
  have i2 : decide ((c : Int) < 0) = false := decide_eq_false (by omega)
  have i3 : decide ((n : Int) + 1 - (qk : Int) ≤ (c : Int)) = false := decide_eq_false (by omega)
  have i4 : (J : Int) < (n : Int) + 1 := by omega
  have i5 : (0 : Int) ≤ (J : Int) := by omega
  have i6 : IntKind.i64.wrap (J : Int) = (J : Int) := IntWalk.i64_in _ (by omega)
  have i7 : IntKind.i64.wrap ((n : Int) + 1 - (qk : Int)) = (n : Int) + 1 - (qk : Int) := IntWalk.i64_in _ (by omega)
  have e9 := fun (X : World) => field_k (.int .i64 qb) (.int .i64 qk) (.int .i64 qu) (.int .i64 ql) (.int .i64 qc) X
  have b0 := Blk.new w #[.int .i64 0, .int .i64 0, .int .i64 0, .int .i64 0, .int .i64 0] 28
  have bB : Below w.heap.size w (w.alloc (.cells #[.int .i64 0, .int .i64 0, .int .i64 0, .int .i64 0, .int .i64 0] 28)) := (Below.refl _ w).alloc (Nat.le_refl _) _
  go_enter Try.func20, Try.ntmps20
  go_wp2_with (first | (go_at_call 42; refine (hF _ (mapAt_below hM0 bB)).mono ?_; rintro e w2 ⟨rfl, hb2⟩; have hB2 := bB.trans (hb2.mono bB.size); have d0 := b0.below' hb2; have e1 := d0.cell; have e2 := d0.frozen; have e3 := d0.lt; obtain ⟨y0, y1, y2, y3, y4⟩ := hc w2 hB2; have y5 := hmX w2 hB2))
  refine bodyPost_ret (v := .tuple #[.agg #[.int .i64 pb, .int .i64 pk, .int .i64 pu, .int .i64 pl, .int .i64 pc], .int .i64 0]) (by simp [results, Try.f20, go_sem, e1, e3]) rfl ⟨rfl, ?_⟩
  exact ((((hB2.setCell (p := ⟨_, 0, none⟩) (by dsimp only; omega) _).setCell (p := ⟨_, 1, none⟩) (by dsimp only; omega) _).setCell (p := ⟨_, 2, none⟩) (by dsimp only; omega) _).setCell (p := ⟨_, 3, none⟩) (by dsimp only; omega) _).setCell (p := ⟨_, 4, none⟩) (by dsimp only; omega) _
end Go.Proofs.Ytjlfdoonhfkabaa
