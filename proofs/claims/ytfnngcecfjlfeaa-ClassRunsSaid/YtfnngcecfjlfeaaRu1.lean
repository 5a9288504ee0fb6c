/- The document's Runs of layer 3. -/
import Derived.Test.YtfnngcecfjlfeaaRu0
import Derived.Test.YtfnngcecfjlfeaaGn
import Derived.Test.YtfnngcecfjlfeaaCe
namespace Go.Proofs.Ytfnngcecfjlfeaa
set_option linter.unusedVariables false
set_option linter.unusedSimpArgs false
open Go Go.RowKit Go.Shelf
set_option maxRecDepth 100000

/-- The kind of the piece at a place. -/
def kd (s : ByteArray) (i : Nat) : Nat := if bk s i then 11 else (kindZ (rn s i)).toNat
theorem kindZ_nn (r : Int) : 0 ≤ kindZ r := by
  unfold kindZ
  repeat' split
  all_goals omega
theorem kindZ_le (r : Int) : kindZ r ≤ 10 := by
  unfold kindZ
  repeat' split
  all_goals omega
theorem kd_le (s : ByteArray) (i : Nat) : kd s i ≤ 11 := by
  unfold kd
  have := kindZ_le (rn s i)
  split <;> omega
theorem ofD_kd (s : ByteArray) (i : Nat) (w : World) :
    Calls Try.prog 27 #[.agg #[.int .i64 i, .int .i64 (wd s i : Nat), .int .i32 (rn s i : Nat), .bool (bk s i)]] w fun e w' => e = .returned (.int .i64 (kd s i : Nat)) ∧ Below w.heap.size w w' := by
  unfold kd
  cases hb : bk s i with
  | true => exact ofD_t i (wd s i : Nat) (rn s i : Nat) w
  | false =>
    have := ofD_f i (wd s i : Nat) (rn s i : Nat) w
    rw [show kindZ (rn s i : Nat) = (((kindZ (rn s i : Nat)).toNat : Nat) : Int) from (Int.toNat_of_nonneg (kindZ_nn _)).symm] at this
    simpa using this
theorem of_kd (s : ByteArray) (i : Nat) (w : World) :
    Calls Try.prog 47 #[.agg #[.int .i64 i, .int .i64 (wd s i : Nat), .int .i32 (rn s i : Nat), .bool (bk s i)]] w fun e w' => e = .returned (.int .i64 (kd s i : Nat)) ∧ Below w.heap.size w w' := by
  unfold kd
  cases hb : bk s i with
  | true => exact ofP_t i (wd s i : Nat) (rn s i : Nat) w
  | false =>
    have := ofP_f i (wd s i : Nat) (rn s i : Nat) w
    rw [show kindZ (rn s i : Nat) = (((kindZ (rn s i : Nat)).toNat : Nat) : Int) from (Int.toNat_of_nonneg (kindZ_nn _)).symm] at this
    simpa using this
/-- All rows of pieces of one kind. -/
def runsL (s : ByteArray) : List Run3 := emits s (kd s) (0, 0, 0) (posns s)
theorem runsL_len (s : ByteArray) : (runsL s).length ≤ s.size + 1 := by
  have h1 := emits_len s (kd s) (posns s) (0, 0, 0)
  have h2 := posns_len s
  unfold runsL; omega
/-- Cells of three each. -/
def rc (l : List Run3) : List Value := l.flatMap fun x => [.int .i64 (x.1 : Nat), .int .i64 (x.2.1 : Nat), .int .i64 (x.2.2 : Nat)]
theorem rc_app (a b : List Run3) : rc (a ++ b) = rc a ++ rc b := by simp [rc]
theorem rc_one (a b c : Nat) : rc [(a, b, c)] = [.int .i64 (a : Nat), .int .i64 (b : Nat), .int .i64 (c : Nat)] := by simp [rc]
theorem rc_len (l : List Run3) : (rc l).length = l.length * 3 := by
  induction l with
  | nil => rfl
  | cons x l ih => simp only [rc, List.flatMap_cons, List.length_append, List.length_cons, List.length_nil] at ih ⊢; omega
theorem rc_set1 (a : List Run3) (x y z v : Nat) : (rc (a ++ [(x, y, z)])).set (a.length * 3 + 1) (.int .i64 v) = rc (a ++ [(x, v, z)]) := by
  rw [rc_app, rc_app, rc_one, rc_one, List.set_append_right _ _ (by rw [rc_len]; omega), rc_len, show a.length * 3 + 1 - a.length * 3 = 1 by omega]
  rfl
theorem rc_get {l : List Run3} {k : Nat} {x : Run3} (h : l[k]? = some x) : (rc l)[k * 3]? = some (.int .i64 (x.1 : Nat)) ∧ (rc l)[k * 3 + 1]? = some (.int .i64 (x.2.1 : Nat)) ∧ (rc l)[k * 3 + 2]? = some (.int .i64 (x.2.2 : Nat)) := by
  induction l generalizing k with
  | nil => simp at h
  | cons y l ih =>
    cases k with
    | zero => simp at h; subst h; simp [rc]
    | succ k =>
      have h' := ih (by simpa using h)
      have e : rc (y :: l) = [.int .i64 (y.1 : Nat), .int .i64 (y.2.1 : Nat), .int .i64 (y.2.2 : Nat)] ++ rc l := by simp [rc]
      rw [e]
      refine ⟨?_, ?_, ?_⟩
      · rw [List.getElem?_append_right (by simp; omega)]; simpa [show (k + 1) * 3 - 3 = k * 3 by omega] using h'.1
      · rw [List.getElem?_append_right (by simp; omega)]; simpa [show (k + 1) * 3 + 1 - 3 = k * 3 + 1 by omega] using h'.2.1
      · rw [List.getElem?_append_right (by simp; omega)]; simpa [show (k + 1) * 3 + 2 - 3 = k * 3 + 2 by omega] using h'.2.2
theorem infoRun : (Try.prog.info? 47).map (fun i => (i.zero, i.size, i.bytes)) = some (some (.agg #[.int .i64 0, .int .i64 0, .int .i64 0]), 3, 24) := by kernel_rfl

theorem lt_cell {X : World} {b i : Nat} {v : Value} (h : X.cell? ⟨b, i, none⟩ = some v) : b < X.heap.size := World.block_lt_of_cell? X _ h
theorem at_below {X Y : World} {b i : Nat} {v : Value} (h : X.cell? ⟨b, i, none⟩ = some v) (hb : Below X.heap.size X Y) : Y.cell? ⟨b, i, none⟩ = some v := (hb.cell (p := ⟨b, i, none⟩) (lt_cell h)).trans h
theorem dfold_same {s : ByteArray} {kd : Nat → Nat} {out : List Run3} {r : Run3} {p : Nat} {ps : List Nat} (h : kd p = r.2.2) : dfold s kd out (some r) (p :: ps) = dfold s kd out (some (r.1, p + wd s p, r.2.2)) ps := by simp [dfold, h]
theorem dfold_diff {s : ByteArray} {kd : Nat → Nat} {out : List Run3} {r : Run3} {p : Nat} {ps : List Nat} (h : kd p ≠ r.2.2) : dfold s kd out (some r) (p :: ps) = dfold s kd (out ++ [r]) (some (p, p + wd s p, kd p)) ps := by simp [dfold, h]

def DrRel (s : ByteArray) (w1 : World) (base : Nat) (l i : Value) (wr : World) : Prop :=
  ∃ (k : Nat) (L : List Run3), i = .int .i64 k ∧ k ≤ (posns s).length ∧ wr.ownsRow base 47 3 l L.length (rc L) ∧ Below base w1 wr ∧
    ((k = 0 ∧ L = []) ∨ ∃ out r, L = out ++ [r] ∧ L.length ≤ k ∧ dfold s (kd s) out (some r) ((posns s).drop k) = runsL s)

set_option maxHeartbeats 8000000 in
theorem runsD_any (s : ByteArray) (hs : s.size ≤ 2147483647) (w : World) : Calls Try.prog 30 #[.string s] w fun e w' => ∃ v base, e = .returned v ∧ w.heap.size ≤ base ∧ w'.ownsRow base 47 3 v (runsL s).length (rc (runsL s)) ∧ Below w.heap.size w w' := by
  obtain ⟨i0, hi, hz0, hz1, hz2⟩ := info_parts infoRun
  have hpl := posns_len s
  have cO := fun p W => ofD_kd s p W
  go_enter Try.func30, Try.ntmps30
  go_wp2_with (fail)
  refine (piecesD_any s hs w).mono ?_
  rintro e w1 ⟨pv, rfl, hp, hB1⟩
  obtain ⟨op, cp, rfl, hop⟩ := own_slice hp
  have hpC : ∀ X, Below w1.heap.size w1 X → ∀ k p, k < (posns s).length → (posns s)[k]? = some p → ∃ g, op = some ⟨g, 0, none⟩ ∧ (X.cell? ⟨g, k * 4, none⟩ = some (.int .i64 p) ∧ X.cell? ⟨g, k * 4 + 1, none⟩ = some (.int .i64 (wd s p : Nat)) ∧
      X.cell? ⟨g, k * 4 + 2, none⟩ = some (.int .i32 (rn s p : Nat)) ∧ X.cell? ⟨g, k * 4 + 3, none⟩ = some (.bool (bk s p))) := fun X hX k p hk hkp => by
    obtain ⟨g, rfl⟩ := hop (by omega)
    exact ⟨g, rfl, nth_cells (own_below hp hX) rfl k hk p hkp⟩
  have HPC := Lib.hid hpC
  have hin : ∀ (l i : Value), l = .slice none 0 0 → i = .int .i64 0 → DrRel s w1 w1.heap.size l i w1 := by
    rintro l i rfl rfl
    exact ⟨0, [], rfl, Nat.zero_le _, World.ownsRow_nil _ _ _ _, Below.refl _ _, .inl ⟨rfl, rfl⟩⟩
  obtain ⟨N, hN⟩ : ∃ N, (posns s).length = N := ⟨_, rfl⟩
  have HN := Lib.hid hN
  rw [hN] at hpl ⊢
  have hw1 : w.heap.size ≤ w1.heap.size := hB1.size
  clear hp hpC hop hN
  go_wp2
  go_loopw [4, 5] (fun l i wr => DrRel s w1 w1.heap.size l i wr) (fun _ i _ => N - (intOf i).toNat)
  case atStart => exact hin _ _ rfl rfl
  case round =>
    clear hin
    obtain ⟨k, L, rfl, hk, hown, hB, hcase⟩ := hrel
    rw [HN.out] at hk
    by_cases hlt : k < N
    · obtain ⟨p, hkp⟩ : ∃ p, (posns s)[k]? = some p := ⟨_, List.getElem?_eq_getElem (by rw [HN.out]; exact hlt)⟩
      obtain ⟨gp, rfl, d0, d1, d2, d3⟩ := HPC.out wr hB k p (by rw [HN.out]; exact hlt) hkp
      have hdrop : (posns s).drop k = p :: (posns s).drop (k + 1) := by
        have h1 : k < (posns s).length := by rw [HN.out]; exact hlt
        rw [List.getElem?_eq_getElem h1] at hkp
        rw [← Option.some.inj hkp, List.drop_eq_getElem_cons h1]
      have hps : p < s.size := (posG_ge s 0 p (by rw [← posns_G]; exact List.mem_of_getElem? hkp)).2
      have hwf := wd_fits s p hps
      have hkl := kd_le s p
      have cOp := cO p
      obtain ⟨wx, hwx⟩ : ∃ x, wd s p = x := ⟨_, rfl⟩
      obtain ⟨rx, hrx⟩ : ∃ x, rn s p = x := ⟨_, rfl⟩
      obtain ⟨bx, hbx⟩ : ∃ x, bk s p = x := ⟨_, rfl⟩
      obtain ⟨kx, hkx⟩ : ∃ x, kd s p = x := ⟨_, rfl⟩
      rw [hwx, hrx, hbx, hkx] at cOp
      rw [hwx] at d1 hwf
      rw [hrx] at d2
      rw [hbx] at d3
      rw [hkx] at hkl
      have i5 : (0 : Int) ≤ (k : Int) := by omega
      have i6 : (k : Int) < (N : Int) := by omega
      have j1 : IntKind.i64.wrap ((p : Int) + (wx : Int)) = (p : Int) + (wx : Int) := IntWalk.i64_in _ (by omega)
      have hDC := fun X (hX : Below w1.heap.size w1 X) => (HPC.out X hX k p (by rw [HN.out]; exact hlt) hkp)
      simp only [hwx, hrx, hbx] at hDC
      have HDC := Lib.hid (fun X (hX : Below w1.heap.size w1 X) => (by
        obtain ⟨g9, e9, h9⟩ := hDC X hX
        obtain rfl : gp = g9 := by simpa using e9
        exact h9 : (X.cell? ⟨gp, k * 4, none⟩ = some (.int .i64 p) ∧ X.cell? ⟨gp, k * 4 + 1, none⟩ = some (.int .i64 wx) ∧ X.cell? ⟨gp, k * 4 + 2, none⟩ = some (.int .i32 rx) ∧ X.cell? ⟨gp, k * 4 + 3, none⟩ = some (.bool bx))))
      have HKP := Lib.hid hkp
      have HD := Lib.hid hdrop
      have HW := Lib.hid hwx
      have HK := Lib.hid hkx
      have hRe : ∀ (i l : Value) (X : World) (out : List Run3) (r : Run3) (n1 : Nat), i = .int .i64 ((k : Int) + 1) → (out ++ [r]).length = n1 → n1 ≤ k + 1 → X.ownsRow w1.heap.size 47 3 l n1 (rc (out ++ [r])) → Below w1.heap.size w1 X → dfold s (kd s) out (some r) ((posns s).drop (k + 1)) = runsL s → DrRel s w1 w1.heap.size l i X := by
        intro i l X out r n1 h0 h1 h2 h3 h4 h5
        subst h1
        exact ⟨k + 1, out ++ [r], by rw [h0]; go_num, by rw [HN.out]; omega, h3, h4, .inr ⟨out, r, rfl, h2, h5⟩⟩
      have HRE := Lib.hid hRe
      clear hdrop hwx hrx hbx hkx hkp hDC hRe
      rcases hcase with ⟨h0, rfl⟩ | ⟨out, r, rfl, hLk, hdf⟩
      · obtain ⟨n1, hn1⟩ : ∃ x, ([] : List Run3).length = x := ⟨_, rfl⟩
        rw [hn1] at hown
        have hn1b : n1 = 0 := by rw [← hn1]; rfl
        have H00 := Lib.hid hn1b
        have i9 : n1 ≤ k := by omega
        have hdf : dfold s (kd s) ([] ++ []) (some (p, p + wd s p, kd s p)) ((posns s).drop (k + 1)) = runsL s := by
          have h1 : posns s = p :: (posns s).drop (k + 1) := by rw [← HD.out, h0]; rfl
          have h2 := runs_same s (kd s)
          rw [h1] at h2
          exact (show dfold s (kd s) [] none (p :: (posns s).drop (k + 1)) = dfold s (kd s) [] (some (p, p + wd s p, kd s p)) ((posns s).drop (k + 1)) from rfl).symm.trans (h2.trans (by rw [← h1]; rfl))
        obtain ⟨out9, hout9⟩ : ∃ x, ([] : List Run3) ++ [] = x := ⟨_, rfl⟩
        rw [show ([] : List Run3) = out9 from hout9] at hown
        rw [hout9] at hdf
        have hm9 : out9.length = n1 := by rw [← hout9]; simpa using hn1
        obtain ⟨o, cap, rfl, _⟩ := own_slice hown
        rw [HW.out, HK.out] at hdf
        have HM9 := Lib.hid hm9
        have HDF := Lib.hid hdf
        clear hdf hm9 hn1 hn1b hout9 h0
        have w8 : IntKind.i64.wrap ((n1 : Int) + 1) = (n1 : Int) + 1 := IntWalk.i64_in _ (by omega)
        go_wp2
        refine wp_region_noPanic ?_
        refine wp_region_g (S := untilG [] (fun X => Below wr.heap.size wr X)) (by kernel_rfl) ?_
        obtain ⟨Y0, hY0⟩ : ∃ X, wr.drew = X := ⟨_, rfl⟩
        have T0 : Below wr.heap.size wr Y0 := hY0 ▸ (Below.refl wr.heap.size wr).drew
        rw [hY0]
        clear hY0
        refine wpAnyG_take [0, 1, 2, 3, 4, 5, 6, 7, 8, 9, 10, 11, 12, 13, 14, 15] (i := 0) (v := (.int .i64 n1)) rfl (by kernel_rfl) (by kernel_rfl) (by kernel_rfl) (by kernel_rfl) (by kernel_rfl) (by kernel_rfl) (by kernel_rfl) (by kernel_rfl) (fun _ _ _ h => h) (Or.inl ⟨by rfl, ?hy⟩) T0 ?_
        case hy =>
          intro X hX
          go_simp
        try simp only [Act.put, List.getElem_toArray, List.getElem_cons_zero, List.getElem_cons_succ, List.setIfInBounds_toArray, List.set_cons_zero, List.set_cons_succ]
        refine wpAnyG_take [1, 2, 3, 4, 5, 6, 7, 8, 9, 10, 11, 12, 13, 14, 15] (i := 1) (v := (.bool true)) rfl (by kernel_rfl) (by kernel_rfl) (by kernel_rfl) (by kernel_rfl) (by kernel_rfl) (by kernel_rfl) (by kernel_rfl) (by kernel_rfl) (fun _ _ _ h => h) (Or.inl ⟨by rfl, ?hy⟩) T0 ?_
        case hy =>
          intro X hX
          have hz := H00.out
          go_simp
        try simp only [Act.put, List.getElem_toArray, List.getElem_cons_zero, List.getElem_cons_succ, List.setIfInBounds_toArray, List.set_cons_zero, List.set_cons_succ]
        refine wpAnyG_take [2, 3, 4, 5, 6, 7, 8, 9, 10, 11, 12, 13, 14, 15] (i := 2) (v := (.bool true)) rfl (by kernel_rfl) (by kernel_rfl) (by kernel_rfl) (by kernel_rfl) (by kernel_rfl) (by kernel_rfl) (by kernel_rfl) (by kernel_rfl) (fun _ _ _ h => h) (Or.inl ⟨by rfl, ?hy⟩) T0 ?_
        case hy =>
          intro X hX
          go_simp
        try simp only [Act.put, List.getElem_toArray, List.getElem_cons_zero, List.getElem_cons_succ, List.setIfInBounds_toArray, List.set_cons_zero, List.set_cons_succ]
        refine wpAnyG_take [3, 6, 7, 8, 14, 15] (i := 3) (v := undef) rfl (by kernel_rfl) (by kernel_rfl) (by kernel_rfl) (by kernel_rfl) (by kernel_rfl) (by kernel_rfl) (by kernel_rfl) (by kernel_rfl) (fun _ _ _ h => h) (Or.inr ⟨by rfl, rfl⟩) T0 ?_
        try simp only [Act.put, List.getElem_toArray, List.getElem_cons_zero, List.getElem_cons_succ, List.setIfInBounds_toArray, List.set_cons_zero, List.set_cons_succ]
        refine wpAnyG_take [4, 5, 6, 7, 8, 14, 15] (i := 4) (v := undef) rfl (by kernel_rfl) (by kernel_rfl) (by kernel_rfl) (by kernel_rfl) (by kernel_rfl) (by kernel_rfl) (by kernel_rfl) (by kernel_rfl) (fun _ _ _ h => h) (Or.inr ⟨by rfl, rfl⟩) T0 ?_
        try simp only [Act.put, List.getElem_toArray, List.getElem_cons_zero, List.getElem_cons_succ, List.setIfInBounds_toArray, List.set_cons_zero, List.set_cons_succ]
        refine wpAnyG_take [5, 6, 7, 8, 14, 15] (i := 5) (v := undef) rfl (by kernel_rfl) (by kernel_rfl) (by kernel_rfl) (by kernel_rfl) (by kernel_rfl) (by kernel_rfl) (by kernel_rfl) (by kernel_rfl) (fun _ _ _ h => h) (Or.inr ⟨by rfl, rfl⟩) T0 ?_
        try simp only [Act.put, List.getElem_toArray, List.getElem_cons_zero, List.getElem_cons_succ, List.setIfInBounds_toArray, List.set_cons_zero, List.set_cons_succ]
        refine wpAnyG_take [6, 7, 8, 14, 15] (i := 6) (v := undef) rfl (by kernel_rfl) (by kernel_rfl) (by kernel_rfl) (by kernel_rfl) (by kernel_rfl) (by kernel_rfl) (by kernel_rfl) (by kernel_rfl) (fun _ _ _ h => h) (Or.inr ⟨by rfl, rfl⟩) T0 ?_
        try simp only [Act.put, List.getElem_toArray, List.getElem_cons_zero, List.getElem_cons_succ, List.setIfInBounds_toArray, List.set_cons_zero, List.set_cons_succ]
        refine wpAnyG_take [7, 8, 14, 15] (i := 7) (v := undef) rfl (by kernel_rfl) (by kernel_rfl) (by kernel_rfl) (by kernel_rfl) (by kernel_rfl) (by kernel_rfl) (by kernel_rfl) (by kernel_rfl) (fun _ _ _ h => h) (Or.inr ⟨by rfl, rfl⟩) T0 ?_
        try simp only [Act.put, List.getElem_toArray, List.getElem_cons_zero, List.getElem_cons_succ, List.setIfInBounds_toArray, List.set_cons_zero, List.set_cons_succ]
        refine wpAnyG_take [8, 14, 15] (i := 8) (v := undef) rfl (by kernel_rfl) (by kernel_rfl) (by kernel_rfl) (by kernel_rfl) (by kernel_rfl) (by kernel_rfl) (by kernel_rfl) (by kernel_rfl) (fun _ _ _ h => h) (Or.inr ⟨by rfl, rfl⟩) T0 ?_
        try simp only [Act.put, List.getElem_toArray, List.getElem_cons_zero, List.getElem_cons_succ, List.setIfInBounds_toArray, List.set_cons_zero, List.set_cons_succ]
        refine wpAnyG_take [9, 11, 12, 13, 14, 15] (i := 9) (v := undef) rfl (by kernel_rfl) (by kernel_rfl) (by kernel_rfl) (by kernel_rfl) (by kernel_rfl) (by kernel_rfl) (by kernel_rfl) (by kernel_rfl) (fun _ _ _ h => h) (Or.inr ⟨by rfl, rfl⟩) T0 ?_
        try simp only [Act.put, List.getElem_toArray, List.getElem_cons_zero, List.getElem_cons_succ, List.setIfInBounds_toArray, List.set_cons_zero, List.set_cons_succ]
        refine wpAnyG_take [10, 11, 12, 13, 14, 15] (i := 10) (v := undef) rfl (by kernel_rfl) (by kernel_rfl) (by kernel_rfl) (by kernel_rfl) (by kernel_rfl) (by kernel_rfl) (by kernel_rfl) (by kernel_rfl) (fun _ _ _ h => h) (Or.inr ⟨by rfl, rfl⟩) T0 ?_
        try simp only [Act.put, List.getElem_toArray, List.getElem_cons_zero, List.getElem_cons_succ, List.setIfInBounds_toArray, List.set_cons_zero, List.set_cons_succ]
        refine wpAnyG_take [11, 12, 13, 14, 15] (i := 11) (v := undef) rfl (by kernel_rfl) (by kernel_rfl) (by kernel_rfl) (by kernel_rfl) (by kernel_rfl) (by kernel_rfl) (by kernel_rfl) (by kernel_rfl) (fun _ _ _ h => h) (Or.inr ⟨by rfl, rfl⟩) T0 ?_
        try simp only [Act.put, List.getElem_toArray, List.getElem_cons_zero, List.getElem_cons_succ, List.setIfInBounds_toArray, List.set_cons_zero, List.set_cons_succ]
        refine wpAnyG_take [12, 13, 14, 15] (i := 12) (v := undef) rfl (by kernel_rfl) (by kernel_rfl) (by kernel_rfl) (by kernel_rfl) (by kernel_rfl) (by kernel_rfl) (by kernel_rfl) (by kernel_rfl) (fun _ _ _ h => h) (Or.inr ⟨by rfl, rfl⟩) T0 ?_
        try simp only [Act.put, List.getElem_toArray, List.getElem_cons_zero, List.getElem_cons_succ, List.setIfInBounds_toArray, List.set_cons_zero, List.set_cons_succ]
        refine wpAnyG_take [13, 14, 15] (i := 13) (v := undef) rfl (by kernel_rfl) (by kernel_rfl) (by kernel_rfl) (by kernel_rfl) (by kernel_rfl) (by kernel_rfl) (by kernel_rfl) (by kernel_rfl) (fun _ _ _ h => h) (Or.inr ⟨by rfl, rfl⟩) T0 ?_
        try simp only [Act.put, List.getElem_toArray, List.getElem_cons_zero, List.getElem_cons_succ, List.setIfInBounds_toArray, List.set_cons_zero, List.set_cons_succ]
        refine wpAnyG_take [14, 15] (i := 14) (v := undef) rfl (by kernel_rfl) (by kernel_rfl) (by kernel_rfl) (by kernel_rfl) (by kernel_rfl) (by kernel_rfl) (by kernel_rfl) (by kernel_rfl) (fun _ _ _ h => h) (Or.inr ⟨by rfl, rfl⟩) T0 ?_
        try simp only [Act.put, List.getElem_toArray, List.getElem_cons_zero, List.getElem_cons_succ, List.setIfInBounds_toArray, List.set_cons_zero, List.set_cons_succ]
        refine wpAnyG_take [15] (i := 15) (v := (.bool true)) rfl (by kernel_rfl) (by kernel_rfl) (by kernel_rfl) (by kernel_rfl) (by kernel_rfl) (by kernel_rfl) (by kernel_rfl) (by kernel_rfl) (fun _ _ _ h => h) (Or.inl ⟨by rfl, ?hy⟩) T0 ?_
        case hy =>
          intro X hX
          go_simp
        try simp only [Act.put, List.getElem_toArray, List.getElem_cons_zero, List.getElem_cons_succ, List.setIfInBounds_toArray, List.set_cons_zero, List.set_cons_succ]
        refine wpAnyG_done (by kernel_rfl) ?_ _
        refine NoPanic.normal ?_
        have hBV := hB.trans (T0.mono hB.size)
        have hoV := own_below hown T0
        clear T0 hown hB d0 d1 d2 d3
        go_wp2
        obtain ⟨v0, v1, v2, v3⟩ := HDC.out Y0 hBV
        refine wp_region_noPanic ?_
        refine wp_region_g (S := untilG [18] (fun X => Below Y0.heap.size Y0 X)) (by kernel_rfl) ?_
        obtain ⟨Z0, hZ0⟩ : ∃ X, Y0.drew = X := ⟨_, rfl⟩
        have T0 : Below Y0.heap.size Y0 Z0 := hZ0 ▸ (Below.refl Y0.heap.size Y0).drew
        rw [hZ0]
        clear hZ0
        refine wpAnyG_take [0, 19] (i := 0) (v := (.slice o n1 cap)) rfl (by kernel_rfl) (by kernel_rfl) (by kernel_rfl) (by kernel_rfl) (by kernel_rfl) (by kernel_rfl) (by kernel_rfl) (by kernel_rfl) (fun _ _ _ h => h) (Or.inl ⟨by rfl, ?hy⟩) T0 ?_
        case hy =>
          intro X hX
          go_simp
        try simp only [Act.put, List.getElem_toArray, List.getElem_cons_zero, List.getElem_cons_succ, List.setIfInBounds_toArray, List.set_cons_zero, List.set_cons_succ]
        refine wpAnyG_take [1, 3, 4, 5, 16, 17, 19] (i := 1) (v := (.slice (some ⟨gp, 0, none⟩) N cp)) rfl (by kernel_rfl) (by kernel_rfl) (by kernel_rfl) (by kernel_rfl) (by kernel_rfl) (by kernel_rfl) (by kernel_rfl) (by kernel_rfl) (fun _ _ _ h => h) (Or.inl ⟨by rfl, ?hy⟩) T0 ?_
        case hy =>
          intro X hX
          go_simp
        try simp only [Act.put, List.getElem_toArray, List.getElem_cons_zero, List.getElem_cons_succ, List.setIfInBounds_toArray, List.set_cons_zero, List.set_cons_succ]
        refine wpAnyG_take [2, 3, 4, 5, 16, 17, 19] (i := 2) (v := (.int .i64 k)) rfl (by kernel_rfl) (by kernel_rfl) (by kernel_rfl) (by kernel_rfl) (by kernel_rfl) (by kernel_rfl) (by kernel_rfl) (by kernel_rfl) (fun _ _ _ h => h) (Or.inl ⟨by rfl, ?hy⟩) T0 ?_
        case hy =>
          intro X hX
          go_simp
        try simp only [Act.put, List.getElem_toArray, List.getElem_cons_zero, List.getElem_cons_succ, List.setIfInBounds_toArray, List.set_cons_zero, List.set_cons_succ]
        refine wpAnyG_take [3, 4, 5, 16, 17, 19] (i := 3) (v := (.pointer (some ⟨gp, k * 4, none⟩))) rfl (by kernel_rfl) (by kernel_rfl) (by kernel_rfl) (by kernel_rfl) (by kernel_rfl) (by kernel_rfl) (by kernel_rfl) (by kernel_rfl) (fun _ _ _ h => h) (Or.inl ⟨by rfl, ?hy⟩) T0 ?_
        case hy =>
          intro X hX
          go_simp
        try simp only [Act.put, List.getElem_toArray, List.getElem_cons_zero, List.getElem_cons_succ, List.setIfInBounds_toArray, List.set_cons_zero, List.set_cons_succ]
        refine wpAnyG_take [4, 5, 16, 17, 19] (i := 4) (v := (.pointer (some ⟨gp, k * 4, none⟩))) rfl (by kernel_rfl) (by kernel_rfl) (by kernel_rfl) (by kernel_rfl) (by kernel_rfl) (by kernel_rfl) (by kernel_rfl) (by kernel_rfl) (fun _ _ _ h => h) (Or.inl ⟨by rfl, ?hy⟩) T0 ?_
        case hy =>
          intro X hX
          go_simp
        try simp only [Act.put, List.getElem_toArray, List.getElem_cons_zero, List.getElem_cons_succ, List.setIfInBounds_toArray, List.set_cons_zero, List.set_cons_succ]
        refine wpAnyG_take [5, 16, 17, 19] (i := 5) (v := (.int .i64 p)) rfl (by kernel_rfl) (by kernel_rfl) (by kernel_rfl) (by kernel_rfl) (by kernel_rfl) (by kernel_rfl) (by kernel_rfl) (by kernel_rfl) (fun _ _ _ h => h) (Or.inl ⟨by rfl, ?hy⟩) T0 ?_
        case hy =>
          intro X hX
          have e0 := at_below v0 hX
          go_simp
        try simp only [Act.put, List.getElem_toArray, List.getElem_cons_zero, List.getElem_cons_succ, List.setIfInBounds_toArray, List.set_cons_zero, List.set_cons_succ]
        refine wpAnyG_take [6, 8, 9, 10, 16, 17, 19] (i := 6) (v := (.slice (some ⟨gp, 0, none⟩) N cp)) rfl (by kernel_rfl) (by kernel_rfl) (by kernel_rfl) (by kernel_rfl) (by kernel_rfl) (by kernel_rfl) (by kernel_rfl) (by kernel_rfl) (fun _ _ _ h => h) (Or.inl ⟨by rfl, ?hy⟩) T0 ?_
        case hy =>
          intro X hX
          go_simp
        try simp only [Act.put, List.getElem_toArray, List.getElem_cons_zero, List.getElem_cons_succ, List.setIfInBounds_toArray, List.set_cons_zero, List.set_cons_succ]
        refine wpAnyG_take [7, 8, 9, 10, 16, 17, 19] (i := 7) (v := (.int .i64 k)) rfl (by kernel_rfl) (by kernel_rfl) (by kernel_rfl) (by kernel_rfl) (by kernel_rfl) (by kernel_rfl) (by kernel_rfl) (by kernel_rfl) (fun _ _ _ h => h) (Or.inl ⟨by rfl, ?hy⟩) T0 ?_
        case hy =>
          intro X hX
          go_simp
        try simp only [Act.put, List.getElem_toArray, List.getElem_cons_zero, List.getElem_cons_succ, List.setIfInBounds_toArray, List.set_cons_zero, List.set_cons_succ]
        refine wpAnyG_take [8, 9, 10, 16, 17, 19] (i := 8) (v := (.pointer (some ⟨gp, k * 4, none⟩))) rfl (by kernel_rfl) (by kernel_rfl) (by kernel_rfl) (by kernel_rfl) (by kernel_rfl) (by kernel_rfl) (by kernel_rfl) (by kernel_rfl) (fun _ _ _ h => h) (Or.inl ⟨by rfl, ?hy⟩) T0 ?_
        case hy =>
          intro X hX
          go_simp
        try simp only [Act.put, List.getElem_toArray, List.getElem_cons_zero, List.getElem_cons_succ, List.setIfInBounds_toArray, List.set_cons_zero, List.set_cons_succ]
        refine wpAnyG_take [9, 10, 16, 17, 19] (i := 9) (v := (.pointer (some ⟨gp, k * 4, none⟩))) rfl (by kernel_rfl) (by kernel_rfl) (by kernel_rfl) (by kernel_rfl) (by kernel_rfl) (by kernel_rfl) (by kernel_rfl) (by kernel_rfl) (fun _ _ _ h => h) (Or.inl ⟨by rfl, ?hy⟩) T0 ?_
        case hy =>
          intro X hX
          go_simp
        try simp only [Act.put, List.getElem_toArray, List.getElem_cons_zero, List.getElem_cons_succ, List.setIfInBounds_toArray, List.set_cons_zero, List.set_cons_succ]
        refine wpAnyG_take [10, 16, 17, 19] (i := 10) (v := (.int .i64 p)) rfl (by kernel_rfl) (by kernel_rfl) (by kernel_rfl) (by kernel_rfl) (by kernel_rfl) (by kernel_rfl) (by kernel_rfl) (by kernel_rfl) (fun _ _ _ h => h) (Or.inl ⟨by rfl, ?hy⟩) T0 ?_
        case hy =>
          intro X hX
          have e0 := at_below v0 hX
          go_simp
        try simp only [Act.put, List.getElem_toArray, List.getElem_cons_zero, List.getElem_cons_succ, List.setIfInBounds_toArray, List.set_cons_zero, List.set_cons_succ]
        refine wpAnyG_take [11, 13, 14, 15, 16, 17, 19] (i := 11) (v := (.slice (some ⟨gp, 0, none⟩) N cp)) rfl (by kernel_rfl) (by kernel_rfl) (by kernel_rfl) (by kernel_rfl) (by kernel_rfl) (by kernel_rfl) (by kernel_rfl) (by kernel_rfl) (fun _ _ _ h => h) (Or.inl ⟨by rfl, ?hy⟩) T0 ?_
        case hy =>
          intro X hX
          go_simp
        try simp only [Act.put, List.getElem_toArray, List.getElem_cons_zero, List.getElem_cons_succ, List.setIfInBounds_toArray, List.set_cons_zero, List.set_cons_succ]
        refine wpAnyG_take [12, 13, 14, 15, 16, 17, 19] (i := 12) (v := (.int .i64 k)) rfl (by kernel_rfl) (by kernel_rfl) (by kernel_rfl) (by kernel_rfl) (by kernel_rfl) (by kernel_rfl) (by kernel_rfl) (by kernel_rfl) (fun _ _ _ h => h) (Or.inl ⟨by rfl, ?hy⟩) T0 ?_
        case hy =>
          intro X hX
          go_simp
        try simp only [Act.put, List.getElem_toArray, List.getElem_cons_zero, List.getElem_cons_succ, List.setIfInBounds_toArray, List.set_cons_zero, List.set_cons_succ]
        refine wpAnyG_take [13, 14, 15, 16, 17, 19] (i := 13) (v := (.pointer (some ⟨gp, k * 4, none⟩))) rfl (by kernel_rfl) (by kernel_rfl) (by kernel_rfl) (by kernel_rfl) (by kernel_rfl) (by kernel_rfl) (by kernel_rfl) (by kernel_rfl) (fun _ _ _ h => h) (Or.inl ⟨by rfl, ?hy⟩) T0 ?_
        case hy =>
          intro X hX
          go_simp
        try simp only [Act.put, List.getElem_toArray, List.getElem_cons_zero, List.getElem_cons_succ, List.setIfInBounds_toArray, List.set_cons_zero, List.set_cons_succ]
        refine wpAnyG_take [14, 15, 16, 17, 19] (i := 14) (v := (.agg #[.int .i64 p, .int .i64 wx, .int .i32 rx, .bool bx])) rfl (by kernel_rfl) (by kernel_rfl) (by kernel_rfl) (by kernel_rfl) (by kernel_rfl) (by kernel_rfl) (by kernel_rfl) (by kernel_rfl) (fun _ _ _ h => h) (Or.inl ⟨by rfl, ?hy⟩) T0 ?_
        case hy =>
          intro X hX
          have e0 := at_below v0 hX
          have e1 := at_below v1 hX
          have e2 := at_below v2 hX
          have e3 := at_below v3 hX
          go_simp
        try simp only [Act.put, List.getElem_toArray, List.getElem_cons_zero, List.getElem_cons_succ, List.setIfInBounds_toArray, List.set_cons_zero, List.set_cons_succ]
        refine wpAnyG_all (rs := [15]) (by kernel_rfl) (by simp) ?_
        intro i hi
        simp only [List.mem_cons, List.not_mem_nil, or_false] at hi
        subst hi
        refine wpOp_open rfl (by rfl) ?_
        go_simp
        refine (cOp _).mono ?_
        rintro e Z1 ⟨rfl, hbO2⟩
        replace T0 := T0.trans (hbO2.mono T0.size)
        refine ⟨fun _ => T0, ?_⟩
        try simp only [Act.put, List.getElem_toArray, List.getElem_cons_zero, List.getElem_cons_succ, List.setIfInBounds_toArray, List.set_cons_zero, List.set_cons_succ]
        refine wpAnyG_take [16, 17, 19] (i := 16) (v := (.agg #[.int .i64 p, .int .i64 p, .int .i64 kx])) rfl (by kernel_rfl) (by kernel_rfl) (by kernel_rfl) (by kernel_rfl) (by kernel_rfl) (by kernel_rfl) (by kernel_rfl) (by kernel_rfl) (fun _ _ _ h => h) (Or.inl ⟨by rfl, ?hy⟩) T0 ?_
        case hy =>
          intro X hX
          go_simp
        try simp only [Act.put, List.getElem_toArray, List.getElem_cons_zero, List.getElem_cons_succ, List.setIfInBounds_toArray, List.set_cons_zero, List.set_cons_succ]
        have own8 := own_below hoV T0
        have bel8 := hBV.trans (T0.mono hBV.size)
        have T9 := T0.alloc T0.size (.cells #[.int .i64 p, .int .i64 p, .int .i64 kx] 47)
        refine wpAnyG_all (rs := [17]) (by kernel_rfl) (by simp) ?_
        intro i hi
        simp only [List.mem_cons, List.not_mem_nil, or_false] at hi
        subst hi
        refine wpOp_now rfl rfl ?_
        go_simp
        refine ⟨fun _ => T9, ?_⟩
        try simp only [Act.put, List.getElem_toArray, List.getElem_cons_zero, List.getElem_cons_succ, List.setIfInBounds_toArray, List.set_cons_zero, List.set_cons_succ]
        refine wpAnyG_all (rs := [18]) (by kernel_rfl) (by simp) ?_
        intro i hi0
        simp only [List.mem_cons, List.not_mem_nil, or_false] at hi0
        subst hi0
        refine wpOp_now rfl rfl ?_
        refine wp_append_own _ _ _ 36 rfl w1.heap.size 47 i0 (.agg #[.int .i64 0, .int .i64 0, .int .i64 0]) 3 24 Try.underlying36 hi hz0 hz1 hz2 rfl (by decide) (.slice o n1 cap) n1 _ rfl (own8.alloc _) ⟨Z1.heap.size, 0, none⟩ 1 1 [.int .i64 p, .int .i64 p, .int .i64 kx] rfl rfl (World.news_of_block (cs := #[.int .i64 p, .int .i64 p, .int .i64 kx]) (t := 47) (fr := (0, 0)) (World.alloc_heap_new Z1 _)) (fun x hx => by simp at hx; rcases hx with rfl | rfl | rfl <;> rfl) (by unfold maxLen; omega) (by omega) (by have := bel8.size; simp; omega) ?_
        intro v9 w9 hown9 hgrow9 _
        obtain ⟨n2, hn2⟩ : ∃ x, n1 + 1 = x := ⟨_, rfl⟩
        rw [hn2] at hown9
        obtain ⟨o9, cap9, rfl, ho9⟩ := own_slice hown9
        obtain ⟨g9, rfl⟩ := ho9 (by omega)
        refine ⟨fun h => (nomatch (show (false : Bool) = true from h)), ?_⟩
        try simp only [Act.put, List.getElem_toArray, List.getElem_cons_zero, List.getElem_cons_succ, List.setIfInBounds_toArray, List.set_cons_zero, List.set_cons_succ]
        refine wpAnyG_all (rs := [19]) (by kernel_rfl) (by simp) ?_
        intro i hi
        simp only [List.mem_cons, List.not_mem_nil, or_false] at hi
        subst hi
        refine wpOp_now rfl rfl ?_
        go_simp
        refine ⟨fun h => (nomatch (show (false : Bool) = true from h)), ?_⟩
        try simp only [Act.put, List.getElem_toArray, List.getElem_cons_zero, List.getElem_cons_succ, List.setIfInBounds_toArray, List.set_cons_zero, List.set_cons_succ]
        refine wpAnyG_done (by kernel_rfl) ?_ _
        refine NoPanic.normal ?_
        have bel9 := (bel8.alloc bel8.size _).grown hgrow9 (by have := bel8.size; simp; omega) (fun j hj => (own8.lt j hj).1)
        have own10 := hown9
        have hB10 := bel9
        clear hown9 bel9 own8 bel8 hgrow9 T0 T9 hoV hBV v0 v1 v2 v3
        obtain ⟨a9, b9, c9, e9⟩ : ∃ (a b c : Nat), (a, b, c) = (p, p, kx) := ⟨_, _, _, rfl⟩
        rw [show rc out9 ++ [.int .i64 p, .int .i64 p, .int .i64 kx] = rc (out9 ++ [(a9, b9, c9)]) by rw [e9, rc_app, rc_one]] at own10
        have E9 := Lib.hid e9
        clear e9
        go_wp2
        obtain ⟨u0, u1, u2, u3⟩ := HDC.out w9 hB10
        have i7 : (0 : Int) ≤ (n1 : Int) := by omega
        have i8 : (n1 : Int) < (n2 : Int) := by omega
        have j2 : IntKind.i64.wrap (((n1 : Int) + 1) - 1) = (n1 : Int) := by rw [show ((n1 : Int) + 1) - 1 = (n1 : Int) by omega]; exact IntWalk.i64_in _ (by omega)
        have j3 : IntKind.i64.wrap (n1 : Int) = (n1 : Int) := IntWalk.i64_in _ (by omega)
        refine wp_region_noPanic ?_
        refine wp_region_g (S := untilG [16] (fun X => Below w9.heap.size w9 X)) (by kernel_rfl) ?_
        obtain ⟨U0, hU0⟩ : ∃ X, w9.drew = X := ⟨_, rfl⟩
        have T0 : Below w9.heap.size w9 U0 := hU0 ▸ (Below.refl w9.heap.size w9).drew
        rw [hU0]
        clear hU0
        refine wpAnyG_take [0, 14, 15] (i := 0) (v := (.slice (some ⟨g9, 0, none⟩) n2 cap9)) rfl (by kernel_rfl) (by kernel_rfl) (by kernel_rfl) (by kernel_rfl) (by kernel_rfl) (by kernel_rfl) (by kernel_rfl) (by kernel_rfl) (fun _ _ _ h => h) (Or.inl ⟨by rfl, ?hy⟩) T0 ?_
        case hy =>
          intro X hX
          go_simp
        try simp only [Act.put, List.getElem_toArray, List.getElem_cons_zero, List.getElem_cons_succ, List.setIfInBounds_toArray, List.set_cons_zero, List.set_cons_succ]
        refine wpAnyG_take [1, 2, 14, 15] (i := 1) (v := (.int .i64 (((n1 : Int) + 1)))) rfl (by kernel_rfl) (by kernel_rfl) (by kernel_rfl) (by kernel_rfl) (by kernel_rfl) (by kernel_rfl) (by kernel_rfl) (by kernel_rfl) (fun _ _ _ h => h) (Or.inl ⟨by rfl, ?hy⟩) T0 ?_
        case hy =>
          intro X hX
          go_simp
        try simp only [Act.put, List.getElem_toArray, List.getElem_cons_zero, List.getElem_cons_succ, List.setIfInBounds_toArray, List.set_cons_zero, List.set_cons_succ]
        refine wpAnyG_take [2, 14, 15] (i := 2) (v := (.int .i64 n1)) rfl (by kernel_rfl) (by kernel_rfl) (by kernel_rfl) (by kernel_rfl) (by kernel_rfl) (by kernel_rfl) (by kernel_rfl) (by kernel_rfl) (fun _ _ _ h => h) (Or.inl ⟨by rfl, ?hy⟩) T0 ?_
        case hy =>
          intro X hX
          go_simp
        try simp only [Act.put, List.getElem_toArray, List.getElem_cons_zero, List.getElem_cons_succ, List.setIfInBounds_toArray, List.set_cons_zero, List.set_cons_succ]
        refine wpAnyG_take [3, 5, 6, 7, 13] (i := 3) (v := (.slice (some ⟨gp, 0, none⟩) N cp)) rfl (by kernel_rfl) (by kernel_rfl) (by kernel_rfl) (by kernel_rfl) (by kernel_rfl) (by kernel_rfl) (by kernel_rfl) (by kernel_rfl) (fun _ _ _ h => h) (Or.inl ⟨by rfl, ?hy⟩) T0 ?_
        case hy =>
          intro X hX
          go_simp
        try simp only [Act.put, List.getElem_toArray, List.getElem_cons_zero, List.getElem_cons_succ, List.setIfInBounds_toArray, List.set_cons_zero, List.set_cons_succ]
        refine wpAnyG_take [4, 5, 6, 7, 13] (i := 4) (v := (.int .i64 k)) rfl (by kernel_rfl) (by kernel_rfl) (by kernel_rfl) (by kernel_rfl) (by kernel_rfl) (by kernel_rfl) (by kernel_rfl) (by kernel_rfl) (fun _ _ _ h => h) (Or.inl ⟨by rfl, ?hy⟩) T0 ?_
        case hy =>
          intro X hX
          go_simp
        try simp only [Act.put, List.getElem_toArray, List.getElem_cons_zero, List.getElem_cons_succ, List.setIfInBounds_toArray, List.set_cons_zero, List.set_cons_succ]
        refine wpAnyG_take [5, 6, 7, 13] (i := 5) (v := (.pointer (some ⟨gp, k * 4, none⟩))) rfl (by kernel_rfl) (by kernel_rfl) (by kernel_rfl) (by kernel_rfl) (by kernel_rfl) (by kernel_rfl) (by kernel_rfl) (by kernel_rfl) (fun _ _ _ h => h) (Or.inl ⟨by rfl, ?hy⟩) T0 ?_
        case hy =>
          intro X hX
          go_simp
        try simp only [Act.put, List.getElem_toArray, List.getElem_cons_zero, List.getElem_cons_succ, List.setIfInBounds_toArray, List.set_cons_zero, List.set_cons_succ]
        refine wpAnyG_take [6, 7, 13] (i := 6) (v := (.pointer (some ⟨gp, k * 4, none⟩))) rfl (by kernel_rfl) (by kernel_rfl) (by kernel_rfl) (by kernel_rfl) (by kernel_rfl) (by kernel_rfl) (by kernel_rfl) (by kernel_rfl) (fun _ _ _ h => h) (Or.inl ⟨by rfl, ?hy⟩) T0 ?_
        case hy =>
          intro X hX
          go_simp
        try simp only [Act.put, List.getElem_toArray, List.getElem_cons_zero, List.getElem_cons_succ, List.setIfInBounds_toArray, List.set_cons_zero, List.set_cons_succ]
        refine wpAnyG_take [7, 13] (i := 7) (v := (.int .i64 p)) rfl (by kernel_rfl) (by kernel_rfl) (by kernel_rfl) (by kernel_rfl) (by kernel_rfl) (by kernel_rfl) (by kernel_rfl) (by kernel_rfl) (fun _ _ _ h => h) (Or.inl ⟨by rfl, ?hy⟩) T0 ?_
        case hy =>
          intro X hX
          have e0 := at_below u0 hX
          go_simp
        try simp only [Act.put, List.getElem_toArray, List.getElem_cons_zero, List.getElem_cons_succ, List.setIfInBounds_toArray, List.set_cons_zero, List.set_cons_succ]
        refine wpAnyG_take [8, 10, 11, 12, 13] (i := 8) (v := (.slice (some ⟨gp, 0, none⟩) N cp)) rfl (by kernel_rfl) (by kernel_rfl) (by kernel_rfl) (by kernel_rfl) (by kernel_rfl) (by kernel_rfl) (by kernel_rfl) (by kernel_rfl) (fun _ _ _ h => h) (Or.inl ⟨by rfl, ?hy⟩) T0 ?_
        case hy =>
          intro X hX
          go_simp
        try simp only [Act.put, List.getElem_toArray, List.getElem_cons_zero, List.getElem_cons_succ, List.setIfInBounds_toArray, List.set_cons_zero, List.set_cons_succ]
        refine wpAnyG_take [9, 10, 11, 12, 13] (i := 9) (v := (.int .i64 k)) rfl (by kernel_rfl) (by kernel_rfl) (by kernel_rfl) (by kernel_rfl) (by kernel_rfl) (by kernel_rfl) (by kernel_rfl) (by kernel_rfl) (fun _ _ _ h => h) (Or.inl ⟨by rfl, ?hy⟩) T0 ?_
        case hy =>
          intro X hX
          go_simp
        try simp only [Act.put, List.getElem_toArray, List.getElem_cons_zero, List.getElem_cons_succ, List.setIfInBounds_toArray, List.set_cons_zero, List.set_cons_succ]
        refine wpAnyG_take [10, 11, 12, 13] (i := 10) (v := (.pointer (some ⟨gp, k * 4, none⟩))) rfl (by kernel_rfl) (by kernel_rfl) (by kernel_rfl) (by kernel_rfl) (by kernel_rfl) (by kernel_rfl) (by kernel_rfl) (by kernel_rfl) (fun _ _ _ h => h) (Or.inl ⟨by rfl, ?hy⟩) T0 ?_
        case hy =>
          intro X hX
          go_simp
        try simp only [Act.put, List.getElem_toArray, List.getElem_cons_zero, List.getElem_cons_succ, List.setIfInBounds_toArray, List.set_cons_zero, List.set_cons_succ]
        refine wpAnyG_take [11, 12, 13] (i := 11) (v := (.pointer (some ⟨gp, k * 4 + 1, none⟩))) rfl (by kernel_rfl) (by kernel_rfl) (by kernel_rfl) (by kernel_rfl) (by kernel_rfl) (by kernel_rfl) (by kernel_rfl) (by kernel_rfl) (fun _ _ _ h => h) (Or.inl ⟨by rfl, ?hy⟩) T0 ?_
        case hy =>
          intro X hX
          go_simp
        try simp only [Act.put, List.getElem_toArray, List.getElem_cons_zero, List.getElem_cons_succ, List.setIfInBounds_toArray, List.set_cons_zero, List.set_cons_succ]
        refine wpAnyG_take [12, 13] (i := 12) (v := (.int .i64 wx)) rfl (by kernel_rfl) (by kernel_rfl) (by kernel_rfl) (by kernel_rfl) (by kernel_rfl) (by kernel_rfl) (by kernel_rfl) (by kernel_rfl) (fun _ _ _ h => h) (Or.inl ⟨by rfl, ?hy⟩) T0 ?_
        case hy =>
          intro X hX
          have e0 := at_below u1 hX
          go_simp
        try simp only [Act.put, List.getElem_toArray, List.getElem_cons_zero, List.getElem_cons_succ, List.setIfInBounds_toArray, List.set_cons_zero, List.set_cons_succ]
        refine wpAnyG_take [13] (i := 13) (v := (.int .i64 ((p : Int) + (wx : Int)))) rfl (by kernel_rfl) (by kernel_rfl) (by kernel_rfl) (by kernel_rfl) (by kernel_rfl) (by kernel_rfl) (by kernel_rfl) (by kernel_rfl) (fun _ _ _ h => h) (Or.inl ⟨by rfl, ?hy⟩) T0 ?_
        case hy =>
          intro X hX
          go_simp
        try simp only [Act.put, List.getElem_toArray, List.getElem_cons_zero, List.getElem_cons_succ, List.setIfInBounds_toArray, List.set_cons_zero, List.set_cons_succ]
        refine wpAnyG_take [14, 15] (i := 14) (v := (.pointer (some ⟨g9, n1 * 3, none⟩))) rfl (by kernel_rfl) (by kernel_rfl) (by kernel_rfl) (by kernel_rfl) (by kernel_rfl) (by kernel_rfl) (by kernel_rfl) (by kernel_rfl) (fun _ _ _ h => h) (Or.inl ⟨by rfl, ?hy⟩) T0 ?_
        case hy =>
          intro X hX
          go_simp
        try simp only [Act.put, List.getElem_toArray, List.getElem_cons_zero, List.getElem_cons_succ, List.setIfInBounds_toArray, List.set_cons_zero, List.set_cons_succ]
        refine wpAnyG_take [15] (i := 15) (v := (.pointer (some ⟨g9, n1 * 3 + 1, none⟩))) rfl (by kernel_rfl) (by kernel_rfl) (by kernel_rfl) (by kernel_rfl) (by kernel_rfl) (by kernel_rfl) (by kernel_rfl) (by kernel_rfl) (fun _ _ _ h => h) (Or.inl ⟨by rfl, ?hy⟩) T0 ?_
        case hy =>
          intro X hX
          go_simp
        try simp only [Act.put, List.getElem_toArray, List.getElem_cons_zero, List.getElem_cons_succ, List.setIfInBounds_toArray, List.set_cons_zero, List.set_cons_succ]
        have ownU := own_below own10 T0
        have belU := hB10.trans (T0.mono hB10.size)
        have y1 := ownU.cellAt (n1 * 3 + 1) (by omega)
        have y2 := ownU.frozenAt (n1 * 3 + 1)
        have y3 := (ownU.lt g9 rfl).2
        have y4 := (ownU.lt g9 rfl).1
        obtain ⟨st, sg⟩ := ownU.stored (n1 * 3 + 1) (.int .i64 ((p : Int) + (wx : Int)))
        rw [← HM9.out, (rc_get (l := out9 ++ [(a9, b9, c9)]) (k := out9.length) (x := (a9, b9, c9)) (by simp)).2.1] at y1
        rw [← HM9.out, show ((p : Int) + (wx : Int)) = ((p + wx : Nat) : Int) by omega, rc_set1] at st
        rw [HM9.out] at y1 st
        refine wpAnyG_all (rs := [16]) (by kernel_rfl) (by simp) ?_
        intro i hi
        simp only [List.mem_cons, List.not_mem_nil, or_false] at hi
        subst hi
        refine wpOp_now rfl rfl ?_
        go_simp
        refine ⟨fun h => (nomatch (show (false : Bool) = true from h)), ?_⟩
        refine wpAnyG_done (by kernel_rfl) ?_ _
        refine NoPanic.normal ?_
        have bel9 := belU.setCell (p := ⟨g9, n1 * 3 + 1, none⟩) y4 (.int .i64 ((p : Int) + (wx : Int)))
        clear T0 u0 u1 u2 u3 own10 hB10 ownU belU y1 y2 y3 y4 sg
        rw [show (((p + wx : Nat) : Int)) = ((p : Int) + (wx : Int)) by omega] at st
        obtain ⟨X9, hX9⟩ : ∃ X, U0.setCell ⟨g9, n1 * 3 + 1, none⟩ (.int .i64 ((p : Int) + (wx : Int))) = X := ⟨_, rfl⟩
        rw [hX9] at st bel9 ⊢
        clear hX9
        have HST := Lib.hid st
        go_wp2
        go_roundw
        case rel => exact HRE.out _ _ _ out9 (p, p + wx, kx) n2 rfl (by rw [List.length_append, HM9.out]; simp only [List.length_cons, List.length_nil]; omega) (by omega) (by have := HST.out; rw [show a9 = p from congrArg (·.1) E9.out, show c9 = kx from congrArg (·.2.2) E9.out] at this; exact this) bel9 HDF.out
        case measure => simp [intOf]; omega
      · by_cases hsd : kd s p = r.2.2
        · rw [HD.out] at hdf
          obtain ⟨n1, hn1⟩ : ∃ x, (out ++ [r]).length = x := ⟨_, rfl⟩
          obtain ⟨m, hm⟩ : ∃ x, out.length = x := ⟨_, rfl⟩
          have hmn : m + 1 = n1 := by rw [← hn1, List.length_append, hm]; rfl
          rw [hn1] at hown hLk
          obtain ⟨o, cap, rfl, ho⟩ := own_slice hown
          obtain ⟨g, rfl⟩ := ho (by omega)
          obtain ⟨ra, rb, kr⟩ := r
          have z0 : ((n1 : Int) == 0) = false := by rw [beq_eq_false_iff_ne]; omega
          have i9 : n1 ≤ k := hLk
          have i1 : (0 : Int) ≤ (m : Int) := by omega
          have i2 : (m : Int) < (n1 : Int) := by omega
          have j0 : IntKind.i64.wrap ((n1 : Int) - 1) = (m : Int) := by rw [show (n1 : Int) - 1 = (m : Int) by omega]; exact IntWalk.i64_in _ (by omega)
          have x2 : wr.cell? ⟨g, m * 3 + 2, none⟩ = some (.int .i64 kr) := (hown.cellAt (m * 3 + 2) (by omega)).trans (by rw [← hm]; exact (rc_get (l := out ++ [(ra, rb, kr)]) (k := out.length) (x := (ra, rb, kr)) (by simp)).2.2)
          have hkk := (show kd s p = kr from hsd)
          have HZ1 := Lib.hid (show (kr : Int) = (kx : Int) by rw [← HK.out, hkk])
          rw [dfold_same hkk, HW.out] at hdf
          simp only at hdf
          have HM9 := Lib.hid hm
          have HDF := Lib.hid hdf
          clear hdf hm hn1
          clear hkk hsd
          have w8 : IntKind.i64.wrap ((n1 : Int) + 1) = (n1 : Int) + 1 := IntWalk.i64_in _ (by omega)
          go_wp2
          refine wp_region_noPanic ?_
          refine wp_region_g (S := untilG [] (fun X => Below wr.heap.size wr X)) (by kernel_rfl) ?_
          obtain ⟨Y0, hY0⟩ : ∃ X, wr.drew = X := ⟨_, rfl⟩
          have T0 : Below wr.heap.size wr Y0 := hY0 ▸ (Below.refl wr.heap.size wr).drew
          rw [hY0]
          clear hY0
          refine wpAnyG_take [0, 1, 2, 3, 4, 5, 6, 7, 8, 9, 10, 11, 12, 13, 14, 15] (i := 0) (v := (.int .i64 n1)) rfl (by kernel_rfl) (by kernel_rfl) (by kernel_rfl) (by kernel_rfl) (by kernel_rfl) (by kernel_rfl) (by kernel_rfl) (by kernel_rfl) (fun _ _ _ h => h) (Or.inl ⟨by rfl, ?hy⟩) T0 ?_
          case hy =>
            intro X hX
            go_simp
          try simp only [Act.put, List.getElem_toArray, List.getElem_cons_zero, List.getElem_cons_succ, List.setIfInBounds_toArray, List.set_cons_zero, List.set_cons_succ]
          refine wpAnyG_take [1, 2, 3, 4, 5, 6, 7, 8, 9, 10, 11, 12, 13, 14, 15] (i := 1) (v := (.bool false)) rfl (by kernel_rfl) (by kernel_rfl) (by kernel_rfl) (by kernel_rfl) (by kernel_rfl) (by kernel_rfl) (by kernel_rfl) (by kernel_rfl) (fun _ _ _ h => h) (Or.inl ⟨by rfl, ?hy⟩) T0 ?_
          case hy =>
            intro X hX
            go_simp
          try simp only [Act.put, List.getElem_toArray, List.getElem_cons_zero, List.getElem_cons_succ, List.setIfInBounds_toArray, List.set_cons_zero, List.set_cons_succ]
          refine wpAnyG_take [2, 3, 4, 5, 6, 7, 8, 9, 10, 11, 12, 13, 14, 15] (i := 2) (v := (.bool false)) rfl (by kernel_rfl) (by kernel_rfl) (by kernel_rfl) (by kernel_rfl) (by kernel_rfl) (by kernel_rfl) (by kernel_rfl) (by kernel_rfl) (fun _ _ _ h => h) (Or.inl ⟨by rfl, ?hy⟩) T0 ?_
          case hy =>
            intro X hX
            go_simp
          try simp only [Act.put, List.getElem_toArray, List.getElem_cons_zero, List.getElem_cons_succ, List.setIfInBounds_toArray, List.set_cons_zero, List.set_cons_succ]
          refine wpAnyG_take [3, 6, 7, 8, 14, 15] (i := 3) (v := (.slice (some ⟨g, 0, none⟩) n1 cap)) rfl (by kernel_rfl) (by kernel_rfl) (by kernel_rfl) (by kernel_rfl) (by kernel_rfl) (by kernel_rfl) (by kernel_rfl) (by kernel_rfl) (fun _ _ _ h => h) (Or.inl ⟨by rfl, ?hy⟩) T0 ?_
          case hy =>
            intro X hX
            go_simp
          try simp only [Act.put, List.getElem_toArray, List.getElem_cons_zero, List.getElem_cons_succ, List.setIfInBounds_toArray, List.set_cons_zero, List.set_cons_succ]
          refine wpAnyG_take [4, 5, 6, 7, 8, 14, 15] (i := 4) (v := (.int .i64 n1)) rfl (by kernel_rfl) (by kernel_rfl) (by kernel_rfl) (by kernel_rfl) (by kernel_rfl) (by kernel_rfl) (by kernel_rfl) (by kernel_rfl) (fun _ _ _ h => h) (Or.inl ⟨by rfl, ?hy⟩) T0 ?_
          case hy =>
            intro X hX
            go_simp
          try simp only [Act.put, List.getElem_toArray, List.getElem_cons_zero, List.getElem_cons_succ, List.setIfInBounds_toArray, List.set_cons_zero, List.set_cons_succ]
          refine wpAnyG_take [5, 6, 7, 8, 14, 15] (i := 5) (v := (.int .i64 m)) rfl (by kernel_rfl) (by kernel_rfl) (by kernel_rfl) (by kernel_rfl) (by kernel_rfl) (by kernel_rfl) (by kernel_rfl) (by kernel_rfl) (fun _ _ _ h => h) (Or.inl ⟨by rfl, ?hy⟩) T0 ?_
          case hy =>
            intro X hX
            go_simp
          try simp only [Act.put, List.getElem_toArray, List.getElem_cons_zero, List.getElem_cons_succ, List.setIfInBounds_toArray, List.set_cons_zero, List.set_cons_succ]
          refine wpAnyG_take [6, 7, 8, 14, 15] (i := 6) (v := (.pointer (some ⟨g, m * 3, none⟩))) rfl (by kernel_rfl) (by kernel_rfl) (by kernel_rfl) (by kernel_rfl) (by kernel_rfl) (by kernel_rfl) (by kernel_rfl) (by kernel_rfl) (fun _ _ _ h => h) (Or.inl ⟨by rfl, ?hy⟩) T0 ?_
          case hy =>
            intro X hX
            go_simp
          try simp only [Act.put, List.getElem_toArray, List.getElem_cons_zero, List.getElem_cons_succ, List.setIfInBounds_toArray, List.set_cons_zero, List.set_cons_succ]
          refine wpAnyG_take [7, 8, 14, 15] (i := 7) (v := (.pointer (some ⟨g, m * 3 + 2, none⟩))) rfl (by kernel_rfl) (by kernel_rfl) (by kernel_rfl) (by kernel_rfl) (by kernel_rfl) (by kernel_rfl) (by kernel_rfl) (by kernel_rfl) (fun _ _ _ h => h) (Or.inl ⟨by rfl, ?hy⟩) T0 ?_
          case hy =>
            intro X hX
            go_simp
          try simp only [Act.put, List.getElem_toArray, List.getElem_cons_zero, List.getElem_cons_succ, List.setIfInBounds_toArray, List.set_cons_zero, List.set_cons_succ]
          refine wpAnyG_take [8, 14, 15] (i := 8) (v := (.int .i64 kr)) rfl (by kernel_rfl) (by kernel_rfl) (by kernel_rfl) (by kernel_rfl) (by kernel_rfl) (by kernel_rfl) (by kernel_rfl) (by kernel_rfl) (fun _ _ _ h => h) (Or.inl ⟨by rfl, ?hy⟩) T0 ?_
          case hy =>
            intro X hX
            have e0 := at_below x2 hX
            go_simp
          try simp only [Act.put, List.getElem_toArray, List.getElem_cons_zero, List.getElem_cons_succ, List.setIfInBounds_toArray, List.set_cons_zero, List.set_cons_succ]
          refine wpAnyG_take [9, 11, 12, 13, 14, 15] (i := 9) (v := (.slice (some ⟨gp, 0, none⟩) N cp)) rfl (by kernel_rfl) (by kernel_rfl) (by kernel_rfl) (by kernel_rfl) (by kernel_rfl) (by kernel_rfl) (by kernel_rfl) (by kernel_rfl) (fun _ _ _ h => h) (Or.inl ⟨by rfl, ?hy⟩) T0 ?_
          case hy =>
            intro X hX
            go_simp
          try simp only [Act.put, List.getElem_toArray, List.getElem_cons_zero, List.getElem_cons_succ, List.setIfInBounds_toArray, List.set_cons_zero, List.set_cons_succ]
          refine wpAnyG_take [10, 11, 12, 13, 14, 15] (i := 10) (v := (.int .i64 k)) rfl (by kernel_rfl) (by kernel_rfl) (by kernel_rfl) (by kernel_rfl) (by kernel_rfl) (by kernel_rfl) (by kernel_rfl) (by kernel_rfl) (fun _ _ _ h => h) (Or.inl ⟨by rfl, ?hy⟩) T0 ?_
          case hy =>
            intro X hX
            go_simp
          try simp only [Act.put, List.getElem_toArray, List.getElem_cons_zero, List.getElem_cons_succ, List.setIfInBounds_toArray, List.set_cons_zero, List.set_cons_succ]
          refine wpAnyG_take [11, 12, 13, 14, 15] (i := 11) (v := (.pointer (some ⟨gp, k * 4, none⟩))) rfl (by kernel_rfl) (by kernel_rfl) (by kernel_rfl) (by kernel_rfl) (by kernel_rfl) (by kernel_rfl) (by kernel_rfl) (by kernel_rfl) (fun _ _ _ h => h) (Or.inl ⟨by rfl, ?hy⟩) T0 ?_
          case hy =>
            intro X hX
            go_simp
          try simp only [Act.put, List.getElem_toArray, List.getElem_cons_zero, List.getElem_cons_succ, List.setIfInBounds_toArray, List.set_cons_zero, List.set_cons_succ]
          refine wpAnyG_take [12, 13, 14, 15] (i := 12) (v := (.agg #[.int .i64 p, .int .i64 wx, .int .i32 rx, .bool bx])) rfl (by kernel_rfl) (by kernel_rfl) (by kernel_rfl) (by kernel_rfl) (by kernel_rfl) (by kernel_rfl) (by kernel_rfl) (by kernel_rfl) (fun _ _ _ h => h) (Or.inl ⟨by rfl, ?hy⟩) T0 ?_
          case hy =>
            intro X hX
            have e0 := at_below d0 hX
            have e1 := at_below d1 hX
            have e2 := at_below d2 hX
            have e3 := at_below d3 hX
            go_simp
          try simp only [Act.put, List.getElem_toArray, List.getElem_cons_zero, List.getElem_cons_succ, List.setIfInBounds_toArray, List.set_cons_zero, List.set_cons_succ]
          refine wpAnyG_all (rs := [13]) (by kernel_rfl) (by simp) ?_
          intro i hi
          simp only [List.mem_cons, List.not_mem_nil, or_false] at hi
          subst hi
          refine wpOp_open rfl (by rfl) ?_
          go_simp
          refine (cOp _).mono ?_
          rintro e Y1 ⟨rfl, hbO1⟩
          replace T0 := T0.trans (hbO1.mono T0.size)
          refine ⟨fun _ => T0, ?_⟩
          try simp only [Act.put, List.getElem_toArray, List.getElem_cons_zero, List.getElem_cons_succ, List.setIfInBounds_toArray, List.set_cons_zero, List.set_cons_succ]
          refine wpAnyG_take [14, 15] (i := 14) (v := (.bool false)) rfl (by kernel_rfl) (by kernel_rfl) (by kernel_rfl) (by kernel_rfl) (by kernel_rfl) (by kernel_rfl) (by kernel_rfl) (by kernel_rfl) (fun _ _ _ h => h) (Or.inl ⟨by rfl, ?hy⟩) T0 ?_
          case hy =>
            intro X hX
            have hz := HZ1.out
            go_simp
          try simp only [Act.put, List.getElem_toArray, List.getElem_cons_zero, List.getElem_cons_succ, List.setIfInBounds_toArray, List.set_cons_zero, List.set_cons_succ]
          refine wpAnyG_take [15] (i := 15) (v := (.bool false)) rfl (by kernel_rfl) (by kernel_rfl) (by kernel_rfl) (by kernel_rfl) (by kernel_rfl) (by kernel_rfl) (by kernel_rfl) (by kernel_rfl) (fun _ _ _ h => h) (Or.inl ⟨by rfl, ?hy⟩) T0 ?_
          case hy =>
            intro X hX
            go_simp
          try simp only [Act.put, List.getElem_toArray, List.getElem_cons_zero, List.getElem_cons_succ, List.setIfInBounds_toArray, List.set_cons_zero, List.set_cons_succ]
          refine wpAnyG_done (by kernel_rfl) ?_ _
          refine NoPanic.normal ?_
          have hBV := hB.trans (T0.mono hB.size)
          have hoV := own_below hown T0
          clear T0 hown hB d0 d1 d2 d3 x2
          obtain ⟨out9, a9, b9, c9, e9⟩ : ∃ (o : List Run3) (a b c : Nat), (o, a, b, c) = (out, ra, rb, kr) := ⟨_, _, _, _, rfl⟩
          obtain ⟨rfl, rfl, rfl, rfl⟩ : out9 = out ∧ a9 = ra ∧ b9 = rb ∧ c9 = kr := by simpa using e9
          clear e9
          go_wp2
          have own10 := hoV
          have hB10 := hBV
          clear hoV hBV
          obtain ⟨u0, u1, u2, u3⟩ := HDC.out Y1 hB10
          have i7 : (0 : Int) ≤ (m : Int) := by omega
          have i8 : (m : Int) < (n1 : Int) := by omega
          have j2 : IntKind.i64.wrap ((n1 : Int) - 1) = (m : Int) := by rw [show (n1 : Int) - 1 = (m : Int) by omega]; exact IntWalk.i64_in _ (by omega)
          have j3 : IntKind.i64.wrap (m : Int) = (m : Int) := IntWalk.i64_in _ (by omega)
          refine wp_region_noPanic ?_
          refine wp_region_g (S := untilG [16] (fun X => Below Y1.heap.size Y1 X)) (by kernel_rfl) ?_
          obtain ⟨U0, hU0⟩ : ∃ X, Y1.drew = X := ⟨_, rfl⟩
          have T0 : Below Y1.heap.size Y1 U0 := hU0 ▸ (Below.refl Y1.heap.size Y1).drew
          rw [hU0]
          clear hU0
          refine wpAnyG_take [0, 14, 15] (i := 0) (v := (.slice (some ⟨g, 0, none⟩) n1 cap)) rfl (by kernel_rfl) (by kernel_rfl) (by kernel_rfl) (by kernel_rfl) (by kernel_rfl) (by kernel_rfl) (by kernel_rfl) (by kernel_rfl) (fun _ _ _ h => h) (Or.inl ⟨by rfl, ?hy⟩) T0 ?_
          case hy =>
            intro X hX
            go_simp
          try simp only [Act.put, List.getElem_toArray, List.getElem_cons_zero, List.getElem_cons_succ, List.setIfInBounds_toArray, List.set_cons_zero, List.set_cons_succ]
          refine wpAnyG_take [1, 2, 14, 15] (i := 1) (v := (.int .i64 ((n1 : Int)))) rfl (by kernel_rfl) (by kernel_rfl) (by kernel_rfl) (by kernel_rfl) (by kernel_rfl) (by kernel_rfl) (by kernel_rfl) (by kernel_rfl) (fun _ _ _ h => h) (Or.inl ⟨by rfl, ?hy⟩) T0 ?_
          case hy =>
            intro X hX
            go_simp
          try simp only [Act.put, List.getElem_toArray, List.getElem_cons_zero, List.getElem_cons_succ, List.setIfInBounds_toArray, List.set_cons_zero, List.set_cons_succ]
          refine wpAnyG_take [2, 14, 15] (i := 2) (v := (.int .i64 m)) rfl (by kernel_rfl) (by kernel_rfl) (by kernel_rfl) (by kernel_rfl) (by kernel_rfl) (by kernel_rfl) (by kernel_rfl) (by kernel_rfl) (fun _ _ _ h => h) (Or.inl ⟨by rfl, ?hy⟩) T0 ?_
          case hy =>
            intro X hX
            go_simp
          try simp only [Act.put, List.getElem_toArray, List.getElem_cons_zero, List.getElem_cons_succ, List.setIfInBounds_toArray, List.set_cons_zero, List.set_cons_succ]
          refine wpAnyG_take [3, 5, 6, 7, 13] (i := 3) (v := (.slice (some ⟨gp, 0, none⟩) N cp)) rfl (by kernel_rfl) (by kernel_rfl) (by kernel_rfl) (by kernel_rfl) (by kernel_rfl) (by kernel_rfl) (by kernel_rfl) (by kernel_rfl) (fun _ _ _ h => h) (Or.inl ⟨by rfl, ?hy⟩) T0 ?_
          case hy =>
            intro X hX
            go_simp
          try simp only [Act.put, List.getElem_toArray, List.getElem_cons_zero, List.getElem_cons_succ, List.setIfInBounds_toArray, List.set_cons_zero, List.set_cons_succ]
          refine wpAnyG_take [4, 5, 6, 7, 13] (i := 4) (v := (.int .i64 k)) rfl (by kernel_rfl) (by kernel_rfl) (by kernel_rfl) (by kernel_rfl) (by kernel_rfl) (by kernel_rfl) (by kernel_rfl) (by kernel_rfl) (fun _ _ _ h => h) (Or.inl ⟨by rfl, ?hy⟩) T0 ?_
          case hy =>
            intro X hX
            go_simp
          try simp only [Act.put, List.getElem_toArray, List.getElem_cons_zero, List.getElem_cons_succ, List.setIfInBounds_toArray, List.set_cons_zero, List.set_cons_succ]
          refine wpAnyG_take [5, 6, 7, 13] (i := 5) (v := (.pointer (some ⟨gp, k * 4, none⟩))) rfl (by kernel_rfl) (by kernel_rfl) (by kernel_rfl) (by kernel_rfl) (by kernel_rfl) (by kernel_rfl) (by kernel_rfl) (by kernel_rfl) (fun _ _ _ h => h) (Or.inl ⟨by rfl, ?hy⟩) T0 ?_
          case hy =>
            intro X hX
            go_simp
          try simp only [Act.put, List.getElem_toArray, List.getElem_cons_zero, List.getElem_cons_succ, List.setIfInBounds_toArray, List.set_cons_zero, List.set_cons_succ]
          refine wpAnyG_take [6, 7, 13] (i := 6) (v := (.pointer (some ⟨gp, k * 4, none⟩))) rfl (by kernel_rfl) (by kernel_rfl) (by kernel_rfl) (by kernel_rfl) (by kernel_rfl) (by kernel_rfl) (by kernel_rfl) (by kernel_rfl) (fun _ _ _ h => h) (Or.inl ⟨by rfl, ?hy⟩) T0 ?_
          case hy =>
            intro X hX
            go_simp
          try simp only [Act.put, List.getElem_toArray, List.getElem_cons_zero, List.getElem_cons_succ, List.setIfInBounds_toArray, List.set_cons_zero, List.set_cons_succ]
          refine wpAnyG_take [7, 13] (i := 7) (v := (.int .i64 p)) rfl (by kernel_rfl) (by kernel_rfl) (by kernel_rfl) (by kernel_rfl) (by kernel_rfl) (by kernel_rfl) (by kernel_rfl) (by kernel_rfl) (fun _ _ _ h => h) (Or.inl ⟨by rfl, ?hy⟩) T0 ?_
          case hy =>
            intro X hX
            have e0 := at_below u0 hX
            go_simp
          try simp only [Act.put, List.getElem_toArray, List.getElem_cons_zero, List.getElem_cons_succ, List.setIfInBounds_toArray, List.set_cons_zero, List.set_cons_succ]
          refine wpAnyG_take [8, 10, 11, 12, 13] (i := 8) (v := (.slice (some ⟨gp, 0, none⟩) N cp)) rfl (by kernel_rfl) (by kernel_rfl) (by kernel_rfl) (by kernel_rfl) (by kernel_rfl) (by kernel_rfl) (by kernel_rfl) (by kernel_rfl) (fun _ _ _ h => h) (Or.inl ⟨by rfl, ?hy⟩) T0 ?_
          case hy =>
            intro X hX
            go_simp
          try simp only [Act.put, List.getElem_toArray, List.getElem_cons_zero, List.getElem_cons_succ, List.setIfInBounds_toArray, List.set_cons_zero, List.set_cons_succ]
          refine wpAnyG_take [9, 10, 11, 12, 13] (i := 9) (v := (.int .i64 k)) rfl (by kernel_rfl) (by kernel_rfl) (by kernel_rfl) (by kernel_rfl) (by kernel_rfl) (by kernel_rfl) (by kernel_rfl) (by kernel_rfl) (fun _ _ _ h => h) (Or.inl ⟨by rfl, ?hy⟩) T0 ?_
          case hy =>
            intro X hX
            go_simp
          try simp only [Act.put, List.getElem_toArray, List.getElem_cons_zero, List.getElem_cons_succ, List.setIfInBounds_toArray, List.set_cons_zero, List.set_cons_succ]
          refine wpAnyG_take [10, 11, 12, 13] (i := 10) (v := (.pointer (some ⟨gp, k * 4, none⟩))) rfl (by kernel_rfl) (by kernel_rfl) (by kernel_rfl) (by kernel_rfl) (by kernel_rfl) (by kernel_rfl) (by kernel_rfl) (by kernel_rfl) (fun _ _ _ h => h) (Or.inl ⟨by rfl, ?hy⟩) T0 ?_
          case hy =>
            intro X hX
            go_simp
          try simp only [Act.put, List.getElem_toArray, List.getElem_cons_zero, List.getElem_cons_succ, List.setIfInBounds_toArray, List.set_cons_zero, List.set_cons_succ]
          refine wpAnyG_take [11, 12, 13] (i := 11) (v := (.pointer (some ⟨gp, k * 4 + 1, none⟩))) rfl (by kernel_rfl) (by kernel_rfl) (by kernel_rfl) (by kernel_rfl) (by kernel_rfl) (by kernel_rfl) (by kernel_rfl) (by kernel_rfl) (fun _ _ _ h => h) (Or.inl ⟨by rfl, ?hy⟩) T0 ?_
          case hy =>
            intro X hX
            go_simp
          try simp only [Act.put, List.getElem_toArray, List.getElem_cons_zero, List.getElem_cons_succ, List.setIfInBounds_toArray, List.set_cons_zero, List.set_cons_succ]
          refine wpAnyG_take [12, 13] (i := 12) (v := (.int .i64 wx)) rfl (by kernel_rfl) (by kernel_rfl) (by kernel_rfl) (by kernel_rfl) (by kernel_rfl) (by kernel_rfl) (by kernel_rfl) (by kernel_rfl) (fun _ _ _ h => h) (Or.inl ⟨by rfl, ?hy⟩) T0 ?_
          case hy =>
            intro X hX
            have e0 := at_below u1 hX
            go_simp
          try simp only [Act.put, List.getElem_toArray, List.getElem_cons_zero, List.getElem_cons_succ, List.setIfInBounds_toArray, List.set_cons_zero, List.set_cons_succ]
          refine wpAnyG_take [13] (i := 13) (v := (.int .i64 ((p : Int) + (wx : Int)))) rfl (by kernel_rfl) (by kernel_rfl) (by kernel_rfl) (by kernel_rfl) (by kernel_rfl) (by kernel_rfl) (by kernel_rfl) (by kernel_rfl) (fun _ _ _ h => h) (Or.inl ⟨by rfl, ?hy⟩) T0 ?_
          case hy =>
            intro X hX
            go_simp
          try simp only [Act.put, List.getElem_toArray, List.getElem_cons_zero, List.getElem_cons_succ, List.setIfInBounds_toArray, List.set_cons_zero, List.set_cons_succ]
          refine wpAnyG_take [14, 15] (i := 14) (v := (.pointer (some ⟨g, m * 3, none⟩))) rfl (by kernel_rfl) (by kernel_rfl) (by kernel_rfl) (by kernel_rfl) (by kernel_rfl) (by kernel_rfl) (by kernel_rfl) (by kernel_rfl) (fun _ _ _ h => h) (Or.inl ⟨by rfl, ?hy⟩) T0 ?_
          case hy =>
            intro X hX
            go_simp
          try simp only [Act.put, List.getElem_toArray, List.getElem_cons_zero, List.getElem_cons_succ, List.setIfInBounds_toArray, List.set_cons_zero, List.set_cons_succ]
          refine wpAnyG_take [15] (i := 15) (v := (.pointer (some ⟨g, m * 3 + 1, none⟩))) rfl (by kernel_rfl) (by kernel_rfl) (by kernel_rfl) (by kernel_rfl) (by kernel_rfl) (by kernel_rfl) (by kernel_rfl) (by kernel_rfl) (fun _ _ _ h => h) (Or.inl ⟨by rfl, ?hy⟩) T0 ?_
          case hy =>
            intro X hX
            go_simp
          try simp only [Act.put, List.getElem_toArray, List.getElem_cons_zero, List.getElem_cons_succ, List.setIfInBounds_toArray, List.set_cons_zero, List.set_cons_succ]
          have ownU := own_below own10 T0
          have belU := hB10.trans (T0.mono hB10.size)
          have y1 := ownU.cellAt (m * 3 + 1) (by omega)
          have y2 := ownU.frozenAt (m * 3 + 1)
          have y3 := (ownU.lt g rfl).2
          have y4 := (ownU.lt g rfl).1
          obtain ⟨st, sg⟩ := ownU.stored (m * 3 + 1) (.int .i64 ((p : Int) + (wx : Int)))
          rw [← HM9.out, (rc_get (l := out9 ++ [(a9, b9, c9)]) (k := out9.length) (x := (a9, b9, c9)) (by simp)).2.1] at y1
          rw [← HM9.out, show ((p : Int) + (wx : Int)) = ((p + wx : Nat) : Int) by omega, rc_set1] at st
          rw [HM9.out] at y1 st
          refine wpAnyG_all (rs := [16]) (by kernel_rfl) (by simp) ?_
          intro i hi
          simp only [List.mem_cons, List.not_mem_nil, or_false] at hi
          subst hi
          refine wpOp_now rfl rfl ?_
          go_simp
          refine ⟨fun h => (nomatch (show (false : Bool) = true from h)), ?_⟩
          refine wpAnyG_done (by kernel_rfl) ?_ _
          refine NoPanic.normal ?_
          have bel9 := belU.setCell (p := ⟨g, m * 3 + 1, none⟩) y4 (.int .i64 ((p : Int) + (wx : Int)))
          clear T0 u0 u1 u2 u3 own10 hB10 ownU belU y1 y2 y3 y4 sg
          rw [show (((p + wx : Nat) : Int)) = ((p : Int) + (wx : Int)) by omega] at st
          obtain ⟨X9, hX9⟩ : ∃ X, U0.setCell ⟨g, m * 3 + 1, none⟩ (.int .i64 ((p : Int) + (wx : Int))) = X := ⟨_, rfl⟩
          rw [hX9] at st bel9 ⊢
          clear hX9
          have HST := Lib.hid st
          go_wp2
          go_roundw
          case rel => exact HRE.out _ _ _ out9 (a9, p + wx, c9) n1 rfl (by rw [List.length_append, HM9.out]; simp only [List.length_cons, List.length_nil]; omega) (by omega) HST.out bel9 HDF.out
          case measure => simp [intOf]; omega
        · rw [HD.out] at hdf
          obtain ⟨n1, hn1⟩ : ∃ x, (out ++ [r]).length = x := ⟨_, rfl⟩
          obtain ⟨m, hm⟩ : ∃ x, out.length = x := ⟨_, rfl⟩
          have hmn : m + 1 = n1 := by rw [← hn1, List.length_append, hm]; rfl
          rw [hn1] at hown hLk
          obtain ⟨o, cap, rfl, ho⟩ := own_slice hown
          obtain ⟨g, rfl⟩ := ho (by omega)
          obtain ⟨ra, rb, kr⟩ := r
          have z0 : ((n1 : Int) == 0) = false := by rw [beq_eq_false_iff_ne]; omega
          have i9 : n1 ≤ k := hLk
          have i1 : (0 : Int) ≤ (m : Int) := by omega
          have i2 : (m : Int) < (n1 : Int) := by omega
          have j0 : IntKind.i64.wrap ((n1 : Int) - 1) = (m : Int) := by rw [show (n1 : Int) - 1 = (m : Int) by omega]; exact IntWalk.i64_in _ (by omega)
          have x2 : wr.cell? ⟨g, m * 3 + 2, none⟩ = some (.int .i64 kr) := (hown.cellAt (m * 3 + 2) (by omega)).trans (by rw [← hm]; exact (rc_get (l := out ++ [(ra, rb, kr)]) (k := out.length) (x := (ra, rb, kr)) (by simp)).2.2)
          have hkk := (show kd s p ≠ kr from hsd)
          have HZ1 := Lib.hid (show ¬ (kr : Int) = (kx : Int) by rw [← HK.out]; omega)
          rw [dfold_diff hkk] at hdf
          obtain ⟨out9, hout9⟩ : ∃ x, out ++ [(ra, rb, kr)] = x := ⟨_, rfl⟩
          rw [hout9] at hown hdf
          have hm9 : out9.length = n1 := by rw [← hout9]; exact hn1
          clear hout9
          rw [HW.out, HK.out] at hdf
          have HM9 := Lib.hid hm9
          have HDF := Lib.hid hdf
          clear hdf hm9 hn1
          clear hkk hsd
          have w8 : IntKind.i64.wrap ((n1 : Int) + 1) = (n1 : Int) + 1 := IntWalk.i64_in _ (by omega)
          go_wp2
          refine wp_region_noPanic ?_
          refine wp_region_g (S := untilG [] (fun X => Below wr.heap.size wr X)) (by kernel_rfl) ?_
          obtain ⟨Y0, hY0⟩ : ∃ X, wr.drew = X := ⟨_, rfl⟩
          have T0 : Below wr.heap.size wr Y0 := hY0 ▸ (Below.refl wr.heap.size wr).drew
          rw [hY0]
          clear hY0
          refine wpAnyG_take [0, 1, 2, 3, 4, 5, 6, 7, 8, 9, 10, 11, 12, 13, 14, 15] (i := 0) (v := (.int .i64 n1)) rfl (by kernel_rfl) (by kernel_rfl) (by kernel_rfl) (by kernel_rfl) (by kernel_rfl) (by kernel_rfl) (by kernel_rfl) (by kernel_rfl) (fun _ _ _ h => h) (Or.inl ⟨by rfl, ?hy⟩) T0 ?_
          case hy =>
            intro X hX
            go_simp
          try simp only [Act.put, List.getElem_toArray, List.getElem_cons_zero, List.getElem_cons_succ, List.setIfInBounds_toArray, List.set_cons_zero, List.set_cons_succ]
          refine wpAnyG_take [1, 2, 3, 4, 5, 6, 7, 8, 9, 10, 11, 12, 13, 14, 15] (i := 1) (v := (.bool false)) rfl (by kernel_rfl) (by kernel_rfl) (by kernel_rfl) (by kernel_rfl) (by kernel_rfl) (by kernel_rfl) (by kernel_rfl) (by kernel_rfl) (fun _ _ _ h => h) (Or.inl ⟨by rfl, ?hy⟩) T0 ?_
          case hy =>
            intro X hX
            go_simp
          try simp only [Act.put, List.getElem_toArray, List.getElem_cons_zero, List.getElem_cons_succ, List.setIfInBounds_toArray, List.set_cons_zero, List.set_cons_succ]
          refine wpAnyG_take [2, 3, 4, 5, 6, 7, 8, 9, 10, 11, 12, 13, 14, 15] (i := 2) (v := (.bool false)) rfl (by kernel_rfl) (by kernel_rfl) (by kernel_rfl) (by kernel_rfl) (by kernel_rfl) (by kernel_rfl) (by kernel_rfl) (by kernel_rfl) (fun _ _ _ h => h) (Or.inl ⟨by rfl, ?hy⟩) T0 ?_
          case hy =>
            intro X hX
            go_simp
          try simp only [Act.put, List.getElem_toArray, List.getElem_cons_zero, List.getElem_cons_succ, List.setIfInBounds_toArray, List.set_cons_zero, List.set_cons_succ]
          refine wpAnyG_take [3, 6, 7, 8, 14, 15] (i := 3) (v := (.slice (some ⟨g, 0, none⟩) n1 cap)) rfl (by kernel_rfl) (by kernel_rfl) (by kernel_rfl) (by kernel_rfl) (by kernel_rfl) (by kernel_rfl) (by kernel_rfl) (by kernel_rfl) (fun _ _ _ h => h) (Or.inl ⟨by rfl, ?hy⟩) T0 ?_
          case hy =>
            intro X hX
            go_simp
          try simp only [Act.put, List.getElem_toArray, List.getElem_cons_zero, List.getElem_cons_succ, List.setIfInBounds_toArray, List.set_cons_zero, List.set_cons_succ]
          refine wpAnyG_take [4, 5, 6, 7, 8, 14, 15] (i := 4) (v := (.int .i64 n1)) rfl (by kernel_rfl) (by kernel_rfl) (by kernel_rfl) (by kernel_rfl) (by kernel_rfl) (by kernel_rfl) (by kernel_rfl) (by kernel_rfl) (fun _ _ _ h => h) (Or.inl ⟨by rfl, ?hy⟩) T0 ?_
          case hy =>
            intro X hX
            go_simp
          try simp only [Act.put, List.getElem_toArray, List.getElem_cons_zero, List.getElem_cons_succ, List.setIfInBounds_toArray, List.set_cons_zero, List.set_cons_succ]
          refine wpAnyG_take [5, 6, 7, 8, 14, 15] (i := 5) (v := (.int .i64 m)) rfl (by kernel_rfl) (by kernel_rfl) (by kernel_rfl) (by kernel_rfl) (by kernel_rfl) (by kernel_rfl) (by kernel_rfl) (by kernel_rfl) (fun _ _ _ h => h) (Or.inl ⟨by rfl, ?hy⟩) T0 ?_
          case hy =>
            intro X hX
            go_simp
          try simp only [Act.put, List.getElem_toArray, List.getElem_cons_zero, List.getElem_cons_succ, List.setIfInBounds_toArray, List.set_cons_zero, List.set_cons_succ]
          refine wpAnyG_take [6, 7, 8, 14, 15] (i := 6) (v := (.pointer (some ⟨g, m * 3, none⟩))) rfl (by kernel_rfl) (by kernel_rfl) (by kernel_rfl) (by kernel_rfl) (by kernel_rfl) (by kernel_rfl) (by kernel_rfl) (by kernel_rfl) (fun _ _ _ h => h) (Or.inl ⟨by rfl, ?hy⟩) T0 ?_
          case hy =>
            intro X hX
            go_simp
          try simp only [Act.put, List.getElem_toArray, List.getElem_cons_zero, List.getElem_cons_succ, List.setIfInBounds_toArray, List.set_cons_zero, List.set_cons_succ]
          refine wpAnyG_take [7, 8, 14, 15] (i := 7) (v := (.pointer (some ⟨g, m * 3 + 2, none⟩))) rfl (by kernel_rfl) (by kernel_rfl) (by kernel_rfl) (by kernel_rfl) (by kernel_rfl) (by kernel_rfl) (by kernel_rfl) (by kernel_rfl) (fun _ _ _ h => h) (Or.inl ⟨by rfl, ?hy⟩) T0 ?_
          case hy =>
            intro X hX
            go_simp
          try simp only [Act.put, List.getElem_toArray, List.getElem_cons_zero, List.getElem_cons_succ, List.setIfInBounds_toArray, List.set_cons_zero, List.set_cons_succ]
          refine wpAnyG_take [8, 14, 15] (i := 8) (v := (.int .i64 kr)) rfl (by kernel_rfl) (by kernel_rfl) (by kernel_rfl) (by kernel_rfl) (by kernel_rfl) (by kernel_rfl) (by kernel_rfl) (by kernel_rfl) (fun _ _ _ h => h) (Or.inl ⟨by rfl, ?hy⟩) T0 ?_
          case hy =>
            intro X hX
            have e0 := at_below x2 hX
            go_simp
          try simp only [Act.put, List.getElem_toArray, List.getElem_cons_zero, List.getElem_cons_succ, List.setIfInBounds_toArray, List.set_cons_zero, List.set_cons_succ]
          refine wpAnyG_take [9, 11, 12, 13, 14, 15] (i := 9) (v := (.slice (some ⟨gp, 0, none⟩) N cp)) rfl (by kernel_rfl) (by kernel_rfl) (by kernel_rfl) (by kernel_rfl) (by kernel_rfl) (by kernel_rfl) (by kernel_rfl) (by kernel_rfl) (fun _ _ _ h => h) (Or.inl ⟨by rfl, ?hy⟩) T0 ?_
          case hy =>
            intro X hX
            go_simp
          try simp only [Act.put, List.getElem_toArray, List.getElem_cons_zero, List.getElem_cons_succ, List.setIfInBounds_toArray, List.set_cons_zero, List.set_cons_succ]
          refine wpAnyG_take [10, 11, 12, 13, 14, 15] (i := 10) (v := (.int .i64 k)) rfl (by kernel_rfl) (by kernel_rfl) (by kernel_rfl) (by kernel_rfl) (by kernel_rfl) (by kernel_rfl) (by kernel_rfl) (by kernel_rfl) (fun _ _ _ h => h) (Or.inl ⟨by rfl, ?hy⟩) T0 ?_
          case hy =>
            intro X hX
            go_simp
          try simp only [Act.put, List.getElem_toArray, List.getElem_cons_zero, List.getElem_cons_succ, List.setIfInBounds_toArray, List.set_cons_zero, List.set_cons_succ]
          refine wpAnyG_take [11, 12, 13, 14, 15] (i := 11) (v := (.pointer (some ⟨gp, k * 4, none⟩))) rfl (by kernel_rfl) (by kernel_rfl) (by kernel_rfl) (by kernel_rfl) (by kernel_rfl) (by kernel_rfl) (by kernel_rfl) (by kernel_rfl) (fun _ _ _ h => h) (Or.inl ⟨by rfl, ?hy⟩) T0 ?_
          case hy =>
            intro X hX
            go_simp
          try simp only [Act.put, List.getElem_toArray, List.getElem_cons_zero, List.getElem_cons_succ, List.setIfInBounds_toArray, List.set_cons_zero, List.set_cons_succ]
          refine wpAnyG_take [12, 13, 14, 15] (i := 12) (v := (.agg #[.int .i64 p, .int .i64 wx, .int .i32 rx, .bool bx])) rfl (by kernel_rfl) (by kernel_rfl) (by kernel_rfl) (by kernel_rfl) (by kernel_rfl) (by kernel_rfl) (by kernel_rfl) (by kernel_rfl) (fun _ _ _ h => h) (Or.inl ⟨by rfl, ?hy⟩) T0 ?_
          case hy =>
            intro X hX
            have e0 := at_below d0 hX
            have e1 := at_below d1 hX
            have e2 := at_below d2 hX
            have e3 := at_below d3 hX
            go_simp
          try simp only [Act.put, List.getElem_toArray, List.getElem_cons_zero, List.getElem_cons_succ, List.setIfInBounds_toArray, List.set_cons_zero, List.set_cons_succ]
          refine wpAnyG_all (rs := [13]) (by kernel_rfl) (by simp) ?_
          intro i hi
          simp only [List.mem_cons, List.not_mem_nil, or_false] at hi
          subst hi
          refine wpOp_open rfl (by rfl) ?_
          go_simp
          refine (cOp _).mono ?_
          rintro e Y1 ⟨rfl, hbO1⟩
          replace T0 := T0.trans (hbO1.mono T0.size)
          refine ⟨fun _ => T0, ?_⟩
          try simp only [Act.put, List.getElem_toArray, List.getElem_cons_zero, List.getElem_cons_succ, List.setIfInBounds_toArray, List.set_cons_zero, List.set_cons_succ]
          refine wpAnyG_take [14, 15] (i := 14) (v := (.bool true)) rfl (by kernel_rfl) (by kernel_rfl) (by kernel_rfl) (by kernel_rfl) (by kernel_rfl) (by kernel_rfl) (by kernel_rfl) (by kernel_rfl) (fun _ _ _ h => h) (Or.inl ⟨by rfl, ?hy⟩) T0 ?_
          case hy =>
            intro X hX
            have hz := HZ1.out
            go_simp
          try simp only [Act.put, List.getElem_toArray, List.getElem_cons_zero, List.getElem_cons_succ, List.setIfInBounds_toArray, List.set_cons_zero, List.set_cons_succ]
          refine wpAnyG_take [15] (i := 15) (v := (.bool true)) rfl (by kernel_rfl) (by kernel_rfl) (by kernel_rfl) (by kernel_rfl) (by kernel_rfl) (by kernel_rfl) (by kernel_rfl) (by kernel_rfl) (fun _ _ _ h => h) (Or.inl ⟨by rfl, ?hy⟩) T0 ?_
          case hy =>
            intro X hX
            go_simp
          try simp only [Act.put, List.getElem_toArray, List.getElem_cons_zero, List.getElem_cons_succ, List.setIfInBounds_toArray, List.set_cons_zero, List.set_cons_succ]
          refine wpAnyG_done (by kernel_rfl) ?_ _
          refine NoPanic.normal ?_
          have hBV := hB.trans (T0.mono hB.size)
          have hoV := own_below hown T0
          clear T0 hown hB d0 d1 d2 d3 x2
          go_wp2
          obtain ⟨v0, v1, v2, v3⟩ := HDC.out Y1 hBV
          refine wp_region_noPanic ?_
          refine wp_region_g (S := untilG [18] (fun X => Below Y1.heap.size Y1 X)) (by kernel_rfl) ?_
          obtain ⟨Z0, hZ0⟩ : ∃ X, Y1.drew = X := ⟨_, rfl⟩
          have T0 : Below Y1.heap.size Y1 Z0 := hZ0 ▸ (Below.refl Y1.heap.size Y1).drew
          rw [hZ0]
          clear hZ0
          refine wpAnyG_take [0, 19] (i := 0) (v := (.slice (some ⟨g, 0, none⟩) n1 cap)) rfl (by kernel_rfl) (by kernel_rfl) (by kernel_rfl) (by kernel_rfl) (by kernel_rfl) (by kernel_rfl) (by kernel_rfl) (by kernel_rfl) (fun _ _ _ h => h) (Or.inl ⟨by rfl, ?hy⟩) T0 ?_
          case hy =>
            intro X hX
            go_simp
          try simp only [Act.put, List.getElem_toArray, List.getElem_cons_zero, List.getElem_cons_succ, List.setIfInBounds_toArray, List.set_cons_zero, List.set_cons_succ]
          refine wpAnyG_take [1, 3, 4, 5, 16, 17, 19] (i := 1) (v := (.slice (some ⟨gp, 0, none⟩) N cp)) rfl (by kernel_rfl) (by kernel_rfl) (by kernel_rfl) (by kernel_rfl) (by kernel_rfl) (by kernel_rfl) (by kernel_rfl) (by kernel_rfl) (fun _ _ _ h => h) (Or.inl ⟨by rfl, ?hy⟩) T0 ?_
          case hy =>
            intro X hX
            go_simp
          try simp only [Act.put, List.getElem_toArray, List.getElem_cons_zero, List.getElem_cons_succ, List.setIfInBounds_toArray, List.set_cons_zero, List.set_cons_succ]
          refine wpAnyG_take [2, 3, 4, 5, 16, 17, 19] (i := 2) (v := (.int .i64 k)) rfl (by kernel_rfl) (by kernel_rfl) (by kernel_rfl) (by kernel_rfl) (by kernel_rfl) (by kernel_rfl) (by kernel_rfl) (by kernel_rfl) (fun _ _ _ h => h) (Or.inl ⟨by rfl, ?hy⟩) T0 ?_
          case hy =>
            intro X hX
            go_simp
          try simp only [Act.put, List.getElem_toArray, List.getElem_cons_zero, List.getElem_cons_succ, List.setIfInBounds_toArray, List.set_cons_zero, List.set_cons_succ]
          refine wpAnyG_take [3, 4, 5, 16, 17, 19] (i := 3) (v := (.pointer (some ⟨gp, k * 4, none⟩))) rfl (by kernel_rfl) (by kernel_rfl) (by kernel_rfl) (by kernel_rfl) (by kernel_rfl) (by kernel_rfl) (by kernel_rfl) (by kernel_rfl) (fun _ _ _ h => h) (Or.inl ⟨by rfl, ?hy⟩) T0 ?_
          case hy =>
            intro X hX
            go_simp
          try simp only [Act.put, List.getElem_toArray, List.getElem_cons_zero, List.getElem_cons_succ, List.setIfInBounds_toArray, List.set_cons_zero, List.set_cons_succ]
          refine wpAnyG_take [4, 5, 16, 17, 19] (i := 4) (v := (.pointer (some ⟨gp, k * 4, none⟩))) rfl (by kernel_rfl) (by kernel_rfl) (by kernel_rfl) (by kernel_rfl) (by kernel_rfl) (by kernel_rfl) (by kernel_rfl) (by kernel_rfl) (fun _ _ _ h => h) (Or.inl ⟨by rfl, ?hy⟩) T0 ?_
          case hy =>
            intro X hX
            go_simp
          try simp only [Act.put, List.getElem_toArray, List.getElem_cons_zero, List.getElem_cons_succ, List.setIfInBounds_toArray, List.set_cons_zero, List.set_cons_succ]
          refine wpAnyG_take [5, 16, 17, 19] (i := 5) (v := (.int .i64 p)) rfl (by kernel_rfl) (by kernel_rfl) (by kernel_rfl) (by kernel_rfl) (by kernel_rfl) (by kernel_rfl) (by kernel_rfl) (by kernel_rfl) (fun _ _ _ h => h) (Or.inl ⟨by rfl, ?hy⟩) T0 ?_
          case hy =>
            intro X hX
            have e0 := at_below v0 hX
            go_simp
          try simp only [Act.put, List.getElem_toArray, List.getElem_cons_zero, List.getElem_cons_succ, List.setIfInBounds_toArray, List.set_cons_zero, List.set_cons_succ]
          refine wpAnyG_take [6, 8, 9, 10, 16, 17, 19] (i := 6) (v := (.slice (some ⟨gp, 0, none⟩) N cp)) rfl (by kernel_rfl) (by kernel_rfl) (by kernel_rfl) (by kernel_rfl) (by kernel_rfl) (by kernel_rfl) (by kernel_rfl) (by kernel_rfl) (fun _ _ _ h => h) (Or.inl ⟨by rfl, ?hy⟩) T0 ?_
          case hy =>
            intro X hX
            go_simp
          try simp only [Act.put, List.getElem_toArray, List.getElem_cons_zero, List.getElem_cons_succ, List.setIfInBounds_toArray, List.set_cons_zero, List.set_cons_succ]
          refine wpAnyG_take [7, 8, 9, 10, 16, 17, 19] (i := 7) (v := (.int .i64 k)) rfl (by kernel_rfl) (by kernel_rfl) (by kernel_rfl) (by kernel_rfl) (by kernel_rfl) (by kernel_rfl) (by kernel_rfl) (by kernel_rfl) (fun _ _ _ h => h) (Or.inl ⟨by rfl, ?hy⟩) T0 ?_
          case hy =>
            intro X hX
            go_simp
          try simp only [Act.put, List.getElem_toArray, List.getElem_cons_zero, List.getElem_cons_succ, List.setIfInBounds_toArray, List.set_cons_zero, List.set_cons_succ]
          refine wpAnyG_take [8, 9, 10, 16, 17, 19] (i := 8) (v := (.pointer (some ⟨gp, k * 4, none⟩))) rfl (by kernel_rfl) (by kernel_rfl) (by kernel_rfl) (by kernel_rfl) (by kernel_rfl) (by kernel_rfl) (by kernel_rfl) (by kernel_rfl) (fun _ _ _ h => h) (Or.inl ⟨by rfl, ?hy⟩) T0 ?_
          case hy =>
            intro X hX
            go_simp
          try simp only [Act.put, List.getElem_toArray, List.getElem_cons_zero, List.getElem_cons_succ, List.setIfInBounds_toArray, List.set_cons_zero, List.set_cons_succ]
          refine wpAnyG_take [9, 10, 16, 17, 19] (i := 9) (v := (.pointer (some ⟨gp, k * 4, none⟩))) rfl (by kernel_rfl) (by kernel_rfl) (by kernel_rfl) (by kernel_rfl) (by kernel_rfl) (by kernel_rfl) (by kernel_rfl) (by kernel_rfl) (fun _ _ _ h => h) (Or.inl ⟨by rfl, ?hy⟩) T0 ?_
          case hy =>
            intro X hX
            go_simp
          try simp only [Act.put, List.getElem_toArray, List.getElem_cons_zero, List.getElem_cons_succ, List.setIfInBounds_toArray, List.set_cons_zero, List.set_cons_succ]
          refine wpAnyG_take [10, 16, 17, 19] (i := 10) (v := (.int .i64 p)) rfl (by kernel_rfl) (by kernel_rfl) (by kernel_rfl) (by kernel_rfl) (by kernel_rfl) (by kernel_rfl) (by kernel_rfl) (by kernel_rfl) (fun _ _ _ h => h) (Or.inl ⟨by rfl, ?hy⟩) T0 ?_
          case hy =>
            intro X hX
            have e0 := at_below v0 hX
            go_simp
          try simp only [Act.put, List.getElem_toArray, List.getElem_cons_zero, List.getElem_cons_succ, List.setIfInBounds_toArray, List.set_cons_zero, List.set_cons_succ]
          refine wpAnyG_take [11, 13, 14, 15, 16, 17, 19] (i := 11) (v := (.slice (some ⟨gp, 0, none⟩) N cp)) rfl (by kernel_rfl) (by kernel_rfl) (by kernel_rfl) (by kernel_rfl) (by kernel_rfl) (by kernel_rfl) (by kernel_rfl) (by kernel_rfl) (fun _ _ _ h => h) (Or.inl ⟨by rfl, ?hy⟩) T0 ?_
          case hy =>
            intro X hX
            go_simp
          try simp only [Act.put, List.getElem_toArray, List.getElem_cons_zero, List.getElem_cons_succ, List.setIfInBounds_toArray, List.set_cons_zero, List.set_cons_succ]
          refine wpAnyG_take [12, 13, 14, 15, 16, 17, 19] (i := 12) (v := (.int .i64 k)) rfl (by kernel_rfl) (by kernel_rfl) (by kernel_rfl) (by kernel_rfl) (by kernel_rfl) (by kernel_rfl) (by kernel_rfl) (by kernel_rfl) (fun _ _ _ h => h) (Or.inl ⟨by rfl, ?hy⟩) T0 ?_
          case hy =>
            intro X hX
            go_simp
          try simp only [Act.put, List.getElem_toArray, List.getElem_cons_zero, List.getElem_cons_succ, List.setIfInBounds_toArray, List.set_cons_zero, List.set_cons_succ]
          refine wpAnyG_take [13, 14, 15, 16, 17, 19] (i := 13) (v := (.pointer (some ⟨gp, k * 4, none⟩))) rfl (by kernel_rfl) (by kernel_rfl) (by kernel_rfl) (by kernel_rfl) (by kernel_rfl) (by kernel_rfl) (by kernel_rfl) (by kernel_rfl) (fun _ _ _ h => h) (Or.inl ⟨by rfl, ?hy⟩) T0 ?_
          case hy =>
            intro X hX
            go_simp
          try simp only [Act.put, List.getElem_toArray, List.getElem_cons_zero, List.getElem_cons_succ, List.setIfInBounds_toArray, List.set_cons_zero, List.set_cons_succ]
          refine wpAnyG_take [14, 15, 16, 17, 19] (i := 14) (v := (.agg #[.int .i64 p, .int .i64 wx, .int .i32 rx, .bool bx])) rfl (by kernel_rfl) (by kernel_rfl) (by kernel_rfl) (by kernel_rfl) (by kernel_rfl) (by kernel_rfl) (by kernel_rfl) (by kernel_rfl) (fun _ _ _ h => h) (Or.inl ⟨by rfl, ?hy⟩) T0 ?_
          case hy =>
            intro X hX
            have e0 := at_below v0 hX
            have e1 := at_below v1 hX
            have e2 := at_below v2 hX
            have e3 := at_below v3 hX
            go_simp
          try simp only [Act.put, List.getElem_toArray, List.getElem_cons_zero, List.getElem_cons_succ, List.setIfInBounds_toArray, List.set_cons_zero, List.set_cons_succ]
          refine wpAnyG_all (rs := [15]) (by kernel_rfl) (by simp) ?_
          intro i hi
          simp only [List.mem_cons, List.not_mem_nil, or_false] at hi
          subst hi
          refine wpOp_open rfl (by rfl) ?_
          go_simp
          refine (cOp _).mono ?_
          rintro e Z1 ⟨rfl, hbO2⟩
          replace T0 := T0.trans (hbO2.mono T0.size)
          refine ⟨fun _ => T0, ?_⟩
          try simp only [Act.put, List.getElem_toArray, List.getElem_cons_zero, List.getElem_cons_succ, List.setIfInBounds_toArray, List.set_cons_zero, List.set_cons_succ]
          refine wpAnyG_take [16, 17, 19] (i := 16) (v := (.agg #[.int .i64 p, .int .i64 p, .int .i64 kx])) rfl (by kernel_rfl) (by kernel_rfl) (by kernel_rfl) (by kernel_rfl) (by kernel_rfl) (by kernel_rfl) (by kernel_rfl) (by kernel_rfl) (fun _ _ _ h => h) (Or.inl ⟨by rfl, ?hy⟩) T0 ?_
          case hy =>
            intro X hX
            go_simp
          try simp only [Act.put, List.getElem_toArray, List.getElem_cons_zero, List.getElem_cons_succ, List.setIfInBounds_toArray, List.set_cons_zero, List.set_cons_succ]
          have own8 := own_below hoV T0
          have bel8 := hBV.trans (T0.mono hBV.size)
          have T9 := T0.alloc T0.size (.cells #[.int .i64 p, .int .i64 p, .int .i64 kx] 47)
          refine wpAnyG_all (rs := [17]) (by kernel_rfl) (by simp) ?_
          intro i hi
          simp only [List.mem_cons, List.not_mem_nil, or_false] at hi
          subst hi
          refine wpOp_now rfl rfl ?_
          go_simp
          refine ⟨fun _ => T9, ?_⟩
          try simp only [Act.put, List.getElem_toArray, List.getElem_cons_zero, List.getElem_cons_succ, List.setIfInBounds_toArray, List.set_cons_zero, List.set_cons_succ]
          refine wpAnyG_all (rs := [18]) (by kernel_rfl) (by simp) ?_
          intro i hi0
          simp only [List.mem_cons, List.not_mem_nil, or_false] at hi0
          subst hi0
          refine wpOp_now rfl rfl ?_
          refine wp_append_own _ _ _ 36 rfl w1.heap.size 47 i0 (.agg #[.int .i64 0, .int .i64 0, .int .i64 0]) 3 24 Try.underlying36 hi hz0 hz1 hz2 rfl (by decide) (.slice (some ⟨g, 0, none⟩) n1 cap) n1 _ rfl (own8.alloc _) ⟨Z1.heap.size, 0, none⟩ 1 1 [.int .i64 p, .int .i64 p, .int .i64 kx] rfl rfl (World.news_of_block (cs := #[.int .i64 p, .int .i64 p, .int .i64 kx]) (t := 47) (fr := (0, 0)) (World.alloc_heap_new Z1 _)) (fun x hx => by simp at hx; rcases hx with rfl | rfl | rfl <;> rfl) (by unfold maxLen; omega) (by omega) (by have := bel8.size; simp; omega) ?_
          intro v9 w9 hown9 hgrow9 _
          obtain ⟨n2, hn2⟩ : ∃ x, n1 + 1 = x := ⟨_, rfl⟩
          rw [hn2] at hown9
          obtain ⟨o9, cap9, rfl, ho9⟩ := own_slice hown9
          obtain ⟨g9, rfl⟩ := ho9 (by omega)
          refine ⟨fun h => (nomatch (show (false : Bool) = true from h)), ?_⟩
          try simp only [Act.put, List.getElem_toArray, List.getElem_cons_zero, List.getElem_cons_succ, List.setIfInBounds_toArray, List.set_cons_zero, List.set_cons_succ]
          refine wpAnyG_all (rs := [19]) (by kernel_rfl) (by simp) ?_
          intro i hi
          simp only [List.mem_cons, List.not_mem_nil, or_false] at hi
          subst hi
          refine wpOp_now rfl rfl ?_
          go_simp
          refine ⟨fun h => (nomatch (show (false : Bool) = true from h)), ?_⟩
          try simp only [Act.put, List.getElem_toArray, List.getElem_cons_zero, List.getElem_cons_succ, List.setIfInBounds_toArray, List.set_cons_zero, List.set_cons_succ]
          refine wpAnyG_done (by kernel_rfl) ?_ _
          refine NoPanic.normal ?_
          have bel9 := (bel8.alloc bel8.size _).grown hgrow9 (by have := bel8.size; simp; omega) (fun j hj => (own8.lt j hj).1)
          have own10 := hown9
          have hB10 := bel9
          clear hown9 bel9 own8 bel8 hgrow9 T0 T9 hoV hBV v0 v1 v2 v3
          obtain ⟨a9, b9, c9, e9⟩ : ∃ (a b c : Nat), (a, b, c) = (p, p, kx) := ⟨_, _, _, rfl⟩
          rw [show rc out9 ++ [.int .i64 p, .int .i64 p, .int .i64 kx] = rc (out9 ++ [(a9, b9, c9)]) by rw [e9, rc_app, rc_one]] at own10
          have E9 := Lib.hid e9
          clear e9
          go_wp2
          obtain ⟨u0, u1, u2, u3⟩ := HDC.out w9 hB10
          have i7 : (0 : Int) ≤ (n1 : Int) := by omega
          have i8 : (n1 : Int) < (n2 : Int) := by omega
          have j2 : IntKind.i64.wrap (((n1 : Int) + 1) - 1) = (n1 : Int) := by rw [show ((n1 : Int) + 1) - 1 = (n1 : Int) by omega]; exact IntWalk.i64_in _ (by omega)
          have j3 : IntKind.i64.wrap (n1 : Int) = (n1 : Int) := IntWalk.i64_in _ (by omega)
          refine wp_region_noPanic ?_
          refine wp_region_g (S := untilG [16] (fun X => Below w9.heap.size w9 X)) (by kernel_rfl) ?_
          obtain ⟨U0, hU0⟩ : ∃ X, w9.drew = X := ⟨_, rfl⟩
          have T0 : Below w9.heap.size w9 U0 := hU0 ▸ (Below.refl w9.heap.size w9).drew
          rw [hU0]
          clear hU0
          refine wpAnyG_take [0, 14, 15] (i := 0) (v := (.slice (some ⟨g9, 0, none⟩) n2 cap9)) rfl (by kernel_rfl) (by kernel_rfl) (by kernel_rfl) (by kernel_rfl) (by kernel_rfl) (by kernel_rfl) (by kernel_rfl) (by kernel_rfl) (fun _ _ _ h => h) (Or.inl ⟨by rfl, ?hy⟩) T0 ?_
          case hy =>
            intro X hX
            go_simp
          try simp only [Act.put, List.getElem_toArray, List.getElem_cons_zero, List.getElem_cons_succ, List.setIfInBounds_toArray, List.set_cons_zero, List.set_cons_succ]
          refine wpAnyG_take [1, 2, 14, 15] (i := 1) (v := (.int .i64 (((n1 : Int) + 1)))) rfl (by kernel_rfl) (by kernel_rfl) (by kernel_rfl) (by kernel_rfl) (by kernel_rfl) (by kernel_rfl) (by kernel_rfl) (by kernel_rfl) (fun _ _ _ h => h) (Or.inl ⟨by rfl, ?hy⟩) T0 ?_
          case hy =>
            intro X hX
            go_simp
          try simp only [Act.put, List.getElem_toArray, List.getElem_cons_zero, List.getElem_cons_succ, List.setIfInBounds_toArray, List.set_cons_zero, List.set_cons_succ]
          refine wpAnyG_take [2, 14, 15] (i := 2) (v := (.int .i64 n1)) rfl (by kernel_rfl) (by kernel_rfl) (by kernel_rfl) (by kernel_rfl) (by kernel_rfl) (by kernel_rfl) (by kernel_rfl) (by kernel_rfl) (fun _ _ _ h => h) (Or.inl ⟨by rfl, ?hy⟩) T0 ?_
          case hy =>
            intro X hX
            go_simp
          try simp only [Act.put, List.getElem_toArray, List.getElem_cons_zero, List.getElem_cons_succ, List.setIfInBounds_toArray, List.set_cons_zero, List.set_cons_succ]
          refine wpAnyG_take [3, 5, 6, 7, 13] (i := 3) (v := (.slice (some ⟨gp, 0, none⟩) N cp)) rfl (by kernel_rfl) (by kernel_rfl) (by kernel_rfl) (by kernel_rfl) (by kernel_rfl) (by kernel_rfl) (by kernel_rfl) (by kernel_rfl) (fun _ _ _ h => h) (Or.inl ⟨by rfl, ?hy⟩) T0 ?_
          case hy =>
            intro X hX
            go_simp
          try simp only [Act.put, List.getElem_toArray, List.getElem_cons_zero, List.getElem_cons_succ, List.setIfInBounds_toArray, List.set_cons_zero, List.set_cons_succ]
          refine wpAnyG_take [4, 5, 6, 7, 13] (i := 4) (v := (.int .i64 k)) rfl (by kernel_rfl) (by kernel_rfl) (by kernel_rfl) (by kernel_rfl) (by kernel_rfl) (by kernel_rfl) (by kernel_rfl) (by kernel_rfl) (fun _ _ _ h => h) (Or.inl ⟨by rfl, ?hy⟩) T0 ?_
          case hy =>
            intro X hX
            go_simp
          try simp only [Act.put, List.getElem_toArray, List.getElem_cons_zero, List.getElem_cons_succ, List.setIfInBounds_toArray, List.set_cons_zero, List.set_cons_succ]
          refine wpAnyG_take [5, 6, 7, 13] (i := 5) (v := (.pointer (some ⟨gp, k * 4, none⟩))) rfl (by kernel_rfl) (by kernel_rfl) (by kernel_rfl) (by kernel_rfl) (by kernel_rfl) (by kernel_rfl) (by kernel_rfl) (by kernel_rfl) (fun _ _ _ h => h) (Or.inl ⟨by rfl, ?hy⟩) T0 ?_
          case hy =>
            intro X hX
            go_simp
          try simp only [Act.put, List.getElem_toArray, List.getElem_cons_zero, List.getElem_cons_succ, List.setIfInBounds_toArray, List.set_cons_zero, List.set_cons_succ]
          refine wpAnyG_take [6, 7, 13] (i := 6) (v := (.pointer (some ⟨gp, k * 4, none⟩))) rfl (by kernel_rfl) (by kernel_rfl) (by kernel_rfl) (by kernel_rfl) (by kernel_rfl) (by kernel_rfl) (by kernel_rfl) (by kernel_rfl) (fun _ _ _ h => h) (Or.inl ⟨by rfl, ?hy⟩) T0 ?_
          case hy =>
            intro X hX
            go_simp
          try simp only [Act.put, List.getElem_toArray, List.getElem_cons_zero, List.getElem_cons_succ, List.setIfInBounds_toArray, List.set_cons_zero, List.set_cons_succ]
          refine wpAnyG_take [7, 13] (i := 7) (v := (.int .i64 p)) rfl (by kernel_rfl) (by kernel_rfl) (by kernel_rfl) (by kernel_rfl) (by kernel_rfl) (by kernel_rfl) (by kernel_rfl) (by kernel_rfl) (fun _ _ _ h => h) (Or.inl ⟨by rfl, ?hy⟩) T0 ?_
          case hy =>
            intro X hX
            have e0 := at_below u0 hX
            go_simp
          try simp only [Act.put, List.getElem_toArray, List.getElem_cons_zero, List.getElem_cons_succ, List.setIfInBounds_toArray, List.set_cons_zero, List.set_cons_succ]
          refine wpAnyG_take [8, 10, 11, 12, 13] (i := 8) (v := (.slice (some ⟨gp, 0, none⟩) N cp)) rfl (by kernel_rfl) (by kernel_rfl) (by kernel_rfl) (by kernel_rfl) (by kernel_rfl) (by kernel_rfl) (by kernel_rfl) (by kernel_rfl) (fun _ _ _ h => h) (Or.inl ⟨by rfl, ?hy⟩) T0 ?_
          case hy =>
            intro X hX
            go_simp
          try simp only [Act.put, List.getElem_toArray, List.getElem_cons_zero, List.getElem_cons_succ, List.setIfInBounds_toArray, List.set_cons_zero, List.set_cons_succ]
          refine wpAnyG_take [9, 10, 11, 12, 13] (i := 9) (v := (.int .i64 k)) rfl (by kernel_rfl) (by kernel_rfl) (by kernel_rfl) (by kernel_rfl) (by kernel_rfl) (by kernel_rfl) (by kernel_rfl) (by kernel_rfl) (fun _ _ _ h => h) (Or.inl ⟨by rfl, ?hy⟩) T0 ?_
          case hy =>
            intro X hX
            go_simp
          try simp only [Act.put, List.getElem_toArray, List.getElem_cons_zero, List.getElem_cons_succ, List.setIfInBounds_toArray, List.set_cons_zero, List.set_cons_succ]
          refine wpAnyG_take [10, 11, 12, 13] (i := 10) (v := (.pointer (some ⟨gp, k * 4, none⟩))) rfl (by kernel_rfl) (by kernel_rfl) (by kernel_rfl) (by kernel_rfl) (by kernel_rfl) (by kernel_rfl) (by kernel_rfl) (by kernel_rfl) (fun _ _ _ h => h) (Or.inl ⟨by rfl, ?hy⟩) T0 ?_
          case hy =>
            intro X hX
            go_simp
          try simp only [Act.put, List.getElem_toArray, List.getElem_cons_zero, List.getElem_cons_succ, List.setIfInBounds_toArray, List.set_cons_zero, List.set_cons_succ]
          refine wpAnyG_take [11, 12, 13] (i := 11) (v := (.pointer (some ⟨gp, k * 4 + 1, none⟩))) rfl (by kernel_rfl) (by kernel_rfl) (by kernel_rfl) (by kernel_rfl) (by kernel_rfl) (by kernel_rfl) (by kernel_rfl) (by kernel_rfl) (fun _ _ _ h => h) (Or.inl ⟨by rfl, ?hy⟩) T0 ?_
          case hy =>
            intro X hX
            go_simp
          try simp only [Act.put, List.getElem_toArray, List.getElem_cons_zero, List.getElem_cons_succ, List.setIfInBounds_toArray, List.set_cons_zero, List.set_cons_succ]
          refine wpAnyG_take [12, 13] (i := 12) (v := (.int .i64 wx)) rfl (by kernel_rfl) (by kernel_rfl) (by kernel_rfl) (by kernel_rfl) (by kernel_rfl) (by kernel_rfl) (by kernel_rfl) (by kernel_rfl) (fun _ _ _ h => h) (Or.inl ⟨by rfl, ?hy⟩) T0 ?_
          case hy =>
            intro X hX
            have e0 := at_below u1 hX
            go_simp
          try simp only [Act.put, List.getElem_toArray, List.getElem_cons_zero, List.getElem_cons_succ, List.setIfInBounds_toArray, List.set_cons_zero, List.set_cons_succ]
          refine wpAnyG_take [13] (i := 13) (v := (.int .i64 ((p : Int) + (wx : Int)))) rfl (by kernel_rfl) (by kernel_rfl) (by kernel_rfl) (by kernel_rfl) (by kernel_rfl) (by kernel_rfl) (by kernel_rfl) (by kernel_rfl) (fun _ _ _ h => h) (Or.inl ⟨by rfl, ?hy⟩) T0 ?_
          case hy =>
            intro X hX
            go_simp
          try simp only [Act.put, List.getElem_toArray, List.getElem_cons_zero, List.getElem_cons_succ, List.setIfInBounds_toArray, List.set_cons_zero, List.set_cons_succ]
          refine wpAnyG_take [14, 15] (i := 14) (v := (.pointer (some ⟨g9, n1 * 3, none⟩))) rfl (by kernel_rfl) (by kernel_rfl) (by kernel_rfl) (by kernel_rfl) (by kernel_rfl) (by kernel_rfl) (by kernel_rfl) (by kernel_rfl) (fun _ _ _ h => h) (Or.inl ⟨by rfl, ?hy⟩) T0 ?_
          case hy =>
            intro X hX
            go_simp
          try simp only [Act.put, List.getElem_toArray, List.getElem_cons_zero, List.getElem_cons_succ, List.setIfInBounds_toArray, List.set_cons_zero, List.set_cons_succ]
          refine wpAnyG_take [15] (i := 15) (v := (.pointer (some ⟨g9, n1 * 3 + 1, none⟩))) rfl (by kernel_rfl) (by kernel_rfl) (by kernel_rfl) (by kernel_rfl) (by kernel_rfl) (by kernel_rfl) (by kernel_rfl) (by kernel_rfl) (fun _ _ _ h => h) (Or.inl ⟨by rfl, ?hy⟩) T0 ?_
          case hy =>
            intro X hX
            go_simp
          try simp only [Act.put, List.getElem_toArray, List.getElem_cons_zero, List.getElem_cons_succ, List.setIfInBounds_toArray, List.set_cons_zero, List.set_cons_succ]
          have ownU := own_below own10 T0
          have belU := hB10.trans (T0.mono hB10.size)
          have y1 := ownU.cellAt (n1 * 3 + 1) (by omega)
          have y2 := ownU.frozenAt (n1 * 3 + 1)
          have y3 := (ownU.lt g9 rfl).2
          have y4 := (ownU.lt g9 rfl).1
          obtain ⟨st, sg⟩ := ownU.stored (n1 * 3 + 1) (.int .i64 ((p : Int) + (wx : Int)))
          rw [← HM9.out, (rc_get (l := out9 ++ [(a9, b9, c9)]) (k := out9.length) (x := (a9, b9, c9)) (by simp)).2.1] at y1
          rw [← HM9.out, show ((p : Int) + (wx : Int)) = ((p + wx : Nat) : Int) by omega, rc_set1] at st
          rw [HM9.out] at y1 st
          refine wpAnyG_all (rs := [16]) (by kernel_rfl) (by simp) ?_
          intro i hi
          simp only [List.mem_cons, List.not_mem_nil, or_false] at hi
          subst hi
          refine wpOp_now rfl rfl ?_
          go_simp
          refine ⟨fun h => (nomatch (show (false : Bool) = true from h)), ?_⟩
          refine wpAnyG_done (by kernel_rfl) ?_ _
          refine NoPanic.normal ?_
          have bel9 := belU.setCell (p := ⟨g9, n1 * 3 + 1, none⟩) y4 (.int .i64 ((p : Int) + (wx : Int)))
          clear T0 u0 u1 u2 u3 own10 hB10 ownU belU y1 y2 y3 y4 sg
          rw [show (((p + wx : Nat) : Int)) = ((p : Int) + (wx : Int)) by omega] at st
          obtain ⟨X9, hX9⟩ : ∃ X, U0.setCell ⟨g9, n1 * 3 + 1, none⟩ (.int .i64 ((p : Int) + (wx : Int))) = X := ⟨_, rfl⟩
          rw [hX9] at st bel9 ⊢
          clear hX9
          have HST := Lib.hid st
          go_wp2
          go_roundw
          case rel => exact HRE.out _ _ _ out9 (p, p + wx, kx) n2 rfl (by rw [List.length_append, HM9.out]; simp only [List.length_cons, List.length_nil]; omega) (by omega) (by have := HST.out; rw [show a9 = p from congrArg (·.1) E9.out, show c9 = kx from congrArg (·.2.2) E9.out] at this; exact this) bel9 HDF.out
          case measure => simp [intOf]; omega
    · have hkN : k = N := by omega
      have hL : L = runsL s := by
        have h1 : (posns s).drop k = [] := List.drop_eq_nil_iff.2 (by rw [HN.out]; omega)
        rcases hcase with ⟨h0, rfl⟩ | ⟨out, r, rfl, hLk, hdf⟩
        · rw [h0, List.drop_zero] at h1
          have h2 := runs_same s (kd s)
          rw [h1] at h2
          exact h2.trans (by unfold runsL; rw [h1])
        · rw [h1] at hdf
          exact hdf
      have HL := Lib.hid hL
      have HO := Lib.hid hown
      have i3 : decide ((k : Int) < (N : Int)) = false := decide_eq_false (by omega)
      have i4 : ¬ (k : Int) < (N : Int) := by omega
      have hBe := hB1.trans (hB.mono hB1.size)
      have HB := Lib.hid hBe
      clear hL hown hcase hB hkN hBe
      go_wp2
      go_ret
      exact ⟨_, rfl, _, hw1, HL.out ▸ HO.out, HB.out⟩
end Go.Proofs.Ytfnngcecfjlfeaa
