/- Stage 27: the program's Move, out of the one form. -/
import Derived.Test.YtnooibieokpccaaHo
import Derived.Test.YtnooibieokpccaaHd
namespace Go.Proofs.Ytnooibieokpccaa
set_option linter.unusedVariables false
set_option linter.unusedSimpArgs false
open Go Go.RowKit Go.Shelf
set_option maxRecDepth 100000

theorem end_pl {a : Nat} {bh : Bool} {m : Mk} {v : Mv} (h : InvM a bh m v) : ((endM m).foldl (mvP a bh) (0, 0)).1 = v.pl := by
  obtain ⟨P, T, h1, h2, h3, h4, h5⟩ := h
  unfold endM
  rw [row_out a bh (gapM m) _ _ (gap_out a bh m P T h1)]
  simp only [gapM]
  omega
theorem plain_end (a : Nat) (bh : Bool) (l : List Sp) (F T : Nat) (h : sizeG l 0 0 = some (F, T)) : (plainM l).foldl (mvP a bh) (0, 0) = (F, (l.foldl (mvG a bh) ⟨0, 0, 0⟩).n) := by
  have h1 := sizeG_ok l 0 0 F T h (by omega) (by omega)
  have h2 := fold_inv (a := a) (bh := bh) l ⟨[], 0, .empty, .empty⟩ ⟨0, 0, 0⟩ ⟨0, 0, rfl, rfl, rfl, by simp [cnt_zero, emp_size], by simp⟩ (fun x hx => (h1.1 x hx).1)
  refine Prod.ext ?_ (end_out h2)
  exact (end_pl h2).trans (h1.2.2.2.2 a bh 0 0)
def Nn (l : List Sp) : Prop := ∀ x ∈ l, 0 ≤ x.k
theorem nn_gap {m : Mk} (h : Nn m.out) : Nn (gapM m).out := by
  intro x hx
  unfold gapM at hx
  simp only [List.mem_append] at hx
  rcases hx with (hx | hx) | hx
  · exact h x hx
  · split at hx
    · rw [List.mem_singleton.1 hx]; exact Int.le_refl _
    · cases hx
  · split at hx
    · rw [List.mem_singleton.1 hx]; exact Int.le_refl _
    · cases hx
theorem nn_row {m : Mk} (h : Nn m.out) : Nn (rowM m).out := by
  intro x hx
  unfold rowM at hx
  simp only [List.mem_append] at hx
  rcases hx with hx | hx
  · exact h x hx
  · split at hx
    · rw [List.mem_singleton.1 hx]; exact Int.natCast_nonneg _
    · cases hx
theorem nn_step {m : Mk} (h : Nn m.out) (x : Sp) : Nn (stepM m x).out := by
  have h1 : Nn (keepM x.k.toNat m).out := by
    unfold keepM
    split
    · exact nn_gap h
    · exact h
  have h2 : Nn (putsM x.p (keepM x.k.toNat m)).out := by
    unfold putsM
    split
    · exact nn_row h1
    · exact h1
  unfold stepM dropsM
  split
  · exact nn_row h2
  · exact h2
theorem nn_fold : ∀ (l : List Sp) (m : Mk), Nn m.out → Nn (l.foldl stepM m).out
  | [], _, h => h
  | x :: l, m, h => nn_fold l _ (nn_step h x)
theorem nn_plain (l : List Sp) : Nn (plainM l) := nn_row (nn_gap (nn_fold l _ (fun _ h => by cases h)))
theorem mvP_le (a : Nat) (bh : Bool) : ∀ (l : List Sp) (m : Nat × Nat), m.1 ≤ (l.foldl (mvP a bh) m).1 ∧ m.2 ≤ (l.foldl (mvP a bh) m).2
  | [], _ => ⟨Nat.le_refl _, Nat.le_refl _⟩
  | x :: l, m => by
    have h := mvP_le a bh l (mvP a bh m x)
    rw [List.foldl_cons]
    have h1 : m.1 ≤ (mvP a bh m x).1 := by simp only [mvP]; omega
    have h2 : m.2 ≤ (mvP a bh m x).2 := by simp only [mvP]; omega
    omega
/-- What plain hands back. -/
def PlainR (l : List Sp) (w : World) (e : Ending) (w' : World) : Prop :=
  ∃ v, e = .returned v ∧ w'.ownsRow w.heap.size 37 3 v (plainM l).length ((plainM l).flatMap encS) ∧ Below w.heap.size w w'
theorem move_no (l : List Sp) (o : Option Addr) (c : Nat) (a : Int) (bh : Bool) (hn : l.length ≤ 9223372036854775807) (ho : OkS l) (hno : sizeG l 0 0 = none) (w : World) (hr : RowAt w encS 3 o l) :
    Calls Try.prog 7 #[.slice o l.length c, .int .i64 a, .bool bh] w fun e w' => e = .returned (.tuple #[.int .i64 0, .int .i64 2]) ∧ Below w.heap.size w w' := by
  have cS := sizes_any l o c hn ho w hr
  rw [hno] at cS
  have HN := Lib.hid hno
  clear hno
  go_enter Try.func7, Try.ntmps7
  go_wp2_with (fail)
  refine cS.mono ?_
  rintro e W ⟨rfl, hB⟩
  simp only [szV]
  have HB := Lib.hid hB
  clear hB cS
  go_wp2
  refine bodyPost_ret (results_tmp2 rfl _ _ _) rfl ?_
  exact ⟨rfl, HB.out⟩
theorem move_out (l : List Sp) (o : Option Addr) (c F T : Nat) (a : Int) (bh : Bool) (hn : l.length ≤ 9223372036854775807) (ho : OkS l) (hok : sizeG l 0 0 = some (F, T)) (ha : a < 0 ∨ (F : Int) < a) (w : World) (hr : RowAt w encS 3 o l) :
    Calls Try.prog 7 #[.slice o l.length c, .int .i64 a, .bool bh] w fun e w' => e = .returned (.tuple #[.int .i64 0, .int .i64 5]) ∧ Below w.heap.size w w' := by
  have cS := sizes_any l o c hn ho w hr
  rw [hok] at cS
  have HN := Lib.hid (And.intro hok ha)
  clear hok ha
  rcases (by have := HN.out.2; omega : a < 0 ∨ (¬ a < 0 ∧ (F : Int) < a)) with h | ⟨h0, h⟩
  · have d1 : decide (a < 0) = true := decide_eq_true h
    go_enter Try.func7, Try.ntmps7
    go_wp2_with (fail)
    refine cS.mono ?_
    rintro e W ⟨rfl, hB⟩
    simp only [szV]
    have HB := Lib.hid hB
    clear hB cS
    go_wp2
    refine bodyPost_ret (results_tmp2 rfl _ _ _) rfl ?_
    exact ⟨rfl, HB.out⟩
  · have d1 : decide (a < 0) = false := decide_eq_false h0
    have d2 : decide ((F : Int) < a) = true := decide_eq_true h
    go_enter Try.func7, Try.ntmps7
    go_wp2_with (fail)
    refine cS.mono ?_
    rintro e W ⟨rfl, hB⟩
    simp only [szV]
    have HB := Lib.hid hB
    clear hB cS
    go_wp2
    refine bodyPost_ret (results_tmp2 rfl _ _ _) rfl ?_
    exact ⟨rfl, HB.out⟩
theorem wrapEq64 (x : Int) : IntKind.i64.wrap x = wrap64 x := by rw [IntKind.wrap_i64]; unfold wrap64; (first | rfl | omega | (split <;> omega))
theorem fin64 {T2 kn a P T3 : Nat} (h : T2 + min kn (a - P) = T3) (hP : P ≤ a) (h6 : T3 ≤ 65536) (ha : a ≤ 65536) (hk : kn ≤ 65536) : wrap64 ((T2 : Int) + if (a : Int) - (P : Int) < (kn : Int) then (a : Int) - (P : Int) else (kn : Int)) = (T3 : Int) := by
  rw [← wrapEq64]
  split
  · rw [IntWalk.i64_in _ (by omega)]; omega
  · rw [IntWalk.i64_in _ (by omega)]; omega
theorem fin64z {T2 kn T3 : Nat} (h : T2 = T3) (h6 : T3 ≤ 65536) : wrap64 ((T2 : Int) + if 0 < kn then 0 else (kn : Int)) = (T3 : Int) := by
  rw [← wrapEq64]
  split
  · rw [IntWalk.i64_in _ (by omega)]; omega
  · rw [IntWalk.i64_in _ (by omega)]; omega
set_option maxHeartbeats 4000000 in
theorem move_of (l : List Sp) (o : Option Addr) (c F T a : Nat) (bh : Bool) (hn : l.length ≤ 9223372036854775807) (ho : OkS l) (hok : sizeG l 0 0 = some (F, T)) (ha : a ≤ F) (w : World) (hr : RowAt w encS 3 o l)
    (hpl : ∀ W, Below w.heap.size w W → Calls Try.prog 11 #[.slice o l.length c] W (PlainR l W)) (hpn : (plainM l).length ≤ 9223372036854775807) :
    Calls Try.prog 7 #[.slice o l.length c, .int .i64 a, .bool bh] w fun e w' => e = .returned (.tuple #[.int .i64 (l.foldl (mvG a bh) ⟨0, 0, 0⟩).n, .int .i64 0]) ∧ Below w.heap.size w w' := by
  have cS := sizes_any l o c hn ho w hr
  rw [hok] at cS
  have hT6 := (sizeG_ok l 0 0 F T hok (by omega) (by omega)).2.2.1
  have hF6 := (sizeG_ok l 0 0 F T hok (by omega) (by omega)).2.1
  have hN6 : (l.foldl (mvG a bh) ⟨0, 0, 0⟩).n ≤ 65536 := by have h := mv_le l 0 0 F T a bh ⟨0, 0, 0⟩ hok; simp only at h; omega
  have hend := plain_end a bh l F T hok
  have hnn := nn_plain l
  obtain ⟨p, hp⟩ : ∃ p, plainM l = p := ⟨_, rfl⟩
  unfold PlainR at hpl
  rw [hp] at hend hnn hpn
  simp only [hp] at hpl
  have d1 : decide ((a : Int) < 0) = false := decide_eq_false (by omega)
  have d2 : decide ((F : Int) < (a : Int)) = false := decide_eq_false (by omega)
  have HN := Lib.hid (And.intro hok (And.intro hend hp))
  clear hok hend hp hr
  go_enter Try.func7, Try.ntmps7
  go_wp2_with (fail)
  refine cS.mono ?_
  rintro e W ⟨rfl, hB⟩
  simp only [szV]
  have HB := Lib.hid hB
  clear hB cS
  go_wp2_with (fail)
  refine (hpl _ HB.out).mono ?_
  rintro e V ⟨v, rfl, hrow, hBV⟩
  obtain ⟨ov, cv, rfl, _⟩ := own_slice hrow
  have HV := Lib.hid (And.intro (RowAt.of_own encS_len hrow rfl) (HB.out.trans (hBV.mono HB.out.size)))
  clear hrow hBV hpl
  go_wp2
  go_loopw [11, 12, 36] (fun P T i X => ∃ (k : Nat), i = .int .i64 k ∧ k ≤ p.length ∧ P = .int .i64 ((p.take k).foldl (mvP a bh) (0, 0)).1 ∧ T = .int .i64 ((p.take k).foldl (mvP a bh) (0, 0)).2 ∧ Below V.heap.size V X) (fun _ _ i _ => p.length - (intOf i).toNat)
  case atStart => exact ⟨0, rfl, by omega, rfl, rfl, Below.refl _ _⟩
  case round =>
    obtain ⟨k, rfl, hk, rfl, rfl, hX⟩ := hrel
    by_cases hlt : k < p.length
    · obtain ⟨x, hx⟩ : ∃ x, p[k]? = some x := ⟨_, List.getElem?_eq_getElem hlt⟩
      obtain ⟨g, off, rfl, hc⟩ := HV.out.1.below encS_len (by decide) hX k x hx
      obtain ⟨q0, q1, q2⟩ := get3 (l := p) hc
      have hx0 := hnn x (List.mem_of_getElem? hx)
      obtain ⟨⟨P, T'⟩, hPT⟩ : ∃ s : Nat × Nat, (p.take k).foldl (mvP a bh) (0, 0) = s := ⟨_, rfl⟩
      have hnext : (p.take (k + 1)).foldl (mvP a bh) (0, 0) = mvP a bh (P, T') x := by rw [List.take_add_one, hx, List.foldl_append, hPT]; rfl
      have hle := mvP_le a bh (p.drop (k + 1)) ((p.take (k + 1)).foldl (mvP a bh) (0, 0))
      rw [← List.foldl_append, List.take_append_drop, HN.out.2.1, hnext] at hle
      obtain ⟨kk, d, pp⟩ := x
      simp only at hx0
      obtain ⟨kn, rfl⟩ : ∃ kn : Nat, kk = kn := ⟨kk.toNat, by omega⟩
      simp only [mvP, Int.toNat_natCast] at hle hnext q0 q1 q2
      rw [hPT]
      simp only
      have j5 : IntKind.i64.wrap ((k : Int) + 1) = ((k + 1 : Nat) : Int) := by rw [IntWalk.i64_in _ (by omega)]; omega
      have hkl : (k : Int) < (p.length : Int) := by omega
      obtain ⟨D, hD⟩ : ∃ D, kn + d.size = D := ⟨_, rfl⟩
      obtain ⟨P2, hP2⟩ : ∃ P2, P + kn + d.size = P2 := ⟨_, rfl⟩
      have j6 : IntKind.i64.wrap ((kn : Int) + (d.size : Int)) = (D : Int) := by rw [IntWalk.i64_in _ (by omega)]; omega
      have j7 : IntKind.i64.wrap ((P : Int) + (D : Int)) = (P2 : Int) := by rw [IntWalk.i64_in _ (by omega)]; omega
      rw [hP2] at hle hnext
      obtain ⟨T3, hT3⟩ : ∃ T3, T' + cnt a bh P pp.size + min kn (a - P) = T3 := ⟨_, rfl⟩
      obtain ⟨hle1, hle2⟩ := hle
      rw [hT3] at hle2 hnext
      have j8 : IntKind.i64.wrap ((a : Int) - (P : Int)) = (a : Int) - (P : Int) := IntWalk.i64_in _ (by omega)
      have HX := Lib.hid (And.intro hX hnext)
      rcases Nat.lt_trichotomy P a with hPa | hPa | hPa
      · have l1 : decide ((P : Int) < (a : Int)) = true := decide_eq_true (by omega)
        have hcn : cnt a bh P pp.size = pp.size := by unfold cnt; rw [if_pos (Or.inl hPa)]
        rw [hcn] at hT3
        obtain ⟨T2, hT2⟩ : ∃ T2, T' + pp.size = T2 := ⟨_, rfl⟩
        have j1 : IntKind.i64.wrap ((T' : Int) + (pp.size : Int)) = (T2 : Int) := by rw [IntWalk.i64_in _ (by omega)]; omega
        have HT := Lib.hid (fin64 (by rw [hT2] at hT3; exact hT3) (by omega) (by omega) (by omega) (by omega) : wrap64 ((T2 : Int) + if (a : Int) - (P : Int) < (kn : Int) then (a : Int) - (P : Int) else (kn : Int)) = (T3 : Int))
        clear hD hP2 hT3 hT2 hle1 hle2 hX hnext hc hx hcn hPT
        go_wp2
        go_roundw
        case rel => exact ⟨k + 1, by go_num, by omega, by rw [HX.out.2], by rw [HX.out.2, HT.out], HX.out.1.trans ((Below.refl wr.heap.size wr).alloc (Nat.le_refl _) _ |>.mono HX.out.1.size)⟩
        case measure => simp [intOf] <;> omega
      · subst hPa
        have l1 : decide ((P : Int) < (P : Int)) = false := decide_eq_false (by omega)
        have l2 : ((P : Int) == (P : Int)) = true := beq_self_eq_true _
        rw [Nat.sub_self, Nat.min_zero, Nat.add_zero] at hT3
        cases bh with
        | true =>
          have hcn : cnt P true P pp.size = pp.size := by unfold cnt; rw [if_pos (Or.inr ⟨rfl, rfl⟩)]
          rw [hcn] at hT3
          have j1 : IntKind.i64.wrap ((T' : Int) + (pp.size : Int)) = (T3 : Int) := by rw [IntWalk.i64_in _ (by omega)]; omega
          have HT := Lib.hid (fin64z (T2 := T3) (kn := kn) rfl (by omega))
          clear hD hP2 hT3 hle1 hle2 hX hnext hc hx hcn hPT
          go_wp2
          go_roundw
          case rel => exact ⟨k + 1, by go_num, by omega, by rw [HX.out.2], by rw [HX.out.2, HT.out], HX.out.1.trans ((Below.refl wr.heap.size wr).alloc (Nat.le_refl _) _ |>.mono HX.out.1.size)⟩
          case measure => simp [intOf] <;> omega
        | false =>
          have hcn : cnt P false P pp.size = 0 := by unfold cnt; rw [if_neg (by rintro (h | h); exact Nat.lt_irrefl _ h; cases h.2)]
          rw [hcn, Nat.add_zero] at hT3
          have HT := Lib.hid (fin64z (T2 := T') (kn := kn) hT3 (by omega))
          clear hD hP2 hT3 hle1 hle2 hX hnext hc hx hcn hPT
          go_wp2
          go_roundw
          case rel => exact ⟨k + 1, by go_num, by omega, by rw [HX.out.2], by rw [HX.out.2, HT.out], HX.out.1.trans ((Below.refl wr.heap.size wr).alloc (Nat.le_refl _) _ |>.mono HX.out.1.size)⟩
          case measure => simp [intOf] <;> omega
      · have l1 : decide ((P : Int) < (a : Int)) = false := decide_eq_false (by omega)
        have l2 : ((P : Int) == (a : Int)) = false := by rw [beq_eq_false_iff_ne]; omega
        have l3 : (P == a) = false := by rw [beq_eq_false_iff_ne]; omega
        have hcn : cnt a bh P pp.size = 0 := by unfold cnt; rw [if_neg (by rintro (h | h); omega; omega)]
        rw [hcn, Nat.add_zero, Nat.sub_eq_zero_of_le (Nat.le_of_lt hPa), Nat.min_zero, Nat.add_zero] at hT3
        have HT := Lib.hid (fin64z (T2 := T') (kn := kn) hT3 (by omega))
        clear hD hP2 hT3 hle1 hle2 hX hnext hc hx hcn hPT
        go_wp2
        go_roundw
        case rel => exact ⟨k + 1, by go_num, by omega, by rw [HX.out.2], by rw [HX.out.2, HT.out], HX.out.1.trans ((Below.refl wr.heap.size wr).alloc (Nat.le_refl _) _ |>.mono HX.out.1.size)⟩
        case measure => simp [intOf] <;> omega
    · obtain rfl : k = p.length := by omega
      have HX := Lib.hid hX
      clear hX
      go_wp2
      refine bodyPost_ret (results_tmp2 rfl _ _ _) rfl ?_
      refine ⟨?_, HV.out.2.trans (HX.out.mono HV.out.2.size)⟩
      have h := HN.out.2.1
      rw [List.take_length, h]
      rfl
end Go.Proofs.Ytnooibieokpccaa
