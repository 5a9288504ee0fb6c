/- Layer 5: slices.Grow and slices.Concat of clusters. -/
import Derived.Test.YtnbhdgbhmcbeoaaCla
import Derived.Lib.AppendZeros
import Derived.Laws.AppendOwnNone
namespace Go.Proofs.Ytnbhdgbhmcbeoaa
set_option linter.unusedVariables false
set_option linter.unusedSimpArgs false
open Go Go.RowKit Go.Shelf
set_option maxRecDepth 100000

theorem grow_cells (n : Nat) (hn : n ≤ 4294967296) (w : World) :
    Calls Try.prog 49 #[.slice none 0 0, .int .i64 (n : Int)] w fun e w' => ∃ v, e = .returned v ∧ w'.ownsRow w.heap.size 26 3 v 0 [] ∧ Below w.heap.size w w' := by
  obtain ⟨i0, hi, hz0, hz1, hz2⟩ := info_parts infoCell
  have e1 : decide ((n : Int) < 0) = false := decide_eq_false (by omega)
  by_cases h0 : n = 0
  · subst h0
    go_enter Try.func49, Try.ntmps49
    go_wp2
    go_ret
    exact ⟨_, rfl, World.ownsRow_nil _ _ _ _, Below.refl _ _⟩
  · have e2 : decide ((0 : Int) < (n : Int)) = true := decide_eq_true (by omega)
    have e3 : IntKind.i64.wrap ((n : Int) - 0) = (n : Int) := by rw [Int.sub_zero]; exact IntWalk.i64_in _ (by omega)
    have e4 : IntKind.i64.wrap (n : Int) = (n : Int) := IntWalk.i64_in _ (by omega)
    have hr := fun (W : World) ty => Lib.run_append_nil_zeros (P := Try.prog) W 28 3 ty 26 i0 (.agg #[.int .i64 0, .int .i64 0, .int .i64 0]) .i64 .i64 Try.underlying28 Try.underlying3 hi hz0 n (by omega) (by rw [hz1]; omega) (by omega) (by rw [hz2]; omega)
    go_enter Try.func49, Try.ntmps49
    go_wp2_with (at_builtin; refine Lib.wpList_append_run _ rfl _ _ _ _ rfl _ _ rfl rfl _ _ (hr _ _) ?_)
    have hge := grownCap_ge w n 0 26
    have hle := grownCap_le_maxLen w n 0 26 (by unfold maxLen; omega)
    go_ret
    refine ⟨_, rfl, ⟨rfl, .inr ⟨w.heap.size, grownCap w n 0 26, _, rfl, Nat.le_refl _, World.alloc_heap_new w _, Nat.zero_le _, hle, ?_, by simp⟩⟩, ((Below.refl _ w).alloc (Nat.le_refl _) _).drew⟩
    rw [Array.size_append, size_zeroCells, size_zeroCells]
    show n * 3 + (grownCap w n 0 26 - n) * 3 = _
    omega

/-- What can be appended. -/
def XsC (w : World) (v : Value) (l : List Cel) : Prop := (v = .slice none 0 0 ∧ l = []) ∨ ∃ (g c : Nat), v = .slice (some ⟨g, 0, none⟩) l.length c ∧ g < w.heap.size ∧ ∀ j u, (cc l)[j]? = some u → w.cell? ⟨g, j, none⟩ = some u
theorem XsC.of_own {w : World} {base n : Nat} {v : Value} {l : List Cel} (h : w.ownsRow base 26 3 v n (cc l)) (hn : l.length = n) : XsC w v l := by
  subst hn
  have hh := h.2
  rcases hh with ⟨e, e2⟩ | ⟨g, cap, cur, e, hb, hg, _⟩
  · exact .inl ⟨e, List.length_eq_zero_iff.1 e2⟩
  · refine .inr ⟨g, cap, e, (Array.getElem?_eq_some_iff.1 hg).1, fun j u hj => ?_⟩
    have hl : j < l.length * 3 := by rw [← cc_len]; exact (List.getElem?_eq_some_iff.1 hj).1
    subst e
    exact (h.cellAt j hl).trans hj
theorem XsC.below {w w' : World} {v : Value} {l : List Cel} (h : XsC w v l) (hb : Below w.heap.size w w') : XsC w' v l := by
  rcases h with h | ⟨g, c, e, h1, h2⟩
  · exact .inl h
  · exact .inr ⟨g, c, e, Nat.lt_of_lt_of_le h1 hb.size, fun j u hj => at_below (h2 j u hj) hb⟩
theorem cc_one' (l : List Cel) : ∀ u ∈ cc l, u.oneCell' = true := by
  intro u hu
  obtain ⟨x, _, hx⟩ := List.mem_flatMap.1 hu
  simp only [List.mem_cons, List.not_mem_nil, or_false] at hx
  rcases hx with rfl | rfl | rfl <;> rfl
theorem own_ge {w : World} {base sz n r : Nat} {e : TypeId} {v : Value} {xs : List Value} (h : w.ownsRow base e sz v n xs) (hr : v.ownBlock = some r) : base ≤ r := by
  rcases h.2 with ⟨rfl, _⟩ | ⟨g, cap, cur, rfl, hb, _⟩
  · simp [Value.ownBlock] at hr
  · have : g = r := by simpa [Value.ownBlock] using hr
    omega
def CnS (na nb : Nat) (i : Nat) : Nat := if i = 0 then 0 else if i = 1 then na else na + nb
def CnL (la lb : List Cel) (i : Nat) : List Cel := if i = 0 then [] else if i = 1 then la else la ++ lb
def CnRel1 (na nb : Nat) (w : World) (i sz : Value) (wr : World) : Prop := ∃ k : Nat, i = .int .i64 k ∧ k ≤ 2 ∧ sz = .int .i64 (CnS na nb k : Nat) ∧ w = wr
def CnRel2 (la lb : List Cel) (w : World) (i v : Value) (wr : World) : Prop := ∃ k : Nat, i = .int .i64 k ∧ k ≤ 2 ∧ wr.ownsRow w.heap.size 26 3 v (CnL la lb k).length (cc (CnL la lb k)) ∧ Below w.heap.size w wr

set_option maxHeartbeats 4000000 in
theorem concat_cells (la lb : List Cel) (va vb : Value) (p : Nat) (na nb : Nat) (hla : la.length = na) (hlb : lb.length = nb) (ha' : na ≤ 2147483647) (hb' : nb ≤ 2147483647) (w : World)
    (hp : Blk w p #[va, vb] 28) (ha : XsC w va la) (hb : XsC w vb lb) :
    Calls Try.prog 36 #[.slice (some ⟨p, 0, none⟩) 2 2] w fun e w' => ∃ v, e = .returned v ∧ w'.ownsRow w.heap.size 26 3 v (na + nb) (cc (la ++ lb)) ∧ Below w.heap.size w w' := by
  obtain ⟨i0, hi, hz0, hz1, hz2⟩ := info_parts infoCell
  have p0 := hp.cell 0
  have p1 := hp.cell 1
  simp only [List.getElem?_toArray, List.getElem?_cons_succ, List.getElem?_cons_zero] at p0 p1
  have va' : ∃ o c, va = .slice o na c := by
    rcases ha with ⟨e, e2⟩ | ⟨g, c, e, _⟩
    · exact ⟨none, 0, by rw [e, ← hla, e2]; rfl⟩
    · exact ⟨_, _, by rw [e, hla]⟩
  have vb' : ∃ o c, vb = .slice o nb c := by
    rcases hb with ⟨e, e2⟩ | ⟨g, c, e, _⟩
    · exact ⟨none, 0, by rw [e, ← hlb, e2]; rfl⟩
    · exact ⟨_, _, by rw [e, hlb]⟩
  obtain ⟨o1, c1, hva⟩ := va'
  obtain ⟨o2, c2, hvb⟩ := vb'
  have cG := grow_cells (na + nb) (by omega) w
  push_cast at cG
  rw [hva, hvb] at hp
  rw [hva] at ha p0
  rw [hvb] at hb p1
  clear hva hvb
  have H := Lib.hid (And.intro hla (And.intro hlb (And.intro ha hb)))
  clear hla hlb ha hb
  go_enter Try.func36, Try.ntmps36
  go_wp2
  go_loopw [11, 3] (fun i sz wr => CnRel1 na nb w i sz wr) (fun i _ _ => 2 - (intOf i).toNat)
  case atStart => exact ⟨0, rfl, by omega, rfl, rfl⟩
  case round =>
    obtain ⟨k, rfl, hk, rfl, rfl⟩ := hrel
    have hk3 : k = 0 ∨ k = 1 ∨ k = 2 := by omega
    rcases hk3 with rfl | rfl | rfl
    · have j1 : IntKind.i64.wrap ((0 : Int) + (na : Int)) = (na : Int) := by rw [Int.zero_add]; exact IntWalk.i64_in _ (by omega)
      have j2 : decide ((na : Int) < 0) = false := decide_eq_false (by omega)
      have j3 : IntKind.i64.wrap (na : Int) = (na : Int) := IntWalk.i64_in _ (by omega)
      simp only [CnS, if_true]
      go_wp2
      go_roundw
      case rel => exact ⟨1, rfl, by omega, rfl, rfl⟩
      case measure => simp [intOf]
    · have j1 : IntKind.i64.wrap ((na : Int) + (nb : Int)) = (na : Int) + (nb : Int) := IntWalk.i64_in _ (by omega)
      have j2 : decide ((na : Int) + (nb : Int) < 0) = false := decide_eq_false (by omega)
      simp only [CnS, if_true, if_neg (show ¬ (1 : Nat) = 0 by omega)]
      go_wp2
      go_roundw
      case rel => exact ⟨2, rfl, by omega, by simp [CnS], rfl⟩
      case measure => simp [intOf]
    · simp only [CnS, if_neg (show ¬ (2 : Nat) = 0 by omega), if_neg (show ¬ (2 : Nat) = 1 by omega)]
      go_wp2_with (fail)
      refine cG.mono ?_
      rintro e w1 ⟨v, rfl, hv, hb1⟩
      go_wp2_with (fail)
      go_loopw [27, 6] (fun i v wr1 => CnRel2 la lb w i v wr1) (fun i _ _ => 2 - (intOf i).toNat)
      case atStart => exact ⟨0, rfl, by omega, hv, hb1⟩
      case round =>
        clear hv
        obtain ⟨k, rfl, hk, hv, hB⟩ := hrel
        have hk3 : k = 0 ∨ k = 1 ∨ k = 2 := by omega
        rcases hk3 with rfl | rfl | rfl
        · have hX := H.out.2.2.1.below hB
          have q := at_below p0 hB
          simp only [CnL, if_true, List.length_nil, show cc [] = [] from rfl] at hv
          obtain ⟨o, cap, rfl, ho⟩ := own_slice hv
          rcases hX with ⟨e, e2⟩ | ⟨g, c, e, hg, hc⟩
          · rw [e] at q
            clear e
            go_wp2_with (at_builtin; refine wpList_append_own_none rfl _ _ 28 rfl w.heap.size 26 i0 3 Try.underlying28 hi _ _ _ rfl hv rfl ?_)
            go_roundw
            case rel =>
              refine ⟨1, rfl, by omega, ?_, hB⟩
              simp only [CnL, if_true, if_neg (show ¬ (1 : Nat) = 0 by omega), if_neg (show ¬ (2 : Nat) = 0 by omega), if_neg (show ¬ (2 : Nat) = 1 by omega)]
              rw [e2]
              exact hv
            case measure => simp [intOf]
          · rw [H.out.1] at e
            rw [e] at q
            clear e
            have HL : Hid ((cc la).length = na * 3 ∧ ∀ j u, (cc la)[j]? = some u → wr.cell? (Addr.add ⟨g, 0, none⟩ j) = some u) := Lib.hid ⟨by rw [cc_len, H.out.1], fun j u hj => by rw [Addr.add_lit, Nat.zero_add]; exact hc j u hj⟩
            have HL2 := Lib.hid hB.size
            clear hc
            go_wp2_with (at_builtin; refine wpList_append_own _ rfl _ _ 28 rfl w.heap.size 26 i0 (.agg #[.int .i64 0, .int .i64 0, .int .i64 0]) 3 24 Try.underlying28 hi hz0 hz1 hz2 rfl (by decide) _ _ _ rfl hv ⟨g, 0, none⟩ _ c _ rfl HL.out.1 HL.out.2 (cc_one' _) (by unfold maxLen; omega) (by omega) HL2.out ?_; intro v' w2 hown' hgrow _)
            have hB2 : Below w.heap.size w w2 := hB.grown hgrow hB.size (fun r e => own_ge hv e)
            go_roundw
            case rel =>
              refine ⟨1, rfl, by omega, ?_, hB2⟩
              simp only [CnL, if_true, if_neg (show ¬ (1 : Nat) = 0 by omega), if_neg (show ¬ (2 : Nat) = 0 by omega), if_neg (show ¬ (2 : Nat) = 1 by omega)]
              rw [H.out.1]; simpa using hown'
            case measure => simp [intOf]
        · have hX := H.out.2.2.2.below hB
          have q := at_below p1 hB
          simp only [CnL, if_true, if_neg (show ¬ (1 : Nat) = 0 by omega)] at hv
          rw [H.out.1] at hv
          obtain ⟨o, cap, rfl, ho⟩ := own_slice hv
          rcases hX with ⟨e, e2⟩ | ⟨g, c, e, hg, hc⟩
          · rw [e] at q
            clear e
            go_wp2_with (at_builtin; refine wpList_append_own_none rfl _ _ 28 rfl w.heap.size 26 i0 3 Try.underlying28 hi _ _ _ rfl hv rfl ?_)
            go_roundw
            case rel =>
              refine ⟨2, rfl, by omega, ?_, hB⟩
              simp only [CnL, if_true, if_neg (show ¬ (1 : Nat) = 0 by omega), if_neg (show ¬ (2 : Nat) = 0 by omega), if_neg (show ¬ (2 : Nat) = 1 by omega)]
              rw [e2]
              rw [List.append_nil, H.out.1]; exact hv
            case measure => simp [intOf]
          · rw [H.out.2.1] at e
            rw [e] at q
            clear e
            have HL : Hid ((cc lb).length = nb * 3 ∧ ∀ j u, (cc lb)[j]? = some u → wr.cell? (Addr.add ⟨g, 0, none⟩ j) = some u) := Lib.hid ⟨by rw [cc_len, H.out.2.1], fun j u hj => by rw [Addr.add_lit, Nat.zero_add]; exact hc j u hj⟩
            have HL2 := Lib.hid hB.size
            clear hc
            go_wp2_with (at_builtin; refine wpList_append_own _ rfl _ _ 28 rfl w.heap.size 26 i0 (.agg #[.int .i64 0, .int .i64 0, .int .i64 0]) 3 24 Try.underlying28 hi hz0 hz1 hz2 rfl (by decide) _ _ _ rfl hv ⟨g, 0, none⟩ _ c _ rfl HL.out.1 HL.out.2 (cc_one' _) (by unfold maxLen; omega) (by omega) HL2.out ?_; intro v' w2 hown' hgrow _)
            have hB2 : Below w.heap.size w w2 := hB.grown hgrow hB.size (fun r e => own_ge hv e)
            go_roundw
            case rel =>
              refine ⟨2, rfl, by omega, ?_, hB2⟩
              simp only [CnL, if_true, if_neg (show ¬ (1 : Nat) = 0 by omega), if_neg (show ¬ (2 : Nat) = 0 by omega), if_neg (show ¬ (2 : Nat) = 1 by omega)]
              rw [List.length_append, H.out.1, H.out.2.1, cc_app]; exact hown'
            case measure => simp [intOf]
        · simp only [CnL, if_neg (show ¬ (2 : Nat) = 0 by omega), if_neg (show ¬ (2 : Nat) = 1 by omega)] at hv
          rw [List.length_append, H.out.1, H.out.2.1] at hv
          have HV := Lib.hid (And.intro hv hB)
          clear hv hB
          go_wp2
          go_ret
          exact ⟨_, rfl, HV.out.1, HV.out.2⟩
end Go.Proofs.Ytnbhdgbhmcbeoaa
