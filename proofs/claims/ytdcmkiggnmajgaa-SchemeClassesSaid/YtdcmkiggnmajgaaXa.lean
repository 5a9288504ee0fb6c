/- Stage 16: the law SchemeClasses. -/
import Derived.Test.YtdcmkiggnmajgaaVz
import Derived.Test.YtdcmkiggnmajgaaVg
namespace Go.Proofs.Ytdcmkiggnmajgaa
set_option linter.unusedVariables false
set_option linter.unusedSimpArgs false
open Go Go.RowKit Go.Shelf
set_option maxRecDepth 100000

/-- A row of rows, one of which is written over. -/
def NestU (i : Nat) (W : World) (b : Nat) (v : Value) (ls : List (List Nat)) (u : Value) (m : Nat) : Prop := ∃ (vs xs : List Value), W.ownsRow b 23 1 v ls.length vs ∧
  (∀ j l, i + 1 ≤ j → ls[j]? = some l → ∃ u, vs[j]? = some u ∧ W.ownsRow b 3 1 u l.length (l.flatMap encN)) ∧ (∀ a j u u', i ≤ a → i ≤ j → a ≠ j → vs[a]? = some u → vs[j]? = some u' → u.ownBlock = none ∨ u.ownBlock ≠ u'.ownBlock) ∧ vs[i]? = some u ∧ W.ownsRow b 3 1 u m xs
theorem NestU.below {i : Nat} {W W' : World} {b : Nat} {v : Value} {ls : List (List Nat)} {u : Value} {m : Nat} (h : NestU i W b v ls u m) (hb : Below W.heap.size W W') : NestU i W' b v ls u m := by
  obtain ⟨vs, xs, h1, h2, h3, h4, h5⟩ := h
  exact ⟨vs, xs, own_below h1 hb, fun j l hj hl => (h2 j l hj hl).imp fun a h => ⟨h.1, own_below h.2 hb⟩, h3, h4, own_below h5 hb⟩
theorem NestU.set {i k : Nat} {W : World} {b : Nat} {v : Value} {ls : List (List Nat)} {g n c : Nat} {z : Value} (h : NestU i W b v ls (.slice (some ⟨g, 0, none⟩) n c) n) (hk : k < n) : NestU i (W.setCell ⟨g, k, none⟩ z) b v ls (.slice (some ⟨g, 0, none⟩) n c) n := by
  obtain ⟨vs, xs, h1, h2, h3, h4, h5⟩ := h
  have hg : W.grownBy (W.setCell ⟨g, k, none⟩ z) (Value.slice (some ⟨g, 0, none⟩) n c).ownBlock := grownBy_setCell W g k z
  refine ⟨vs, xs.set k z, h1.kept hg (rows_apart h1 h5 ne_SI), fun j l hj hl => (h2 j l hj hl).imp fun a h => ⟨h.1, h.2.kept hg ?_⟩, h3, h4, own_setK h5 (by omega) z⟩
  exact h3 j i a _ (by omega) (Nat.le_refl _) (by omega) h.1 h4
theorem NestU.drop {i : Nat} {W w2 : World} {b : Nat} {u u' : Value} {ls : List (List Nat)} {m g n c : Nat} (h : NestU i W b (.slice (some ⟨g, 0, none⟩) n c) ls u m) (hg : W.grownBy w2 u.ownBlock) : NestF (i + 1) (w2.setCell ⟨g, i, none⟩ u') b (.slice (some ⟨g, 0, none⟩) n c) ls := by
  obtain ⟨vs, xs, h1, h2, h3, h4, h5⟩ := h
  have hvs : vs.length = ls.length := by have := own_len h1; omega
  have hil : i < vs.length := (List.getElem?_eq_some_iff.1 h4).1
  have hn : n = ls.length := by
    obtain ⟨_, _, e, _⟩ := own_slice h1
    cases e; rfl
  subst hn
  have ho1 := h1.kept hg (rows_apart h1 h5 ne_SI)
  have ho2 := own_setK ho1 (o := i) (by omega) u'
  refine ⟨vs.set i u', ho2, fun j l hj hl => ?_, fun a j x y ha hj hij hx hy => ?_⟩
  · obtain ⟨x, e1, e2⟩ := h2 j l hj hl
    have h6 := e2.kept hg (h3 j i x u (by omega) (Nat.le_refl _) (by omega) e1 h4)
    refine ⟨x, by rw [List.getElem?_set, if_neg (by omega)]; exact e1, h6.kept (grownBy_setCell w2 g i u') ?_⟩
    have := rows_apart h6 ho1 ne_IS
    simpa [Value.ownBlock] using this
  · rw [List.getElem?_set, if_neg (by omega)] at hx hy
    exact h3 a j x y (by omega) (by omega) hij hx hy
/-- What is read of one. -/
theorem NestF.read {i : Nat} {W : World} {b : Nat} {g n c : Nat} {ls : List (List Nat)} {l : List Nat} (h : NestF i W b (.slice (some ⟨g, 0, none⟩) n c) ls) {j : Nat} (hj : i ≤ j) (hl : ls[j]? = some l) : ∃ o cu, W.cell? ⟨g, j, none⟩ = some (.slice o l.length cu) ∧ W.ownsRow b 3 1 (.slice o l.length cu) l.length (l.flatMap encN) ∧ (j = i → NestU i W b (.slice (some ⟨g, 0, none⟩) n c) ls (.slice o l.length cu) l.length) := by
  obtain ⟨vs, h1, h2, h3⟩ := h
  obtain ⟨u, e1, e2⟩ := h2 j l hj hl
  obtain ⟨o, cu, rfl, _⟩ := own_slice e2
  have hn : n = ls.length := by
    obtain ⟨_, _, e, _⟩ := own_slice h1
    cases e; rfl
  subst hn
  refine ⟨o, cu, by rw [h1.cellAt j (by have := (List.getElem?_eq_some_iff.1 hl).1; omega)]; exact e1, e2, fun e => ?_⟩
  subst e
  exact ⟨vs, _, h1, fun j' l' hj' hl' => h2 j' l' (by omega) hl', h3, e1, e2⟩
theorem row_at {W : World} {b : Nat} {o : Option Addr} {n c k p : Nat} {l : List Nat} (h : W.ownsRow b 3 1 (.slice o n c) n (l.flatMap encN)) (hl : l[k]? = some p) (hn : l.length = n) : ∃ g, o = some ⟨g, 0, none⟩ ∧ b ≤ g ∧ W.cell? ⟨g, k, none⟩ = some (.int .i64 (p : Nat)) ∧ W.frozen? ⟨g, k, none⟩ = false := by
  have hk := (List.getElem?_eq_some_iff.1 hl).1
  obtain ⟨_, _, e, hg⟩ := own_slice h
  obtain ⟨g, hg⟩ := hg (by omega)
  cases e
  subst hg
  refine ⟨g, rfl, (h.lt g rfl).1, ?_, own_freeK h k⟩
  rw [h.cellAt k (by omega)]
  have := fl_get (enc := encN) (k := 1) encN_len hl (j := 0) (by decide)
  simpa [encN] using this

theorem NestU.cell {i : Nat} {W : World} {b : Nat} {g n c : Nat} {ls : List (List Nat)} {u : Value} {m : Nat} (h : NestU i W b (.slice (some ⟨g, 0, none⟩) n c) ls u m) : W.cell? ⟨g, i, none⟩ = some u ∧ W.frozen? ⟨g, i, none⟩ = false := by
  obtain ⟨vs, xs, h1, h2, h3, h4, h5⟩ := h
  have hn : n = ls.length := by
    obtain ⟨_, _, e, _⟩ := own_slice h1
    cases e; rfl
  subst hn
  have := (List.getElem?_eq_some_iff.1 h4).1
  have := own_len h1
  exact ⟨by rw [h1.cellAt i (by omega)]; exact h4, own_freeK h1 i⟩
theorem NestU.row {i : Nat} {W : World} {b : Nat} {v : Value} {ls : List (List Nat)} {u : Value} {m : Nat} (h : NestU i W b v ls u m) : ∃ xs, W.ownsRow b 3 1 u m xs := by
  obtain ⟨vs, xs, _, _, _, _, h5⟩ := h
  exact ⟨xs, h5⟩
theorem NestU.outer {i : Nat} {W w2 : World} {b : Nat} {g n c : Nat} {ls : List (List Nat)} {u : Value} {m : Nat} (h : NestU i W b (.slice (some ⟨g, 0, none⟩) n c) ls u m) (hg : W.grownBy w2 u.ownBlock) : w2.cell? ⟨g, i, none⟩ = some u ∧ w2.frozen? ⟨g, i, none⟩ = false ∧ b ≤ g := by
  obtain ⟨vs, xs, h1, h2, h3, h4, h5⟩ := h
  have hn : n = ls.length := by
    obtain ⟨_, _, e, _⟩ := own_slice h1
    cases e; rfl
  subst hn
  have ho1 := h1.kept hg (rows_apart h1 h5 ne_SI)
  have := (List.getElem?_eq_some_iff.1 h4).1
  have := own_len h1
  exact ⟨by rw [ho1.cellAt i (by omega)]; exact h4, own_freeK ho1 i, (h1.lt g rfl).1⟩
set_option maxHeartbeats 16000000 in
theorem classes_law (s : Sc) (ol os : Option Addr) (cl cs : Nat) (hfl : NForm ol s.L.length cl) (hfs : NForm os s.S.length cs) (hn : s.L.length ≤ 9223372036854775807) (hm : s.S.length ≤ 9223372036854775807) (w : World) (hr : RowAt w encR 2 ol s.L) (ht : RowAt w encI 1 os s.S) :
    Calls Try.prog 6 #[.agg #[.slice ol s.L.length cl, .slice os s.S.length cs]] w fun e w' => e = .returned (.bool true) ∧ Below w.heap.size w w' := by
  obtain ⟨i0, hi, hz0, hz1, hz2⟩ := info_parts infoInt
  have b1 := Blk.new w #[.slice ol s.L.length cl, .slice os s.S.length cs] 25
  have hB0 := (Below.refl _ w).alloc (Nat.le_refl _) (.cells #[.slice ol s.L.length cl, .slice os s.S.length cs] 25)
  have HR := Lib.hid (And.intro hr ht)
  clear hr ht
  go_enter Try.func6, Try.ntmps6
  go_wp2_with (fail)
  refine (wakes_any _).mono ?_
  rintro e W1 ⟨rfl, hB⟩
  have hB1 := hB0.trans (hB.mono hB0.size)
  have b1 := b1.below' hB
  have c0 : W1.cell? ⟨w.heap.size, 0, none⟩ = some (.slice ol s.L.length cl) := b1.cell 0
  have c1 : W1.cell? ⟨w.heap.size, 1, none⟩ = some (.slice os s.S.length cs) := b1.cell 1
  have H1 := Lib.hid hB1
  clear hB hB1 hB0 b1
  go_wp2_with (fail)
  refine (may_any s ol os cl cs hn hm _ (HR.out.1.below encR_len (by decide) H1.out) (HR.out.2.below encI_len (by decide) H1.out)).mono ?_
  rintro e W2 ⟨rfl, hB⟩
  have c0 : W2.cell? ⟨w.heap.size, 0, none⟩ = some (.slice ol s.L.length cl) := at_below c0 hB
  have c1 : W2.cell? ⟨w.heap.size, 1, none⟩ = some (.slice os s.S.length cs) := at_below c1 hB
  have H2 := Lib.hid (H1.out.trans (hB.mono H1.out.size))
  clear hB
  cases hmay : mayB s with
  | false =>
    have HM := Lib.hid hmay
    clear hmay
    go_wp2_with (fail)
    refine (classes_no s ol os cl cs hn hm _ (HR.out.1.below encR_len (by decide) H2.out) (HR.out.2.below encI_len (by decide) H2.out) HM.out).mono ?_
    rintro e W3 ⟨rfl, hB⟩
    have H3 := Lib.hid (H2.out.trans (hB.mono H2.out.size))
    clear hB
    go_wp2_with (fail)
    refine (wakes_any _).mono ?_
    rintro e W4 ⟨rfl, hB⟩
    have H4 := Lib.hid (H3.out.trans (hB.mono H3.out.size))
    clear hB
    go_wp2
    go_ret
    exact ⟨rfl, H4.out⟩
  | true =>
    obtain ⟨m1, m2, m3⟩ := may_parts hmay
    have HM := Lib.hid hmay
    clear hmay m2
    go_wp2_with (fail)
    refine (refClasses_any s ol os cl cs m1 _ (HR.out.1.below encR_len (by decide) H2.out)).mono ?_
    rintro e V ⟨vw, rfl, hNw, hB⟩
    obtain ⟨ow, cw, rfl, how⟩ := own_slice hNw.choose_spec.1
    have c0 : V.cell? ⟨w.heap.size, 0, none⟩ = some (.slice ol s.L.length cl) := at_below c0 hB
    have c1 : V.cell? ⟨w.heap.size, 1, none⟩ = some (.slice os s.S.length cs) := at_below c1 hB
    have hlcn : (lstC s.L s.L.length).length ≤ 512 := by rw [lstC_len]; have := cntF_le s.L s.L.length; omega
    have hll : ∀ (j : Nat) (l : List Nat), (lstC s.L s.L.length)[j]? = some l → l.length ≤ 512 := by
      intro j l hl
      unfold lstC at hl
      rw [List.getElem?_map] at hl
      cases e : (List.range (cntF s.L s.L.length))[j]? with
      | none => rw [e] at hl; cases hl
      | some q =>
        rw [e] at hl
        simp only [Option.map_some, Option.some.injEq] at hl
        rw [← hl]
        have := inL_len s.L s.L.length q
        omega
    obtain ⟨LS, hLS⟩ : ∃ LS, lstC s.L s.L.length = LS := ⟨_, rfl⟩
    obtain ⟨N, hN⟩ : ∃ N, LS.length = N := ⟨_, rfl⟩
    rw [hLS] at hNw how hlcn hll ⊢
    rw [hN] at hNw how hlcn ⊢
    have HV := Lib.hid (And.intro hNw (And.intro (H2.out.trans (hB.mono H2.out.size)) (And.intro hLS (And.intro hN hll))))
    clear hNw hB hLS hN hll
    have how2 := how
    clear how
    go_wp2
    go_loopw [6] (fun i X => ∃ r : Nat, i = .int .i64 r ∧ r ≤ 2 ∧ Below V.heap.size V X) (fun i _ => 2 - (intOf i).toNat)
    case atStart => exact ⟨0, rfl, by omega, Below.refl _ _⟩
    case round =>
      obtain ⟨r, rfl, hr2, hB⟩ := hrel
      have c0 : wr.cell? ⟨w.heap.size, 0, none⟩ = some (.slice ol s.L.length cl) := at_below c0 hB
      have c1 : wr.cell? ⟨w.heap.size, 1, none⟩ = some (.slice os s.S.length cs) := at_below c1 hB
      have HX := Lib.hid (And.intro hB (HV.out.2.1.trans (hB.mono HV.out.2.1.size)))
      clear hB
      by_cases hr3 : r < 2
      · have d1 : decide ((r : Int) < 2) = true := decide_eq_true (by omega)
        go_wp2_with (fail)
        refine (classes_any s ol os cl cs hfl hfs HM.out _ (HR.out.1.below encR_len (by decide) HX.out.2) (HR.out.2.below encI_len (by decide) HX.out.2)).mono ?_
        rintro e X1 ⟨v7, rfl, hN7, hB7⟩
        rw [HV.out.2.2.1] at hN7
        obtain ⟨o7, c7, rfl, ho7⟩ := own_slice hN7.choose_spec.1
        rw [HV.out.2.2.2.1] at hN7 ho7 ⊢
        obtain ⟨X0, hX0⟩ : ∃ X0, X0 = wr := ⟨_, rfl⟩
        subst hX0
        have H7 := Lib.hid (And.intro hN7 hB7)
        clear hN7 hB7
        go_wp2
        go_loopw [49] (fun i Y => ∃ j : Nat, i = .int .i64 j ∧ j ≤ N ∧ NestF j Y X0.heap.size (.slice o7 N c7) LS ∧ Below X0.heap.size X0 Y) (fun i _ => N - (intOf i).toNat)
        case atStart => exact ⟨0, rfl, by omega, H7.out⟩
        case round =>
          obtain ⟨j, rfl, hj, hNj, hBj⟩ := hrel
          by_cases hjN : j < N
          · obtain ⟨g7, rfl⟩ := ho7 (by omega)
            obtain ⟨lq, hlq⟩ : ∃ lq, LS[j]? = some lq := ⟨_, List.getElem?_eq_getElem (by rw [HV.out.2.2.2.1]; exact hjN)⟩
            have hlq5 := HV.out.2.2.2.2 j lq hlq
            obtain ⟨gw, rfl⟩ := how2 (by omega)
            obtain ⟨ou, cu, p7, hu, hU⟩ := hNj.read (Nat.le_refl _) hlq
            have hbVY := HX.out.1.trans (hBj.mono HX.out.1.size)
            obtain ⟨ow', cw', pw, hw', _⟩ := (HV.out.1.below hbVY).read (Nat.zero_le _) hlq
            have hjI : (j : Int) < (N : Int) := by omega
            obtain ⟨m, hm⟩ : ∃ m, lq.length = m := ⟨_, rfl⟩
            rw [hm] at hlq5 p7 hu hU pw hw'
            obtain ⟨Y0, hY0⟩ : ∃ Y0, Y0 = wr := ⟨_, rfl⟩
            subst hY0
            have HY := Lib.hid (And.intro hu (And.intro (hU rfl) (And.intro hw' (And.intro hBj hm))))
            clear hNj hu hU hw' hBj hbVY hlq hm
            go_wp2
            go_quiet (fail)
            go_wp2
            go_loopw [68] (fun i Z => ∃ k : Nat, i = .int .i64 k ∧ k ≤ m ∧ Below Y0.heap.size Y0 Z) (fun i _ => m - (intOf i).toNat)
            case atStart => exact ⟨0, rfl, by omega, below_drewN _ _⟩
            case round =>
              obtain ⟨k, rfl, hk, hBk⟩ := hrel
              have p7' : wr.cell? ⟨g7, j, none⟩ = some (.slice ou m cu) := at_below p7 hBk
              have pw' : wr.cell? ⟨gw, j, none⟩ = some (.slice ow' m cw') := at_below pw hBk
              by_cases hkm : k < m
              · obtain ⟨p, hp⟩ : ∃ p, lq[k]? = some p := ⟨_, List.getElem?_eq_getElem (by rw [HY.out.2.2.2.2]; exact hkm)⟩
                obtain ⟨gu, rfl, _, qu, _⟩ := row_at (own_below HY.out.1 hBk) hp HY.out.2.2.2.2
                obtain ⟨gv, rfl, _, qv, _⟩ := row_at (own_below HY.out.2.2.1 hBk) hp HY.out.2.2.2.2
                have hkI : (k : Int) < (m : Int) := by omega
                have HB := Lib.hid hBk
                clear hBk hp
                go_wp2
                go_quiet (fail)
                go_wp2
                go_roundw
                case rel => exact ⟨k + 1, by go_num, by omega, HB.out.trans ((below_drewN _ _).mono HB.out.size)⟩
                case measure => simp [intOf]; omega
              · obtain rfl : k = m := by omega
                have HU := Lib.hid (And.intro (HY.out.2.1.below hBk) (HY.out.2.2.2.1.trans (hBk.mono HY.out.2.2.2.1.size)))
                clear hBk
                go_wp2
                go_loopw [92] (fun i Z => ∃ k' : Nat, i = .int .i64 k' ∧ k' ≤ k ∧ NestU j Z X0.heap.size (.slice (some ⟨g7, 0, none⟩) N c7) LS (.slice ou k cu) k ∧ Below X0.heap.size X0 Z) (fun i _ => k - (intOf i).toNat)
                case atStart => exact ⟨0, rfl, by omega, HU.out⟩
                case round =>
                  obtain ⟨k', rfl, hk', hNU, hBZ⟩ := hrel
                  have p8 : wr.cell? ⟨g7, j, none⟩ = some (.slice ou k cu) := hNU.cell.1
                  by_cases hkm2 : k' < k
                  · obtain ⟨xs, hxs⟩ := hNU.row
                    obtain ⟨_, _, e, hou⟩ := own_slice hxs
                    obtain ⟨gu, hgu⟩ := hou (by omega)
                    cases e
                    subst hgu
                    have hkI : (k' : Int) < (k : Int) := by omega
                    have fu := own_freeK hxs k'
                    obtain ⟨z, hz⟩ : ∃ z, wr.cell? ⟨gu, k', none⟩ = some z := by
                      rw [hxs.cellAt k' (by omega)]
                      exact ⟨_, List.getElem?_eq_getElem (by have := own_len hxs; omega)⟩
                    have hgb := (hxs.lt gu rfl).1
                    have HN2 := Lib.hid (And.intro (hNU.set (z := .int .i64 (-7)) hkm2) (hBZ.setCell (p := ⟨gu, k', none⟩) hgb (.int .i64 (-7))))
                    clear hNU hBZ hxs
                    go_wp2
                    go_roundw
                    case rel => exact ⟨k' + 1, by go_num, by omega, HN2.out⟩
                    case measure => simp [intOf]; omega
                  · have hb3 := (Below.refl wr.heap.size wr).alloc (Nat.le_refl _) (.cells #[.int .i64 (-7), .int .i64 (-7), .int .i64 (-7)] 3)
                    have hNU3 := hNU.below hb3
                    obtain ⟨xs, hxs⟩ := hNU3.row
                    have HA := Lib.hid (And.intro hNU3 (And.intro hxs (And.intro (hBZ.trans (hb3.mono hBZ.size)) (World.alloc_heap_new wr (.cells #[.int .i64 (-7), .int .i64 (-7), .int .i64 (-7)] 3)))))
                    clear hNU hBZ hb3 hNU3 hxs
                    go_wp2_with (at_builtin; refine wpList_append_own _ rfl _ _ 23 rfl X0.heap.size 3 i0 (.int .i64 0) 1 8 Try.underlying23 hi hz0 hz1 hz2 rfl (by decide) _ _ _ rfl HA.out.2.1 ⟨wr.heap.size, 0, none⟩ 3 3 [.int .i64 (-7), .int .i64 (-7), .int .i64 (-7)] rfl rfl (World.news_of_block (cs := #[.int .i64 (-7), .int .i64 (-7), .int .i64 (-7)]) (t := 3) (fr := (0, 0)) HA.out.2.2.2) (fun x hx => by simp at hx; subst hx; rfl) (by unfold maxLen; omega) (by omega) HA.out.2.2.1.size ?_; intro v3 w3 hown3 hg3 _; obtain ⟨o1, o2, o3⟩ := HA.out.1.outer hg3; have hE := HA.out.1.drop (u' := v3) hg3; have hE2 := (HA.out.2.2.1.grown hg3 HA.out.2.2.1.size (fun r e => (HA.out.2.1.lt r e).1)).setCell (p := ⟨g7, j, none⟩) o3 v3; obtain ⟨o3', c3, rfl, _⟩ := own_slice hown3; have HE := Lib.hid (And.intro hE hE2); clear hE hE2 hown3 hg3)
                    exact ⟨⟨j + 1, by go_num, by omega, HE.out⟩, by simp [intOf]; omega⟩
          · obtain rfl : j = N := by omega
            have HE := Lib.hid (HX.out.1.trans (hBj.mono HX.out.1.size))
            clear hNj hBj
            go_wp2
            go_roundw
            case rel => exact ⟨r + 1, by go_num, by omega, HE.out⟩
            case measure => simp [intOf]; omega
      · have d1 : decide ((r : Int) < 2) = false := decide_eq_false (by omega)
        go_wp2_with (fail)
        refine (wakes_any _).mono ?_
        rintro e X2 ⟨rfl, hb2⟩
        have HE := Lib.hid (HX.out.2.trans (hb2.mono HX.out.2.size))
        clear hb2
        go_wp2
        go_ret
        exact ⟨rfl, HE.out⟩
end Go.Proofs.Ytdcmkiggnmajgaa
