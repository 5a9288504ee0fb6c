/- Stage 16: Faults, the document's. -/
import Derived.Test.YtdcmkiggnmajgaaYe
import Derived.Test.YtdcmkiggnmajgaaVw
namespace Go.Proofs.Ytdcmkiggnmajgaa
set_option linter.unusedVariables false
set_option linter.unusedSimpArgs false
open Go Go.RowKit Go.Shelf
set_option maxRecDepth 100000

/-- What the document's Faults' memory is like. -/
structure RfR (s : Sc) (ks : List ByteArray) (ol os : Option Addr) (cl cs : Nat) (w X : World) (k : Nat) (vl : Value) : Prop where
  box : Blk X w.heap.size #[.slice ol s.L.length cl, .slice os s.S.length cs] 25
  row : X.ownsRow w.heap.size 63 3 vl (fltT s.L ks k).length ((fltT s.L ks k).flatMap encC)
  bel : Below w.heap.size w X
section
variable {s : Sc} {ks : List ByteArray} {ol os : Option Addr} {cl cs : Nat} {w X Y : World} {k : Nat} {vl : Value}
theorem RfR.below (h : RfR s ks ol os cl cs w X k vl) (hb : Below X.heap.size X Y) : RfR s ks ol os cl cs w Y k vl :=
  ⟨h.box.below' hb, own_below h.row hb, h.bel.trans (hb.mono h.bel.size)⟩
theorem RfR.skip (h : RfR s ks ol os cl cs w X k vl) (hn : flt1 s.L ks k = none) : RfR s ks ol os cl cs w X (k + 1) vl := by
  obtain ⟨h1, h3, h4⟩ := h
  refine ⟨h1, ?_, h4⟩
  rw [fltT_succ, hn]
  simpa using h3
theorem RfR.app {W : World} {v2 : Value} {x : Nat × Nat × Int} (h : RfR s ks ol os cl cs w X k vl) (hn : flt1 s.L ks k = some x) (hg : X.grownBy W vl.ownBlock)
    (hr : W.ownsRow w.heap.size 63 3 v2 ((fltT s.L ks k).length + 1) ((fltT s.L ks k).flatMap encC ++ encC x)) : RfR s ks ol os cl cs w W (k + 1) v2 := by
  obtain ⟨h1, h3, h4⟩ := h
  refine ⟨h1.kept hg (h1.not_row (by decide) h3), ?_, h4.grown hg h4.size (fun r e => (h3.lt r e).1)⟩
  rw [fltT_succ, hn]
  simpa using hr
end

set_option maxHeartbeats 16000000 in
theorem refFaults_any (s : Sc) (ks : List ByteArray) (ol os o : Option Addr) (cl cs c : Nat) (hmay : mayB s = true) (hlen : ks.length = s.L.length) (w : World) (hr : RowAt w encR 2 ol s.L) (hk : RowAt w encT 1 o ks) :
    Calls Try.prog 40 #[.agg #[.slice ol s.L.length cl, .slice os s.S.length cs], .slice o ks.length c] w fun e w' => ∃ v, e = .returned v ∧ w'.ownsRow w.heap.size 63 3 v (fltT s.L ks s.L.length).length ((fltT s.L ks s.L.length).flatMap encC) ∧ Below w.heap.size w w' := by
  obtain ⟨i0, hi, hz0, hz1, hz2⟩ := info_parts infoClash
  obtain ⟨h1, h2, h3⟩ := may_parts hmay
  rw [hlen]
  have hb0 := Blk.new w #[.slice ol s.L.length cl, .slice os s.S.length cs] 25
  have hB0 := (Below.refl _ w).alloc (Nat.le_refl _) (.cells #[.slice ol s.L.length cl, .slice os s.S.length cs] 25)
  obtain ⟨W1, hW1⟩ : ∃ W, w.alloc (.cells #[.slice ol s.L.length cl, .slice os s.S.length cs] 25) = W := ⟨_, rfl⟩
  rw [hW1] at hb0 hB0
  have HS := Lib.hid (show RfR s ks ol os cl cs w W1 0 (.slice none 0 0) from ⟨hb0, World.ownsRow_nil _ _ _ _, hB0⟩)
  have HR := Lib.hid (And.intro hr (And.intro hk (And.intro hlen h2)))
  clear hr hk hlen h2 hmay hb0 hB0
  go_enter Try.func40, Try.ntmps40
  go_wp2
  try rw [hW1]
  clear hW1
  go_loopw [5, 11] (fun v i X => ∃ k : Nat, i = .int .i64 k ∧ k ≤ s.L.length ∧ RfR s ks ol os cl cs w X k v) (fun _ i _ => s.L.length - (intOf i).toNat)
  case atStart => exact ⟨0, rfl, Nat.zero_le _, HS.out⟩
  case round =>
    obtain ⟨k, rfl, hk, hL⟩ := hrel
    obtain ⟨ov, cv, rfl, _⟩ := own_slice hL.row
    by_cases hlt : k < s.L.length
    · obtain ⟨x, hx⟩ : ∃ x, s.L[k]? = some x := ⟨_, List.getElem?_eq_getElem hlt⟩
      obtain ⟨t, ht⟩ : ∃ t, ks[k]? = some t := ⟨_, List.getElem?_eq_getElem (by have := HR.out.2.2.1; omega)⟩
      have cF := refFirst_any s ol os cl cs (by omega) k x hx (fstL s.L k x) rfl wr (HR.out.1.below encR_len (by decide) hL.bel)
      have hFle := fstL_le hx
      have x0 : wr.cell? ⟨w.heap.size, 0, none⟩ = some (.slice ol s.L.length cl) := hL.box.cell 0
      have x1 : wr.cell? ⟨w.heap.size, 1, none⟩ = some (.slice os s.S.length cs) := hL.box.cell 1
      obtain ⟨F, hF⟩ : ∃ F, fstL s.L k x = F := ⟨_, rfl⟩
      rw [hF] at cF hFle
      have HL := Lib.hid hL
      have HX := Lib.hid (And.intro hx (And.intro ht hF))
      have hLl := fltT_len s.L ks k
      clear hL hx ht hF
      go_wp2_with (fail)
      refine cF.mono ?_
      rintro e W2 ⟨rfl, hB2⟩
      have hL := HL.out.below hB2
      obtain ⟨hx, ht, hF⟩ := HX.out
      have hFl : F < ks.length := by have := HR.out.2.2.1; omega
      obtain ⟨u, hu⟩ : ∃ u, ks[F]? = some u := ⟨_, List.getElem?_eq_getElem hFl⟩
      have hkr := HR.out.2.1.below encT_len (by decide) hL.bel
      obtain ⟨gk, offk, rfl, hck⟩ := hkr k t ht
      obtain ⟨_, _, eu, hcu⟩ := hkr F u hu
      cases eu
      have p0 := hck 0 (by decide)
      have p1 := hcu 0 (by decide)
      simp only [encT, List.getElem?_cons_zero, Nat.add_zero, Nat.mul_one] at p0 p1
      have hkN : (k : Int) < (s.L.length : Int) := by omega
      have hFN : (F : Int) < (s.L.length : Int) := by omega
      have HL2 := Lib.hid hL
      clear hck hcu x0 x1 hB2 hL
      obtain ⟨f, hf, hfk, _, _⟩ := fidx_at hx
      by_cases hlt2 : F < k
      · have hc : 0 ≤ x.c := by
          rcases Int.lt_or_le x.c 0 with h | h
          · unfold fstL at hF; rw [if_pos h] at hF; omega
          · exact h
        have hFf : F = f := by unfold fstL at hF; rw [if_neg (by omega), hf] at hF; simp at hF; omega
        have d2 : decide (F < k) = true := decide_eq_true hlt2
        have d3 : decide ((F : Int) < (k : Int)) = true := decide_eq_true (by omega)
        by_cases hut : u = t
        · subst hut
          have hn : flt1 s.L ks k = none := by
            unfold flt1
            rw [hx, ht]
            simp only [hf, Int.toNat_natCast]
            rw [if_pos ⟨hc, by omega⟩, ← hFf, hu, if_pos rfl]
          have HE := Lib.hid (HL2.out.skip hn)
          have t1 : (u.toList == u.toList) = true := by simp
          clear hn hx ht hf hu hF hFf hc hkr
          go_wp2
          go_quiet (fail)
          generalize hU : World.drewN W2 _ = U
          have hUb : Below W2.heap.size W2 U := hU ▸ below_drewN _ _
          have HE2 := Lib.hid (HE.out.below hUb)
          clear hUb
          go_wp2
          go_roundw
          case rel => exact ⟨k + 1, by go_num, by omega, HE2.out⟩
          case measure => simp [intOf]; omega
        · have hn : flt1 s.L ks k = some (k, F, 161) := by
            unfold flt1
            rw [hx, ht]
            simp only [hf, Int.toNat_natCast]
            rw [if_pos ⟨hc, by omega⟩, ← hFf, hu, if_neg (fun e => hut (by injection e))]
          have t1 : (u.toList == t.toList) = false := str_ne hut
          have HN := Lib.hid hn
          clear hn hx ht hf hu hF hFf hc hkr
          go_wp2
          go_quiet (fail)
          generalize hU : World.drewN W2 _ = U
          have hUb : Below W2.heap.size W2 U := hU ▸ below_drewN _ _
          clear hU
          have hU0 := (HL2.out.below hUb)
          have HU := Lib.hid (hU0.below ((Below.refl U.heap.size U).alloc (Nat.le_refl _) (.cells #[.int .i64 k, .int .i64 F, .int .i64 161] 63)))
          have HK := Lib.hid (And.intro HU.out.row (World.news_of_block (cs := #[.int .i64 k, .int .i64 F, .int .i64 161]) (t := 63) (fr := (0, 0)) (World.alloc_heap_new U (.cells #[.int .i64 k, .int .i64 F, .int .i64 161] 63))))
          have hUs := hU0.bel.size
          clear hUb hU0
          have hn := HN.out
          go_wp2_with (at_builtin; refine wpList_append_own _ rfl _ _ 42 rfl w.heap.size 63 i0 (.agg #[.int .i64 0, .int .i64 0, .int .i64 0]) 3 24 Try.underlying42 hi hz0 hz1 hz2 rfl (by decide) _ _ _ rfl HK.out.1 ⟨U.heap.size, 0, none⟩ 1 1 [.int .i64 k, .int .i64 F, .int .i64 161] rfl rfl HK.out.2 (fun x hx => by simp at hx; rcases hx with rfl | rfl | rfl <;> rfl) (by unfold maxLen; omega) (by omega) (by simp; omega) ?_; intro v2 w2 hown2 hg2 _; obtain ⟨o2, c2, rfl, _⟩ := own_slice hown2; (have hA := HU.out.app hn hg2 hown2); (have HA := Lib.hid hA); clear hown2 hg2 hA)
          go_roundw
          case rel => exact ⟨k + 1, by go_num, by omega, HA.out⟩
          case measure => simp [intOf]; omega
      · have hFk : F = k := by omega
        have d2 : decide (F < k) = false := decide_eq_false hlt2
        have d3 : decide ((F : Int) < (k : Int)) = false := decide_eq_false (by omega)
        have hcond : ¬ (0 ≤ x.c ∧ fidx s.L 0 x.c < (k : Int)) := by
          rintro ⟨hc, hlt3⟩
          unfold fstL at hF
          rw [if_neg (by omega), hf] at hF
          simp at hF
          omega
        have hone : flt1 s.L ks k = if kIx ks t < k then some (k, kIx ks t, 162) else none := by
          unfold flt1
          rw [hx, ht]
          simp only
          rw [if_neg hcond]
        have HO := Lib.hid (And.intro hone ht)
        have HKR := Lib.hid hkr
        have hkl : k ≤ ks.length := by omega
        clear hcond hone hx ht hf hu hF hkr p1 hFk
        go_wp2
        go_loopw [5, 8] (fun v i X => ∃ j : Nat, i = .int .i64 j ∧ v = .slice ov (fltT s.L ks k).length cv ∧ j ≤ k ∧ (∀ p y, p < j → ks[p]? = some y → y ≠ t) ∧ Below W2.heap.size W2 X) (fun _ i _ => k - (intOf i).toNat)
        case atStart => exact ⟨0, rfl, rfl, Nat.zero_le _, fun p y h => by omega, Below.refl _ _⟩
        case round =>
          obtain ⟨j, rfl, rfl, hj, hne, hB⟩ := hrel
          have HNE := Lib.hid hne
          clear hne
          by_cases hjk : j < k
          · obtain ⟨z, hz⟩ : ∃ z, ks[j]? = some z := ⟨_, List.getElem?_eq_getElem (by omega)⟩
            obtain ⟨_, _, e3, c3⟩ := (HKR.out.below encT_len (by decide) hB) j z hz
            cases e3
            have p3 := c3 0 (by decide)
            have p4 := at_below p0 hB
            simp only [encT, List.getElem?_cons_zero, Nat.add_zero, Nat.mul_one] at p3
            have hjN : (j : Int) < (s.L.length : Int) := by omega
            have HZ := Lib.hid (And.intro hz hB)
            clear c3 hz hB
            by_cases hzt : z = t
            · subst hzt
              have hix : kIx ks z = j := by
                have a1 := (kIx_le HZ.out.1).1
                have a2 := kIx_ge HNE.out (by omega : j ≤ ks.length)
                omega
              have hn : flt1 s.L ks k = some (k, j, 162) := by rw [HO.out.1, hix, if_pos hjk]
              have HN := Lib.hid hn
              have t1 : (z.toList == z.toList) = true := by simp
              clear hn hix
              go_wp2
              go_quiet (fail)
              generalize hU : World.drewN wr _ = U
              have hUb : Below W2.heap.size W2 U := HZ.out.2.trans ((hU ▸ below_drewN wr _ : Below wr.heap.size wr U).mono HZ.out.2.size)
              clear hU
              have hU0 := (HL2.out.below hUb)
              have HU := Lib.hid (hU0.below ((Below.refl U.heap.size U).alloc (Nat.le_refl _) (.cells #[.int .i64 k, .int .i64 j, .int .i64 162] 63)))
              have HK := Lib.hid (And.intro HU.out.row (World.news_of_block (cs := #[.int .i64 k, .int .i64 j, .int .i64 162]) (t := 63) (fr := (0, 0)) (World.alloc_heap_new U (.cells #[.int .i64 k, .int .i64 j, .int .i64 162] 63))))
              have hUs := hU0.bel.size
              clear hUb hU0
              have hn := HN.out
              go_wp2_with (at_builtin; refine wpList_append_own _ rfl _ _ 42 rfl w.heap.size 63 i0 (.agg #[.int .i64 0, .int .i64 0, .int .i64 0]) 3 24 Try.underlying42 hi hz0 hz1 hz2 rfl (by decide) _ _ _ rfl HK.out.1 ⟨U.heap.size, 0, none⟩ 1 1 [.int .i64 k, .int .i64 j, .int .i64 162] rfl rfl HK.out.2 (fun x hx => by simp at hx; rcases hx with rfl | rfl | rfl <;> rfl) (by unfold maxLen; omega) (by omega) (by simp; omega) ?_; intro v2 w2 hown2 hg2 _; obtain ⟨o2, c2, rfl, _⟩ := own_slice hown2; (have hA := HU.out.app hn hg2 hown2); (have HA := Lib.hid hA); clear hown2 hg2 hA)
              go_roundw
              case rel => exact ⟨k + 1, by go_num, by omega, HA.out⟩
              case measure => simp [intOf]; omega
            · have t1 : (z.toList == t.toList) = false := str_ne hzt
              go_wp2
              go_quiet (fail)
              go_wp2
              go_roundw
              case rel =>
                refine ⟨j + 1, by go_num, rfl, by omega, fun p y hp hy => ?_, HZ.out.2.trans ((below_drewN _ _).mono HZ.out.2.size)⟩
                rcases (by omega : p < j ∨ p = j) with h | rfl
                · exact HNE.out p y h hy
                · have := HZ.out.1
                  rw [hy] at this
                  cases this
                  exact hzt
              case measure => simp [intOf]; omega
          · obtain rfl : j = k := by omega
            have hn : flt1 s.L ks j = none := by
              have a2 := kIx_ge HNE.out hkl
              rw [HO.out.1, if_neg (by omega)]
            have HE2 := Lib.hid ((HL2.out.below hB).skip hn)
            clear hn hB
            go_wp2
            go_roundw
            case rel => exact ⟨j + 1, by go_num, by omega, HE2.out⟩
            case measure => simp [intOf]; omega
    · obtain rfl : k = s.L.length := by omega
      have HD := Lib.hid (And.intro hL.row hL.bel)
      clear hL
      go_wp2
      go_ret
      exact ⟨_, rfl, HD.out.1, HD.out.2⟩
end Go.Proofs.Ytdcmkiggnmajgaa
