/- Stage 16: Classes, the document's. -/
import Derived.Test.YtdcmkiggnmajgaaVy
import Derived.Test.YtdcmkiggnmajgaaVw
namespace Go.Proofs.Ytdcmkiggnmajgaa
set_option linter.unusedVariables false
set_option linter.unusedSimpArgs false
open Go Go.RowKit Go.Shelf
set_option maxRecDepth 100000

def cP (L : List Rh) (i : Nat) (x : Rh) (j : Nat) : Bool := decide (i ≤ j) && (match L[j]? with | some y => alkB i j x y | none => false)
def cI (L : List Rh) (i : Nat) (x : Rh) (k : Nat) : List Nat := (List.range k).filter (cP L i x)
theorem cI_start (L : List Rh) (i : Nat) (x : Rh) : cI L i x i = [] := by
  unfold cI
  rw [List.filter_eq_nil_iff]
  intro j hj
  have : j < i := by simpa using hj
  unfold cP
  rw [decide_eq_false (by omega)]; simp
theorem cI_succ {L : List Rh} {i k : Nat} {x y : Rh} (hik : i ≤ k) (hy : L[k]? = some y) : cI L i x (k + 1) = if alkB i k x y then cI L i x k ++ [k] else cI L i x k := by
  unfold cI
  rw [List.range_succ, List.filter_append]
  have h : cP L i x k = alkB i k x y := by unfold cP; rw [decide_eq_true hik, hy]; simp
  cases e : alkB i k x y <;> simp [h, e]
theorem cI_len (L : List Rh) (i : Nat) (x : Rh) (k : Nat) : (cI L i x k).length ≤ k := by
  have := List.length_filter_le (cP L i x) (List.range k)
  simpa [cI] using this
theorem cI_end {L : List Rh} {i : Nat} {x : Rh} (hx : L[i]? = some x) (hc : 0 ≤ x.c) (hf : fidx L 0 x.c = (i : Int)) : cI L i x L.length = inL L L.length (cntF L i) := by
  unfold cI inL
  have hq := (lstC_new hx hc hf).1
  apply List.filter_congr
  intro j hj
  have hjl : j < L.length := by simpa using hj
  obtain ⟨y, hy⟩ : ∃ y, L[j]? = some y := ⟨_, List.getElem?_eq_getElem hjl⟩
  unfold cP inB
  rw [hy]
  simp only
  unfold alkB
  rw [Bool.eq_iff_iff]
  simp only [Bool.and_eq_true, Bool.or_eq_true, decide_eq_true_iff]
  constructor
  · rintro ⟨h1, h2⟩
    have hxy : x.c = y.c := by
      rcases h2 with h2 | h2
      · subst h2; rw [hx] at hy; cases hy; rfl
      · exact h2.2
    exact ⟨by omega, by rw [← hq]; exact (canC_inj hy hx (by omega) hc).2 hxy.symm⟩
  · rintro ⟨h1, h2⟩
    rw [← hq] at h2
    have hxy := (canC_inj hy hx h1 hc).1 h2
    refine ⟨?_, .inr ⟨hc, hxy.symm⟩⟩
    obtain ⟨f, e1, _, _, e2⟩ := fidx_at hx
    rw [hf] at e1
    obtain rfl : f = i := by omega
    by_cases h : f ≤ j
    · exact h
    · exact absurd hxy (e2 j y (by omega) hy)
theorem clsD_next {L : List Rh} {k : Nat} {x : Rh} (hx : L[k]? = some x) (hc : 0 ≤ x.c) (hf : fidx L 0 x.c = (k : Int)) : (lstC L L.length).take (cntF L (k + 1)) = (lstC L L.length).take (cntF L k) ++ [inL L L.length (cntF L k)] := by
  have hk := (List.getElem?_eq_some_iff.1 hx).1
  rw [cntF_first hx hc hf]
  refine take_nextL ?_
  have : cntF L k < cntF L L.length := cntF_lt (isFst_of hx hc hf) hk
  simp [lstC, this]

set_option maxHeartbeats 8000000 in
theorem refClasses_any (s : Sc) (ol os : Option Addr) (cl cs : Nat) (hn : s.L.length ≤ 512) (w : World) (hr : RowAt w encR 2 ol s.L) :
    Calls Try.prog 35 #[.agg #[.slice ol s.L.length cl, .slice os s.S.length cs]] w fun e w' => ∃ v, e = .returned v ∧ NestF 0 w' w.heap.size v (lstC s.L s.L.length) ∧ Below w.heap.size w w' := by
  obtain ⟨i0, hi, hz0, hz1, hz2⟩ := info_parts infoInt
  obtain ⟨j0, hj, hy0, hy1, hy2⟩ := info_parts infoInts
  have hB0 := (Below.refl _ w).alloc (Nat.le_refl _) (.cells #[.slice ol s.L.length cl, .slice os s.S.length cs] 25)
  have b0 := Blk.new w #[.slice ol s.L.length cl, .slice os s.S.length cs] 25
  have hr0 := hr.below encR_len (by decide) hB0
  obtain ⟨W0, hW0⟩ : ∃ W0, w.alloc (.cells #[.slice ol s.L.length cl, .slice os s.S.length cs] 25) = W0 := ⟨_, rfl⟩
  rw [hW0] at hB0 b0 hr0
  have x0 : W0.cell? ⟨w.heap.size, 0, none⟩ = some (.slice ol s.L.length cl) := b0.cell 0
  have x1 : W0.cell? ⟨w.heap.size, 1, none⟩ = some (.slice os s.S.length cs) := b0.cell 1
  have HB := Lib.hid (And.intro hB0 hr0)
  clear hB0 b0 hr0 hr
  go_enter Try.func35, Try.ntmps35
  go_wp2
  try rw [hW0]
  clear hW0
  go_loopw [10, 3] (fun i v X => ∃ k : Nat, i = .int .i64 k ∧ k ≤ s.L.length ∧ NestF 0 X W0.heap.size v ((lstC s.L s.L.length).take (cntF s.L k)) ∧ Below W0.heap.size W0 X) (fun i _ _ => s.L.length - (intOf i).toNat)
  case atStart => exact ⟨0, rfl, by omega, NestF.nil _ _, Below.refl _ _⟩
  case round =>
    obtain ⟨k, rfl, hk, hN, hB⟩ := hrel
    obtain ⟨on, cn, rfl, _⟩ := own_slice hN.choose_spec.1
    by_cases hlt : k < s.L.length
    · obtain ⟨x, hx⟩ : ∃ x, s.L[k]? = some x := ⟨_, List.getElem?_eq_getElem hlt⟩
      have hro := HB.out.2.below encR_len (by decide) hB
      obtain ⟨g, off, rfl, hc⟩ := hro k x hx
      have q0 := hc 0 (by decide)
      simp only [encR, List.getElem?_cons_zero, Nat.add_zero] at q0
      have c0 : wr.cell? ⟨w.heap.size, 0, none⟩ = some (.slice (some ⟨g, off, none⟩) s.L.length cl) := at_below x0 hB
      have c1 : wr.cell? ⟨w.heap.size, 1, none⟩ = some (.slice os s.S.length cs) := at_below x1 hB
      obtain ⟨nn, hnn⟩ : ∃ nn, ((lstC s.L s.L.length).take (cntF s.L k)).length = nn := ⟨_, rfl⟩
      have hnl : nn ≤ 512 := by rw [← hnn, List.length_take]; have := cntF_le s.L k; omega
      rw [hnn] at hN ⊢
      have HN := Lib.hid (And.intro hN (And.intro hB (And.intro hro (And.intro hx hnn))))
      clear hN hB hro hc hnn
      by_cases hneg : x.c < 0
      · have d1 : decide (x.c < 0) = true := decide_eq_true hneg
        have hE : NestF 0 wr W0.heap.size (.slice on nn cn) ((lstC s.L s.L.length).take (cntF s.L (k + 1))) := by
          rw [cntF_not hx (.inl hneg)]; exact HN.out.1
        have HE := Lib.hid hE
        clear hE hx
        go_wp2
        go_roundw
        case rel => exact ⟨k + 1, by go_num, by omega, HE.out, HN.out.2.1⟩
        case measure => simp [intOf]; omega
      · have d1 : decide (x.c < 0) = false := decide_eq_false hneg
        obtain ⟨f, hf, hfk, _⟩ := fidx_at hx
        have hfst : fstL s.L k x = f := by unfold fstL; rw [if_neg hneg, hf]; simp
        have cF := refFirst_any s (some ⟨g, off, none⟩) os cl cs (by omega) k x hx f hfst wr HN.out.2.2.1
        have HF := Lib.hid hf
        clear hfst hx hf
        go_wp2_with (fail)
        refine cF.mono ?_
        rintro e w1 ⟨rfl, hb1⟩
        have HB1 := Lib.hid hb1
        have c0 : w1.cell? ⟨w.heap.size, 0, none⟩ = some (.slice (some ⟨g, off, none⟩) s.L.length cl) := at_below c0 hb1
        have c1 : w1.cell? ⟨w.heap.size, 1, none⟩ = some (.slice os s.S.length cs) := at_below c1 hb1
        clear hb1 cF
        by_cases hfk2 : f < k
        · have d2 : decide (f < k) = true := decide_eq_true hfk2
          have d3 : decide ((f : Int) < (k : Int)) = true := decide_eq_true (by omega)
          have hE : NestF 0 w1 W0.heap.size (.slice on nn cn) ((lstC s.L s.L.length).take (cntF s.L (k + 1))) := by
            rw [cntF_not HN.out.2.2.2.1 (.inr (by rw [HF.out]; omega))]; exact HN.out.1.below HB1.out
          have HE := Lib.hid hE
          clear hE
          go_wp2
          go_roundw
          case rel => exact ⟨k + 1, by go_num, by omega, HE.out, HN.out.2.1.trans (HB1.out.mono HN.out.2.1.size)⟩
          case measure => simp [intOf]; omega
        · obtain rfl : f = k := by omega
          have d2 : decide (f < f) = false := decide_eq_false hfk2
          have d3 : decide ((f : Int) < (f : Int)) = false := decide_eq_false (by omega)
          go_wp2
          obtain ⟨V, hV⟩ : ∃ V, V = w1 := ⟨_, rfl⟩
          subst hV
          have HV := Lib.hid (HN.out.2.1.trans (HB1.out.mono HN.out.2.1.size))
          go_loopw [6, 5] (fun i v X => ∃ k : Nat, i = .int .i64 k ∧ f ≤ k ∧ k ≤ s.L.length ∧ X.ownsRow V.heap.size 3 1 v (cI s.L f x k).length ((cI s.L f x k).flatMap encN) ∧ Below V.heap.size V X) (fun i _ _ => s.L.length - (intOf i).toNat)
          case atStart => exact ⟨f, rfl, by omega, by omega, by rw [cI_start]; exact World.ownsRow_nil _ _ _ _, Below.refl _ _⟩
          case round =>
            obtain ⟨k, rfl, hfk, hk, ho, hB⟩ := hrel
            obtain ⟨o5, c5, rfl, _⟩ := own_slice ho
            have c0 : wr.cell? ⟨w.heap.size, 0, none⟩ = some (.slice (some ⟨g, off, none⟩) s.L.length cl) := at_below c0 hB
            have c1 : wr.cell? ⟨w.heap.size, 1, none⟩ = some (.slice os s.S.length cs) := at_below c1 hB
            obtain ⟨m, hm⟩ : ∃ m, (cI s.L f x k).length = m := ⟨_, rfl⟩
            have hml : m ≤ 512 := by rw [← hm]; have := cI_len s.L f x k; omega
            rw [hm] at ho ⊢
            have HO := Lib.hid (And.intro ho (And.intro hB hm))
            clear ho hB hm
            by_cases hlt2 : k < s.L.length
            · obtain ⟨y, hy⟩ : ∃ y, s.L[k]? = some y := ⟨_, List.getElem?_eq_getElem hlt2⟩
              have hcs := cI_succ (x := x) hfk hy
              obtain ⟨E, hE⟩ : ∃ E, alkB f k x y = E := ⟨_, rfl⟩
              have cA := refAlike_any s (some ⟨g, off, none⟩) os cl cs (by omega) f k x y HN.out.2.2.2.1 hy E hE wr (HB.out.2.below encR_len (by decide) (HV.out.trans (HO.out.2.1.mono HV.out.size)))
              rw [hE] at hcs
              have HC := Lib.hid hcs
              clear hy hE hcs
              go_wp2_with (fail)
              refine cA.mono ?_
              rintro e w2 ⟨rfl, hb2⟩
              have HO2 := Lib.hid (And.intro (own_below HO.out.1 hb2) (HO.out.2.1.trans (hb2.mono HO.out.2.1.size)))
              clear hb2 cA
              cases E with
              | false =>
                have hE : w2.ownsRow V.heap.size 3 1 (.slice o5 m c5) (cI s.L f x (k + 1)).length ((cI s.L f x (k + 1)).flatMap encN) := by
                  have h := HC.out
                  simp only [Bool.false_eq_true, if_false] at h
                  rw [h, HO.out.2.2]; exact HO2.out.1
                have HE := Lib.hid hE
                clear hE
                go_wp2
                go_roundw
                case rel => exact ⟨k + 1, by go_num, by omega, by omega, HE.out, HO2.out.2⟩
                case measure => simp [intOf]; omega
              | true =>
                have hb3 := (Below.refl w2.heap.size w2).alloc (Nat.le_refl _) (.cells #[.int .i64 (k : Nat)] 3)
                have HA := Lib.hid (And.intro (own_below HO2.out.1 hb3) (HO2.out.2.trans (hb3.mono HO2.out.2.size)))
                clear hb3
                go_wp2_with (at_builtin; refine wpList_append_own _ rfl _ _ 23 rfl V.heap.size 3 i0 (.int .i64 0) 1 8 Try.underlying23 hi hz0 hz1 hz2 rfl (by decide) _ _ _ rfl HA.out.1 ⟨w2.heap.size, 0, none⟩ 1 1 [.int .i64 (k : Nat)] rfl rfl (cell_one_new _ _ _) (fun x hx => by simp at hx; subst hx; rfl) (by unfold maxLen; omega) (by omega) HA.out.2.size ?_; intro v3 w3 hown3 hg3 _; have hE : w3.ownsRow V.heap.size 3 1 v3 (cI s.L f x (k + 1)).length ((cI s.L f x (k + 1)).flatMap encN) := (by have h := HC.out; simp only [if_true] at h; rw [h, List.length_append, HO.out.2.2, List.flatMap_append]; exact hown3); have hE2 := HA.out.2.grown hg3 HA.out.2.size (fun r e => (HA.out.1.lt r e).1); obtain ⟨o3, c3, rfl, _⟩ := own_slice hown3; have HE := Lib.hid (And.intro hE hE2); clear hE hE2 hown3 hg3)
                go_roundw
                case rel => exact ⟨k + 1, by go_num, by omega, by omega, HE.out.1, HE.out.2⟩
                case measure => simp [intOf]; omega
            · obtain rfl : k = s.L.length := by omega
              have hcf := cI_end HN.out.2.2.2.1 (by omega) HF.out
              have hnx := clsD_next HN.out.2.2.2.1 (by omega) HF.out
              obtain ⟨vs0, r1, r2, r3⟩ := HN.out.1.below HB1.out
              rw [HN.out.2.2.2.2] at r1
              have hbo := (Below.refl wr.heap.size wr).alloc (Nat.le_refl _) (.cells #[.slice o5 m c5] 23)
              have hVa := HO.out.2.1.trans (hbo.mono HO.out.2.1.size)
              have HE := Lib.hid (And.intro (own_below r1 hVa) (And.intro (fun j l (hj : 0 ≤ j) (hl : _ = some l) => (r2 j l hj hl).imp fun a h => And.intro h.1 (own_below h.2 hVa)) (And.intro r3 (And.intro (own_base (own_below HO.out.1 hbo) HV.out.size) (HV.out.trans (hVa.mono HV.out.size))))))
              have hap : ∀ (j : Nat) (u' : Value), vs0[j]? = some u' → (Value.slice o5 m c5).ownBlock = none ∨ (Value.slice o5 m c5).ownBlock ≠ u'.ownBlock := by
                intro j u' hu'
                cases hob : (Value.slice o5 m c5).ownBlock with
                | none => exact .inl rfl
                | some b =>
                  refine .inr (fun e => ?_)
                  have h1 := (HO.out.1.lt b hob).1
                  have hjl : j < ((lstC s.L s.L.length).take (cntF s.L f)).length := by
                    have := (List.getElem?_eq_some_iff.1 hu').1
                    have := own_len r1
                    have := HN.out.2.2.2.2
                    omega
                  obtain ⟨l', hl'⟩ : ∃ l', ((lstC s.L s.L.length).take (cntF s.L f))[j]? = some l' := ⟨_, List.getElem?_eq_getElem hjl⟩
                  obtain ⟨a, e1, e2⟩ := r2 j l' (Nat.zero_le _) hl'
                  rw [hu'] at e1
                  cases e1
                  have := (e2.lt b e.symm).2
                  omega
              have HG := Lib.hid (And.intro hcf (And.intro hnx hap))
              clear hcf hnx r1 r2 r3 hbo hVa hap
              have HT := Lib.hid (show (nn : Nat) = ((lstC s.L s.L.length).take (cntF s.L f)).length from HN.out.2.2.2.2.symm)
              go_wp2_with (at_builtin; refine wpList_append_own _ rfl _ _ 39 rfl W0.heap.size 23 j0 (.slice none 0 0) 1 24 Try.underlying39 hj hy0 hy1 hy2 rfl (by decide) _ _ _ rfl HE.out.1 ⟨wr.heap.size, 0, none⟩ 1 1 [.slice o5 m c5] rfl rfl (cell_one_new _ _ _) (fun x hx => by simp at hx; subst hx; rfl) (by unfold maxLen; omega) (by omega) HE.out.2.2.2.2.size ?_; intro v3 w3 hown3 hg3 _; have hE : NestF 0 w3 W0.heap.size v3 ((lstC s.L s.L.length).take (cntF s.L (f + 1))) := (by rw [HG.out.2.1, ← HG.out.1]; exact NestF.put (u := .slice o5 m c5) (by rw [← HT.out]; exact HE.out.1) HE.out.2.1 HE.out.2.2.1 (by rw [HO.out.2.2]; exact HE.out.2.2.2.1) HG.out.2.2 hg3 (by rw [← HT.out]; exact hown3)); have hE2 := HE.out.2.2.2.2.grown hg3 HE.out.2.2.2.2.size (fun r e => (HE.out.1.lt r e).1); obtain ⟨o3, c3, rfl, _⟩ := own_slice hown3; have HH := Lib.hid (And.intro hE hE2); clear hE hE2 hown3 hg3)
              exact ⟨⟨f + 1, by go_num, by omega, HH.out⟩, by simp [intOf]; omega⟩
    · obtain rfl : k = s.L.length := by omega
      have hEE : NestF 0 wr w.heap.size (.slice on ((lstC s.L s.L.length).take (cntF s.L s.L.length)).length cn) (lstC s.L s.L.length) := by
        have h := hN.base HB.out.1.size
        rw [List.take_of_length_le (by rw [lstC_len]; exact Nat.le_refl _)] at h ⊢
        exact h
      have HE := Lib.hid (And.intro hEE (HB.out.1.trans (hB.mono HB.out.1.size)))
      clear hEE hN hB
      go_wp2
      go_ret
      exact ⟨_, rfl, HE.out⟩
end Go.Proofs.Ytdcmkiggnmajgaa
