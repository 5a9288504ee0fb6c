/- Stage 31: ChantMerges. -/
import Derived.Test.YtieaeicpmibjkaaCj3
import Derived.Test.YtieaeicpmibjkaaCj2
import Derived.Test.YtieaeicpmibjkaaCi0
namespace Go.Proofs.Ytieaeicpmibjkaa
set_option linter.unusedVariables false
set_option linter.unusedSimpArgs false
open Go Go.RowKit Go.Shelf
set_option maxRecDepth 100000

/-- The longer rows that the law makes. -/
def FvOK (b : Nat) (W : World) (V : List (List Nt)) (k : Nat) (fv : List Value) : Prop := fv.length = k ∧ ∀ (i : Nat) (l : List Nt), i < k → V[i]? = some l → ∃ gf cf, fv[i]? = some (.slice (some ⟨gf, 0, none⟩) l.length cf) ∧ l.length + 9 ≤ cf ∧ cf ≤ 9223372036854775807 ∧
  W.ownsRow b 48 6 (.slice (some ⟨gf, 0, none⟩) (room9 l).length cf) (room9 l).length ((room9 l).flatMap encN)
section
variable {b b' k n : Nat} {W W' : World} {V : List (List Nt)} {fv xs : List Value} {v : Value}
theorem FvOK.below (h : FvOK b W V k fv) (hb : Below W.heap.size W W') : FvOK b W' V k fv := ⟨h.1, fun i l hi hl => by
  obtain ⟨gf, cf, a1, a2, a3, a4⟩ := h.2 i l hi hl
  exact ⟨gf, cf, a1, a2, a3, own_below a4 hb⟩⟩
theorem FvOK.other (h : FvOK b W V k fv) (hv : W.ownsRow b' 27 1 v n xs) (hg : W.grownBy W' v.ownBlock) : FvOK b W' V k fv := ⟨h.1, fun i l hi hl => by
  obtain ⟨gf, cf, a1, a2, a3, a4⟩ := h.2 i l hi hl
  exact ⟨gf, cf, a1, a2, a3, a4.kept hg (rows_apart a4 hv (by decide))⟩⟩
theorem FvOK.next {l : List Nt} {gf cf : Nat} (h : FvOK b W V k fv) (hl : V[k]? = some l) (h1 : l.length + 9 ≤ cf) (h2 : cf ≤ 9223372036854775807) (h3 : W.ownsRow b 48 6 (.slice (some ⟨gf, 0, none⟩) (room9 l).length cf) (room9 l).length ((room9 l).flatMap encN)) : FvOK b W V (k + 1) (fv ++ [.slice (some ⟨gf, 0, none⟩) l.length cf]) := by
  refine ⟨by simp [h.1], fun i l' hi hl' => ?_⟩
  by_cases hik : i < k
  · obtain ⟨gf', cf', a1, a2⟩ := h.2 i l' hik hl'
    exact ⟨gf', cf', by rw [List.getElem?_append_left (by rw [h.1]; exact hik)]; exact a1, a2⟩
  · obtain rfl : i = k := by omega
    rw [hl] at hl'
    cases hl'
    exact ⟨gf, cf, by rw [List.getElem?_append_right (by rw [h.1]; omega), h.1]; simp, h1, h2, h3⟩
theorem FvOK.voices {o : Option Addr} {cap : Nat} (h : FvOK b W V V.length fv) (hown : W.ownsRow b' 27 1 (.slice o V.length cap) V.length fv) : VoicesAt W o V := by
  intro i l hi
  have hlt : i < V.length := (List.getElem?_eq_some_iff.1 hi).1
  obtain ⟨gf, cf, a1, a2, a3, a4⟩ := h.2 i l hlt hi
  obtain ⟨o', cap', e', ho⟩ := own_slice hown
  obtain ⟨g, hg⟩ := ho (by omega)
  cases e'
  subst hg
  exact ⟨g, 0, _, cf, rfl, by rw [Nat.zero_add, hown.cellAt i (by omega)]; exact a1, (RowAt.of_own encN_len a4 rfl).pre⟩
end
def FuJ (V : List (List Nt)) (w : World) (i s : Value) (wr : World) : Prop := ∃ (k : Nat) (v : Value) (fv : List Value), i = .int .i64 k ∧ v = s ∧ k ≤ V.length ∧ FvOK w.heap.size wr V k fv ∧ wr.ownsRow w.heap.size 27 1 v k fv ∧ Below w.heap.size w wr
theorem VoicesIn.belowK {w w' : World} {o : Option Addr} {vs : List (List Nt)} (h : VoicesIn w o vs) (hb : Below w.heap.size w w') : VoicesIn w' o vs := by
  intro k l hk
  obtain ⟨g, off, ol, cap, ho, hc, hr, hf⟩ := h k l hk
  exact ⟨g, off, ol, cap, ho, by rw [hb.cell (p := ⟨g, off + k, none⟩) (lt_cell hc)]; exact hc, hr.below encN_len (by decide) hb, hf⟩

set_option maxHeartbeats 16000000 in
theorem merges_law (vs : List (List Nt)) (o : Option Addr) (cap : Nat) (hn : vs.length ≤ 9223372036854775807) (w : World) (hv : VoicesIn w o vs) :
    Calls Try.prog 6 #[.slice o vs.length cap] w fun e w' => e = .returned (.bool true) ∧ Below w.heap.size w w' := by
  obtain ⟨i1, hi', hy0, hy1, hy2⟩ := info_parts infoNotes
  have cSo := fun W h => someI_any vs o cap hn W h
  have hl := someV_len vs
  have ht := some_tot vs
  have h60 : ∀ (k : Nat) (l : List Nt), (someV vs)[k]? = some l → l.length ≤ 60 := fun k l h => by
    obtain ⟨l0, _, rfl, _⟩ := someV_get h
    rw [List.length_take]; omega
  have hV17 : (someV vs).length ≤ 17 := by omega
  obtain ⟨V, hVe⟩ : ∃ V, someV vs = V := ⟨_, rfl⟩
  rw [hVe] at cSo ht h60 hV17
  have H60 := Lib.hid (And.intro h60 ht)
  clear hVe hl h60 ht
  go_enter Try.func6, Try.ntmps6
  go_wp2_with (fail)
  refine (wakes_any _).mono ?_
  rintro e w1 ⟨rfl, hb1⟩
  have hv1 := hv.belowK hb1
  clear hv
  go_wp2_with (fail)
  refine (cSo _ hv1).mono ?_
  rintro e w2 ⟨o2, cap2, rfl, hV, hb2⟩
  have hB2 := hb1.trans (hb2.mono hb1.size)
  have HB2 := Lib.hid hB2
  clear hb1 hb2 hv1 cSo hB2
  obtain ⟨q, hq⟩ : ∃ q, V.length = q := ⟨_, rfl⟩
  rw [hq] at hV17 ⊢
  have HQ := Lib.hid hq
  clear hq
  have HV := Lib.hid hV
  clear hV
  go_wp2
  go_loopw [15, 3] (FuJ V w2) (fun i _ _ => q - (intOf i).toNat)
  case atStart => exact ⟨0, _, [], rfl, rfl, by omega, ⟨rfl, fun i l h => absurd h (by omega)⟩, World.ownsRow_nil _ _ _ _, Below.refl _ _⟩
  case round =>
    obtain ⟨k, out, fv, rfl, rfl, hk, hF, hO, hB⟩ := hrel
    rw [HQ.out] at hk
    by_cases hlt : k < q
    · obtain ⟨l, hl⟩ : ∃ l, V[k]? = some l := ⟨_, List.getElem?_eq_getElem (by rw [HQ.out]; exact hlt)⟩
      have hl60 := H60.out.1 k l hl
      obtain ⟨go, off, ol, cp, rfl, hc, hr, hform⟩ := (HV.out.belowK hB) k l hl
      have c3 := fun W h => room_any l ol cp hform (by omega) W h
      have hR9 : (room9 l).length = l.length + 9 := by simp [room9]
      have hnext := fun W gf cf (a : FvOK w2.heap.size W V k fv) b1 b2 b3 => FvOK.next (gf := gf) (cf := cf) a hl b1 b2 b3
      obtain ⟨oo, oc, rfl, _⟩ := own_slice hO
      have hszw := hB.size
      have HS := Lib.hid (And.intro hF (And.intro hO (And.intro hB hnext)))
      obtain ⟨n, hnn⟩ : ∃ n, l.length = n := ⟨_, rfl⟩
      rw [hnn] at hc c3 hl60 hR9
      have HNN := Lib.hid hnn
      clear hl hF hO hB hnext hform hnn
      go_wp2_with (fail)
      refine (c3 _ hr).mono ?_
      rintro e w3 ⟨of, cf, rfl, hownF, hb3⟩
      obtain ⟨hF, hO, hB, hnext⟩ := HS.out
      obtain ⟨gf, hgf⟩ : ∃ g, of = some ⟨g, 0, none⟩ := by
        obtain ⟨o', c', e', ho'⟩ := own_slice hownF
        cases e'
        exact ho' (by omega)
      subst hgf
      have hcf : n + 9 ≤ cf ∧ cf ≤ 9223372036854775807 := by
        rcases hownF.2 with ⟨e, _⟩ | ⟨g, c, cur, e, _, _, h1, h2, _⟩
        · cases e
        · simp only [Value.slice.injEq, Option.some.injEq, Addr.mk.injEq, and_true, true_and] at e
          obtain ⟨rfl, rfl⟩ := e
          exact ⟨by omega, h2⟩
      have hF3 := hF.below hb3
      have hO3 := own_below hO hb3
      have hB3 := hB.trans (hb3.mono hszw)
      have hN3 := hnext w3 gf cf hF3 (by rw [HNN.out]; exact hcf.1) hcf.2 (own_base hownF hszw)
      rw [HNN.out] at hN3
      have hsz3 := hB3.size
      have hcl : n ≤ cf := by omega
      have HZ := Lib.hid (And.intro (hB3.alloc hsz3 (.cells #[.slice (some ⟨gf, 0, none⟩) n cf] 27)) (And.intro (hO3.alloc (.cells #[.slice (some ⟨gf, 0, none⟩) n cf] 27)) (hN3.below ((Below.refl w3.heap.size w3).alloc (Nat.le_refl _) (.cells #[.slice (some ⟨gf, 0, none⟩) n cf] 27)))))
      rw [hR9]
      clear hF hO hB hnext hownF hF3 hO3 hB3 hN3 hb3 hr c3 hcf hR9 HS
      go_wp2_with (at_builtin; refine wpList_append_own _ rfl _ _ 39 rfl w2.heap.size 27 i1 (.slice none 0 0) 1 24 Try.underlying39 hi' hy0 hy1 hy2 rfl (by decide) _ _ _ rfl HZ.out.2.1 ⟨w3.heap.size, 0, none⟩ 1 1 [.slice (some ⟨gf, 0, none⟩) n cf] rfl rfl (World.news_of_block (cs := #[.slice (some ⟨gf, 0, none⟩) n cf]) (t := 27) (fr := (0, 0)) (World.alloc_heap_new w3 _)) (fun x hx => by simp at hx; rcases hx with rfl; rfl) (by unfold maxLen; omega) (by omega) (by simp; omega) ?_; intro v' w9 hown' hgrow _)
      go_roundw
      case rel => exact ⟨k + 1, v', _, by go_num, rfl, by rw [HQ.out]; omega, HZ.out.2.2.other HZ.out.2.1 hgrow, hown', HZ.out.1.grown hgrow (by simp; omega) (fun r hr => (HZ.out.2.1.lt r hr).1)⟩
      case measure => simp [intOf]; omega
    · obtain rfl : k = q := by omega
      obtain ⟨ofl, fc, rfl, hofl⟩ := own_slice hO
      have hVA : VoicesAt wr ofl V := by
        have h1 := hF
        have h2 := hO
        rw [← HQ.out] at h1 h2
        exact h1.voices h2
      have hVI := HV.out.belowK hB
      have hBw := HB2.out.trans (hB.mono HB2.out.size)
      have ht := H60.out.2
      have h17 : V.length ≤ 17 := by rw [HQ.out]; exact hV17
      cases hbk : tooB V with
      | true =>
        have c1 := fun W h => merge_long V ofl fc (by omega) (by omega) hbk W h
        rw [HQ.out] at c1
        go_wp2_with (fail)
        refine (c1 _ hVA).mono ?_
        rintro e w' ⟨rfl, hw⟩
        obtain rfl : wr = w' := hw.symm
        clear hw c1
        have c4 := fun W h => longD_any V o2 cap2 (by omega) (by omega) W h
        rw [HQ.out, hbk] at c4
        obtain ⟨w5, hw5⟩ : ∃ Z, wr = Z := ⟨_, rfl⟩
        rw [hw5] at hF hO hVI hBw ⊢
        have K5 := Lib.hid (And.intro hF (And.intro hO (And.intro hVI hBw)))
        clear hF hO hVI hBw hVA hB ht h17 HB2 HV hw5
        go_wp2
        go_loopw [35] (fun i W6 => ∃ j : Nat, i = .int .i64 j ∧ j ≤ k ∧ Below w5.heap.size w5 W6) (fun i _ => k - (intOf i).toNat)
        case atStart => exact ⟨0, rfl, by omega, Below.refl _ _⟩
        case round =>
          obtain ⟨j, rfl, hj, hb⟩ := hrel
          by_cases hlt2 : j < k
          · obtain ⟨l, hl⟩ : ∃ l, V[j]? = some l := ⟨_, List.getElem?_eq_getElem (by rw [HQ.out]; exact hlt2)⟩
            have hl60 := H60.out.1 j l hl
            obtain ⟨hF, hO, hVI, _⟩ := K5.out
            obtain ⟨gf, cf, a1, a2, a3, a4⟩ := hF.2 j l hlt2 hl
            obtain ⟨go, off, ol, cp, rfl, hc, hr, _⟩ := hVI j l hl
            obtain ⟨gl, rfl⟩ := hofl (by omega)
            have rF : RowAt w5 encN 6 (some ⟨gf, 0, none⟩) (room9 l) := RowAt.of_own encN_len a4 rfl
            have m1 := at_below ((hO.cellAt j (by omega)).trans a1) hb
            have m2 := at_below hc hb
            have m3 : w5.cell? ⟨gf, l.length * 6, none⟩ = some (.int .i64 (-7)) := by
              obtain ⟨g', off', ho', hcl⟩ := rF l.length sevN (by unfold room9; rw [List.getElem?_append_right (Nat.le_refl _), Nat.sub_self]; rfl)
              cases ho'
              have := hcl 0 (by decide)
              rw [Nat.zero_add, Nat.add_zero] at this
              exact this.trans rfl
            have m3 := at_below m3 hb
            have c9 := fun W h h' => notes_yes l l (some ⟨gf, 0, none⟩) ol cf cp (NotesSame.refl l) (by omega) W h h'
            have hA := rF.pre.below encN_len (by decide) hb
            have hR := hr.below encN_len (by decide) hb
            have HS := Lib.hid (And.intro hb (And.intro hA hR))
            obtain ⟨n, hnn⟩ : ∃ n, l.length = n := ⟨_, rfl⟩
            rw [hnn] at m1 m2 m3 c9 a2 hl60
            have q1 : (0 : Int) ≤ (j : Int) := by omega
            have q2 : (j : Int) < (k : Int) := by omega
            have q3 : (0 : Int) ≤ (n : Int) := by omega
            have q4 : (n : Int) < (n : Int) + 1 := by omega
            have q5 : IntKind.i64.wrap ((n : Int) + 1) = (n : Int) + 1 := IntWalk.i64_in _ (by omega)
            have q6 : (0 : Int) ≤ (n : Int) + 1 := by omega
            have q7 : (n : Int) + 1 ≤ (cf : Int) := by omega
            have q8 : ((n : Int) + 1).toNat = n + 1 := by omega
            clear hl hF hO hVI a1 a4 hc hr rF hb hA hR hnn
            go_wp2_with (fail)
            refine wp_region_noPanic ?_
            refine wp_region_g (S := untilG [] (fun Y => Below wr.heap.size wr Y)) (by kernel_rfl) ?_
            obtain ⟨X0, hX0⟩ : ∃ Y, World.drew wr = Y := ⟨_, rfl⟩
            have T0 : Below wr.heap.size wr X0 := hX0 ▸ (Below.refl wr.heap.size wr).drew
            rw [hX0]
            clear hX0
            refine wpAnyG_take [0, 2, 3, 8, 9, 10, 11, 12, 13, 14, 15, 16, 17, 18, 19, 20, 21, 22, 23, 24, 25, 26, 27, 28, 29, 30, 31] (i := 0) (v := (.slice (some ⟨gl, 0, none⟩) k fc)) rfl (by kernel_rfl) (by kernel_rfl) (by kernel_rfl) (by kernel_rfl) (by kernel_rfl) (by kernel_rfl) (by kernel_rfl) (by kernel_rfl) (fun _ _ _ h => h) (Or.inl ⟨by rfl, ?hy⟩) T0 ?_
            case hy =>
              intro X hX
              go_simp
            try simp only [Act.put, List.getElem_toArray, List.getElem_cons_zero, List.getElem_cons_succ, List.setIfInBounds_toArray, List.set_cons_zero, List.set_cons_succ]
            refine wpAnyG_take [1, 2, 3, 8, 9, 10, 11, 12, 13, 14, 15, 16, 17, 18, 19, 20, 21, 22, 23, 24, 25, 26, 27, 28, 29, 30, 31] (i := 1) (v := (.int .i64 j)) rfl (by kernel_rfl) (by kernel_rfl) (by kernel_rfl) (by kernel_rfl) (by kernel_rfl) (by kernel_rfl) (by kernel_rfl) (by kernel_rfl) (fun _ _ _ h => h) (Or.inl ⟨by rfl, ?hy⟩) T0 ?_
            case hy =>
              intro X hX
              go_simp
            try simp only [Act.put, List.getElem_toArray, List.getElem_cons_zero, List.getElem_cons_succ, List.setIfInBounds_toArray, List.set_cons_zero, List.set_cons_succ]
            refine wpAnyG_take [2, 3, 8, 9, 10, 11, 12, 13, 14, 15, 16, 17, 18, 19, 20, 21, 22, 23, 24, 25, 26, 27, 28, 29, 30, 31] (i := 2) (v := (.pointer (some ⟨gl, j, none⟩))) rfl (by kernel_rfl) (by kernel_rfl) (by kernel_rfl) (by kernel_rfl) (by kernel_rfl) (by kernel_rfl) (by kernel_rfl) (by kernel_rfl) (fun _ _ _ h => h) (Or.inl ⟨by rfl, ?hy⟩) T0 ?_
            case hy =>
              intro X hX
              go_simp
            try simp only [Act.put, List.getElem_toArray, List.getElem_cons_zero, List.getElem_cons_succ, List.setIfInBounds_toArray, List.set_cons_zero, List.set_cons_succ]
            refine wpAnyG_take [3, 8, 9, 10, 11, 12, 13, 14, 15, 16, 17, 18, 19, 20, 21, 22, 23, 24, 25, 26, 27, 28, 29, 30, 31] (i := 3) (v := (.slice (some ⟨gf, 0, none⟩) n cf)) rfl (by kernel_rfl) (by kernel_rfl) (by kernel_rfl) (by kernel_rfl) (by kernel_rfl) (by kernel_rfl) (by kernel_rfl) (by kernel_rfl) (fun _ _ _ h => h) (Or.inl ⟨by rfl, ?hy⟩) T0 ?_
            case hy =>
              intro X hX
              have e0 := at_below m1 hX
              go_simp
            try simp only [Act.put, List.getElem_toArray, List.getElem_cons_zero, List.getElem_cons_succ, List.setIfInBounds_toArray, List.set_cons_zero, List.set_cons_succ]
            refine wpAnyG_take [4, 6, 7, 8, 9, 10, 11, 12, 13, 14, 15, 16, 17, 18, 19, 20, 21, 22, 23, 24, 25, 26, 27, 28, 29, 30, 31] (i := 4) (v := (.slice (some ⟨go, off, none⟩) k cap2)) rfl (by kernel_rfl) (by kernel_rfl) (by kernel_rfl) (by kernel_rfl) (by kernel_rfl) (by kernel_rfl) (by kernel_rfl) (by kernel_rfl) (fun _ _ _ h => h) (Or.inl ⟨by rfl, ?hy⟩) T0 ?_
            case hy =>
              intro X hX
              go_simp
            try simp only [Act.put, List.getElem_toArray, List.getElem_cons_zero, List.getElem_cons_succ, List.setIfInBounds_toArray, List.set_cons_zero, List.set_cons_succ]
            refine wpAnyG_all (rs := [5]) (by kernel_rfl) (by simp) ?_
            intro i hi
            simp only [List.mem_cons, List.not_mem_nil, or_false] at hi
            subst hi
            refine wpOp_now rfl rfl ?_
            go_simp
            refine ⟨fun _ => T0, ?_⟩
            try simp only [Act.put, List.getElem_toArray, List.getElem_cons_zero, List.getElem_cons_succ, List.setIfInBounds_toArray, List.set_cons_zero, List.set_cons_succ]
            refine wpAnyG_take [6, 7, 8, 9, 10, 11, 12, 13, 14, 15, 16, 17, 18, 19, 20, 21, 22, 23, 24, 25, 26, 27, 28, 29, 30, 31] (i := 6) (v := (.pointer (some ⟨go, off + j, none⟩))) rfl (by kernel_rfl) (by kernel_rfl) (by kernel_rfl) (by kernel_rfl) (by kernel_rfl) (by kernel_rfl) (by kernel_rfl) (by kernel_rfl) (fun _ _ _ h => h) (Or.inl ⟨by rfl, ?hy⟩) T0 ?_
            case hy =>
              intro X hX
              go_simp
            try simp only [Act.put, List.getElem_toArray, List.getElem_cons_zero, List.getElem_cons_succ, List.setIfInBounds_toArray, List.set_cons_zero, List.set_cons_succ]
            refine wpAnyG_take [7, 8, 9, 10, 11, 12, 13, 14, 15, 16, 17, 18, 19, 20, 21, 22, 23, 24, 25, 26, 27, 28, 29, 30, 31] (i := 7) (v := (.slice ol n cp)) rfl (by kernel_rfl) (by kernel_rfl) (by kernel_rfl) (by kernel_rfl) (by kernel_rfl) (by kernel_rfl) (by kernel_rfl) (by kernel_rfl) (fun _ _ _ h => h) (Or.inl ⟨by rfl, ?hy⟩) T0 ?_
            case hy =>
              intro X hX
              have e0 := at_below m2 hX
              go_simp
            try simp only [Act.put, List.getElem_toArray, List.getElem_cons_zero, List.getElem_cons_succ, List.setIfInBounds_toArray, List.set_cons_zero, List.set_cons_succ]
            refine wpAnyG_all (rs := [8]) (by kernel_rfl) (by simp) ?_
            intro i hi
            simp only [List.mem_cons, List.not_mem_nil, or_false] at hi
            subst hi
            refine wpOp_now rfl rfl ?_
            go_simp
            refine (c9 _ (HS.out.2.1.below encN_len (by decide) T0) (HS.out.2.2.below encN_len (by decide) T0)).mono ?_
            rintro e Y8 ⟨rfl, hb⟩
            replace T0 := T0.trans (hb.mono T0.size)
            clear hb
            refine ⟨fun _ => T0, ?_⟩
            try simp only [Act.put, List.getElem_toArray, List.getElem_cons_zero, List.getElem_cons_succ, List.setIfInBounds_toArray, List.set_cons_zero, List.set_cons_succ]
            refine wpAnyG_all (rs := [9]) (by kernel_rfl) (by simp) ?_
            intro i hi
            simp only [List.mem_cons, List.not_mem_nil, or_false] at hi
            subst hi
            refine wpOp_now rfl rfl ?_
            go_simp
            refine ⟨fun _ => T0, ?_⟩
            try simp only [Act.put, List.getElem_toArray, List.getElem_cons_zero, List.getElem_cons_succ, List.setIfInBounds_toArray, List.set_cons_zero, List.set_cons_succ]
            refine wpAnyG_all (rs := [10]) (by kernel_rfl) (by simp) ?_
            intro i hi
            simp only [List.mem_cons, List.not_mem_nil, or_false] at hi
            subst hi
            refine wpOp_now rfl rfl ?_
            go_simp
            refine ⟨fun _ => T0, ?_⟩
            try simp only [Act.put, List.getElem_toArray, List.getElem_cons_zero, List.getElem_cons_succ, List.setIfInBounds_toArray, List.set_cons_zero, List.set_cons_succ]
            refine wpAnyG_take [11, 13, 14, 21, 27, 28, 29, 30, 31] (i := 11) (v := (.slice (some ⟨gl, 0, none⟩) k fc)) rfl (by kernel_rfl) (by kernel_rfl) (by kernel_rfl) (by kernel_rfl) (by kernel_rfl) (by kernel_rfl) (by kernel_rfl) (by kernel_rfl) (fun _ _ _ h => h) (Or.inl ⟨by rfl, ?hy⟩) T0 ?_
            case hy =>
              intro X hX
              go_simp
            try simp only [Act.put, List.getElem_toArray, List.getElem_cons_zero, List.getElem_cons_succ, List.setIfInBounds_toArray, List.set_cons_zero, List.set_cons_succ]
            refine wpAnyG_take [12, 13, 14, 21, 27, 28, 29, 30, 31] (i := 12) (v := (.int .i64 j)) rfl (by kernel_rfl) (by kernel_rfl) (by kernel_rfl) (by kernel_rfl) (by kernel_rfl) (by kernel_rfl) (by kernel_rfl) (by kernel_rfl) (fun _ _ _ h => h) (Or.inl ⟨by rfl, ?hy⟩) T0 ?_
            case hy =>
              intro X hX
              go_simp
            try simp only [Act.put, List.getElem_toArray, List.getElem_cons_zero, List.getElem_cons_succ, List.setIfInBounds_toArray, List.set_cons_zero, List.set_cons_succ]
            refine wpAnyG_take [13, 14, 21, 27, 28, 29, 30, 31] (i := 13) (v := (.pointer (some ⟨gl, j, none⟩))) rfl (by kernel_rfl) (by kernel_rfl) (by kernel_rfl) (by kernel_rfl) (by kernel_rfl) (by kernel_rfl) (by kernel_rfl) (by kernel_rfl) (fun _ _ _ h => h) (Or.inl ⟨by rfl, ?hy⟩) T0 ?_
            case hy =>
              intro X hX
              go_simp
            try simp only [Act.put, List.getElem_toArray, List.getElem_cons_zero, List.getElem_cons_succ, List.setIfInBounds_toArray, List.set_cons_zero, List.set_cons_succ]
            refine wpAnyG_take [14, 21, 27, 28, 29, 30, 31] (i := 14) (v := (.slice (some ⟨gf, 0, none⟩) n cf)) rfl (by kernel_rfl) (by kernel_rfl) (by kernel_rfl) (by kernel_rfl) (by kernel_rfl) (by kernel_rfl) (by kernel_rfl) (by kernel_rfl) (fun _ _ _ h => h) (Or.inl ⟨by rfl, ?hy⟩) T0 ?_
            case hy =>
              intro X hX
              have e0 := at_below m1 hX
              go_simp
            try simp only [Act.put, List.getElem_toArray, List.getElem_cons_zero, List.getElem_cons_succ, List.setIfInBounds_toArray, List.set_cons_zero, List.set_cons_succ]
            refine wpAnyG_take [15, 17, 18, 19, 20, 21, 27, 28, 29, 30, 31] (i := 15) (v := (.slice (some ⟨gl, 0, none⟩) k fc)) rfl (by kernel_rfl) (by kernel_rfl) (by kernel_rfl) (by kernel_rfl) (by kernel_rfl) (by kernel_rfl) (by kernel_rfl) (by kernel_rfl) (fun _ _ _ h => h) (Or.inl ⟨by rfl, ?hy⟩) T0 ?_
            case hy =>
              intro X hX
              go_simp
            try simp only [Act.put, List.getElem_toArray, List.getElem_cons_zero, List.getElem_cons_succ, List.setIfInBounds_toArray, List.set_cons_zero, List.set_cons_succ]
            refine wpAnyG_take [16, 17, 18, 19, 20, 21, 27, 28, 29, 30, 31] (i := 16) (v := (.int .i64 j)) rfl (by kernel_rfl) (by kernel_rfl) (by kernel_rfl) (by kernel_rfl) (by kernel_rfl) (by kernel_rfl) (by kernel_rfl) (by kernel_rfl) (fun _ _ _ h => h) (Or.inl ⟨by rfl, ?hy⟩) T0 ?_
            case hy =>
              intro X hX
              go_simp
            try simp only [Act.put, List.getElem_toArray, List.getElem_cons_zero, List.getElem_cons_succ, List.setIfInBounds_toArray, List.set_cons_zero, List.set_cons_succ]
            refine wpAnyG_take [17, 18, 19, 20, 21, 27, 28, 29, 30, 31] (i := 17) (v := (.pointer (some ⟨gl, j, none⟩))) rfl (by kernel_rfl) (by kernel_rfl) (by kernel_rfl) (by kernel_rfl) (by kernel_rfl) (by kernel_rfl) (by kernel_rfl) (by kernel_rfl) (fun _ _ _ h => h) (Or.inl ⟨by rfl, ?hy⟩) T0 ?_
            case hy =>
              intro X hX
              go_simp
            try simp only [Act.put, List.getElem_toArray, List.getElem_cons_zero, List.getElem_cons_succ, List.setIfInBounds_toArray, List.set_cons_zero, List.set_cons_succ]
            refine wpAnyG_take [18, 19, 20, 21, 27, 28, 29, 30, 31] (i := 18) (v := (.slice (some ⟨gf, 0, none⟩) n cf)) rfl (by kernel_rfl) (by kernel_rfl) (by kernel_rfl) (by kernel_rfl) (by kernel_rfl) (by kernel_rfl) (by kernel_rfl) (by kernel_rfl) (fun _ _ _ h => h) (Or.inl ⟨by rfl, ?hy⟩) T0 ?_
            case hy =>
              intro X hX
              have e0 := at_below m1 hX
              go_simp
            try simp only [Act.put, List.getElem_toArray, List.getElem_cons_zero, List.getElem_cons_succ, List.setIfInBounds_toArray, List.set_cons_zero, List.set_cons_succ]
            refine wpAnyG_take [19, 20, 21, 27, 28, 29, 30, 31] (i := 19) (v := (.int .i64 n)) rfl (by kernel_rfl) (by kernel_rfl) (by kernel_rfl) (by kernel_rfl) (by kernel_rfl) (by kernel_rfl) (by kernel_rfl) (by kernel_rfl) (fun _ _ _ h => h) (Or.inl ⟨by rfl, ?hy⟩) T0 ?_
            case hy =>
              intro X hX
              go_simp
            try simp only [Act.put, List.getElem_toArray, List.getElem_cons_zero, List.getElem_cons_succ, List.setIfInBounds_toArray, List.set_cons_zero, List.set_cons_succ]
            refine wpAnyG_take [20, 21, 27, 28, 29, 30, 31] (i := 20) (v := (.int .i64 ((n : Int) + 1))) rfl (by kernel_rfl) (by kernel_rfl) (by kernel_rfl) (by kernel_rfl) (by kernel_rfl) (by kernel_rfl) (by kernel_rfl) (by kernel_rfl) (fun _ _ _ h => h) (Or.inl ⟨by rfl, ?hy⟩) T0 ?_
            case hy =>
              intro X hX
              go_simp
            try simp only [Act.put, List.getElem_toArray, List.getElem_cons_zero, List.getElem_cons_succ, List.setIfInBounds_toArray, List.set_cons_zero, List.set_cons_succ]
            refine wpAnyG_take [21, 27, 28, 29, 30, 31] (i := 21) (v := (.slice (some ⟨gf, 0, none⟩) (n + 1) cf)) rfl (by kernel_rfl) (by kernel_rfl) (by kernel_rfl) (by kernel_rfl) (by kernel_rfl) (by kernel_rfl) (by kernel_rfl) (by kernel_rfl) (fun _ _ _ h => h) (Or.inl ⟨by rfl, ?hy⟩) T0 ?_
            case hy =>
              intro X hX
              go_simp
            try simp only [Act.put, List.getElem_toArray, List.getElem_cons_zero, List.getElem_cons_succ, List.setIfInBounds_toArray, List.set_cons_zero, List.set_cons_succ]
            refine wpAnyG_take [22, 24, 25, 26, 27, 28, 29, 30, 31] (i := 22) (v := (.slice (some ⟨gl, 0, none⟩) k fc)) rfl (by kernel_rfl) (by kernel_rfl) (by kernel_rfl) (by kernel_rfl) (by kernel_rfl) (by kernel_rfl) (by kernel_rfl) (by kernel_rfl) (fun _ _ _ h => h) (Or.inl ⟨by rfl, ?hy⟩) T0 ?_
            case hy =>
              intro X hX
              go_simp
            try simp only [Act.put, List.getElem_toArray, List.getElem_cons_zero, List.getElem_cons_succ, List.setIfInBounds_toArray, List.set_cons_zero, List.set_cons_succ]
            refine wpAnyG_all (rs := [23]) (by kernel_rfl) (by simp) ?_
            intro i hi
            simp only [List.mem_cons, List.not_mem_nil, or_false] at hi
            subst hi
            refine wpOp_open rfl (by rfl) ?_
            go_simp
            refine ⟨fun _ => T0, ?_⟩
            try simp only [Act.put, List.getElem_toArray, List.getElem_cons_zero, List.getElem_cons_succ, List.setIfInBounds_toArray, List.set_cons_zero, List.set_cons_succ]
            refine wpAnyG_take [24, 25, 26, 27, 28, 29, 30, 31] (i := 24) (v := (.pointer (some ⟨gl, j, none⟩))) rfl (by kernel_rfl) (by kernel_rfl) (by kernel_rfl) (by kernel_rfl) (by kernel_rfl) (by kernel_rfl) (by kernel_rfl) (by kernel_rfl) (fun _ _ _ h => h) (Or.inl ⟨by rfl, ?hy⟩) T0 ?_
            case hy =>
              intro X hX
              go_simp
            try simp only [Act.put, List.getElem_toArray, List.getElem_cons_zero, List.getElem_cons_succ, List.setIfInBounds_toArray, List.set_cons_zero, List.set_cons_succ]
            refine wpAnyG_take [25, 26, 27, 28, 29, 30, 31] (i := 25) (v := (.slice (some ⟨gf, 0, none⟩) n cf)) rfl (by kernel_rfl) (by kernel_rfl) (by kernel_rfl) (by kernel_rfl) (by kernel_rfl) (by kernel_rfl) (by kernel_rfl) (by kernel_rfl) (fun _ _ _ h => h) (Or.inl ⟨by rfl, ?hy⟩) T0 ?_
            case hy =>
              intro X hX
              have e0 := at_below m1 hX
              go_simp
            try simp only [Act.put, List.getElem_toArray, List.getElem_cons_zero, List.getElem_cons_succ, List.setIfInBounds_toArray, List.set_cons_zero, List.set_cons_succ]
            refine wpAnyG_take [26, 27, 28, 29, 30, 31] (i := 26) (v := (.int .i64 n)) rfl (by kernel_rfl) (by kernel_rfl) (by kernel_rfl) (by kernel_rfl) (by kernel_rfl) (by kernel_rfl) (by kernel_rfl) (by kernel_rfl) (fun _ _ _ h => h) (Or.inl ⟨by rfl, ?hy⟩) T0 ?_
            case hy =>
              intro X hX
              go_simp
            try simp only [Act.put, List.getElem_toArray, List.getElem_cons_zero, List.getElem_cons_succ, List.setIfInBounds_toArray, List.set_cons_zero, List.set_cons_succ]
            refine wpAnyG_take [27, 28, 29, 30, 31] (i := 27) (v := (.pointer (some ⟨gf, n * 6, none⟩))) rfl (by kernel_rfl) (by kernel_rfl) (by kernel_rfl) (by kernel_rfl) (by kernel_rfl) (by kernel_rfl) (by kernel_rfl) (by kernel_rfl) (fun _ _ _ h => h) (Or.inl ⟨by rfl, ?hy⟩) T0 ?_
            case hy =>
              intro X hX
              go_simp
            try simp only [Act.put, List.getElem_toArray, List.getElem_cons_zero, List.getElem_cons_succ, List.setIfInBounds_toArray, List.set_cons_zero, List.set_cons_succ]
            refine wpAnyG_take [28, 29, 30, 31] (i := 28) (v := (.pointer (some ⟨gf, n * 6, none⟩))) rfl (by kernel_rfl) (by kernel_rfl) (by kernel_rfl) (by kernel_rfl) (by kernel_rfl) (by kernel_rfl) (by kernel_rfl) (by kernel_rfl) (fun _ _ _ h => h) (Or.inl ⟨by rfl, ?hy⟩) T0 ?_
            case hy =>
              intro X hX
              go_simp
            try simp only [Act.put, List.getElem_toArray, List.getElem_cons_zero, List.getElem_cons_succ, List.setIfInBounds_toArray, List.set_cons_zero, List.set_cons_succ]
            refine wpAnyG_take [29, 30, 31] (i := 29) (v := (.int .i64 (-7))) rfl (by kernel_rfl) (by kernel_rfl) (by kernel_rfl) (by kernel_rfl) (by kernel_rfl) (by kernel_rfl) (by kernel_rfl) (by kernel_rfl) (fun _ _ _ h => h) (Or.inl ⟨by rfl, ?hy⟩) T0 ?_
            case hy =>
              intro X hX
              have e0 := at_below m3 hX
              go_simp
            try simp only [Act.put, List.getElem_toArray, List.getElem_cons_zero, List.getElem_cons_succ, List.setIfInBounds_toArray, List.set_cons_zero, List.set_cons_succ]
            refine wpAnyG_take [30, 31] (i := 30) (v := (.bool false)) rfl (by kernel_rfl) (by kernel_rfl) (by kernel_rfl) (by kernel_rfl) (by kernel_rfl) (by kernel_rfl) (by kernel_rfl) (by kernel_rfl) (fun _ _ _ h => h) (Or.inl ⟨by rfl, ?hy⟩) T0 ?_
            case hy =>
              intro X hX
              go_simp
            try simp only [Act.put, List.getElem_toArray, List.getElem_cons_zero, List.getElem_cons_succ, List.setIfInBounds_toArray, List.set_cons_zero, List.set_cons_succ]
            refine wpAnyG_all (rs := [31]) (by kernel_rfl) (by simp) ?_
            intro i hi
            simp only [List.mem_cons, List.not_mem_nil, or_false] at hi
            subst hi
            refine wpOp_now rfl rfl ?_
            go_simp
            refine ⟨fun _ => T0, ?_⟩
            try simp only [Act.put, List.getElem_toArray, List.getElem_cons_zero, List.getElem_cons_succ, List.setIfInBounds_toArray, List.set_cons_zero, List.set_cons_succ]
            refine wpAnyG_done (by kernel_rfl) ?_ _
            refine NoPanic.normal ?_
            have hb2 := HS.out.1.trans (T0.mono HS.out.1.size)
            clear T0 m1 m2 m3 c9
            go_wp2
            go_roundw
            case rel => exact ⟨j + 1, by go_num, by omega, hb2⟩
            case measure => simp [intOf]; omega
          obtain rfl : j = k := by omega
          obtain ⟨_, _, hVI, hBw⟩ := K5.out
          have hVI6 := hVI.belowK hb
          have hB6 := hBw.trans (hb.mono hBw.size)
          clear hVI hBw K5
          go_wp2_with (fail)
          refine (c4 _ (VoicesIn.at _ hVI6)).mono ?_
          rintro e w' ⟨rfl, hw⟩
          obtain rfl : wr = w' := hw.symm
          clear hw
          go_wp2_with (fail)
          refine (wakes_any _).mono ?_
          rintro e w7 ⟨rfl, hb7⟩
          have hB7 := hB6.trans (hb7.mono hB6.size)
          go_wp2
          go_ret
          exact ⟨rfl, hB7⟩
      | false =>
        have c1 := fun W h => merge_any V ofl fc (by omega) (by omega) hbk W h
        have hbk' := hbk
        unfold tooB at hbk'
        simp only [Bool.or_eq_false_iff, decide_eq_false_iff_not] at hbk'
        have c5 := fun W h => mergeD_any V o2 cap2 (by omega) (by omega) W h
        have c4 := fun W h => longD_any V o2 cap2 (by omega) (by omega) W h
        rw [HQ.out] at c1 c5
        rw [HQ.out, hbk] at c4
        go_wp2_with (fail)
        refine (c1 _ hVA).mono ?_
        rintro e w5 ⟨va, L, rfl, hpL, hsL, hownA, hb5⟩
        obtain ⟨oa, ca, rfl, _⟩ := own_slice hownA
        have hLl : L.length ≤ 65536 := by
          rw [hpL.length_eq]
          have := allS_len V V.length
          rw [List.take_of_length_le (Nat.le_refl _)] at this
          omega
        have K5 := Lib.hid (And.intro (hF.below hb5) (And.intro (own_below hO hb5) (And.intro (hVI.belowK hb5) (hBw.trans (hb5.mono hBw.size)))))
        have KL := Lib.hid (And.intro hpL (And.intro hsL hownA))
        clear c1 hF hO hVI hBw hVA hB ht h17 HB2 HV hpL hsL hownA hb5 hbk'
        go_wp2
        go_loopw [35] (fun i W6 => ∃ j : Nat, i = .int .i64 j ∧ j ≤ k ∧ Below w5.heap.size w5 W6) (fun i _ => k - (intOf i).toNat)
        case atStart => exact ⟨0, rfl, by omega, Below.refl _ _⟩
        case round =>
          obtain ⟨j, rfl, hj, hb⟩ := hrel
          by_cases hlt2 : j < k
          · obtain ⟨l, hl⟩ : ∃ l, V[j]? = some l := ⟨_, List.getElem?_eq_getElem (by rw [HQ.out]; exact hlt2)⟩
            have hl60 := H60.out.1 j l hl
            obtain ⟨hF, hO, hVI, _⟩ := K5.out
            obtain ⟨gf, cf, a1, a2, a3, a4⟩ := hF.2 j l hlt2 hl
            obtain ⟨go, off, ol, cp, rfl, hc, hr, _⟩ := hVI j l hl
            obtain ⟨gl, rfl⟩ := hofl (by omega)
            have rF : RowAt w5 encN 6 (some ⟨gf, 0, none⟩) (room9 l) := RowAt.of_own encN_len a4 rfl
            have m1 := at_below ((hO.cellAt j (by omega)).trans a1) hb
            have m2 := at_below hc hb
            have m3 : w5.cell? ⟨gf, l.length * 6, none⟩ = some (.int .i64 (-7)) := by
              obtain ⟨g', off', ho', hcl⟩ := rF l.length sevN (by unfold room9; rw [List.getElem?_append_right (Nat.le_refl _), Nat.sub_self]; rfl)
              cases ho'
              have := hcl 0 (by decide)
              rw [Nat.zero_add, Nat.add_zero] at this
              exact this.trans rfl
            have m3 := at_below m3 hb
            have c9 := fun W h h' => notes_yes l l (some ⟨gf, 0, none⟩) ol cf cp (NotesSame.refl l) (by omega) W h h'
            have hA := rF.pre.below encN_len (by decide) hb
            have hR := hr.below encN_len (by decide) hb
            have HS := Lib.hid (And.intro hb (And.intro hA hR))
            obtain ⟨n, hnn⟩ : ∃ n, l.length = n := ⟨_, rfl⟩
            rw [hnn] at m1 m2 m3 c9 a2 hl60
            have q1 : (0 : Int) ≤ (j : Int) := by omega
            have q2 : (j : Int) < (k : Int) := by omega
            have q3 : (0 : Int) ≤ (n : Int) := by omega
            have q4 : (n : Int) < (n : Int) + 1 := by omega
            have q5 : IntKind.i64.wrap ((n : Int) + 1) = (n : Int) + 1 := IntWalk.i64_in _ (by omega)
            have q6 : (0 : Int) ≤ (n : Int) + 1 := by omega
            have q7 : (n : Int) + 1 ≤ (cf : Int) := by omega
            have q8 : ((n : Int) + 1).toNat = n + 1 := by omega
            clear hl hF hO hVI a1 a4 hc hr rF hb hA hR hnn
            go_wp2_with (fail)
            refine wp_region_noPanic ?_
            refine wp_region_g (S := untilG [] (fun Y => Below wr.heap.size wr Y)) (by kernel_rfl) ?_
            obtain ⟨X0, hX0⟩ : ∃ Y, World.drew wr = Y := ⟨_, rfl⟩
            have T0 : Below wr.heap.size wr X0 := hX0 ▸ (Below.refl wr.heap.size wr).drew
            rw [hX0]
            clear hX0
            refine wpAnyG_take [0, 2, 3, 8, 9, 10, 11, 12, 13, 14, 15, 16, 17, 18, 19, 20, 21, 22, 23, 24, 25, 26, 27, 28, 29, 30, 31] (i := 0) (v := (.slice (some ⟨gl, 0, none⟩) k fc)) rfl (by kernel_rfl) (by kernel_rfl) (by kernel_rfl) (by kernel_rfl) (by kernel_rfl) (by kernel_rfl) (by kernel_rfl) (by kernel_rfl) (fun _ _ _ h => h) (Or.inl ⟨by rfl, ?hy⟩) T0 ?_
            case hy =>
              intro X hX
              go_simp
            try simp only [Act.put, List.getElem_toArray, List.getElem_cons_zero, List.getElem_cons_succ, List.setIfInBounds_toArray, List.set_cons_zero, List.set_cons_succ]
            refine wpAnyG_take [1, 2, 3, 8, 9, 10, 11, 12, 13, 14, 15, 16, 17, 18, 19, 20, 21, 22, 23, 24, 25, 26, 27, 28, 29, 30, 31] (i := 1) (v := (.int .i64 j)) rfl (by kernel_rfl) (by kernel_rfl) (by kernel_rfl) (by kernel_rfl) (by kernel_rfl) (by kernel_rfl) (by kernel_rfl) (by kernel_rfl) (fun _ _ _ h => h) (Or.inl ⟨by rfl, ?hy⟩) T0 ?_
            case hy =>
              intro X hX
              go_simp
            try simp only [Act.put, List.getElem_toArray, List.getElem_cons_zero, List.getElem_cons_succ, List.setIfInBounds_toArray, List.set_cons_zero, List.set_cons_succ]
            refine wpAnyG_take [2, 3, 8, 9, 10, 11, 12, 13, 14, 15, 16, 17, 18, 19, 20, 21, 22, 23, 24, 25, 26, 27, 28, 29, 30, 31] (i := 2) (v := (.pointer (some ⟨gl, j, none⟩))) rfl (by kernel_rfl) (by kernel_rfl) (by kernel_rfl) (by kernel_rfl) (by kernel_rfl) (by kernel_rfl) (by kernel_rfl) (by kernel_rfl) (fun _ _ _ h => h) (Or.inl ⟨by rfl, ?hy⟩) T0 ?_
            case hy =>
              intro X hX
              go_simp
            try simp only [Act.put, List.getElem_toArray, List.getElem_cons_zero, List.getElem_cons_succ, List.setIfInBounds_toArray, List.set_cons_zero, List.set_cons_succ]
            refine wpAnyG_take [3, 8, 9, 10, 11, 12, 13, 14, 15, 16, 17, 18, 19, 20, 21, 22, 23, 24, 25, 26, 27, 28, 29, 30, 31] (i := 3) (v := (.slice (some ⟨gf, 0, none⟩) n cf)) rfl (by kernel_rfl) (by kernel_rfl) (by kernel_rfl) (by kernel_rfl) (by kernel_rfl) (by kernel_rfl) (by kernel_rfl) (by kernel_rfl) (fun _ _ _ h => h) (Or.inl ⟨by rfl, ?hy⟩) T0 ?_
            case hy =>
              intro X hX
              have e0 := at_below m1 hX
              go_simp
            try simp only [Act.put, List.getElem_toArray, List.getElem_cons_zero, List.getElem_cons_succ, List.setIfInBounds_toArray, List.set_cons_zero, List.set_cons_succ]
            refine wpAnyG_take [4, 6, 7, 8, 9, 10, 11, 12, 13, 14, 15, 16, 17, 18, 19, 20, 21, 22, 23, 24, 25, 26, 27, 28, 29, 30, 31] (i := 4) (v := (.slice (some ⟨go, off, none⟩) k cap2)) rfl (by kernel_rfl) (by kernel_rfl) (by kernel_rfl) (by kernel_rfl) (by kernel_rfl) (by kernel_rfl) (by kernel_rfl) (by kernel_rfl) (fun _ _ _ h => h) (Or.inl ⟨by rfl, ?hy⟩) T0 ?_
            case hy =>
              intro X hX
              go_simp
            try simp only [Act.put, List.getElem_toArray, List.getElem_cons_zero, List.getElem_cons_succ, List.setIfInBounds_toArray, List.set_cons_zero, List.set_cons_succ]
            refine wpAnyG_all (rs := [5]) (by kernel_rfl) (by simp) ?_
            intro i hi
            simp only [List.mem_cons, List.not_mem_nil, or_false] at hi
            subst hi
            refine wpOp_now rfl rfl ?_
            go_simp
            refine ⟨fun _ => T0, ?_⟩
            try simp only [Act.put, List.getElem_toArray, List.getElem_cons_zero, List.getElem_cons_succ, List.setIfInBounds_toArray, List.set_cons_zero, List.set_cons_succ]
            refine wpAnyG_take [6, 7, 8, 9, 10, 11, 12, 13, 14, 15, 16, 17, 18, 19, 20, 21, 22, 23, 24, 25, 26, 27, 28, 29, 30, 31] (i := 6) (v := (.pointer (some ⟨go, off + j, none⟩))) rfl (by kernel_rfl) (by kernel_rfl) (by kernel_rfl) (by kernel_rfl) (by kernel_rfl) (by kernel_rfl) (by kernel_rfl) (by kernel_rfl) (fun _ _ _ h => h) (Or.inl ⟨by rfl, ?hy⟩) T0 ?_
            case hy =>
              intro X hX
              go_simp
            try simp only [Act.put, List.getElem_toArray, List.getElem_cons_zero, List.getElem_cons_succ, List.setIfInBounds_toArray, List.set_cons_zero, List.set_cons_succ]
            refine wpAnyG_take [7, 8, 9, 10, 11, 12, 13, 14, 15, 16, 17, 18, 19, 20, 21, 22, 23, 24, 25, 26, 27, 28, 29, 30, 31] (i := 7) (v := (.slice ol n cp)) rfl (by kernel_rfl) (by kernel_rfl) (by kernel_rfl) (by kernel_rfl) (by kernel_rfl) (by kernel_rfl) (by kernel_rfl) (by kernel_rfl) (fun _ _ _ h => h) (Or.inl ⟨by rfl, ?hy⟩) T0 ?_
            case hy =>
              intro X hX
              have e0 := at_below m2 hX
              go_simp
            try simp only [Act.put, List.getElem_toArray, List.getElem_cons_zero, List.getElem_cons_succ, List.setIfInBounds_toArray, List.set_cons_zero, List.set_cons_succ]
            refine wpAnyG_all (rs := [8]) (by kernel_rfl) (by simp) ?_
            intro i hi
            simp only [List.mem_cons, List.not_mem_nil, or_false] at hi
            subst hi
            refine wpOp_now rfl rfl ?_
            go_simp
            refine (c9 _ (HS.out.2.1.below encN_len (by decide) T0) (HS.out.2.2.below encN_len (by decide) T0)).mono ?_
            rintro e Y8 ⟨rfl, hb⟩
            replace T0 := T0.trans (hb.mono T0.size)
            clear hb
            refine ⟨fun _ => T0, ?_⟩
            try simp only [Act.put, List.getElem_toArray, List.getElem_cons_zero, List.getElem_cons_succ, List.setIfInBounds_toArray, List.set_cons_zero, List.set_cons_succ]
            refine wpAnyG_all (rs := [9]) (by kernel_rfl) (by simp) ?_
            intro i hi
            simp only [List.mem_cons, List.not_mem_nil, or_false] at hi
            subst hi
            refine wpOp_now rfl rfl ?_
            go_simp
            refine ⟨fun _ => T0, ?_⟩
            try simp only [Act.put, List.getElem_toArray, List.getElem_cons_zero, List.getElem_cons_succ, List.setIfInBounds_toArray, List.set_cons_zero, List.set_cons_succ]
            refine wpAnyG_all (rs := [10]) (by kernel_rfl) (by simp) ?_
            intro i hi
            simp only [List.mem_cons, List.not_mem_nil, or_false] at hi
            subst hi
            refine wpOp_now rfl rfl ?_
            go_simp
            refine ⟨fun _ => T0, ?_⟩
            try simp only [Act.put, List.getElem_toArray, List.getElem_cons_zero, List.getElem_cons_succ, List.setIfInBounds_toArray, List.set_cons_zero, List.set_cons_succ]
            refine wpAnyG_take [11, 13, 14, 21, 27, 28, 29, 30, 31] (i := 11) (v := (.slice (some ⟨gl, 0, none⟩) k fc)) rfl (by kernel_rfl) (by kernel_rfl) (by kernel_rfl) (by kernel_rfl) (by kernel_rfl) (by kernel_rfl) (by kernel_rfl) (by kernel_rfl) (fun _ _ _ h => h) (Or.inl ⟨by rfl, ?hy⟩) T0 ?_
            case hy =>
              intro X hX
              go_simp
            try simp only [Act.put, List.getElem_toArray, List.getElem_cons_zero, List.getElem_cons_succ, List.setIfInBounds_toArray, List.set_cons_zero, List.set_cons_succ]
            refine wpAnyG_take [12, 13, 14, 21, 27, 28, 29, 30, 31] (i := 12) (v := (.int .i64 j)) rfl (by kernel_rfl) (by kernel_rfl) (by kernel_rfl) (by kernel_rfl) (by kernel_rfl) (by kernel_rfl) (by kernel_rfl) (by kernel_rfl) (fun _ _ _ h => h) (Or.inl ⟨by rfl, ?hy⟩) T0 ?_
            case hy =>
              intro X hX
              go_simp
            try simp only [Act.put, List.getElem_toArray, List.getElem_cons_zero, List.getElem_cons_succ, List.setIfInBounds_toArray, List.set_cons_zero, List.set_cons_succ]
            refine wpAnyG_take [13, 14, 21, 27, 28, 29, 30, 31] (i := 13) (v := (.pointer (some ⟨gl, j, none⟩))) rfl (by kernel_rfl) (by kernel_rfl) (by kernel_rfl) (by kernel_rfl) (by kernel_rfl) (by kernel_rfl) (by kernel_rfl) (by kernel_rfl) (fun _ _ _ h => h) (Or.inl ⟨by rfl, ?hy⟩) T0 ?_
            case hy =>
              intro X hX
              go_simp
            try simp only [Act.put, List.getElem_toArray, List.getElem_cons_zero, List.getElem_cons_succ, List.setIfInBounds_toArray, List.set_cons_zero, List.set_cons_succ]
            refine wpAnyG_take [14, 21, 27, 28, 29, 30, 31] (i := 14) (v := (.slice (some ⟨gf, 0, none⟩) n cf)) rfl (by kernel_rfl) (by kernel_rfl) (by kernel_rfl) (by kernel_rfl) (by kernel_rfl) (by kernel_rfl) (by kernel_rfl) (by kernel_rfl) (fun _ _ _ h => h) (Or.inl ⟨by rfl, ?hy⟩) T0 ?_
            case hy =>
              intro X hX
              have e0 := at_below m1 hX
              go_simp
            try simp only [Act.put, List.getElem_toArray, List.getElem_cons_zero, List.getElem_cons_succ, List.setIfInBounds_toArray, List.set_cons_zero, List.set_cons_succ]
            refine wpAnyG_take [15, 17, 18, 19, 20, 21, 27, 28, 29, 30, 31] (i := 15) (v := (.slice (some ⟨gl, 0, none⟩) k fc)) rfl (by kernel_rfl) (by kernel_rfl) (by kernel_rfl) (by kernel_rfl) (by kernel_rfl) (by kernel_rfl) (by kernel_rfl) (by kernel_rfl) (fun _ _ _ h => h) (Or.inl ⟨by rfl, ?hy⟩) T0 ?_
            case hy =>
              intro X hX
              go_simp
            try simp only [Act.put, List.getElem_toArray, List.getElem_cons_zero, List.getElem_cons_succ, List.setIfInBounds_toArray, List.set_cons_zero, List.set_cons_succ]
            refine wpAnyG_take [16, 17, 18, 19, 20, 21, 27, 28, 29, 30, 31] (i := 16) (v := (.int .i64 j)) rfl (by kernel_rfl) (by kernel_rfl) (by kernel_rfl) (by kernel_rfl) (by kernel_rfl) (by kernel_rfl) (by kernel_rfl) (by kernel_rfl) (fun _ _ _ h => h) (Or.inl ⟨by rfl, ?hy⟩) T0 ?_
            case hy =>
              intro X hX
              go_simp
            try simp only [Act.put, List.getElem_toArray, List.getElem_cons_zero, List.getElem_cons_succ, List.setIfInBounds_toArray, List.set_cons_zero, List.set_cons_succ]
            refine wpAnyG_take [17, 18, 19, 20, 21, 27, 28, 29, 30, 31] (i := 17) (v := (.pointer (some ⟨gl, j, none⟩))) rfl (by kernel_rfl) (by kernel_rfl) (by kernel_rfl) (by kernel_rfl) (by kernel_rfl) (by kernel_rfl) (by kernel_rfl) (by kernel_rfl) (fun _ _ _ h => h) (Or.inl ⟨by rfl, ?hy⟩) T0 ?_
            case hy =>
              intro X hX
              go_simp
            try simp only [Act.put, List.getElem_toArray, List.getElem_cons_zero, List.getElem_cons_succ, List.setIfInBounds_toArray, List.set_cons_zero, List.set_cons_succ]
            refine wpAnyG_take [18, 19, 20, 21, 27, 28, 29, 30, 31] (i := 18) (v := (.slice (some ⟨gf, 0, none⟩) n cf)) rfl (by kernel_rfl) (by kernel_rfl) (by kernel_rfl) (by kernel_rfl) (by kernel_rfl) (by kernel_rfl) (by kernel_rfl) (by kernel_rfl) (fun _ _ _ h => h) (Or.inl ⟨by rfl, ?hy⟩) T0 ?_
            case hy =>
              intro X hX
              have e0 := at_below m1 hX
              go_simp
            try simp only [Act.put, List.getElem_toArray, List.getElem_cons_zero, List.getElem_cons_succ, List.setIfInBounds_toArray, List.set_cons_zero, List.set_cons_succ]
            refine wpAnyG_take [19, 20, 21, 27, 28, 29, 30, 31] (i := 19) (v := (.int .i64 n)) rfl (by kernel_rfl) (by kernel_rfl) (by kernel_rfl) (by kernel_rfl) (by kernel_rfl) (by kernel_rfl) (by kernel_rfl) (by kernel_rfl) (fun _ _ _ h => h) (Or.inl ⟨by rfl, ?hy⟩) T0 ?_
            case hy =>
              intro X hX
              go_simp
            try simp only [Act.put, List.getElem_toArray, List.getElem_cons_zero, List.getElem_cons_succ, List.setIfInBounds_toArray, List.set_cons_zero, List.set_cons_succ]
            refine wpAnyG_take [20, 21, 27, 28, 29, 30, 31] (i := 20) (v := (.int .i64 ((n : Int) + 1))) rfl (by kernel_rfl) (by kernel_rfl) (by kernel_rfl) (by kernel_rfl) (by kernel_rfl) (by kernel_rfl) (by kernel_rfl) (by kernel_rfl) (fun _ _ _ h => h) (Or.inl ⟨by rfl, ?hy⟩) T0 ?_
            case hy =>
              intro X hX
              go_simp
            try simp only [Act.put, List.getElem_toArray, List.getElem_cons_zero, List.getElem_cons_succ, List.setIfInBounds_toArray, List.set_cons_zero, List.set_cons_succ]
            refine wpAnyG_take [21, 27, 28, 29, 30, 31] (i := 21) (v := (.slice (some ⟨gf, 0, none⟩) (n + 1) cf)) rfl (by kernel_rfl) (by kernel_rfl) (by kernel_rfl) (by kernel_rfl) (by kernel_rfl) (by kernel_rfl) (by kernel_rfl) (by kernel_rfl) (fun _ _ _ h => h) (Or.inl ⟨by rfl, ?hy⟩) T0 ?_
            case hy =>
              intro X hX
              go_simp
            try simp only [Act.put, List.getElem_toArray, List.getElem_cons_zero, List.getElem_cons_succ, List.setIfInBounds_toArray, List.set_cons_zero, List.set_cons_succ]
            refine wpAnyG_take [22, 24, 25, 26, 27, 28, 29, 30, 31] (i := 22) (v := (.slice (some ⟨gl, 0, none⟩) k fc)) rfl (by kernel_rfl) (by kernel_rfl) (by kernel_rfl) (by kernel_rfl) (by kernel_rfl) (by kernel_rfl) (by kernel_rfl) (by kernel_rfl) (fun _ _ _ h => h) (Or.inl ⟨by rfl, ?hy⟩) T0 ?_
            case hy =>
              intro X hX
              go_simp
            try simp only [Act.put, List.getElem_toArray, List.getElem_cons_zero, List.getElem_cons_succ, List.setIfInBounds_toArray, List.set_cons_zero, List.set_cons_succ]
            refine wpAnyG_all (rs := [23]) (by kernel_rfl) (by simp) ?_
            intro i hi
            simp only [List.mem_cons, List.not_mem_nil, or_false] at hi
            subst hi
            refine wpOp_open rfl (by rfl) ?_
            go_simp
            refine ⟨fun _ => T0, ?_⟩
            try simp only [Act.put, List.getElem_toArray, List.getElem_cons_zero, List.getElem_cons_succ, List.setIfInBounds_toArray, List.set_cons_zero, List.set_cons_succ]
            refine wpAnyG_take [24, 25, 26, 27, 28, 29, 30, 31] (i := 24) (v := (.pointer (some ⟨gl, j, none⟩))) rfl (by kernel_rfl) (by kernel_rfl) (by kernel_rfl) (by kernel_rfl) (by kernel_rfl) (by kernel_rfl) (by kernel_rfl) (by kernel_rfl) (fun _ _ _ h => h) (Or.inl ⟨by rfl, ?hy⟩) T0 ?_
            case hy =>
              intro X hX
              go_simp
            try simp only [Act.put, List.getElem_toArray, List.getElem_cons_zero, List.getElem_cons_succ, List.setIfInBounds_toArray, List.set_cons_zero, List.set_cons_succ]
            refine wpAnyG_take [25, 26, 27, 28, 29, 30, 31] (i := 25) (v := (.slice (some ⟨gf, 0, none⟩) n cf)) rfl (by kernel_rfl) (by kernel_rfl) (by kernel_rfl) (by kernel_rfl) (by kernel_rfl) (by kernel_rfl) (by kernel_rfl) (by kernel_rfl) (fun _ _ _ h => h) (Or.inl ⟨by rfl, ?hy⟩) T0 ?_
            case hy =>
              intro X hX
              have e0 := at_below m1 hX
              go_simp
            try simp only [Act.put, List.getElem_toArray, List.getElem_cons_zero, List.getElem_cons_succ, List.setIfInBounds_toArray, List.set_cons_zero, List.set_cons_succ]
            refine wpAnyG_take [26, 27, 28, 29, 30, 31] (i := 26) (v := (.int .i64 n)) rfl (by kernel_rfl) (by kernel_rfl) (by kernel_rfl) (by kernel_rfl) (by kernel_rfl) (by kernel_rfl) (by kernel_rfl) (by kernel_rfl) (fun _ _ _ h => h) (Or.inl ⟨by rfl, ?hy⟩) T0 ?_
            case hy =>
              intro X hX
              go_simp
            try simp only [Act.put, List.getElem_toArray, List.getElem_cons_zero, List.getElem_cons_succ, List.setIfInBounds_toArray, List.set_cons_zero, List.set_cons_succ]
            refine wpAnyG_take [27, 28, 29, 30, 31] (i := 27) (v := (.pointer (some ⟨gf, n * 6, none⟩))) rfl (by kernel_rfl) (by kernel_rfl) (by kernel_rfl) (by kernel_rfl) (by kernel_rfl) (by kernel_rfl) (by kernel_rfl) (by kernel_rfl) (fun _ _ _ h => h) (Or.inl ⟨by rfl, ?hy⟩) T0 ?_
            case hy =>
              intro X hX
              go_simp
            try simp only [Act.put, List.getElem_toArray, List.getElem_cons_zero, List.getElem_cons_succ, List.setIfInBounds_toArray, List.set_cons_zero, List.set_cons_succ]
            refine wpAnyG_take [28, 29, 30, 31] (i := 28) (v := (.pointer (some ⟨gf, n * 6, none⟩))) rfl (by kernel_rfl) (by kernel_rfl) (by kernel_rfl) (by kernel_rfl) (by kernel_rfl) (by kernel_rfl) (by kernel_rfl) (by kernel_rfl) (fun _ _ _ h => h) (Or.inl ⟨by rfl, ?hy⟩) T0 ?_
            case hy =>
              intro X hX
              go_simp
            try simp only [Act.put, List.getElem_toArray, List.getElem_cons_zero, List.getElem_cons_succ, List.setIfInBounds_toArray, List.set_cons_zero, List.set_cons_succ]
            refine wpAnyG_take [29, 30, 31] (i := 29) (v := (.int .i64 (-7))) rfl (by kernel_rfl) (by kernel_rfl) (by kernel_rfl) (by kernel_rfl) (by kernel_rfl) (by kernel_rfl) (by kernel_rfl) (by kernel_rfl) (fun _ _ _ h => h) (Or.inl ⟨by rfl, ?hy⟩) T0 ?_
            case hy =>
              intro X hX
              have e0 := at_below m3 hX
              go_simp
            try simp only [Act.put, List.getElem_toArray, List.getElem_cons_zero, List.getElem_cons_succ, List.setIfInBounds_toArray, List.set_cons_zero, List.set_cons_succ]
            refine wpAnyG_take [30, 31] (i := 30) (v := (.bool false)) rfl (by kernel_rfl) (by kernel_rfl) (by kernel_rfl) (by kernel_rfl) (by kernel_rfl) (by kernel_rfl) (by kernel_rfl) (by kernel_rfl) (fun _ _ _ h => h) (Or.inl ⟨by rfl, ?hy⟩) T0 ?_
            case hy =>
              intro X hX
              go_simp
            try simp only [Act.put, List.getElem_toArray, List.getElem_cons_zero, List.getElem_cons_succ, List.setIfInBounds_toArray, List.set_cons_zero, List.set_cons_succ]
            refine wpAnyG_all (rs := [31]) (by kernel_rfl) (by simp) ?_
            intro i hi
            simp only [List.mem_cons, List.not_mem_nil, or_false] at hi
            subst hi
            refine wpOp_now rfl rfl ?_
            go_simp
            refine ⟨fun _ => T0, ?_⟩
            try simp only [Act.put, List.getElem_toArray, List.getElem_cons_zero, List.getElem_cons_succ, List.setIfInBounds_toArray, List.set_cons_zero, List.set_cons_succ]
            refine wpAnyG_done (by kernel_rfl) ?_ _
            refine NoPanic.normal ?_
            have hb2 := HS.out.1.trans (T0.mono HS.out.1.size)
            clear T0 m1 m2 m3 c9
            go_wp2
            go_roundw
            case rel => exact ⟨j + 1, by go_num, by omega, hb2⟩
            case measure => simp [intOf]; omega
          obtain rfl : j = k := by omega
          obtain ⟨_, _, hVI, hBw⟩ := K5.out
          have hVI6 := hVI.belowK hb
          have hB6 := hBw.trans (hb.mono hBw.size)
          clear hVI hBw K5
          have hA6 := own_below KL.out.2.2 hb
          go_wp2_with (fail)
          refine (c4 _ (VoicesIn.at _ hVI6)).mono ?_
          rintro e w' ⟨rfl, hw⟩
          obtain rfl : wr = w' := hw.symm
          clear hw
          go_wp2_with (fail)
          refine (c5 _ (VoicesIn.at _ hVI6)).mono ?_
          rintro e w7 ⟨vm, M, rfl, hpM, hsM, hownM, hb7⟩
          obtain ⟨om, cm, rfl, _⟩ := own_slice hownM
          obtain rfl : L = M := sorted_one KL.out.1 hpM KL.out.2.1 hsM
          have c6 := fun W h h' => sung_yes L oa om ca cm (by omega) W h h'
          have hA7 := own_below hA6 hb7
          have hB7 := hB6.trans (hb7.mono hB6.size)
          have rA : RowAt w7 encS 8 oa L := RowAt.of_own encS_len hA7 rfl
          have rM : RowAt w7 encS 8 om L := RowAt.of_own encS_len hownM rfl
          clear hA6 hb7 hA7 hownM hpM hsM hVI6 hB6 c4 c5
          go_wp2_with (fail)
          refine (c6 _ rA rM).mono ?_
          rintro e w8 ⟨rfl, hb8⟩
          have hB8 := hB7.trans (hb8.mono hB7.size)
          clear rA rM
          go_wp2_with (fail)
          refine (wakes_any _).mono ?_
          rintro e w9 ⟨rfl, hb9⟩
          have hB9 := hB8.trans (hb9.mono hB8.size)
          go_wp2
          go_ret
          exact ⟨rfl, hB9⟩
end Go.Proofs.Ytieaeicpmibjkaa
