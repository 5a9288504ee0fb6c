/- PlaceOne: the law's call. -/
import Derived.Test.YtjlfdoonhfkabaaOneA
namespace Go.Proofs.Ytjlfdoonhfkabaa
set_option linter.unusedVariables false
set_option linter.unusedSimpArgs false
open Go Go.RowKit Go.Shelf
set_option maxRecDepth 100000
attribute [local go_sem] Oper.semAt_some undef

set_option maxHeartbeats 40000000 in
theorem one_short (s : ByteArray) (hs : s.size ≤ 65536) (w : World) : CallsIn Fence.wide 11 Try.prog 7 #[.string s] w fun e w' => e = .returned (.bool true) ∧ Below w.heap.size w w' := by
  have hnP := nP_le s
  refine callsIn_of_wp_marks Try.func7 rfl trivial ?_ rfl
  simp only [Try.ntmps7, List.size_toArray, List.length_cons, List.length_nil, Nat.reduceAdd, Nat.reduceSub, Array.replicate_succ, Array.replicate_zero, List.push_toArray, List.append_toArray, List.nil_append, List.cons_append]
  have hF : ∀ f, Fence.wide.fn f := fun _ => trivial
  have b0 := Blk.new w #[.bool false] 4
  have bB : Below w.heap.size w (w.alloc (.cells #[.bool false] 4)) := (Below.refl _ w).alloc (Nat.le_refl _) _
  gi_wp2_with fail
  refine (callsIn_wide.2 (works_any _)).mono ?_
  rintro e w1 ⟨rfl, hb1⟩
  have b1 := b0.below' hb1
  have hB1 := bB.trans (hb1.mono bB.size)
  gi_wp2_with fail
  refine (callsIn_wide.2 (callsIn_wide.1 (new_in s hs _))).mono ?_
  rintro e w2 ⟨m, rfl, hM, hb2⟩
  have b2 := b1.below' hb2
  have hB2 := hB1.trans (hb2.mono hB1.size)
  have d0 := (((b2.alloc (.cells #[.pointer (some ⟨m, 0, none⟩)] 23)).alloc (.cells #[.int .i64 (-1), .int .i64 0, .int .i64 0, .int .i64 0, .int .i64 0] 28)).alloc (.cells #[.int .i64 0] 3))
  gi_wp2_with (first | (gi_at_call 22; refine (callsIn_wide.2 (each_any _ _)).mono ?_; rintro e w' ⟨rfl, rfl⟩))
  have hN0 : w2.heap.size = w2.heap.size := rfl
  have a1 := (((Blk.new w2 #[.pointer (some ⟨m, 0, none⟩)] 23).alloc (.cells #[.int .i64 (-1), .int .i64 0, .int .i64 0, .int .i64 0, .int .i64 0] 28)).alloc (.cells #[.int .i64 0] 3)).alloc (.cells #[.pointer (some ⟨m, 0, none⟩)] 23)
  have a2 := ((Blk.new (w2.alloc (.cells #[.pointer (some ⟨m, 0, none⟩)] 23)) #[.int .i64 (-1), .int .i64 0, .int .i64 0, .int .i64 0, .int .i64 0] 28).alloc (.cells #[.int .i64 0] 3)).alloc (.cells #[.pointer (some ⟨m, 0, none⟩)] 23)
  have a3 := (Blk.new ((w2.alloc (.cells #[.pointer (some ⟨m, 0, none⟩)] 23)).alloc (.cells #[.int .i64 (-1), .int .i64 0, .int .i64 0, .int .i64 0, .int .i64 0] 28)) #[.int .i64 0] 3).alloc (.cells #[.pointer (some ⟨m, 0, none⟩)] 23)
  have a4 := Boxed.new (((w2.alloc (.cells #[.pointer (some ⟨m, 0, none⟩)] 23)).alloc (.cells #[.int .i64 (-1), .int .i64 0, .int .i64 0, .int .i64 0, .int .i64 0] 28)).alloc (.cells #[.int .i64 0] 3)) 23 (.pointer (some ⟨m, 0, none⟩))
  have a0 := d0.alloc (.cells #[.pointer (some ⟨m, 0, none⟩)] 23)
  have aB := (((hB2.alloc hB2.size (.cells #[.pointer (some ⟨m, 0, none⟩)] 23)).alloc (by have := hB2.size; simp; omega) (.cells #[.int .i64 (-1), .int .i64 0, .int .i64 0, .int .i64 0, .int .i64 0] 28)).alloc (by have := hB2.size; simp; omega) (.cells #[.int .i64 0] 3)).alloc (by have := hB2.size; simp; omega) (.cells #[.pointer (some ⟨m, 0, none⟩)] 23)
  have aS : Same w2.heap.size w2 ((((w2.alloc (.cells #[.pointer (some ⟨m, 0, none⟩)] 23)).alloc (.cells #[.int .i64 (-1), .int .i64 0, .int .i64 0, .int .i64 0, .int .i64 0] 28)).alloc (.cells #[.int .i64 0] 3)).alloc (.cells #[.pointer (some ⟨m, 0, none⟩)] 23)) :=
    fun k hk => (((((Below.refl _ w2).alloc (Nat.le_refl _) _).alloc (by simp) _).alloc (by simp; omega) _).alloc (by simp; omega) _).block k hk
  have hwN : w.heap.size < w2.heap.size := b2.lt
  obtain ⟨N, hN⟩ : ∃ N, w2.heap.size = N := ⟨_, rfl⟩
  obtain ⟨V, hV⟩ : ∃ V, (((w2.alloc (.cells #[.pointer (some ⟨m, 0, none⟩)] 23)).alloc (.cells #[.int .i64 (-1), .int .i64 0, .int .i64 0, .int .i64 0, .int .i64 0] 28)).alloc (.cells #[.int .i64 0] 3)).alloc (.cells #[.pointer (some ⟨m, 0, none⟩)] 23) = V := ⟨_, rfl⟩
  have hVs : V.heap.size = N + 4 := by rw [← hV]; simp [hN]
  rw [hV] at a0 a1 a2 a3 a4 aB aS ⊢
  simp only [World.size_alloc, hN] at a0 a1 a2 a3 a4 aS hwN ⊢
  clear hV d0 b0 b1 b2 bB hb1 hB1 hb2 hB2 hN0
  refine range_each 7 s hs (N + 1 + 1 + 1) m N w2 hM hN aS (by omega) a4 rfl (OneI s w w2 N m) (fun _ _ _ => False) (one_x hN (by omega) (by omega)) (fun _ _ _ _ _ hs _ _ => hs) ⟨⟨⟨⟨⟨a0, a1⟩, a2⟩, a3⟩, aS⟩, aB⟩ ?assign ?body ?done ?stop
  case assign =>
    intro l x W K hK
    simp only [plA, List.setIfInBounds_toArray, List.set_cons_zero, List.set_cons_succ] at hK ⊢
    gi_wp2
    exact hK
  case stop =>
    rintro D c pre W hD hp h _
    exact h.elim
  case body =>
    rintro l x Bx W ⟨⟨⟨⟨⟨q0, a3⟩, al⟩, an⟩, hS⟩, hBw⟩ hle hbx hxn
    rw [hVs] at hle
    rw [List.length_range] at al an
    have hMW := mapAt_same hM (hN ▸ hS)
    obtain ⟨fr, tt, ee, j, hrow, hjx, hjb, hjc⟩ := place_row hxn
    have cB := fun W hM => byte_any s hs m W hM (pK s x).b (pK_le s x hxn) x hxn (Nat.le_refl _) (fun _ => pK_b_succ s x)
    have cR := fun W hM => rune_any s hs m W hM x hxn
    have cU := fun W hM => unit_any s hs m W hM (pK s x).u (pK_u_le s hxn) x hxn (Nat.le_refl _) (fun _ => pK_u_succ s x)
    have cL := fun W hM => line_any s hs m W hM (pK s x).l fr tt ee hrow j (by omega) (by omega) (fun h => by have := pK_b_succ s j; omega) (pK s x).c (by omega) (by rw [hjc, show j + (x - j) = x by omega])
    rw [show j + (pK s x).c = x by omega] at cL
    rw [Nat.sub_self] at cB cU
    have hxk := pK_k s x
    have hub := pK_u_bound s x
    have hlb := pK_l_bound s x
    have hcb := pK_c_bound s x
    have hbb := pK_le s x hxn
    -- what follows from the place told last
    have hlast : x = 0 ∨ ∃ y, x = y + 1 ∧ (pK s y).b < (pK s x).b ∧ (pK s y).k = y ∧ (pK s y).u < (pK s x).u ∧ (((pK s x).l = (pK s y).l ∧ (pK s x).c = (pK s y).c + 1) ∨ ((pK s x).l = (pK s y).l + 1 ∧ (pK s x).c = 0)) := by
      cases x with
      | zero => exact .inl rfl
      | succ y =>
        right
        refine ⟨y, rfl, pK_b_succ s y, pK_k s y, pK_u_succ s y, ?_⟩
        cases h3 : nlAt s (pK s y).b with
        | false => exact .inl (pK_next h3)
        | true => exact .inr (pK_line h3)
    obtain ⟨p, hp⟩ : ∃ p, pK s x = p := ⟨_, rfl⟩
    have HP := Lib.hid hp
    rw [hp] at hbx cB cR cU cL hxk hub hlb hcb hbb hlast
    clear hp hrow hjc
    obtain ⟨pb, pk, pu, pl, pc⟩ := p
    simp only at hxk hub hlb hcb hbb hlast
    subst hxk
    simp only [plV, plA] at cB cR cU cL hbx
    have ap : Blk W Bx _ _ := hbx
    have hM3 := hMW
    have hB3 := Below.refl W.heap.size W
    have a3c := a3.cell
    have apc := ap.cell
    simp only [plA, List.setIfInBounds_toArray, List.set_cons_zero, List.set_cons_succ]
    gi_wp2_with fail
    refine (callsIn_wide.2 (cB _ hM3)).mono ?_
    rintro e w4 ⟨rfl, hb4⟩
    have hq4 : Below w4.heap.size w4 (w4.alloc (.cells #[.int .i64 pb, .int .i64 pk, .int .i64 pu, .int .i64 pl, .int .i64 pc] 28)) := (Below.refl _ w4).alloc (Nat.le_refl _) _
    have hM4 := mapAt_below (mapAt_below hM3 hb4) hq4
    have hB4 : Below W.heap.size W (w4.alloc (.cells #[.int .i64 pb, .int .i64 pk, .int .i64 pu, .int .i64 pl, .int .i64 pc] 28)) := (hB3.trans (hb4.mono hB3.size)).alloc (hB3.trans (hb4.mono hB3.size)).size _
    replace a3 := (a3.below' hb4).alloc (.cells #[.int .i64 pb, .int .i64 pk, .int .i64 pu, .int .i64 pl, .int .i64 pc] 28)
    replace ap := (ap.below' hb4).alloc (.cells #[.int .i64 pb, .int .i64 pk, .int .i64 pu, .int .i64 pl, .int .i64 pc] 28)
    replace al := (al.below' hb4).alloc (.cells #[.int .i64 pb, .int .i64 pk, .int .i64 pu, .int .i64 pl, .int .i64 pc] 28)
    replace an := (an.below' hb4).alloc (.cells #[.int .i64 pb, .int .i64 pk, .int .i64 pu, .int .i64 pl, .int .i64 pc] 28)
    have r4 := Blk.new w4 #[.int .i64 pb, .int .i64 pk, .int .i64 pu, .int .i64 pl, .int .i64 pc] 28
    have a3c := a3.cell
    have apc := ap.cell
    have alc := al.cell
    have anc := an.cell
    have r4c := r4.cell
    gi_wp2_with fail
    refine (callsIn_wide.2 (cR _ hM4)).mono ?_
    rintro e w5 ⟨rfl, hb5⟩
    have hq5 : Below w5.heap.size w5 (w5.alloc (.cells #[.int .i64 pb, .int .i64 pk, .int .i64 pu, .int .i64 pl, .int .i64 pc] 28)) := (Below.refl _ w5).alloc (Nat.le_refl _) _
    have hM5 := mapAt_below (mapAt_below hM4 hb5) hq5
    have hB5 : Below W.heap.size W (w5.alloc (.cells #[.int .i64 pb, .int .i64 pk, .int .i64 pu, .int .i64 pl, .int .i64 pc] 28)) := (hB4.trans (hb5.mono hB4.size)).alloc (hB4.trans (hb5.mono hB4.size)).size _
    replace a3 := (a3.below' hb5).alloc (.cells #[.int .i64 pb, .int .i64 pk, .int .i64 pu, .int .i64 pl, .int .i64 pc] 28)
    replace ap := (ap.below' hb5).alloc (.cells #[.int .i64 pb, .int .i64 pk, .int .i64 pu, .int .i64 pl, .int .i64 pc] 28)
    replace al := (al.below' hb5).alloc (.cells #[.int .i64 pb, .int .i64 pk, .int .i64 pu, .int .i64 pl, .int .i64 pc] 28)
    replace an := (an.below' hb5).alloc (.cells #[.int .i64 pb, .int .i64 pk, .int .i64 pu, .int .i64 pl, .int .i64 pc] 28)
    replace r4 := (r4.below' hb5).alloc (.cells #[.int .i64 pb, .int .i64 pk, .int .i64 pu, .int .i64 pl, .int .i64 pc] 28)
    have r5 := Blk.new w5 #[.int .i64 pb, .int .i64 pk, .int .i64 pu, .int .i64 pl, .int .i64 pc] 28
    have a3c := a3.cell
    have apc := ap.cell
    have alc := al.cell
    have anc := an.cell
    have r4c := r4.cell
    have r5c := r5.cell
    gi_wp2_with fail
    refine (callsIn_wide.2 (cU _ hM5)).mono ?_
    rintro e w6 ⟨rfl, hb6⟩
    have hq6 : Below w6.heap.size w6 (w6.alloc (.cells #[.int .i64 pb, .int .i64 pk, .int .i64 pu, .int .i64 pl, .int .i64 pc] 28)) := (Below.refl _ w6).alloc (Nat.le_refl _) _
    have hM6 := mapAt_below (mapAt_below hM5 hb6) hq6
    have hB6 : Below W.heap.size W (w6.alloc (.cells #[.int .i64 pb, .int .i64 pk, .int .i64 pu, .int .i64 pl, .int .i64 pc] 28)) := (hB5.trans (hb6.mono hB5.size)).alloc (hB5.trans (hb6.mono hB5.size)).size _
    replace a3 := (a3.below' hb6).alloc (.cells #[.int .i64 pb, .int .i64 pk, .int .i64 pu, .int .i64 pl, .int .i64 pc] 28)
    replace ap := (ap.below' hb6).alloc (.cells #[.int .i64 pb, .int .i64 pk, .int .i64 pu, .int .i64 pl, .int .i64 pc] 28)
    replace al := (al.below' hb6).alloc (.cells #[.int .i64 pb, .int .i64 pk, .int .i64 pu, .int .i64 pl, .int .i64 pc] 28)
    replace an := (an.below' hb6).alloc (.cells #[.int .i64 pb, .int .i64 pk, .int .i64 pu, .int .i64 pl, .int .i64 pc] 28)
    replace r4 := (r4.below' hb6).alloc (.cells #[.int .i64 pb, .int .i64 pk, .int .i64 pu, .int .i64 pl, .int .i64 pc] 28)
    replace r5 := (r5.below' hb6).alloc (.cells #[.int .i64 pb, .int .i64 pk, .int .i64 pu, .int .i64 pl, .int .i64 pc] 28)
    have r6 := Blk.new w6 #[.int .i64 pb, .int .i64 pk, .int .i64 pu, .int .i64 pl, .int .i64 pc] 28
    have a3c := a3.cell
    have apc := ap.cell
    have alc := al.cell
    have anc := an.cell
    have r4c := r4.cell
    have r5c := r5.cell
    have r6c := r6.cell
    gi_wp2_with fail
    refine (callsIn_wide.2 (cL _ hM6)).mono ?_
    rintro e w7 ⟨rfl, hb7⟩
    have hq7 : Below w7.heap.size w7 (w7.alloc (.cells #[.int .i64 pb, .int .i64 pk, .int .i64 pu, .int .i64 pl, .int .i64 pc] 28)) := (Below.refl _ w7).alloc (Nat.le_refl _) _
    have hM7 := mapAt_below (mapAt_below hM6 hb7) hq7
    have hB7 : Below W.heap.size W (w7.alloc (.cells #[.int .i64 pb, .int .i64 pk, .int .i64 pu, .int .i64 pl, .int .i64 pc] 28)) := (hB6.trans (hb7.mono hB6.size)).alloc (hB6.trans (hb7.mono hB6.size)).size _
    replace a3 := (a3.below' hb7).alloc (.cells #[.int .i64 pb, .int .i64 pk, .int .i64 pu, .int .i64 pl, .int .i64 pc] 28)
    replace ap := (ap.below' hb7).alloc (.cells #[.int .i64 pb, .int .i64 pk, .int .i64 pu, .int .i64 pl, .int .i64 pc] 28)
    replace al := (al.below' hb7).alloc (.cells #[.int .i64 pb, .int .i64 pk, .int .i64 pu, .int .i64 pl, .int .i64 pc] 28)
    replace an := (an.below' hb7).alloc (.cells #[.int .i64 pb, .int .i64 pk, .int .i64 pu, .int .i64 pl, .int .i64 pc] 28)
    replace r4 := (r4.below' hb7).alloc (.cells #[.int .i64 pb, .int .i64 pk, .int .i64 pu, .int .i64 pl, .int .i64 pc] 28)
    replace r5 := (r5.below' hb7).alloc (.cells #[.int .i64 pb, .int .i64 pk, .int .i64 pu, .int .i64 pl, .int .i64 pc] 28)
    replace r6 := (r6.below' hb7).alloc (.cells #[.int .i64 pb, .int .i64 pk, .int .i64 pu, .int .i64 pl, .int .i64 pc] 28)
    have r7 := Blk.new w7 #[.int .i64 pb, .int .i64 pk, .int .i64 pu, .int .i64 pl, .int .i64 pc] 28
    have a3c := a3.cell
    have apc := ap.cell
    have alc := al.cell
    have anc := an.cell
    have r4c := r4.cell
    have r5c := r5.cell
    have r6c := r6.cell
    have r7c := r7.cell
    have hWs : N + 4 ≤ W.heap.size := by have := (Array.getElem?_eq_some_iff.1 hbx).1; omega
    have q7 := q0.below' hB7
    obtain ⟨V7, hV7⟩ : ∃ V7, w7.alloc (.cells #[.int .i64 pb, .int .i64 pk, .int .i64 pu, .int .i64 pl, .int .i64 pc] 28) = V7 := ⟨_, rfl⟩
    rw [hV7] at a3 ap al an r4 r5 r6 r7 a3c apc alc anc r4c r5c r6c r7c hB7 q7
    clear hM3 hM4 hM5 hM6 hM7 hB3 hB4 hB5 hB6 hb4 hb5 hb6 hb7 hq4 hq5 hq6 hq7 cB cR cU cL
    have zK7 : KeepsOthers W V7 := KeepsOthers.of_grownBy (grown_none hB7) (fun j o hj => by cases hj)
    have alf := al.frozen
    have anf := an.frozen
    have hall := al.lt
    have hanl := an.lt
    have hlen : (List.range pk ++ [pk]).length = pk + 1 := by rw [List.length_append, List.length_range]; rfl
    obtain ⟨zb, hzb⟩ : ∃ z : Int, (pb : Int) = z := ⟨_, rfl⟩
    obtain ⟨zk, hzk⟩ : ∃ z : Int, (pk : Int) = z := ⟨_, rfl⟩
    obtain ⟨zu, hzu⟩ : ∃ z : Int, (pu : Int) = z := ⟨_, rfl⟩
    obtain ⟨zl, hzl⟩ : ∃ z : Int, (pl : Int) = z := ⟨_, rfl⟩
    obtain ⟨zc, hzc⟩ : ∃ z : Int, (pc : Int) = z := ⟨_, rfl⟩
    simp only [hzb, hzk, hzu, hzl, hzc] at ap an r4 r5 r6 r7 apc anc r4c r5c r6c r7c hV7 ⊢
    rcases hlast with h0 | ⟨y, hy, l1, l2, l3, l4⟩
    · have hl0 : lastC s pk = #[.int .i64 (-1), .int .i64 0, .int .i64 0, .int .i64 0, .int .i64 0] := by rw [h0]; rfl
      rw [hl0] at alc al
      have i1 : decide ((0 : Int) < zk) = false := decide_eq_false (by omega)
      have wr1 : IntKind.i64.wrap (zk + 1) = zk + 1 := IntWalk.i64_in _ (by omega)
      have H0 := Lib.hid h0
      have HZ := Lib.hid (And.intro hzb (And.intro hzk (And.intro hzu (And.intro hzl hzc))))
      clear h0 hl0 hzb hzk hzu hzl hzc
      gi_wp2
      exact one_next HP.out HZ.out q7 a3 al an hS hB7 hWs hwN hBw
    · have hl0 : lastC s pk = plA (pK s y) := by rw [hy]; rfl
      have hqc := pK_c_bound s y
      have hql := pK_l_bound s y
      rw [hl0] at alc al
      obtain ⟨q, hq⟩ : ∃ q, pK s y = q := ⟨_, rfl⟩
      rw [hq] at l1 l2 l3 l4 al alc hqc hql
      clear hq hl0
      obtain ⟨qb, qk, qu, ql, qc⟩ := q
      simp only [plA] at l1 l2 l3 l4 al alc hqc hql
      obtain ⟨yb, hyb⟩ : ∃ z : Int, (qb : Int) = z := ⟨_, rfl⟩
      obtain ⟨yk, hyk⟩ : ∃ z : Int, (qk : Int) = z := ⟨_, rfl⟩
      obtain ⟨yu, hyu⟩ : ∃ z : Int, (qu : Int) = z := ⟨_, rfl⟩
      obtain ⟨yl, hyl⟩ : ∃ z : Int, (ql : Int) = z := ⟨_, rfl⟩
      obtain ⟨yc, hyc⟩ : ∃ z : Int, (qc : Int) = z := ⟨_, rfl⟩
      simp only [hyb, hyk, hyu, hyl, hyc] at al alc
      have E1 : zk = yk + 1 := by omega
      have i0 : decide ((0 : Int) < yk + 1) = true := decide_eq_true (by omega)
      have i1 : decide (zb ≤ yb) = false := decide_eq_false (by omega)
      have i2 : decide (zu ≤ yu) = false := decide_eq_false (by omega)
      have wr1 : IntKind.i64.wrap (yk + 1 + 1) = yk + 1 + 1 := IntWalk.i64_in _ (by omega)
      have i6 : IntKind.i64.wrap (yk + 1) = yk + 1 := IntWalk.i64_in _ (by omega)
      have i7 : IntKind.i64.wrap (yl + 1) = yl + 1 := IntWalk.i64_in _ (by omega)
      have i8 : IntKind.i64.wrap (yc + 1) = yc + 1 := IntWalk.i64_in _ (by omega)
      have HY := Lib.hid hy
      rcases l4 with ⟨m1, m2⟩ | ⟨m1, m2⟩
      · have E2 : zl = yl := by omega
        have E3 : zc = yc + 1 := by omega
        have HZ := Lib.hid (And.intro hzb (And.intro hzk (And.intro hzu (And.intro hzl hzc))))
        clear hzb hzk hzu hzl hzc hyb hyk hyu hyl hyc hy l1 l2 l3 m1 m2
        subst E1 E2 E3
        gi_wp2
        exact one_next HP.out HZ.out q7 a3 al an hS hB7 hWs hwN hBw
      · have E2 : zl = yl + 1 := by omega
        have j4 : (zc != 0) = false := by rw [bne_eq_false_iff_eq]; omega
        have j1 : ((yl + 1) == yl) = false := by rw [beq_eq_false_iff_ne]; omega
        have j2 : decide (yl < yl + 1) = true := decide_eq_true (by omega)
        have j3 : decide (yl + 1 < yl) = false := decide_eq_false (by omega)
        have HZ := Lib.hid (And.intro hzb (And.intro hzk (And.intro hzu (And.intro hzl hzc))))
        clear hzb hzk hzu hzl hzc hyb hyk hyu hyl hyc hy l1 l2 l3 m1 m2
        subst E1 E2
        gi_wp2
        exact one_next HP.out HZ.out q7 a3 al an hS hB7 hWs hwN hBw
  case done =>
    rintro D U hD ⟨⟨⟨⟨⟨q0, a3⟩, al⟩, an⟩, hS⟩, hBw⟩ hK
    rw [hVs] at hD
    rw [List.length_range] at al an
    have hMU := mapAt_same hM (hN ▸ hS)
    have cE := fun W hM => end_any s hs m W hM
    have hl0 : lastC s (nP s + 1) = plA (pK s (nP s)) := rfl
    rw [hl0] at al
    obtain ⟨q, hq⟩ : ∃ q, pK s (nP s) = q := ⟨_, rfl⟩
    rw [hq] at al cE
    clear hq hl0
    obtain ⟨qb, qk, qu, ql, qc⟩ := q
    simp only [plA, plV] at al cE
    obtain ⟨n1, hn1⟩ : ∃ n1, nP s + 1 = n1 := ⟨_, rfl⟩
    rw [hn1] at an
    have hn0 : decide ((0 : Int) < (n1 : Int)) = true := decide_eq_true (by omega)
    have hn9 : 0 < n1 := by omega
    clear hn1
    have c3 := a3.cell 0
    have cn := an.cell 0
    have l0 := al.cell 0
    have l1 := al.cell 1
    have l2 := al.cell 2
    have l3 := al.cell 3
    have l4 := al.cell 4
    simp only [List.getElem?_toArray, List.getElem?_cons_succ, List.getElem?_cons_zero] at c3 cn l0 l1 l2 l3 l4
    gi_wp2
    refine wpIn_wide.2 ?_
    refine wp_region_noPanic ?_
    refine wp_region_g (S := untilG [11] (fun X => Below U.heap.size U X)) (by kernel_rfl) ?_
    obtain ⟨X0, hX0⟩ : ∃ X, U.drew = X := ⟨_, rfl⟩
    have T0 : Below U.heap.size U X0 := hX0 ▸ (Below.refl U.heap.size U).drew
    have B0 := T0
    rw [hX0]
    clear hX0
    refine wpAnyG_take [0, 1, 2, 7, 8, 10] (i := 0) (v := (.int .i64 n1)) rfl (by kernel_rfl) (by kernel_rfl) (by kernel_rfl) (by kernel_rfl) (by kernel_rfl) (by kernel_rfl) (by kernel_rfl) (by kernel_rfl) (fun _ _ _ h => h) (Or.inl ⟨by rfl, ?hy⟩) T0 ?_
    case hy =>
      intro X hX
      have e1 := at_below cn hX
      go_simp
    try simp only [Act.put, List.getElem_toArray, List.getElem_cons_zero, List.getElem_cons_succ, List.setIfInBounds_toArray, List.set_cons_zero, List.set_cons_succ]
    refine wpAnyG_take [1, 2, 7, 8, 10] (i := 1) (v := (.bool true)) rfl (by kernel_rfl) (by kernel_rfl) (by kernel_rfl) (by kernel_rfl) (by kernel_rfl) (by kernel_rfl) (by kernel_rfl) (by kernel_rfl) (fun _ _ _ h => h) (Or.inl ⟨by rfl, ?hy⟩) T0 ?_
    case hy =>
      intro X hX
      skip
      go_simp
    try simp only [Act.put, List.getElem_toArray, List.getElem_cons_zero, List.getElem_cons_succ, List.setIfInBounds_toArray, List.set_cons_zero, List.set_cons_succ]
    refine wpAnyG_take [2, 7, 8, 10] (i := 2) (v := (.bool true)) rfl (by kernel_rfl) (by kernel_rfl) (by kernel_rfl) (by kernel_rfl) (by kernel_rfl) (by kernel_rfl) (by kernel_rfl) (by kernel_rfl) (fun _ _ _ h => h) (Or.inl ⟨by rfl, ?hy⟩) T0 ?_
    case hy =>
      intro X hX
      skip
      go_simp
    try simp only [Act.put, List.getElem_toArray, List.getElem_cons_zero, List.getElem_cons_succ, List.setIfInBounds_toArray, List.set_cons_zero, List.set_cons_succ]
    refine wpAnyG_take [3, 6, 7, 8, 10] (i := 3) (v := (.agg #[.int .i64 qb, .int .i64 qk, .int .i64 qu, .int .i64 ql, .int .i64 qc])) rfl (by kernel_rfl) (by kernel_rfl) (by kernel_rfl) (by kernel_rfl) (by kernel_rfl) (by kernel_rfl) (by kernel_rfl) (by kernel_rfl) (fun _ _ _ h => h) (Or.inl ⟨by rfl, ?hy⟩) T0 ?_
    case hy =>
      intro X hX
      have e0 := at_below l0 hX
      have e1 := at_below l1 hX
      have e2 := at_below l2 hX
      have e3 := at_below l3 hX
      have e4 := at_below l4 hX
      go_simp
    try simp only [Act.put, List.getElem_toArray, List.getElem_cons_zero, List.getElem_cons_succ, List.setIfInBounds_toArray, List.set_cons_zero, List.set_cons_succ]
    refine wpAnyG_take [4, 5, 6, 7, 8, 10] (i := 4) (v := (.pointer (some ⟨m, 0, none⟩))) rfl (by kernel_rfl) (by kernel_rfl) (by kernel_rfl) (by kernel_rfl) (by kernel_rfl) (by kernel_rfl) (by kernel_rfl) (by kernel_rfl) (fun _ _ _ h => h) (Or.inl ⟨by rfl, ?hy⟩) T0 ?_
    case hy =>
      intro X hX
      have e1 := at_below c3 hX
      go_simp
    try simp only [Act.put, List.getElem_toArray, List.getElem_cons_zero, List.getElem_cons_succ, List.setIfInBounds_toArray, List.set_cons_zero, List.set_cons_succ]
    refine wpAnyG_all (rs := [5]) (by kernel_rfl) (by simp) ?_
    intro i hi
    simp only [List.mem_cons, List.not_mem_nil, or_false] at hi
    subst hi
    refine wpOp_open rfl (by rfl) ?_
    go_simp
    refine (cE X0 (mapAt_below hMU B0)).mono ?_
    rintro e X1 ⟨rfl, b1⟩
    have B1 := B0.trans (b1.mono B0.size)
    have T0 := B1
    refine ⟨fun _ => T0, ?_⟩
    try simp only [Act.put, List.getElem_toArray, List.getElem_cons_zero, List.getElem_cons_succ, List.setIfInBounds_toArray, List.set_cons_zero, List.set_cons_succ]
    refine wpAnyG_take [6, 7, 8, 10] (i := 6) (v := (.bool true)) rfl (by kernel_rfl) (by kernel_rfl) (by kernel_rfl) (by kernel_rfl) (by kernel_rfl) (by kernel_rfl) (by kernel_rfl) (by kernel_rfl) (fun _ _ _ h => h) (Or.inl ⟨by rfl, ?hy⟩) T0 ?_
    case hy =>
      intro X hX
      skip
      go_simp
    try simp only [Act.put, List.getElem_toArray, List.getElem_cons_zero, List.getElem_cons_succ, List.setIfInBounds_toArray, List.set_cons_zero, List.set_cons_succ]
    refine wpAnyG_take [7, 8, 10] (i := 7) (v := (.bool true)) rfl (by kernel_rfl) (by kernel_rfl) (by kernel_rfl) (by kernel_rfl) (by kernel_rfl) (by kernel_rfl) (by kernel_rfl) (by kernel_rfl) (fun _ _ _ h => h) (Or.inl ⟨by rfl, ?hy⟩) T0 ?_
    case hy =>
      intro X hX
      skip
      go_simp
    try simp only [Act.put, List.getElem_toArray, List.getElem_cons_zero, List.getElem_cons_succ, List.setIfInBounds_toArray, List.set_cons_zero, List.set_cons_succ]
    refine wpAnyG_take [8, 10] (i := 8) (v := (.bool true)) rfl (by kernel_rfl) (by kernel_rfl) (by kernel_rfl) (by kernel_rfl) (by kernel_rfl) (by kernel_rfl) (by kernel_rfl) (by kernel_rfl) (fun _ _ _ h => h) (Or.inl ⟨by rfl, ?hy⟩) T0 ?_
    case hy =>
      intro X hX
      skip
      go_simp
    try simp only [Act.put, List.getElem_toArray, List.getElem_cons_zero, List.getElem_cons_succ, List.setIfInBounds_toArray, List.set_cons_zero, List.set_cons_succ]
    refine wpAnyG_all (rs := [9]) (by kernel_rfl) (by simp) ?_
    intro i hi
    simp only [List.mem_cons, List.not_mem_nil, or_false] at hi
    subst hi
    refine wpOp_open rfl (by rfl) ?_
    go_simp
    refine (works_any X1).mono ?_
    rintro e X2 ⟨rfl, b2⟩
    have B2 := B1.trans (b2.mono B1.size)
    have T0 := B2
    refine ⟨fun _ => T0, ?_⟩
    try simp only [Act.put, List.getElem_toArray, List.getElem_cons_zero, List.getElem_cons_succ, List.setIfInBounds_toArray, List.set_cons_zero, List.set_cons_succ]
    refine wpAnyG_take [10] (i := 10) (v := (.bool true)) rfl (by kernel_rfl) (by kernel_rfl) (by kernel_rfl) (by kernel_rfl) (by kernel_rfl) (by kernel_rfl) (by kernel_rfl) (by kernel_rfl) (fun _ _ _ h => h) (Or.inl ⟨by rfl, ?hy⟩) T0 ?_
    case hy =>
      intro X hX
      skip
      go_simp
    try simp only [Act.put, List.getElem_toArray, List.getElem_cons_zero, List.getElem_cons_succ, List.setIfInBounds_toArray, List.set_cons_zero, List.set_cons_succ]
    have r0 := q0.below' B2
    have r1 := r0.cell
    have r2 := r0.frozen
    have r3 := r0.lt
    refine wpAnyG_all (rs := [11]) (by kernel_rfl) (by simp) ?_
    intro i hi
    simp only [List.mem_cons, List.not_mem_nil, or_false] at hi
    subst hi
    refine wpOp_open rfl (by rfl) ?_
    go_simp
    refine ⟨fun h => (nomatch (show (false : Bool) = true from h)), ?_⟩
    refine wpAnyG_done (by kernel_rfl) ?_ _
    refine NoPanic.normal ?_
    have hDU := (Array.getElem?_eq_some_iff.1 hK).1
    have y1 := (r0.set 0 (.bool true)).cell 0
    have y2 : (X2.setCell ⟨w.heap.size, 0, none⟩ (.bool true)).heap[D]? = some (.deferred (some [])) := (Below.heap_setCell _ _ _ _ (by dsimp only; omega)).trans ((B2.block D hDU).trans hK)
    have y3 := (hBw.trans (B2.mono hBw.size)).setCell (p := ⟨w.heap.size, 0, none⟩) (by dsimp only; omega) (.bool true)
    obtain ⟨Y, hY⟩ : ∃ Y, X2.setCell ⟨w.heap.size, 0, none⟩ (.bool true) = Y := ⟨_, rfl⟩
    rw [hY] at y1 y2 y3 ⊢
    clear hY
    replace y1 : Y.cell? ⟨w.heap.size, 0, none⟩ = some (.bool true) := by simpa using y1
    gi_wp2
    have c11 : (Y.putObj D (.deferred none)).cell? ⟨w.heap.size, 0, none⟩ = some (.bool true) := (World.cell?_of_block (w := Y) (World.putObj_heap_other (by dsimp only; omega))).trans y1
    have hB11 := y3.trans (belowK_b (w := w) (Nat.le_refl _) Y D _ (.deferred none) (by omega) y2 rfl rfl)
    refine ⟨by simp, .inl ⟨_, _, rfl, run_takeDeferred (w := Y) y2, ?_⟩⟩
    refine ⟨.bool true, ?_, rfl, hB11⟩
    simp [results, Try.f7, go_sem, c11]

end Go.Proofs.Ytjlfdoonhfkabaa
