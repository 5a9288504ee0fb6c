/- RunesGo: the law's call. -/
import Derived.Test.YtgpnheaefagfiaaGo
import Derived.Test.YtgpnheaefagfiaaGr
import Derived.Test.YtgpnheaefagfiaaGt
import Derived.Test.YtgpnheaefagfiaaFm
import Derived.BigQuiet
namespace Go.Proofs.Ytgpnheaefagfiaa
set_option linter.unusedVariables false
set_option linter.unusedSimpArgs false
open Go Go.RowKit Go.Shelf
set_option maxRecDepth 100000
attribute [local go_sem] Oper.semAt_some

set_option maxHeartbeats 20000000 in
theorem go_in (s : ByteArray) (hs : s.size ≤ 1048576) (w : World) :
    CallsIn Fence.wide 11 Try.prog 12 #[.string s] w fun e w' => e = .returned (.bool true) ∧ Below w.heap.size w w' := by
  obtain ⟨iA, hiA, hzA0, hzA1, hzA2⟩ := info_parts infoI
  obtain ⟨iB, hiB, hzB0, hzB1, hzB2⟩ := info_parts infoR
  refine callsIn_of_wp_marks Try.func12 rfl trivial ?_ rfl
  simp only [Try.ntmps12, List.size_toArray, List.length_cons, List.length_nil, Nat.reduceAdd, Nat.reduceSub, Array.replicate_succ, Array.replicate_zero, List.push_toArray, List.append_toArray, List.nil_append, List.cons_append]
  have hF : ∀ f, Fence.wide.fn f := fun _ => trivial
  gi_wp2_with (first | (gi_at_call 15; refine (callsIn_wide.2 (wakes_any _)).mono ?_; rintro e w1 ⟨rfl, hb1⟩; have c0 := ((Boxed.new w 9 (.string s)).alloc (.cells #[.bool false] 4)); have c1 := (Boxed.new (w.alloc (.cells #[.string s] 9)) 4 (.bool false)); simp only [World.size_alloc] at c1 hb1; have d0 : Boxed w1 w.heap.size 9 (.string s) := Blk.below (show Blk _ _ _ _ from c0) hb1 (by omega); have d1 : Boxed w1 (w.heap.size + 1) 4 (.bool false) := Blk.below (show Blk _ _ _ _ from c1) hb1 (by omega); have e0 := d0.cell; have e1 := d0.frozen; have e2 := d1.cell; have e3 := d1.frozen; have hz : w.heap.size + 1 < w1.heap.size := (by have := hb1.size; simp only [World.size_alloc] at this; omega); have hz0' : w.heap.size < w1.heap.size := Nat.lt_trans (Nat.lt_succ_self _) hz))
  have hBw : Below w.heap.size w w1 := (((Below.refl _ w).alloc (Nat.le_refl _) _).alloc (by simp) _).trans (hb1.mono (by omega))
  obtain ⟨N, hN⟩ : ∃ N, w1.heap.size = N := ⟨_, rfl⟩
  have f0 := ((d0.alloc (.cells #[.slice none 0 0] 39)).alloc (.cells #[.slice none 0 0] 55)).alloc (.stringIter s 0)
  have f1 := ((d1.alloc (.cells #[.slice none 0 0] 39)).alloc (.cells #[.slice none 0 0] 55)).alloc (.stringIter s 0)
  have f2 := ((Boxed.new w1 39 (.slice none 0 0)).alloc (.cells #[.slice none 0 0] 55)).alloc (.stringIter s 0)
  have f3 := (Boxed.new (w1.alloc (.cells #[.slice none 0 0] 39)) 55 (.slice none 0 0)).alloc (.stringIter s 0)
  have f4 := World.iter_heap ((w1.alloc (.cells #[.slice none 0 0] 39)).alloc (.cells #[.slice none 0 0] 55)) s 0
  have hB0 := ((hBw.alloc hBw.size (.cells #[.slice none 0 0] 39)).alloc (by have := hBw.size; simp; omega) (.cells #[.slice none 0 0] 55)).alloc (by have := hBw.size; simp; omega) (.stringIter s 0)
  simp only [World.size_alloc, hN] at f2 f3 f4 hz hz0' ⊢
  have g0 : GoRel s w N (((w1.alloc (.cells #[.slice none 0 0] 39)).alloc (.cells #[.slice none 0 0] 55)).iter s 0) :=
    ⟨[], 0, .slice none 0 0, .slice none 0 0, by simp [posns_G], ⟨⟨⟨⟨⟨⟨f0, f1⟩, f2⟩, f3⟩, f4⟩, World.ownsRow_nil _ _ _ _⟩, World.ownsRow_nil _ _ _ _⟩, hB0⟩
  obtain ⟨W0, hW0⟩ : ∃ W0, (((w1.alloc (.cells #[.slice none 0 0] 39)).alloc (.cells #[.slice none 0 0] 55)).iter s 0) = W0 := ⟨_, rfl⟩
  rw [hW0] at g0 ⊢
  clear hW0 e0 e1 e2 e3 d0 d1 c0 c1 hBw hb1 hN f0 f1 f2 f3 f4 hB0
  refine wpIn_wide.2 ?_
  go_loopw [] (fun wr => GoRel s w N wr) (fun wr => s.size - wr.iterPos (N + 2))
  case atStart => exact g0
  case round =>
    clear g0
    obtain ⟨pre, pos, va, vb, hpp, hG⟩ := hrel
    have hit := hG.1.1.1.2
    by_cases hps : pos < s.size
    · have hnx : ∀ ty, (Instr.next (.pointer (some ⟨N + 2, 0, none⟩)) true ty).run Try.prog wr = _ := fun ty => Lib.run_next_any_at wr (N + 2) s pos ty hit hps
      rw [dec_eq s pos hps] at hnx
      have hG1 := gs_iter hG hz (pos + wd s pos)
      have hmeas : s.size - (pos + wd s pos) < s.size - wr.iterPos (N + 2) := by
        have := wd_pos s pos
        simp only [World.iterPos, hit]; omega
      have hlen : pre.length < s.size := by
        have h1 := posns_len s
        rw [hpp, posG_cons s pos hps] at h1
        simp at h1; omega
      have hpp2 : posns s = (pre ++ [pos]) ++ posG s (pos + wd s pos) := by rw [hpp, posG_cons s pos hps]; simp
      obtain ⟨P, hP⟩ : ∃ P, wr.iterAt (N + 2) s (pos + wd s pos) = P := ⟨_, rfl⟩
      rw [hP] at hnx hG1
      clear hP
      have HP := Lib.hid hpp2
      have HM := Lib.hid hmeas
      clear hpp hpp2 hmeas hit hG
      obtain ⟨n, hn⟩ : ∃ n, pre.length = n := ⟨_, rfl⟩
      rw [hn] at hG1 hlen
      have HN := Lib.hid hn
      clear hn
      go_wp2
      have G0 : GS s w N (pos + wd s pos) va vb va n (ints pre) vb n (rns s pre) P.drew := gs_drew hG1
      refine wp_region_noPanic ?_
      refine wp_region_g (S := untilG [8, 9] (fun X => X.cell? ⟨N, 0, none⟩ = some va ∧ X.cell? ⟨N + 1, 0, none⟩ = some vb)) (by kernel_rfl) ?_
      have T0 : P.drew.cell? ⟨N, 0, none⟩ = some va ∧ P.drew.cell? ⟨N + 1, 0, none⟩ = some vb := ⟨G0.1.1.1.1.1.2.cell, G0.1.1.1.1.2.cell⟩
      obtain ⟨X0, hX0⟩ : ∃ X, P.drew = X := ⟨_, rfl⟩
      rw [hX0] at G0 T0 ⊢
      have hD0 : P.heap.size = X0.heap.size := by rw [← hX0]; rfl
      clear hX0 hnx hG1
      refine wpAnyG_take [0] (i := 0) (v := va) rfl (by kernel_rfl) (by kernel_rfl) (by kernel_rfl) (by kernel_rfl) (by kernel_rfl) (by kernel_rfl) (by kernel_rfl) (by kernel_rfl) (fun _ _ _ h => h) (Or.inl ⟨by rfl, ?hy⟩) T0 ?_
      case hy =>
        intro X hX
        have hX1 := hX.1
        go_simp
      try simp only [Act.put, List.getElem_toArray, List.getElem_cons_zero, List.getElem_cons_succ, List.setIfInBounds_toArray, List.set_cons_zero, List.set_cons_succ]
      refine wpAnyG_take [1] (i := 1) (v := .int .i64 pos) rfl (by kernel_rfl) (by kernel_rfl) (by kernel_rfl) (by kernel_rfl) (by kernel_rfl) (by kernel_rfl) (by kernel_rfl) (by kernel_rfl) (fun _ _ _ h => h) (Or.inl ⟨by rfl, ?hy⟩) T0 ?_
      case hy =>
        intro X hX
        have hX1 := hX.1
        go_simp
      try simp only [Act.put, List.getElem_toArray, List.getElem_cons_zero, List.getElem_cons_succ, List.setIfInBounds_toArray, List.set_cons_zero, List.set_cons_succ]
      refine wpAnyG_take [4, 7] (i := 4) (v := vb) rfl (by kernel_rfl) (by kernel_rfl) (by kernel_rfl) (by kernel_rfl) (by kernel_rfl) (by kernel_rfl) (by kernel_rfl) (by kernel_rfl) (fun _ _ _ h => h) (Or.inl ⟨by rfl, ?hy⟩) T0 ?_
      case hy =>
        intro X hX
        have hX1 := hX.2
        go_simp
      try simp only [Act.put, List.getElem_toArray, List.getElem_cons_zero, List.getElem_cons_succ, List.setIfInBounds_toArray, List.set_cons_zero, List.set_cons_succ]
      refine wpAnyG_take [5, 6, 7] (i := 5) (v := .int .i32 (rn s pos : Nat)) rfl (by kernel_rfl) (by kernel_rfl) (by kernel_rfl) (by kernel_rfl) (by kernel_rfl) (by kernel_rfl) (by kernel_rfl) (by kernel_rfl) (fun _ _ _ h => h) (Or.inl ⟨by rfl, ?hy⟩) T0 ?_
      case hy =>
        intro X hX
        have hX1 := hX.1
        go_simp
      try simp only [Act.put, List.getElem_toArray, List.getElem_cons_zero, List.getElem_cons_succ, List.setIfInBounds_toArray, List.set_cons_zero, List.set_cons_succ]
      refine wpAnyG_all (rs := [2, 6]) (by kernel_rfl) (by simp) ?_
      intro i hi
      simp only [List.mem_cons, List.not_mem_nil, or_false] at hi
      rcases hi with rfl | rfl
      · refine wpOp_now rfl rfl ?_
        go_simp
        have K1 := gs_alloc G0 (.cells #[.int .i64 pos] 3)
        have CA_K1 := Blk.new X0 #[.int .i64 pos] 3
        try simp only [World.size_alloc] at CA_K1
        refine ⟨fun _ => ⟨K1.1.1.1.1.1.2.cell, K1.1.1.1.1.2.cell⟩, ?_⟩
        refine wpAnyG_all (rs := [3, 6]) (by kernel_rfl) (by simp) ?_
        intro i hi
        simp only [List.mem_cons, List.not_mem_nil, or_false] at hi
        rcases hi with rfl | rfl
        · refine wpOp_now rfl rfl ?_
          refine wp_append_lies _ _ _ _ rfl w.heap.size 3 iA (.int .i64 0) 1 8 Try.underlying39 hiA hzA0 hzA1 hzA2 rfl (by decide) va n (ints pre) rfl K1.1.1.2 ⟨_, 0, none⟩ 1 1 [.int .i64 pos] rfl rfl (World.news_of_block (cs := #[.int .i64 pos]) CA_K1) (fun x hx => by simp at hx; subst hx; rfl) (by decide) (by unfold maxLen; omega) (by omega) (by have := K1.2.size; simp at this ⊢; omega) _ rfl ?_
          intro gA capA Y hownA hgA _ _
          have K2 := gs_a K1 hgA hownA
          refine ⟨fun _ => ⟨K2.1.1.1.1.1.2.cell, K2.1.1.1.1.2.cell⟩, ?_⟩
          try simp only [Act.put, List.getElem_toArray, List.getElem_cons_zero, List.getElem_cons_succ, List.setIfInBounds_toArray, List.set_cons_zero, List.set_cons_succ]
          refine wpAnyG_all (rs := [6]) (by kernel_rfl) (by simp) ?_
          intro i hi
          simp only [List.mem_cons, List.not_mem_nil, or_false] at hi
          subst hi
          refine wpOp_now rfl rfl ?_
          go_simp
          have H11 := gs_alloc K2 (.cells #[.int .i32 (rn s pos : Nat)] 21)
          have CB_H11 := Blk.new Y #[.int .i32 (rn s pos : Nat)] 21
          try simp only [World.size_alloc] at CB_H11
          refine ⟨fun _ => ⟨H11.1.1.1.1.1.2.cell, H11.1.1.1.1.2.cell⟩, ?_⟩
          refine wpAnyG_all (rs := [7]) (by kernel_rfl) (by simp) ?_
          intro i hi
          simp only [List.mem_cons, List.not_mem_nil, or_false] at hi
          subst hi
          refine wpOp_now rfl rfl ?_
          refine wp_append_lies _ _ _ _ rfl w.heap.size 21 iB (.int .i32 0) 1 4 Try.underlying55 hiB hzB0 hzB1 hzB2 rfl (by decide) vb n (rns s pre) rfl H11.1.2 ⟨_, 0, none⟩ 1 1 [.int .i32 (rn s pos : Nat)] rfl rfl (World.news_of_block (cs := #[.int .i32 (rn s pos : Nat)]) CB_H11) (fun x hx => by simp at hx; subst hx; rfl) (by decide) (by unfold maxLen; omega) (by omega) (by have := H11.2.size; simp at this ⊢; omega) _ rfl ?_
          intro gB capB Z hownB hgB _ _
          have H12 := gs_b H11 hgB hownB
          refine ⟨fun _ => ⟨H12.1.1.1.1.1.2.cell, H12.1.1.1.1.2.cell⟩, ?_⟩
          try simp only [Act.put, List.getElem_toArray, List.getElem_cons_zero, List.getElem_cons_succ, List.setIfInBounds_toArray, List.set_cons_zero, List.set_cons_succ]
          have zc2 := H12.1.1.1.1.1.2.cell
          have zf2 := H12.1.1.1.1.1.2.frozen
          refine wpAnyG_all (rs := [8]) (by kernel_rfl) (by simp) ?_
          intro i hi
          simp only [List.mem_cons, List.not_mem_nil, or_false] at hi
          subst hi
          refine wpOp_now rfl rfl ?_
          go_simp
          have H13 := gs_sa H12 hz (.slice (some ⟨gA, 0, none⟩) (n + 1) capA)
          refine ⟨fun h => (nomatch (show (false : Bool) = true from h)), ?_⟩
          obtain ⟨V1, hV1⟩ : ∃ V, Z.setCell ⟨N, 0, none⟩ (.slice (some ⟨gA, 0, none⟩) (n + 1) capA) = V := ⟨_, rfl⟩
          rw [hV1] at H13 ⊢
          clear hV1
          have zc3 := H13.1.1.1.1.2.cell
          have zf3 := H13.1.1.1.1.2.frozen
          refine wpAnyG_all (rs := [9]) (by kernel_rfl) (by simp) ?_
          intro i hi
          simp only [List.mem_cons, List.not_mem_nil, or_false] at hi
          subst hi
          refine wpOp_now rfl rfl ?_
          go_simp
          have H14 := gs_sb H13 hz (.slice (some ⟨gB, 0, none⟩) (n + 1) capB)
          refine ⟨fun h => (nomatch (show (false : Bool) = true from h)), ?_⟩
          refine wpAnyG_done (by kernel_rfl) ?_ _
          obtain ⟨V2, hV2⟩ : ∃ V, V1.setCell ⟨N + 1, 0, none⟩ (.slice (some ⟨gB, 0, none⟩) (n + 1) capB) = V := ⟨_, rfl⟩
          rw [hV2] at H14 ⊢
          clear hV2
          refine NoPanic.normal ?_
          have hit2 := H14.1.1.1.2
          go_wp2
          go_roundw
          case rel => exact ⟨pre ++ [pos], pos + wd s pos, _, _, HP.out, by rw [List.length_append, HN.out, ints_snoc, rns_snoc]; exact H14⟩
          case measure => simp only [World.iterPos, hit2]; exact HM.out
        · refine wpOp_now rfl rfl ?_
          go_simp
          have K2 := gs_alloc K1 (.cells #[.int .i32 (rn s pos : Nat)] 21)
          have CB_K2 := Blk.new (X0.alloc (.cells #[.int .i64 pos] 3)) #[.int .i32 (rn s pos : Nat)] 21
          try simp only [World.size_alloc] at CB_K2
          have CA_K2 := CA_K1.alloc (.cells #[.int .i32 (rn s pos : Nat)] 21)
          refine ⟨fun _ => ⟨K2.1.1.1.1.1.2.cell, K2.1.1.1.1.2.cell⟩, ?_⟩
          refine wpAnyG_all (rs := [3]) (by kernel_rfl) (by simp) ?_
          intro i hi
          simp only [List.mem_cons, List.not_mem_nil, or_false] at hi
          subst hi
          refine wpOp_now rfl rfl ?_
          refine wp_append_lies _ _ _ _ rfl w.heap.size 3 iA (.int .i64 0) 1 8 Try.underlying39 hiA hzA0 hzA1 hzA2 rfl (by decide) va n (ints pre) rfl K2.1.1.2 ⟨_, 0, none⟩ 1 1 [.int .i64 pos] rfl rfl (World.news_of_block (cs := #[.int .i64 pos]) CA_K2) (fun x hx => by simp at hx; subst hx; rfl) (by decide) (by unfold maxLen; omega) (by omega) (by have := K2.2.size; simp at this ⊢; omega) _ rfl ?_
          intro gA capA Y hownA hgA _ _
          have H11 := gs_a K2 hgA hownA
          have CB_H11 := CB_K2.kept hgA (Blk.not_row CB_K2 (by decide) K2.1.1.2)
          refine ⟨fun _ => ⟨H11.1.1.1.1.1.2.cell, H11.1.1.1.1.2.cell⟩, ?_⟩
          try simp only [Act.put, List.getElem_toArray, List.getElem_cons_zero, List.getElem_cons_succ, List.setIfInBounds_toArray, List.set_cons_zero, List.set_cons_succ]
          refine wpAnyG_all (rs := [7]) (by kernel_rfl) (by simp) ?_
          intro i hi
          simp only [List.mem_cons, List.not_mem_nil, or_false] at hi
          subst hi
          refine wpOp_now rfl rfl ?_
          refine wp_append_lies _ _ _ _ rfl w.heap.size 21 iB (.int .i32 0) 1 4 Try.underlying55 hiB hzB0 hzB1 hzB2 rfl (by decide) vb n (rns s pre) rfl H11.1.2 ⟨_, 0, none⟩ 1 1 [.int .i32 (rn s pos : Nat)] rfl rfl (World.news_of_block (cs := #[.int .i32 (rn s pos : Nat)]) CB_H11) (fun x hx => by simp at hx; subst hx; rfl) (by decide) (by unfold maxLen; omega) (by omega) (by have := H11.2.size; simp at this ⊢; omega) _ rfl ?_
          intro gB capB Z hownB hgB _ _
          have H12 := gs_b H11 hgB hownB
          refine ⟨fun _ => ⟨H12.1.1.1.1.1.2.cell, H12.1.1.1.1.2.cell⟩, ?_⟩
          try simp only [Act.put, List.getElem_toArray, List.getElem_cons_zero, List.getElem_cons_succ, List.setIfInBounds_toArray, List.set_cons_zero, List.set_cons_succ]
          have zc2 := H12.1.1.1.1.1.2.cell
          have zf2 := H12.1.1.1.1.1.2.frozen
          refine wpAnyG_all (rs := [8]) (by kernel_rfl) (by simp) ?_
          intro i hi
          simp only [List.mem_cons, List.not_mem_nil, or_false] at hi
          subst hi
          refine wpOp_now rfl rfl ?_
          go_simp
          have H13 := gs_sa H12 hz (.slice (some ⟨gA, 0, none⟩) (n + 1) capA)
          refine ⟨fun h => (nomatch (show (false : Bool) = true from h)), ?_⟩
          obtain ⟨V1, hV1⟩ : ∃ V, Z.setCell ⟨N, 0, none⟩ (.slice (some ⟨gA, 0, none⟩) (n + 1) capA) = V := ⟨_, rfl⟩
          rw [hV1] at H13 ⊢
          clear hV1
          have zc3 := H13.1.1.1.1.2.cell
          have zf3 := H13.1.1.1.1.2.frozen
          refine wpAnyG_all (rs := [9]) (by kernel_rfl) (by simp) ?_
          intro i hi
          simp only [List.mem_cons, List.not_mem_nil, or_false] at hi
          subst hi
          refine wpOp_now rfl rfl ?_
          go_simp
          have H14 := gs_sb H13 hz (.slice (some ⟨gB, 0, none⟩) (n + 1) capB)
          refine ⟨fun h => (nomatch (show (false : Bool) = true from h)), ?_⟩
          refine wpAnyG_done (by kernel_rfl) ?_ _
          obtain ⟨V2, hV2⟩ : ∃ V, V1.setCell ⟨N + 1, 0, none⟩ (.slice (some ⟨gB, 0, none⟩) (n + 1) capB) = V := ⟨_, rfl⟩
          rw [hV2] at H14 ⊢
          clear hV2
          refine NoPanic.normal ?_
          have hit2 := H14.1.1.1.2
          go_wp2
          go_roundw
          case rel => exact ⟨pre ++ [pos], pos + wd s pos, _, _, HP.out, by rw [List.length_append, HN.out, ints_snoc, rns_snoc]; exact H14⟩
          case measure => simp only [World.iterPos, hit2]; exact HM.out
      · refine wpOp_now rfl rfl ?_
        go_simp
        have K1 := gs_alloc G0 (.cells #[.int .i32 (rn s pos : Nat)] 21)
        have CB_K1 := Blk.new X0 #[.int .i32 (rn s pos : Nat)] 21
        try simp only [World.size_alloc] at CB_K1
        refine ⟨fun _ => ⟨K1.1.1.1.1.1.2.cell, K1.1.1.1.1.2.cell⟩, ?_⟩
        refine wpAnyG_all (rs := [2]) (by kernel_rfl) (by simp) ?_
        intro i hi
        simp only [List.mem_cons, List.not_mem_nil, or_false] at hi
        subst hi
        refine wpOp_now rfl rfl ?_
        go_simp
        have H11 := gs_alloc K1 (.cells #[.int .i64 pos] 3)
        have CA_H11 := Blk.new (X0.alloc (.cells #[.int .i32 (rn s pos : Nat)] 21)) #[.int .i64 pos] 3
        try simp only [World.size_alloc] at CA_H11
        have CB_H11 := CB_K1.alloc (.cells #[.int .i64 pos] 3)
        refine ⟨fun _ => ⟨H11.1.1.1.1.1.2.cell, H11.1.1.1.1.2.cell⟩, ?_⟩
        refine wpAnyG_all (rs := [3]) (by kernel_rfl) (by simp) ?_
        intro i hi
        simp only [List.mem_cons, List.not_mem_nil, or_false] at hi
        subst hi
        refine wpOp_now rfl rfl ?_
        refine wp_append_lies _ _ _ _ rfl w.heap.size 3 iA (.int .i64 0) 1 8 Try.underlying39 hiA hzA0 hzA1 hzA2 rfl (by decide) va n (ints pre) rfl H11.1.1.2 ⟨_, 0, none⟩ 1 1 [.int .i64 pos] rfl rfl (World.news_of_block (cs := #[.int .i64 pos]) CA_H11) (fun x hx => by simp at hx; subst hx; rfl) (by decide) (by unfold maxLen; omega) (by omega) (by have := H11.2.size; simp at this ⊢; omega) _ rfl ?_
        intro gA capA Y hownA hgA _ _
        have H12 := gs_a H11 hgA hownA
        have CB_H12 := CB_H11.kept hgA (Blk.not_row CB_H11 (by decide) H11.1.1.2)
        refine ⟨fun _ => ⟨H12.1.1.1.1.1.2.cell, H12.1.1.1.1.2.cell⟩, ?_⟩
        try simp only [Act.put, List.getElem_toArray, List.getElem_cons_zero, List.getElem_cons_succ, List.setIfInBounds_toArray, List.set_cons_zero, List.set_cons_succ]
        refine wpAnyG_all (rs := [7]) (by kernel_rfl) (by simp) ?_
        intro i hi
        simp only [List.mem_cons, List.not_mem_nil, or_false] at hi
        subst hi
        refine wpOp_now rfl rfl ?_
        refine wp_append_lies _ _ _ _ rfl w.heap.size 21 iB (.int .i32 0) 1 4 Try.underlying55 hiB hzB0 hzB1 hzB2 rfl (by decide) vb n (rns s pre) rfl H12.1.2 ⟨_, 0, none⟩ 1 1 [.int .i32 (rn s pos : Nat)] rfl rfl (World.news_of_block (cs := #[.int .i32 (rn s pos : Nat)]) CB_H12) (fun x hx => by simp at hx; subst hx; rfl) (by decide) (by unfold maxLen; omega) (by omega) (by have := H12.2.size; simp at this ⊢; omega) _ rfl ?_
        intro gB capB Z hownB hgB _ _
        have H13 := gs_b H12 hgB hownB
        refine ⟨fun _ => ⟨H13.1.1.1.1.1.2.cell, H13.1.1.1.1.2.cell⟩, ?_⟩
        try simp only [Act.put, List.getElem_toArray, List.getElem_cons_zero, List.getElem_cons_succ, List.setIfInBounds_toArray, List.set_cons_zero, List.set_cons_succ]
        have zc2 := H13.1.1.1.1.1.2.cell
        have zf2 := H13.1.1.1.1.1.2.frozen
        refine wpAnyG_all (rs := [8]) (by kernel_rfl) (by simp) ?_
        intro i hi
        simp only [List.mem_cons, List.not_mem_nil, or_false] at hi
        subst hi
        refine wpOp_now rfl rfl ?_
        go_simp
        have H14 := gs_sa H13 hz (.slice (some ⟨gA, 0, none⟩) (n + 1) capA)
        refine ⟨fun h => (nomatch (show (false : Bool) = true from h)), ?_⟩
        obtain ⟨V1, hV1⟩ : ∃ V, Z.setCell ⟨N, 0, none⟩ (.slice (some ⟨gA, 0, none⟩) (n + 1) capA) = V := ⟨_, rfl⟩
        rw [hV1] at H14 ⊢
        clear hV1
        have zc3 := H14.1.1.1.1.2.cell
        have zf3 := H14.1.1.1.1.2.frozen
        refine wpAnyG_all (rs := [9]) (by kernel_rfl) (by simp) ?_
        intro i hi
        simp only [List.mem_cons, List.not_mem_nil, or_false] at hi
        subst hi
        refine wpOp_now rfl rfl ?_
        go_simp
        have H15 := gs_sb H14 hz (.slice (some ⟨gB, 0, none⟩) (n + 1) capB)
        refine ⟨fun h => (nomatch (show (false : Bool) = true from h)), ?_⟩
        refine wpAnyG_done (by kernel_rfl) ?_ _
        obtain ⟨V2, hV2⟩ : ∃ V, V1.setCell ⟨N + 1, 0, none⟩ (.slice (some ⟨gB, 0, none⟩) (n + 1) capB) = V := ⟨_, rfl⟩
        rw [hV2] at H15 ⊢
        clear hV2
        refine NoPanic.normal ?_
        have hit2 := H15.1.1.1.2
        go_wp2
        go_roundw
        case rel => exact ⟨pre ++ [pos], pos + wd s pos, _, _, HP.out, by rw [List.length_append, HN.out, ints_snoc, rns_snoc]; exact H15⟩
        case measure => simp only [World.iterPos, hit2]; exact HM.out
    · have he := posG_end s pos (by omega)
      rw [he, List.append_nil] at hpp
      have hnx := fun ty => Lib.run_next_end_at (P := Try.prog) wr (N + 2) s pos ty hit (by omega)
      subst hpp
      have hpl := posns_len s
      obtain ⟨n, hn⟩ : ∃ n, (posns s).length = n := ⟨_, rfl⟩
      rw [hn] at hG hpl
      have HN := Lib.hid hn
      clear hn he hit
      have zc0 := hG.1.1.1.1.1.1.1.cell
      have zc2 := hG.1.1.1.1.1.2.cell
      have zf2 := hG.1.1.1.1.1.2.frozen
      have zc3 := hG.1.1.1.1.2.cell
      go_wp2
      have hG0 := gs_alloc hG (.cells #[.int .i64 s.size] 3)
      refine wpIn_seq ?_
      refine wpIn_wide.2 ?_
      refine wp_region_lit ?_
      refine wpList_plain rfl fun Kq hKq => ?_
      go_simp
      refine hKq _ _ ?_
      clear hKq Kq
      refine wpList_plain rfl fun Kq hKq => ?_
      go_simp
      refine hKq _ _ ?_
      clear hKq Kq
      refine wpList_plain rfl fun Kq hKq => ?_
      go_simp
      refine hKq _ _ ?_
      clear hKq Kq
      refine wpList_plain rfl fun Kq hKq => ?_
      go_simp
      refine hKq _ _ ?_
      clear hKq Kq
      refine wpList_append_own _ rfl _ _ 39 rfl w.heap.size 3 iA (.int .i64 0) 1 8 Try.underlying39 hiA hzA0 hzA1 hzA2 rfl (by decide) va n (ints (posns s)) rfl hG0.1.1.2 ⟨wr.heap.size, 0, none⟩ 1 1 [.int .i64 s.size] rfl rfl (cell_one_new _ _ _) (fun x hx => by simp at hx; subst hx; rfl) (by unfold maxLen; omega) (by omega) hG0.2.size ?_
      intro va' w2 hown' hgrow _
      obtain ⟨oa, ca, rfl, hoa⟩ := own_slice hown'
      have G2 := gs_a hG0 hgrow hown'
      have y2 := G2.1.1.1.1.1.2.cell
      have y3 := G2.1.1.1.1.1.2.frozen
      refine wpList_plain rfl fun Kq hKq => ?_
      go_simp
      refine hKq _ _ ?_
      clear hKq Kq
      refine wpList_nil ?_
      have G3 := gs_sa G2 hz (.slice oa (n + 1) ca)
      obtain ⟨W1, hW1⟩ : ∃ W1, w2.setCell ⟨N, 0, none⟩ (.slice oa (n + 1) ca) = W1 := ⟨_, rfl⟩
      rw [hW1] at G3 ⊢
      clear hW1 G2 hG0 hG hown' hgrow zc0 zc2 zf2 zc3 y2 y3
      have y0 := G3.1.1.1.1.1.1.1.cell
      have y1 := Blk.lt (show Blk _ _ _ _ from G3.1.1.1.1.1.1.1)
      gi_wp2_with (first | (gi_at_call 20; refine (callsIn_wide.2 (pieces_any _ _)).mono ?_; rintro e w' ⟨rfl, rfl⟩))
      obtain ⟨L, hL⟩ : ∃ L, W1.heap.size = L := ⟨_, rfl⟩
      obtain ⟨⟨⟨⟨⟨⟨⟨g0, g1⟩, g2⟩, g3⟩, _⟩, g5⟩, g6⟩, gB⟩ := G3
      have f0 := (g0.alloc (.cells #[.int .i64 0] 3)).alloc (.cells #[.string s] 9)
      have f1 := (g1.alloc (.cells #[.int .i64 0] 3)).alloc (.cells #[.string s] 9)
      have f2 := (g2.alloc (.cells #[.int .i64 0] 3)).alloc (.cells #[.string s] 9)
      have f3 := (g3.alloc (.cells #[.int .i64 0] 3)).alloc (.cells #[.string s] 9)
      have f5 := (g5.alloc (.cells #[.int .i64 0] 3)).alloc (.cells #[.string s] 9)
      have f6 := (g6.alloc (.cells #[.int .i64 0] 3)).alloc (.cells #[.string s] 9)
      have f7 := (Boxed.new W1 3 (.int .i64 0)).alloc (.cells #[.string s] 9)
      have f8 := Boxed.new (W1.alloc (.cells #[.int .i64 0] 3)) 9 (.string s)
      have fB := (gB.alloc gB.size (.cells #[.int .i64 0] 3)).alloc (by have := gB.size; simp; omega) (.cells #[.string s] 9)
      have l0 : w.heap.size < L := hL ▸ y1
      have l2 : N < L := hL ▸ Blk.lt (show Blk _ _ _ _ from g2)
      have l3 : N + 1 < L := hL ▸ Blk.lt (show Blk _ _ _ _ from g3)
      have hsz : ((W1.alloc (.cells #[.int .i64 0] 3)).alloc (.cells #[.string s] 9)).heap.size = L + 2 := by simp [hL]
      simp only [World.size_alloc, hL] at f7 f8 ⊢
      obtain ⟨W2, hW2⟩ : ∃ W2, ((W1.alloc (.cells #[.int .i64 0] 3)).alloc (.cells #[.string s] 9)) = W2 := ⟨_, rfl⟩
      rw [hW2] at f0 f1 f2 f3 f5 f6 f7 f8 fB hsz ⊢
      clear hW2 g0 g1 g2 g3 g5 g6 gB y0 y1 hL
      refine range_pieces 8 s (by omega) (L + 1) f8 rfl (GoI s w N L n)
        (fun (c : Code) (pre : List (Pos s)) (W : World) => ¬ (List.map (fun (x : Pos s) => (x.1 : Nat)) pre <+: posns s))
        (OwnFrom.and (OwnFrom.and (OwnFrom.and (OwnFrom.and (OwnFrom.and (OwnFrom.and (Own.from (boxed_own _ _ _) _) (Own.from (boxed_own _ _ _) _)) (Own.from (boxRow_own _ _ _ _ _ _ _) _)) (Own.from (boxRow_own _ _ _ _ _ _ _) _)) (Own.from (boxed_own _ _ _) _)) (Own.from (boxed_own _ _ _) _)) (ownFrom_below (Nat.le_refl _) (by omega)))
        (fun _ s X Y row h _ _ => h) ⟨⟨⟨⟨⟨⟨f0, f1⟩, ⟨_, f2, by rw [ints_snoc]; exact f5⟩⟩, ⟨_, f3, f6⟩⟩, f7⟩, f8⟩, fB⟩ ?assign ?body ?done ?stop
      case assign =>
        intro l x W K hK
        simp only [pcC, List.setIfInBounds_toArray, List.set_cons_zero, List.set_cons_succ] at hK ⊢
        gi_wp2
        exact hK
      case body =>
        rintro l pre x Bx W ⟨⟨⟨⟨⟨⟨h0, h1⟩, ⟨va1, h2, hrA⟩⟩, ⟨vb1, h3, hrB⟩⟩, h4⟩, h5⟩, hB⟩ hle hbx hlen
        rw [hsz] at hle
        have hga := fun h => go_at (s := s) (pre := pre) (x := x) h
        rw [HN.out] at hga
        obtain ⟨oA, cA, rfl, hoA⟩ := own_slice hrA
        obtain ⟨oB, cB, rfl, hoB⟩ := own_slice hrB
        obtain ⟨gA1, rfl⟩ := hoA (by omega)
        have hc0 := h0.cell
        have hc1 := h1.cell
        have hf1 := h1.frozen
        have hc2 := h2.cell
        have hc3 := h3.cell
        have hc4 := h4.cell
        have hf4 := h4.frozen
        obtain ⟨p0, p1, p2, p3⟩ := pcell hbx
        obtain ⟨k, hkl⟩ : ∃ k, pre.length = k := ⟨_, rfl⟩
        rw [hkl] at hc4 h4 hga hlen
        simp only [pcC, List.setIfInBounds_toArray, List.set_cons_zero, List.set_cons_succ]
        by_cases hk : k < n
        · obtain ⟨y, hy⟩ : ∃ y, (posns s)[k]? = some y := ⟨_, List.getElem?_eq_getElem (by rw [HN.out]; exact hk)⟩
          obtain ⟨gB1, rfl⟩ := hoB (by omega)
          have hne : x.1 ≠ y → ¬ (List.map (fun (x : Pos s) => (x.1 : Nat)) (pre ++ [x]) <+: posns s) := fun hxy h => by
            have := (hga h).2
            rw [hy] at this
            exact hxy (Option.some.inj this).symm
          have q0 := nth_int hrA (by rw [List.length_append, HN.out]; rfl) k (by omega) y (by rw [List.getElem?_append_left (by rw [HN.out]; exact hk)]; exact hy)
          have q1 := nth_int hrA (by rw [List.length_append, HN.out]; rfl) (k + 1) (by omega) (y + wd s y) (go_next s k y hy)
          have hap : (Value.slice (some ⟨gA1, 0, none⟩) (n + 1) cA).ownBlock ≠ some L := fun e => by
            obtain rfl : gA1 = L := by simpa [Value.ownBlock] using e
            have h9 := (show Blk W gA1 _ _ from h4).cell (k + 1)
            rw [q1] at h9
            simp at h9
          have HAP := Lib.hid hap
          clear hap
          have q2 : W.cell? ⟨gB1, k, none⟩ = some (.int .i32 (rn s y : Nat)) := by
            have := hrB.cellAt k (by omega)
            rw [this, rns, List.getElem?_map, hy]; rfl
          have i1 : (0 : Int) ≤ (k : Int) := by omega
          have i2 : (k : Int) < (n : Int) := by omega
          have i3 : (k : Int) < ((n + 1 : Nat) : Int) := by omega
          have i4 : decide (n ≤ k) = false := decide_eq_false (by omega)
          have i5 : k < n + 1 := by omega
          have i6 : (k : Int) < (n : Int) + 1 := by omega
          have hnb : n ≤ 1048576 := by omega
          by_cases hxy : x.1 = y
          · subst hxy
            obtain ⟨X, hX⟩ : ∃ X, x.1 = X := ⟨_, rfl⟩
            have hxl := x.2
            rw [hX] at hxl hbx p0 p1 p2 p3 q0 q1 q2 ⊢
            have hwf := wd_fits s X hxl
            have hw1 := wd_pos s X
            have hbr := fun h => bk_rn s X h
            have hwr := fun h => wid_rn s X hxl h
            obtain ⟨wx, hwx⟩ : ∃ wx, wd s X = wx := ⟨_, rfl⟩
            rw [hwx] at hwf hw1 hbr hwr p1 q1 ⊢
            have s1 : ((X + wx : Nat) : Int) - (X : Int) = (wx : Int) := by omega
            have s2 : (X : Int) + (wx : Int) - (X : Int) = (wx : Int) := by omega
            have k1 : (k : Int) + 1 < (n : Int) + 1 := by omega
            have k3 : IntKind.i64.wrap ((k : Int) + 1) = (k : Int) + 1 := IntWalk.i64_in _ (by omega)
            have k4 : ((k : Int) + 1).toNat = k + 1 := by omega
            have k5 : (0 : Int) ≤ (k : Int) + 1 := by omega
            have HW := Lib.hid hwx
            have k2 : (0 : Int) ≤ (X : Int) := by omega
            have k6 : (X : Int) ≤ (X : Int) + (wx : Int) := by omega
            have k7 : (X : Int) + (wx : Int) ≤ (s.size : Int) := by omega
            have k8 : ((X : Int) + (wx : Int)).toNat = X + wx := by omega
            have k9 : IntKind.i64.wrap ((X : Int) + (wx : Int)) = (X : Int) + (wx : Int) := IntWalk.i64_in _ (by omega)
            have hef : bk s X = false → Utf8.encode ((rn s X : Nat) : Int) = s.extract X (X + wx) := fun h => by
              have h1 := (bk_not s X).1 h
              have h2 := enc_of_form s X hxl h1
              have h3 : wd s X = lenN s X := by unfold wd; rw [if_neg h1]
              rw [← hwx, h3]; exact h2.2.2
            obtain ⟨R, hR⟩ : ∃ R, rn s X = R := ⟨_, rfl⟩
            rw [hR] at hbr hwr p2 q2 hef ⊢
            have HR := Lib.hid hR
            clear hwx hR
            cases hbk : bk s X with
            | true =>
              obtain ⟨r1, r2⟩ := hbr hbk
              have e1 : ((R : Int) == 65533) = true := by rw [beq_iff_eq]; omega
              have e2 : ((wx : Int) == 1) = true := by rw [beq_iff_eq]; omega
              have hE : (!((Utf8.encode (R : Int)).toList == [239, 191, 189])) = false := by rw [r1]; kernel_rfl
              clear r1 r2
              rw [hbk] at p3
              clear hwr hbr hef hbk
              gi_wp2
              refine round_quiet (by kernel_rfl) (by kernel_rfl) (by kernel_rfl) (noOut_then (fun _ _ h => h)) ?_
              repeat (go_big_quiet_step (fail))
              refine wpQuiet_nil ?_
              intro _ hw'
              obtain ⟨nq, hw''⟩ := hw'
              subst hw''
              gi_wp2
              refine round_quiet (by kernel_rfl) (by kernel_rfl) (by kernel_rfl) (noOut_then (fun _ _ h => h)) ?_
              repeat (go_big_quiet_step (fail))
              refine wpQuiet_nil ?_
              intro _ hw'
              obtain ⟨nq2, hw''⟩ := hw'
              subst hw''
              gi_wp2
              obtain ⟨z1, z2, z3⟩ := go_end (m := nq + nq2) x hz l3 hkl h0 h1 h2 hrA h3 hrB h4 h5 hB HAP.out
              exact ⟨z1.from _, ⟨z1.walks, z2⟩, z3⟩
            | false =>
              rw [hbk] at p3
              have hwz := hwr hbk
              obtain ⟨E, hE⟩ : ∃ E, s.extract X (X + wx) = E := ⟨_, rfl⟩
              have hE2 := hef hbk
              rw [hE] at hE2
              by_cases hr5 : R = 65533
              · have hr6 : ((R : Int) == 65533) = true := by rw [beq_iff_eq]; omega
                have hw3 : ((wx : Int) == 1) = false := by
                  rw [beq_eq_false_iff_ne]
                  have h3 : widZ ((65533 : Nat) : Int) = 3 := by kernel_rfl
                  rw [hr5] at hwz
                  omega
                clear hwr hbr hef hbk hwz hr5
                gi_wp2
                refine round_quiet (by kernel_rfl) (by kernel_rfl) (by kernel_rfl) (noOut_then (fun _ _ h => h)) ?_
                repeat (go_big_quiet_step (fail))
                refine wpQuiet_nil ?_
                intro _ hw'
                obtain ⟨nq, hw''⟩ := hw'
                subst hw''
                gi_wp2
                refine round_quiet (by kernel_rfl) (by kernel_rfl) (by kernel_rfl) (noOut_then (fun _ _ h => h)) ?_
                repeat (go_big_quiet_step (fail))
                refine wpQuiet_nil ?_
                intro _ hw'
                obtain ⟨nq2, hw''⟩ := hw'
                subst hw''
                gi_wp2
                obtain ⟨z1, z2, z3⟩ := go_end (m := nq + nq2) x hz l3 hkl h0 h1 h2 hrA h3 hrB h4 h5 hB HAP.out
                exact ⟨z1.from _, ⟨z1.walks, z2⟩, z3⟩
              · have hr6 : ((R : Int) == 65533) = false := by rw [beq_eq_false_iff_ne]; omega
                clear hwr hbr hef hbk hwz
                gi_wp2
                refine round_quiet (by kernel_rfl) (by kernel_rfl) (by kernel_rfl) (noOut_then (fun _ _ h => h)) ?_
                repeat (go_big_quiet_step (fail))
                refine wpQuiet_nil ?_
                intro _ hw'
                obtain ⟨nq, hw''⟩ := hw'
                subst hw''
                gi_wp2
                refine round_quiet (by kernel_rfl) (by kernel_rfl) (by kernel_rfl) (noOut_then (fun _ _ h => h)) ?_
                repeat (go_big_quiet_step (fail))
                refine wpQuiet_nil ?_
                intro _ hw'
                obtain ⟨nq2, hw''⟩ := hw'
                subst hw''
                gi_wp2
                obtain ⟨z1, z2, z3⟩ := go_end (m := nq + nq2) x hz l3 hkl h0 h1 h2 hrA h3 hrB h4 h5 hB HAP.out
                exact ⟨z1.from _, ⟨z1.walks, z2⟩, z3⟩
          · have hxi : ((x.1 : Int) != (y : Int)) = true := by rw [bne_iff_ne]; omega
            have hne2 := Lib.hid (hne hxy)
            clear hga hne hy hrA hrB q1 q2
            gi_wp2
            refine round_quiet (by kernel_rfl) (by kernel_rfl) (by kernel_rfl) (noOut_then (fun _ _ h => h)) ?_
            repeat (go_big_quiet_step (fail))
            refine wpQuiet_nil ?_
            intro _ hw'
            obtain ⟨nq, hw''⟩ := hw'
            subst hw''
            gi_wp2
            exact ⟨((⟨Nat.le_refl _, fun _ _ h _ => h⟩ : KeepsOthers W (W.drewN nq)).trans (KeepsOthers.setCell _ _ _)).from _, hne2.out⟩
        · have hne : ¬ (List.map (fun (x : Pos s) => (x.1 : Nat)) (pre ++ [x]) <+: posns s) := fun h => hk (hga h).1
          have hne2 := Lib.hid hne
          have i4 : decide (n ≤ k) = true := decide_eq_true (by omega)
          clear hga hne
          gi_wp2
          refine round_quiet (by kernel_rfl) (by kernel_rfl) (by kernel_rfl) (noOut_then (fun _ _ h => h)) ?_
          repeat (go_big_quiet_step (fail))
          refine wpQuiet_nil ?_
          intro _ hw'
          obtain ⟨nq, hw''⟩ := hw'
          subst hw''
          gi_wp2
          exact ⟨((⟨Nat.le_refl _, fun _ _ h _ => h⟩ : KeepsOthers W (W.drewN nq)).trans (KeepsOthers.setCell _ _ _)).from _, hne2.out⟩
      case done =>
        rintro D xs V hD hxs ⟨⟨⟨⟨⟨⟨h0, h1⟩, _⟩, ⟨vB1, h3, hrB⟩⟩, h4⟩, h5⟩, hB⟩ hK
        have hxl : xs.length = n := by rw [← HN.out, ← hxs, List.length_map]
        rw [hxl] at h4
        obtain ⟨oB, cB, rfl, hoB⟩ := own_slice hrB
        have hrI : RowI V oB (rnZ s (posns s)) := fun j hj => by
          have hj2 : j < n := by rw [← HN.out]; simpa [rnZ] using hj
          obtain ⟨g, rfl⟩ := hoB (by omega)
          refine ⟨g, 0, rfl, ?_⟩
          have h9 := hrB.cellAt j (by omega)
          rw [Nat.zero_add, h9]
          have hj3 : j < (posns s).length := by rw [HN.out]; exact hj2
          simp [rns, rnZ, List.getElem?_eq_getElem hj3]
        have c0 := h0.cell
        have c1 := h1.cell
        have c3 := h3.cell
        have c4 := h4.cell
        obtain ⟨Z, hZ⟩ : ∃ Z, rnZ s (posns s) = Z := ⟨_, rfl⟩
        rw [hZ] at hrI
        have HZ := Lib.hid hZ
        have HZn := Lib.hid (rnZ_len HN.out hZ)
        clear f0 f1 f2 f3 f5 f6 f7 f8 fB hxs hxl hZ hrB hoB
        gi_wp2
        refine wpIn_wide.2 ?_
        refine wp_cutG (α := Value × Value × Value × Value) (fun X => Below V.heap.size V X) (fun v => [(111, (.int .i64 n)), (112, (.slice oB n cB)), (113, (.int .i64 n)), (114, (.bool false)), (115, (.bool false)), (116, (.string s)), (117, v.1), (118, (.string s)), (119, v.2.1), (120, (.bool true)), (121, (.bool false)), (122, (.bool false)), (123, (.bool false)), (124, (.slice oB n cB)), (125, (.string (encA Z))), (126, (.slice oB n cB)), (127, (.string (encA Z))), (128, (.bool false)), (129, (.bool false)), (130, (.bool false)), (131, (.string s)), (132, v.2.2.1), (133, (.string (encA Z))), (134, (.string s)), (135, v.2.2.2), (136, (.string (encA Z))), (137, (.bool false)), (138, (.bool false))]) ?_ ?_
        rotate_left
        · rintro ⟨v1, v2, v3, v4⟩ X7 BX7
          simp only [putsG, List.foldl_cons, List.foldl_nil, List.setIfInBounds_toArray, List.set_cons_zero, List.set_cons_succ]
          have hDw : w.heap.size + 1 < D := by omega
          have q1 : Boxed X7 (w.heap.size + 1) 4 (.bool false) := Blk.below (show Blk _ _ _ _ from h1) BX7 (Blk.lt (show Blk _ _ _ _ from h1))
          have hBU := hB.trans (BX7.mono hB.size)
          have hKU : X7.heap[D]? = some (.deferred (some [])) := (BX7.block D (Array.getElem?_eq_some_iff.1 hK).1).trans hK
          have d0 := at_below c0 BX7
          have d1 := at_below c1 BX7
          have hEq := text_z HZ.out
          gi_wp2
          refine wpIn_wide.2 ?_
          refine wp_cutG (α := Value × Value) (fun X => X.cell? ⟨w.heap.size + 1, 0, none⟩ = some (.bool true) ∧ X.heap[D]? = some (.deferred (some [])) ∧ Below w.heap.size w X) (fun v => [(139, (.string s)), (140, (.bool (allR s))), (141, (.string s)), (142, v.1), (143, (.string (encA Z))), (144, (.string s)), (145, (.bool (allR s))), (146, (.bool true)), (147, (.bool true)), (148, (.string s)), (149, (.string (encA Z))), (150, (.string s)), (151, v.2), (152, (.string (encA Z))), (153, (.bool true)), (154, (.bool true)), (155, (.bool true)), (156, (.bool true)), (157, (.bool true))]) ?_ ?_
          rotate_left
          · rintro ⟨w1', w2'⟩ Y ⟨y1, y2, y3⟩
            simp only [putsG, List.foldl_cons, List.foldl_nil, List.setIfInBounds_toArray, List.set_cons_zero, List.set_cons_succ]
            gi_wp2
            have c11 : (Y.putObj D (.deferred none)).cell? ⟨w.heap.size + 1, 0, none⟩ = some (.bool true) := (World.cell?_of_block (w := Y) (World.putObj_heap_other (by dsimp only; omega))).trans y1
            have hB11 := y3.trans (belowK_b (w := w) (Nat.le_refl _) Y D _ (.deferred none) (by omega) y2 rfl rfl)
            refine ⟨by simp, .inl ⟨_, _, rfl, run_takeDeferred (w := Y) y2, ?_⟩⟩
            refine ⟨.bool true, ?_, rfl, hB11⟩
            simp [results, Try.f12, go_sem, c11]
          refine wp_region_noPanic ?_
          refine wp_region_g (S := untilG [19] (fun X => Below X7.heap.size X7 X)) (by kernel_rfl) ?_
          have T0 : Below X7.heap.size X7 X7.drew := (Below.refl _ _).drew
          have BX0 := T0
          obtain ⟨X0, hX0⟩ : ∃ X, X7.drew = X := ⟨_, rfl⟩
          rw [hX0] at T0 BX0 ⊢
          clear hX0
          refine wpAnyG_take [0, 1, 7, 8, 15, 16, 18] (i := 0) (v := (.string s)) rfl (by kernel_rfl) (by kernel_rfl) (by kernel_rfl) (by kernel_rfl) (by kernel_rfl) (by kernel_rfl) (by kernel_rfl) (by kernel_rfl) (fun _ _ _ h => h) (Or.inl ⟨by rfl, ?hy⟩) T0 ?_
          case hy =>
            intro X hX
            have hX1 := at_below d0 (hX)
            go_simp
          try simp only [Act.put, List.getElem_toArray, List.getElem_cons_zero, List.getElem_cons_succ, List.setIfInBounds_toArray, List.set_cons_zero, List.set_cons_succ]
          refine wpAnyG_take [2, 3, 4, 6, 7, 8, 15, 16, 18] (i := 2) (v := (.string s)) rfl (by kernel_rfl) (by kernel_rfl) (by kernel_rfl) (by kernel_rfl) (by kernel_rfl) (by kernel_rfl) (by kernel_rfl) (by kernel_rfl) (fun _ _ _ h => h) (Or.inl ⟨by rfl, ?hy⟩) T0 ?_
          case hy =>
            intro X hX
            have hX1 := at_below d0 (hX)
            go_simp
          try simp only [Act.put, List.getElem_toArray, List.getElem_cons_zero, List.getElem_cons_succ, List.setIfInBounds_toArray, List.set_cons_zero, List.set_cons_succ]
          refine wpAnyG_take [5, 6, 7, 8, 15, 16, 18] (i := 5) (v := (.string s)) rfl (by kernel_rfl) (by kernel_rfl) (by kernel_rfl) (by kernel_rfl) (by kernel_rfl) (by kernel_rfl) (by kernel_rfl) (by kernel_rfl) (fun _ _ _ h => h) (Or.inl ⟨by rfl, ?hy⟩) T0 ?_
          case hy =>
            intro X hX
            have hX1 := at_below d0 (hX)
            go_simp
          try simp only [Act.put, List.getElem_toArray, List.getElem_cons_zero, List.getElem_cons_succ, List.setIfInBounds_toArray, List.set_cons_zero, List.set_cons_succ]
          refine wpAnyG_all (rs := [1, 3]) (by kernel_rfl) (by simp) ?_
          intro i hi
          simp only [List.mem_cons, List.not_mem_nil, or_false] at hi
          rcases hi with rfl | rfl
          · refine wpOp_open rfl (by rfl) ?_
            go_simp
            refine (right_any s (by omega) _).mono ?_
            rintro e X1 ⟨rfl, b1⟩
            have BX1 := BX0.trans (b1.mono BX0.size)
            have T0 := BX1
            refine ⟨fun _ => T0, ?_⟩
            try simp only [Act.put, List.getElem_toArray, List.getElem_cons_zero, List.getElem_cons_succ, List.setIfInBounds_toArray, List.set_cons_zero, List.set_cons_succ]
            refine wpAnyG_all (rs := [3]) (by kernel_rfl) (by simp) ?_
            intro i hi
            simp only [List.mem_cons, List.not_mem_nil, or_false] at hi
            subst hi
            refine wpOp_open rfl (by rfl) ?_
            obtain ⟨o2, c2, X2, e2, r2, b2⟩ := conv_z hs HN.out HZ.out X1
            have BX2 := BX1.trans (b2.mono BX1.size)
            go_simp
            have T0 := BX2
            refine ⟨fun _ => T0, ?_⟩
            try simp only [Act.put, List.getElem_toArray, List.getElem_cons_zero, List.getElem_cons_succ, List.setIfInBounds_toArray, List.set_cons_zero, List.set_cons_succ]
            refine wpAnyG_more (T' := fun X => Below X7.heap.size X7 X ∧ Below X2.heap.size X2 X) (fun _ h => h.1) ?_
            have T0 : Below X7.heap.size X7 X2 ∧ Below X2.heap.size X2 X2 := ⟨BX2, Below.refl _ _⟩
            refine wpAnyG_take [4, 6, 7, 8, 15, 16, 18] (i := 4) (v := (.string (encA Z))) rfl (by kernel_rfl) (by kernel_rfl) (by kernel_rfl) (by kernel_rfl) (by kernel_rfl) (by kernel_rfl) (by kernel_rfl) (by kernel_rfl) (fun _ _ _ h => h) (Or.inl ⟨by rfl, ?hy⟩) T0 ?_
            case hy =>
              intro X hX
              have hX1 := conv_runes (cap := c2) HZn.out (rowI_kept r2 hX.2)
              go_simp
            try simp only [Act.put, List.getElem_toArray, List.getElem_cons_zero, List.getElem_cons_succ, List.setIfInBounds_toArray, List.set_cons_zero, List.set_cons_succ]
            have bw : Below X2.heap.size X2 X2 := Below.refl _ _
            refine wpAnyG_take [6, 7, 8, 15, 16, 18] (i := 6) (v := (.bool (allR s))) rfl (by kernel_rfl) (by kernel_rfl) (by kernel_rfl) (by kernel_rfl) (by kernel_rfl) (by kernel_rfl) (by kernel_rfl) (by kernel_rfl) (fun _ _ _ h => h) (Or.inl ⟨by rfl, ?hy⟩) T0 ?_
            case hy =>
              intro X hX
              go_simp
            try simp only [Act.put, List.getElem_toArray, List.getElem_cons_zero, List.getElem_cons_succ, List.setIfInBounds_toArray, List.set_cons_zero, List.set_cons_succ]
            refine wpAnyG_take [7, 8, 15, 16, 18] (i := 7) (v := (.bool true)) rfl (by kernel_rfl) (by kernel_rfl) (by kernel_rfl) (by kernel_rfl) (by kernel_rfl) (by kernel_rfl) (by kernel_rfl) (by kernel_rfl) (fun _ _ _ h => h) (Or.inl ⟨by rfl, ?hy⟩) T0 ?_
            case hy =>
              intro X hX
              go_simp
            try simp only [Act.put, List.getElem_toArray, List.getElem_cons_zero, List.getElem_cons_succ, List.setIfInBounds_toArray, List.set_cons_zero, List.set_cons_succ]
            refine wpAnyG_take [8, 15, 16, 18] (i := 8) (v := (.bool true)) rfl (by kernel_rfl) (by kernel_rfl) (by kernel_rfl) (by kernel_rfl) (by kernel_rfl) (by kernel_rfl) (by kernel_rfl) (by kernel_rfl) (fun _ _ _ h => h) (Or.inl ⟨by rfl, ?hy⟩) T0 ?_
            case hy =>
              intro X hX
              go_simp
            try simp only [Act.put, List.getElem_toArray, List.getElem_cons_zero, List.getElem_cons_succ, List.setIfInBounds_toArray, List.set_cons_zero, List.set_cons_succ]
            refine wpAnyG_take [9, 10, 14, 15, 16, 18] (i := 9) (v := (.string s)) rfl (by kernel_rfl) (by kernel_rfl) (by kernel_rfl) (by kernel_rfl) (by kernel_rfl) (by kernel_rfl) (by kernel_rfl) (by kernel_rfl) (fun _ _ _ h => h) (Or.inl ⟨by rfl, ?hy⟩) T0 ?_
            case hy =>
              intro X hX
              have hX1 := at_below d0 (hX.1)
              go_simp
            try simp only [Act.put, List.getElem_toArray, List.getElem_cons_zero, List.getElem_cons_succ, List.setIfInBounds_toArray, List.set_cons_zero, List.set_cons_succ]
            refine wpAnyG_take [11, 12, 13, 14, 15, 16, 18] (i := 11) (v := (.string s)) rfl (by kernel_rfl) (by kernel_rfl) (by kernel_rfl) (by kernel_rfl) (by kernel_rfl) (by kernel_rfl) (by kernel_rfl) (by kernel_rfl) (fun _ _ _ h => h) (Or.inl ⟨by rfl, ?hy⟩) T0 ?_
            case hy =>
              intro X hX
              have hX1 := at_below d0 (hX.1)
              go_simp
            try simp only [Act.put, List.getElem_toArray, List.getElem_cons_zero, List.getElem_cons_succ, List.setIfInBounds_toArray, List.set_cons_zero, List.set_cons_succ]
            refine wpAnyG_all (rs := [10, 12]) (by kernel_rfl) (by simp) ?_
            intro i hi
            simp only [List.mem_cons, List.not_mem_nil, or_false] at hi
            rcases hi with rfl | rfl
            · refine wpOp_open rfl (by rfl) ?_
              go_simp
              refine (mend_z hs HZ.out _).mono ?_
              rintro e X3 ⟨rfl, b3⟩
              have BX3 := BX2.trans (b3.mono BX2.size)
              have T0 : Below X7.heap.size X7 X3 ∧ Below X2.heap.size X2 X3 := ⟨BX3, bw.trans (b3.mono bw.size)⟩
              refine ⟨fun _ => T0, ?_⟩
              try simp only [Act.put, List.getElem_toArray, List.getElem_cons_zero, List.getElem_cons_succ, List.setIfInBounds_toArray, List.set_cons_zero, List.set_cons_succ]
              refine wpAnyG_all (rs := [12]) (by kernel_rfl) (by simp) ?_
              intro i hi
              simp only [List.mem_cons, List.not_mem_nil, or_false] at hi
              subst hi
              refine wpOp_open rfl (by rfl) ?_
              have bv := bw.trans (b3.mono bw.size)
              obtain ⟨o4, c4, X4, e4, r4, b4⟩ := conv_z hs HN.out HZ.out X3
              have BX4 := BX3.trans (b4.mono BX3.size)
              go_simp
              have T0 : Below X7.heap.size X7 X4 ∧ Below X2.heap.size X2 X4 := ⟨BX4, bv.trans (b4.mono bv.size)⟩
              refine ⟨fun _ => T0, ?_⟩
              try simp only [Act.put, List.getElem_toArray, List.getElem_cons_zero, List.getElem_cons_succ, List.setIfInBounds_toArray, List.set_cons_zero, List.set_cons_succ]
              have bu := bv.trans (b4.mono bv.size)
              refine wpAnyG_more (T' := fun X => Below X7.heap.size X7 X ∧ Below X4.heap.size X4 X) (fun X h => ⟨h.1, bu.trans (h.2.mono bu.size)⟩) ?_
              have T0 : Below X7.heap.size X7 X4 ∧ Below X4.heap.size X4 X4 := ⟨BX4, Below.refl _ _⟩
              refine wpAnyG_take [13, 14, 15, 16, 18] (i := 13) (v := (.string (encA Z))) rfl (by kernel_rfl) (by kernel_rfl) (by kernel_rfl) (by kernel_rfl) (by kernel_rfl) (by kernel_rfl) (by kernel_rfl) (by kernel_rfl) (fun _ _ _ h => h) (Or.inl ⟨by rfl, ?hy⟩) T0 ?_
              case hy =>
                intro X hX
                have hX1 := conv_runes (cap := c4) HZn.out (rowI_kept r4 hX.2)
                go_simp
              try simp only [Act.put, List.getElem_toArray, List.getElem_cons_zero, List.getElem_cons_succ, List.setIfInBounds_toArray, List.set_cons_zero, List.set_cons_succ]
              have bx : Below X4.heap.size X4 X4 := Below.refl _ _
              refine wpAnyG_take [14, 15, 16, 18] (i := 14) (v := (.bool true)) rfl (by kernel_rfl) (by kernel_rfl) (by kernel_rfl) (by kernel_rfl) (by kernel_rfl) (by kernel_rfl) (by kernel_rfl) (by kernel_rfl) (fun _ _ _ h => h) (Or.inl ⟨by rfl, ?hy⟩) T0 ?_
              case hy =>
                intro X hX
                go_simp
              try simp only [Act.put, List.getElem_toArray, List.getElem_cons_zero, List.getElem_cons_succ, List.setIfInBounds_toArray, List.set_cons_zero, List.set_cons_succ]
              refine wpAnyG_take [15, 16, 18] (i := 15) (v := (.bool true)) rfl (by kernel_rfl) (by kernel_rfl) (by kernel_rfl) (by kernel_rfl) (by kernel_rfl) (by kernel_rfl) (by kernel_rfl) (by kernel_rfl) (fun _ _ _ h => h) (Or.inl ⟨by rfl, ?hy⟩) T0 ?_
              case hy =>
                intro X hX
                go_simp
              try simp only [Act.put, List.getElem_toArray, List.getElem_cons_zero, List.getElem_cons_succ, List.setIfInBounds_toArray, List.set_cons_zero, List.set_cons_succ]
              refine wpAnyG_take [16, 18] (i := 16) (v := (.bool true)) rfl (by kernel_rfl) (by kernel_rfl) (by kernel_rfl) (by kernel_rfl) (by kernel_rfl) (by kernel_rfl) (by kernel_rfl) (by kernel_rfl) (fun _ _ _ h => h) (Or.inl ⟨by rfl, ?hy⟩) T0 ?_
              case hy =>
                intro X hX
                go_simp
              try simp only [Act.put, List.getElem_toArray, List.getElem_cons_zero, List.getElem_cons_succ, List.setIfInBounds_toArray, List.set_cons_zero, List.set_cons_succ]
              refine wpAnyG_all (rs := [17]) (by kernel_rfl) (by simp) ?_
              intro i hi
              simp only [List.mem_cons, List.not_mem_nil, or_false] at hi
              subst hi
              refine wpOp_open rfl (by rfl) ?_
              go_simp
              refine (wakes_any _).mono ?_
              rintro e X5 ⟨rfl, b5⟩
              have BX5 := BX4.trans (b5.mono BX4.size)
              have T0 : Below X7.heap.size X7 X5 ∧ Below X4.heap.size X4 X5 := ⟨BX5, bx.trans (b5.mono bx.size)⟩
              refine ⟨fun _ => T0, ?_⟩
              try simp only [Act.put, List.getElem_toArray, List.getElem_cons_zero, List.getElem_cons_succ, List.setIfInBounds_toArray, List.set_cons_zero, List.set_cons_succ]
              refine wpAnyG_take [18] (i := 18) (v := (.bool true)) rfl (by kernel_rfl) (by kernel_rfl) (by kernel_rfl) (by kernel_rfl) (by kernel_rfl) (by kernel_rfl) (by kernel_rfl) (by kernel_rfl) (fun _ _ _ h => h) (Or.inl ⟨by rfl, ?hy⟩) T0 ?_
              case hy =>
                intro X hX
                go_simp
              try simp only [Act.put, List.getElem_toArray, List.getElem_cons_zero, List.getElem_cons_succ, List.setIfInBounds_toArray, List.set_cons_zero, List.set_cons_succ]
              refine wpAnyG_all (rs := [19]) (by kernel_rfl) (by simp) ?_
              intro i hi
              simp only [List.mem_cons, List.not_mem_nil, or_false] at hi
              subst hi
              refine wpOp_open rfl (by rfl) ?_
              have e2 : Boxed X5 (w.heap.size + 1) 4 (.bool false) := Blk.below (show Blk _ _ _ _ from q1) BX5 (Blk.lt (show Blk _ _ _ _ from q1))
              have z0 := e2.cell
              have z1 := e2.frozen
              go_simp
              refine ⟨fun h => (nomatch (show (false : Bool) = true from h)), ?_⟩
              refine wpAnyG_done (by kernel_rfl) ?_ _
              exact NoPanic.normal ⟨rfl, ((.slice o2 n c2), (.slice o4 n c4)), by kernel_rfl, end22 hDw hBU hKU q1 BX5⟩
            · refine wpOp_open rfl (by rfl) ?_
              obtain ⟨o3, c3, X3, e3, r3, b3⟩ := conv_z hs HN.out HZ.out X2
              have BX3 := BX2.trans (b3.mono BX2.size)
              go_simp
              have T0 : Below X7.heap.size X7 X3 ∧ Below X2.heap.size X2 X3 := ⟨BX3, bw.trans (b3.mono bw.size)⟩
              refine ⟨fun _ => T0, ?_⟩
              try simp only [Act.put, List.getElem_toArray, List.getElem_cons_zero, List.getElem_cons_succ, List.setIfInBounds_toArray, List.set_cons_zero, List.set_cons_succ]
              have bu := bw.trans (b3.mono bw.size)
              refine wpAnyG_more (T' := fun X => Below X7.heap.size X7 X ∧ Below X3.heap.size X3 X) (fun X h => ⟨h.1, bu.trans (h.2.mono bu.size)⟩) ?_
              have T0 : Below X7.heap.size X7 X3 ∧ Below X3.heap.size X3 X3 := ⟨BX3, Below.refl _ _⟩
              refine wpAnyG_take [13, 14, 15, 16, 18] (i := 13) (v := (.string (encA Z))) rfl (by kernel_rfl) (by kernel_rfl) (by kernel_rfl) (by kernel_rfl) (by kernel_rfl) (by kernel_rfl) (by kernel_rfl) (by kernel_rfl) (fun _ _ _ h => h) (Or.inl ⟨by rfl, ?hy⟩) T0 ?_
              case hy =>
                intro X hX
                have hX1 := conv_runes (cap := c3) HZn.out (rowI_kept r3 hX.2)
                go_simp
              try simp only [Act.put, List.getElem_toArray, List.getElem_cons_zero, List.getElem_cons_succ, List.setIfInBounds_toArray, List.set_cons_zero, List.set_cons_succ]
              refine wpAnyG_all (rs := [10]) (by kernel_rfl) (by simp) ?_
              intro i hi
              simp only [List.mem_cons, List.not_mem_nil, or_false] at hi
              subst hi
              refine wpOp_open rfl (by rfl) ?_
              go_simp
              refine (mend_z hs HZ.out _).mono ?_
              rintro e X4 ⟨rfl, b4⟩
              have BX4 := BX3.trans (b4.mono BX3.size)
              have T0 : Below X7.heap.size X7 X4 ∧ Below X3.heap.size X3 X4 := ⟨BX4, b4⟩
              refine ⟨fun _ => T0, ?_⟩
              try simp only [Act.put, List.getElem_toArray, List.getElem_cons_zero, List.getElem_cons_succ, List.setIfInBounds_toArray, List.set_cons_zero, List.set_cons_succ]
              have bx : Below X3.heap.size X3 X4 := b4
              refine wpAnyG_take [14, 15, 16, 18] (i := 14) (v := (.bool true)) rfl (by kernel_rfl) (by kernel_rfl) (by kernel_rfl) (by kernel_rfl) (by kernel_rfl) (by kernel_rfl) (by kernel_rfl) (by kernel_rfl) (fun _ _ _ h => h) (Or.inl ⟨by rfl, ?hy⟩) T0 ?_
              case hy =>
                intro X hX
                go_simp
              try simp only [Act.put, List.getElem_toArray, List.getElem_cons_zero, List.getElem_cons_succ, List.setIfInBounds_toArray, List.set_cons_zero, List.set_cons_succ]
              refine wpAnyG_take [15, 16, 18] (i := 15) (v := (.bool true)) rfl (by kernel_rfl) (by kernel_rfl) (by kernel_rfl) (by kernel_rfl) (by kernel_rfl) (by kernel_rfl) (by kernel_rfl) (by kernel_rfl) (fun _ _ _ h => h) (Or.inl ⟨by rfl, ?hy⟩) T0 ?_
              case hy =>
                intro X hX
                go_simp
              try simp only [Act.put, List.getElem_toArray, List.getElem_cons_zero, List.getElem_cons_succ, List.setIfInBounds_toArray, List.set_cons_zero, List.set_cons_succ]
              refine wpAnyG_take [16, 18] (i := 16) (v := (.bool true)) rfl (by kernel_rfl) (by kernel_rfl) (by kernel_rfl) (by kernel_rfl) (by kernel_rfl) (by kernel_rfl) (by kernel_rfl) (by kernel_rfl) (fun _ _ _ h => h) (Or.inl ⟨by rfl, ?hy⟩) T0 ?_
              case hy =>
                intro X hX
                go_simp
              try simp only [Act.put, List.getElem_toArray, List.getElem_cons_zero, List.getElem_cons_succ, List.setIfInBounds_toArray, List.set_cons_zero, List.set_cons_succ]
              refine wpAnyG_all (rs := [17]) (by kernel_rfl) (by simp) ?_
              intro i hi
              simp only [List.mem_cons, List.not_mem_nil, or_false] at hi
              subst hi
              refine wpOp_open rfl (by rfl) ?_
              go_simp
              refine (wakes_any _).mono ?_
              rintro e X5 ⟨rfl, b5⟩
              have BX5 := BX4.trans (b5.mono BX4.size)
              have T0 : Below X7.heap.size X7 X5 ∧ Below X3.heap.size X3 X5 := ⟨BX5, bx.trans (b5.mono bx.size)⟩
              refine ⟨fun _ => T0, ?_⟩
              try simp only [Act.put, List.getElem_toArray, List.getElem_cons_zero, List.getElem_cons_succ, List.setIfInBounds_toArray, List.set_cons_zero, List.set_cons_succ]
              refine wpAnyG_take [18] (i := 18) (v := (.bool true)) rfl (by kernel_rfl) (by kernel_rfl) (by kernel_rfl) (by kernel_rfl) (by kernel_rfl) (by kernel_rfl) (by kernel_rfl) (by kernel_rfl) (fun _ _ _ h => h) (Or.inl ⟨by rfl, ?hy⟩) T0 ?_
              case hy =>
                intro X hX
                go_simp
              try simp only [Act.put, List.getElem_toArray, List.getElem_cons_zero, List.getElem_cons_succ, List.setIfInBounds_toArray, List.set_cons_zero, List.set_cons_succ]
              refine wpAnyG_all (rs := [19]) (by kernel_rfl) (by simp) ?_
              intro i hi
              simp only [List.mem_cons, List.not_mem_nil, or_false] at hi
              subst hi
              refine wpOp_open rfl (by rfl) ?_
              have e2 : Boxed X5 (w.heap.size + 1) 4 (.bool false) := Blk.below (show Blk _ _ _ _ from q1) BX5 (Blk.lt (show Blk _ _ _ _ from q1))
              have z0 := e2.cell
              have z1 := e2.frozen
              go_simp
              refine ⟨fun h => (nomatch (show (false : Bool) = true from h)), ?_⟩
              refine wpAnyG_done (by kernel_rfl) ?_ _
              exact NoPanic.normal ⟨rfl, ((.slice o2 n c2), (.slice o3 n c3)), by kernel_rfl, end22 hDw hBU hKU q1 BX5⟩
          · refine wpOp_open rfl (by rfl) ?_
            obtain ⟨o1, c1, X1, e1, r1, b1⟩ := conv_z hs HN.out HZ.out X0
            have BX1 := BX0.trans (b1.mono BX0.size)
            go_simp
            have T0 := BX1
            refine ⟨fun _ => T0, ?_⟩
            try simp only [Act.put, List.getElem_toArray, List.getElem_cons_zero, List.getElem_cons_succ, List.setIfInBounds_toArray, List.set_cons_zero, List.set_cons_succ]
            refine wpAnyG_more (T' := fun X => Below X7.heap.size X7 X ∧ Below X1.heap.size X1 X) (fun _ h => h.1) ?_
            have T0 : Below X7.heap.size X7 X1 ∧ Below X1.heap.size X1 X1 := ⟨BX1, Below.refl _ _⟩
            refine wpAnyG_take [4, 6, 7, 8, 15, 16, 18] (i := 4) (v := (.string (encA Z))) rfl (by kernel_rfl) (by kernel_rfl) (by kernel_rfl) (by kernel_rfl) (by kernel_rfl) (by kernel_rfl) (by kernel_rfl) (by kernel_rfl) (fun _ _ _ h => h) (Or.inl ⟨by rfl, ?hy⟩) T0 ?_
            case hy =>
              intro X hX
              have hX1 := conv_runes (cap := c1) HZn.out (rowI_kept r1 hX.2)
              go_simp
            try simp only [Act.put, List.getElem_toArray, List.getElem_cons_zero, List.getElem_cons_succ, List.setIfInBounds_toArray, List.set_cons_zero, List.set_cons_succ]
            refine wpAnyG_take [6, 7, 8, 15, 16, 18] (i := 6) (v := (.bool (allR s))) rfl (by kernel_rfl) (by kernel_rfl) (by kernel_rfl) (by kernel_rfl) (by kernel_rfl) (by kernel_rfl) (by kernel_rfl) (by kernel_rfl) (fun _ _ _ h => h) (Or.inl ⟨by rfl, ?hy⟩) T0 ?_
            case hy =>
              intro X hX
              go_simp
            try simp only [Act.put, List.getElem_toArray, List.getElem_cons_zero, List.getElem_cons_succ, List.setIfInBounds_toArray, List.set_cons_zero, List.set_cons_succ]
            refine wpAnyG_all (rs := [1]) (by kernel_rfl) (by simp) ?_
            intro i hi
            simp only [List.mem_cons, List.not_mem_nil, or_false] at hi
            subst hi
            refine wpOp_open rfl (by rfl) ?_
            go_simp
            refine (right_any s (by omega) _).mono ?_
            rintro e X2 ⟨rfl, b2⟩
            have BX2 := BX1.trans (b2.mono BX1.size)
            have T0 : Below X7.heap.size X7 X2 ∧ Below X1.heap.size X1 X2 := ⟨BX2, b2⟩
            refine ⟨fun _ => T0, ?_⟩
            try simp only [Act.put, List.getElem_toArray, List.getElem_cons_zero, List.getElem_cons_succ, List.setIfInBounds_toArray, List.set_cons_zero, List.set_cons_succ]
            have bw : Below X1.heap.size X1 X2 := b2
            refine wpAnyG_take [7, 8, 15, 16, 18] (i := 7) (v := (.bool true)) rfl (by kernel_rfl) (by kernel_rfl) (by kernel_rfl) (by kernel_rfl) (by kernel_rfl) (by kernel_rfl) (by kernel_rfl) (by kernel_rfl) (fun _ _ _ h => h) (Or.inl ⟨by rfl, ?hy⟩) T0 ?_
            case hy =>
              intro X hX
              go_simp
            try simp only [Act.put, List.getElem_toArray, List.getElem_cons_zero, List.getElem_cons_succ, List.setIfInBounds_toArray, List.set_cons_zero, List.set_cons_succ]
            refine wpAnyG_take [8, 15, 16, 18] (i := 8) (v := (.bool true)) rfl (by kernel_rfl) (by kernel_rfl) (by kernel_rfl) (by kernel_rfl) (by kernel_rfl) (by kernel_rfl) (by kernel_rfl) (by kernel_rfl) (fun _ _ _ h => h) (Or.inl ⟨by rfl, ?hy⟩) T0 ?_
            case hy =>
              intro X hX
              go_simp
            try simp only [Act.put, List.getElem_toArray, List.getElem_cons_zero, List.getElem_cons_succ, List.setIfInBounds_toArray, List.set_cons_zero, List.set_cons_succ]
            refine wpAnyG_take [9, 10, 14, 15, 16, 18] (i := 9) (v := (.string s)) rfl (by kernel_rfl) (by kernel_rfl) (by kernel_rfl) (by kernel_rfl) (by kernel_rfl) (by kernel_rfl) (by kernel_rfl) (by kernel_rfl) (fun _ _ _ h => h) (Or.inl ⟨by rfl, ?hy⟩) T0 ?_
            case hy =>
              intro X hX
              have hX1 := at_below d0 (hX.1)
              go_simp
            try simp only [Act.put, List.getElem_toArray, List.getElem_cons_zero, List.getElem_cons_succ, List.setIfInBounds_toArray, List.set_cons_zero, List.set_cons_succ]
            refine wpAnyG_take [11, 12, 13, 14, 15, 16, 18] (i := 11) (v := (.string s)) rfl (by kernel_rfl) (by kernel_rfl) (by kernel_rfl) (by kernel_rfl) (by kernel_rfl) (by kernel_rfl) (by kernel_rfl) (by kernel_rfl) (fun _ _ _ h => h) (Or.inl ⟨by rfl, ?hy⟩) T0 ?_
            case hy =>
              intro X hX
              have hX1 := at_below d0 (hX.1)
              go_simp
            try simp only [Act.put, List.getElem_toArray, List.getElem_cons_zero, List.getElem_cons_succ, List.setIfInBounds_toArray, List.set_cons_zero, List.set_cons_succ]
            refine wpAnyG_all (rs := [10, 12]) (by kernel_rfl) (by simp) ?_
            intro i hi
            simp only [List.mem_cons, List.not_mem_nil, or_false] at hi
            rcases hi with rfl | rfl
            · refine wpOp_open rfl (by rfl) ?_
              go_simp
              refine (mend_z hs HZ.out _).mono ?_
              rintro e X3 ⟨rfl, b3⟩
              have BX3 := BX2.trans (b3.mono BX2.size)
              have T0 : Below X7.heap.size X7 X3 ∧ Below X1.heap.size X1 X3 := ⟨BX3, bw.trans (b3.mono bw.size)⟩
              refine ⟨fun _ => T0, ?_⟩
              try simp only [Act.put, List.getElem_toArray, List.getElem_cons_zero, List.getElem_cons_succ, List.setIfInBounds_toArray, List.set_cons_zero, List.set_cons_succ]
              refine wpAnyG_all (rs := [12]) (by kernel_rfl) (by simp) ?_
              intro i hi
              simp only [List.mem_cons, List.not_mem_nil, or_false] at hi
              subst hi
              refine wpOp_open rfl (by rfl) ?_
              have bv := bw.trans (b3.mono bw.size)
              obtain ⟨o4, c4, X4, e4, r4, b4⟩ := conv_z hs HN.out HZ.out X3
              have BX4 := BX3.trans (b4.mono BX3.size)
              go_simp
              have T0 : Below X7.heap.size X7 X4 ∧ Below X1.heap.size X1 X4 := ⟨BX4, bv.trans (b4.mono bv.size)⟩
              refine ⟨fun _ => T0, ?_⟩
              try simp only [Act.put, List.getElem_toArray, List.getElem_cons_zero, List.getElem_cons_succ, List.setIfInBounds_toArray, List.set_cons_zero, List.set_cons_succ]
              have bu := bv.trans (b4.mono bv.size)
              refine wpAnyG_more (T' := fun X => Below X7.heap.size X7 X ∧ Below X4.heap.size X4 X) (fun X h => ⟨h.1, bu.trans (h.2.mono bu.size)⟩) ?_
              have T0 : Below X7.heap.size X7 X4 ∧ Below X4.heap.size X4 X4 := ⟨BX4, Below.refl _ _⟩
              refine wpAnyG_take [13, 14, 15, 16, 18] (i := 13) (v := (.string (encA Z))) rfl (by kernel_rfl) (by kernel_rfl) (by kernel_rfl) (by kernel_rfl) (by kernel_rfl) (by kernel_rfl) (by kernel_rfl) (by kernel_rfl) (fun _ _ _ h => h) (Or.inl ⟨by rfl, ?hy⟩) T0 ?_
              case hy =>
                intro X hX
                have hX1 := conv_runes (cap := c4) HZn.out (rowI_kept r4 hX.2)
                go_simp
              try simp only [Act.put, List.getElem_toArray, List.getElem_cons_zero, List.getElem_cons_succ, List.setIfInBounds_toArray, List.set_cons_zero, List.set_cons_succ]
              have bx : Below X4.heap.size X4 X4 := Below.refl _ _
              refine wpAnyG_take [14, 15, 16, 18] (i := 14) (v := (.bool true)) rfl (by kernel_rfl) (by kernel_rfl) (by kernel_rfl) (by kernel_rfl) (by kernel_rfl) (by kernel_rfl) (by kernel_rfl) (by kernel_rfl) (fun _ _ _ h => h) (Or.inl ⟨by rfl, ?hy⟩) T0 ?_
              case hy =>
                intro X hX
                go_simp
              try simp only [Act.put, List.getElem_toArray, List.getElem_cons_zero, List.getElem_cons_succ, List.setIfInBounds_toArray, List.set_cons_zero, List.set_cons_succ]
              refine wpAnyG_take [15, 16, 18] (i := 15) (v := (.bool true)) rfl (by kernel_rfl) (by kernel_rfl) (by kernel_rfl) (by kernel_rfl) (by kernel_rfl) (by kernel_rfl) (by kernel_rfl) (by kernel_rfl) (fun _ _ _ h => h) (Or.inl ⟨by rfl, ?hy⟩) T0 ?_
              case hy =>
                intro X hX
                go_simp
              try simp only [Act.put, List.getElem_toArray, List.getElem_cons_zero, List.getElem_cons_succ, List.setIfInBounds_toArray, List.set_cons_zero, List.set_cons_succ]
              refine wpAnyG_take [16, 18] (i := 16) (v := (.bool true)) rfl (by kernel_rfl) (by kernel_rfl) (by kernel_rfl) (by kernel_rfl) (by kernel_rfl) (by kernel_rfl) (by kernel_rfl) (by kernel_rfl) (fun _ _ _ h => h) (Or.inl ⟨by rfl, ?hy⟩) T0 ?_
              case hy =>
                intro X hX
                go_simp
              try simp only [Act.put, List.getElem_toArray, List.getElem_cons_zero, List.getElem_cons_succ, List.setIfInBounds_toArray, List.set_cons_zero, List.set_cons_succ]
              refine wpAnyG_all (rs := [17]) (by kernel_rfl) (by simp) ?_
              intro i hi
              simp only [List.mem_cons, List.not_mem_nil, or_false] at hi
              subst hi
              refine wpOp_open rfl (by rfl) ?_
              go_simp
              refine (wakes_any _).mono ?_
              rintro e X5 ⟨rfl, b5⟩
              have BX5 := BX4.trans (b5.mono BX4.size)
              have T0 : Below X7.heap.size X7 X5 ∧ Below X4.heap.size X4 X5 := ⟨BX5, bx.trans (b5.mono bx.size)⟩
              refine ⟨fun _ => T0, ?_⟩
              try simp only [Act.put, List.getElem_toArray, List.getElem_cons_zero, List.getElem_cons_succ, List.setIfInBounds_toArray, List.set_cons_zero, List.set_cons_succ]
              refine wpAnyG_take [18] (i := 18) (v := (.bool true)) rfl (by kernel_rfl) (by kernel_rfl) (by kernel_rfl) (by kernel_rfl) (by kernel_rfl) (by kernel_rfl) (by kernel_rfl) (by kernel_rfl) (fun _ _ _ h => h) (Or.inl ⟨by rfl, ?hy⟩) T0 ?_
              case hy =>
                intro X hX
                go_simp
              try simp only [Act.put, List.getElem_toArray, List.getElem_cons_zero, List.getElem_cons_succ, List.setIfInBounds_toArray, List.set_cons_zero, List.set_cons_succ]
              refine wpAnyG_all (rs := [19]) (by kernel_rfl) (by simp) ?_
              intro i hi
              simp only [List.mem_cons, List.not_mem_nil, or_false] at hi
              subst hi
              refine wpOp_open rfl (by rfl) ?_
              have e2 : Boxed X5 (w.heap.size + 1) 4 (.bool false) := Blk.below (show Blk _ _ _ _ from q1) BX5 (Blk.lt (show Blk _ _ _ _ from q1))
              have z0 := e2.cell
              have z1 := e2.frozen
              go_simp
              refine ⟨fun h => (nomatch (show (false : Bool) = true from h)), ?_⟩
              refine wpAnyG_done (by kernel_rfl) ?_ _
              exact NoPanic.normal ⟨rfl, ((.slice o1 n c1), (.slice o4 n c4)), by kernel_rfl, end22 hDw hBU hKU q1 BX5⟩
            · refine wpOp_open rfl (by rfl) ?_
              obtain ⟨o3, c3, X3, e3, r3, b3⟩ := conv_z hs HN.out HZ.out X2
              have BX3 := BX2.trans (b3.mono BX2.size)
              go_simp
              have T0 : Below X7.heap.size X7 X3 ∧ Below X1.heap.size X1 X3 := ⟨BX3, bw.trans (b3.mono bw.size)⟩
              refine ⟨fun _ => T0, ?_⟩
              try simp only [Act.put, List.getElem_toArray, List.getElem_cons_zero, List.getElem_cons_succ, List.setIfInBounds_toArray, List.set_cons_zero, List.set_cons_succ]
              have bu := bw.trans (b3.mono bw.size)
              refine wpAnyG_more (T' := fun X => Below X7.heap.size X7 X ∧ Below X3.heap.size X3 X) (fun X h => ⟨h.1, bu.trans (h.2.mono bu.size)⟩) ?_
              have T0 : Below X7.heap.size X7 X3 ∧ Below X3.heap.size X3 X3 := ⟨BX3, Below.refl _ _⟩
              refine wpAnyG_take [13, 14, 15, 16, 18] (i := 13) (v := (.string (encA Z))) rfl (by kernel_rfl) (by kernel_rfl) (by kernel_rfl) (by kernel_rfl) (by kernel_rfl) (by kernel_rfl) (by kernel_rfl) (by kernel_rfl) (fun _ _ _ h => h) (Or.inl ⟨by rfl, ?hy⟩) T0 ?_
              case hy =>
                intro X hX
                have hX1 := conv_runes (cap := c3) HZn.out (rowI_kept r3 hX.2)
                go_simp
              try simp only [Act.put, List.getElem_toArray, List.getElem_cons_zero, List.getElem_cons_succ, List.setIfInBounds_toArray, List.set_cons_zero, List.set_cons_succ]
              refine wpAnyG_all (rs := [10]) (by kernel_rfl) (by simp) ?_
              intro i hi
              simp only [List.mem_cons, List.not_mem_nil, or_false] at hi
              subst hi
              refine wpOp_open rfl (by rfl) ?_
              go_simp
              refine (mend_z hs HZ.out _).mono ?_
              rintro e X4 ⟨rfl, b4⟩
              have BX4 := BX3.trans (b4.mono BX3.size)
              have T0 : Below X7.heap.size X7 X4 ∧ Below X3.heap.size X3 X4 := ⟨BX4, b4⟩
              refine ⟨fun _ => T0, ?_⟩
              try simp only [Act.put, List.getElem_toArray, List.getElem_cons_zero, List.getElem_cons_succ, List.setIfInBounds_toArray, List.set_cons_zero, List.set_cons_succ]
              have bx : Below X3.heap.size X3 X4 := b4
              refine wpAnyG_take [14, 15, 16, 18] (i := 14) (v := (.bool true)) rfl (by kernel_rfl) (by kernel_rfl) (by kernel_rfl) (by kernel_rfl) (by kernel_rfl) (by kernel_rfl) (by kernel_rfl) (by kernel_rfl) (fun _ _ _ h => h) (Or.inl ⟨by rfl, ?hy⟩) T0 ?_
              case hy =>
                intro X hX
                go_simp
              try simp only [Act.put, List.getElem_toArray, List.getElem_cons_zero, List.getElem_cons_succ, List.setIfInBounds_toArray, List.set_cons_zero, List.set_cons_succ]
              refine wpAnyG_take [15, 16, 18] (i := 15) (v := (.bool true)) rfl (by kernel_rfl) (by kernel_rfl) (by kernel_rfl) (by kernel_rfl) (by kernel_rfl) (by kernel_rfl) (by kernel_rfl) (by kernel_rfl) (fun _ _ _ h => h) (Or.inl ⟨by rfl, ?hy⟩) T0 ?_
              case hy =>
                intro X hX
                go_simp
              try simp only [Act.put, List.getElem_toArray, List.getElem_cons_zero, List.getElem_cons_succ, List.setIfInBounds_toArray, List.set_cons_zero, List.set_cons_succ]
              refine wpAnyG_take [16, 18] (i := 16) (v := (.bool true)) rfl (by kernel_rfl) (by kernel_rfl) (by kernel_rfl) (by kernel_rfl) (by kernel_rfl) (by kernel_rfl) (by kernel_rfl) (by kernel_rfl) (fun _ _ _ h => h) (Or.inl ⟨by rfl, ?hy⟩) T0 ?_
              case hy =>
                intro X hX
                go_simp
              try simp only [Act.put, List.getElem_toArray, List.getElem_cons_zero, List.getElem_cons_succ, List.setIfInBounds_toArray, List.set_cons_zero, List.set_cons_succ]
              refine wpAnyG_all (rs := [17]) (by kernel_rfl) (by simp) ?_
              intro i hi
              simp only [List.mem_cons, List.not_mem_nil, or_false] at hi
              subst hi
              refine wpOp_open rfl (by rfl) ?_
              go_simp
              refine (wakes_any _).mono ?_
              rintro e X5 ⟨rfl, b5⟩
              have BX5 := BX4.trans (b5.mono BX4.size)
              have T0 : Below X7.heap.size X7 X5 ∧ Below X3.heap.size X3 X5 := ⟨BX5, bx.trans (b5.mono bx.size)⟩
              refine ⟨fun _ => T0, ?_⟩
              try simp only [Act.put, List.getElem_toArray, List.getElem_cons_zero, List.getElem_cons_succ, List.setIfInBounds_toArray, List.set_cons_zero, List.set_cons_succ]
              refine wpAnyG_take [18] (i := 18) (v := (.bool true)) rfl (by kernel_rfl) (by kernel_rfl) (by kernel_rfl) (by kernel_rfl) (by kernel_rfl) (by kernel_rfl) (by kernel_rfl) (by kernel_rfl) (fun _ _ _ h => h) (Or.inl ⟨by rfl, ?hy⟩) T0 ?_
              case hy =>
                intro X hX
                go_simp
              try simp only [Act.put, List.getElem_toArray, List.getElem_cons_zero, List.getElem_cons_succ, List.setIfInBounds_toArray, List.set_cons_zero, List.set_cons_succ]
              refine wpAnyG_all (rs := [19]) (by kernel_rfl) (by simp) ?_
              intro i hi
              simp only [List.mem_cons, List.not_mem_nil, or_false] at hi
              subst hi
              refine wpOp_open rfl (by rfl) ?_
              have e2 : Boxed X5 (w.heap.size + 1) 4 (.bool false) := Blk.below (show Blk _ _ _ _ from q1) BX5 (Blk.lt (show Blk _ _ _ _ from q1))
              have z0 := e2.cell
              have z1 := e2.frozen
              go_simp
              refine ⟨fun h => (nomatch (show (false : Bool) = true from h)), ?_⟩
              refine wpAnyG_done (by kernel_rfl) ?_ _
              exact NoPanic.normal ⟨rfl, ((.slice o1 n c1), (.slice o3 n c3)), by kernel_rfl, end22 hDw hBU hKU q1 BX5⟩
        refine wp_region_noPanic ?_
        refine wp_region_g (S := untilG [] (fun X => Below V.heap.size V X)) (by kernel_rfl) ?_
        have T0 : Below V.heap.size V V.drew := (Below.refl _ _).drew
        have BX0 := T0
        obtain ⟨X0, hX0⟩ : ∃ X, V.drew = X := ⟨_, rfl⟩
        rw [hX0] at T0 BX0 ⊢
        clear hX0
        refine wpAnyG_take [0] (i := 0) (v := (.int .i64 n)) rfl (by kernel_rfl) (by kernel_rfl) (by kernel_rfl) (by kernel_rfl) (by kernel_rfl) (by kernel_rfl) (by kernel_rfl) (by kernel_rfl) (fun _ _ _ h => h) (Or.inl ⟨by rfl, ?hy⟩) T0 ?_
        case hy =>
          intro X hX
          have hX1 := at_below c4 hX
          go_simp
        try simp only [Act.put, List.getElem_toArray, List.getElem_cons_zero, List.getElem_cons_succ, List.setIfInBounds_toArray, List.set_cons_zero, List.set_cons_succ]
        refine wpAnyG_take [1] (i := 1) (v := (.slice oB n cB)) rfl (by kernel_rfl) (by kernel_rfl) (by kernel_rfl) (by kernel_rfl) (by kernel_rfl) (by kernel_rfl) (by kernel_rfl) (by kernel_rfl) (fun _ _ _ h => h) (Or.inl ⟨by rfl, ?hy⟩) T0 ?_
        case hy =>
          intro X hX
          have hX1 := at_below c3 hX
          go_simp
        try simp only [Act.put, List.getElem_toArray, List.getElem_cons_zero, List.getElem_cons_succ, List.setIfInBounds_toArray, List.set_cons_zero, List.set_cons_succ]
        refine wpAnyG_take [2] (i := 2) (v := (.int .i64 n)) rfl (by kernel_rfl) (by kernel_rfl) (by kernel_rfl) (by kernel_rfl) (by kernel_rfl) (by kernel_rfl) (by kernel_rfl) (by kernel_rfl) (fun _ _ _ h => h) (Or.inl ⟨by rfl, ?hy⟩) T0 ?_
        case hy =>
          intro X hX
          go_simp
        try simp only [Act.put, List.getElem_toArray, List.getElem_cons_zero, List.getElem_cons_succ, List.setIfInBounds_toArray, List.set_cons_zero, List.set_cons_succ]
        refine wpAnyG_take [3] (i := 3) (v := (.bool false)) rfl (by kernel_rfl) (by kernel_rfl) (by kernel_rfl) (by kernel_rfl) (by kernel_rfl) (by kernel_rfl) (by kernel_rfl) (by kernel_rfl) (fun _ _ _ h => h) (Or.inl ⟨by rfl, ?hy⟩) T0 ?_
        case hy =>
          intro X hX
          go_simp
        try simp only [Act.put, List.getElem_toArray, List.getElem_cons_zero, List.getElem_cons_succ, List.setIfInBounds_toArray, List.set_cons_zero, List.set_cons_succ]
        refine wpAnyG_take [4] (i := 4) (v := (.bool false)) rfl (by kernel_rfl) (by kernel_rfl) (by kernel_rfl) (by kernel_rfl) (by kernel_rfl) (by kernel_rfl) (by kernel_rfl) (by kernel_rfl) (fun _ _ _ h => h) (Or.inl ⟨by rfl, ?hy⟩) T0 ?_
        case hy =>
          intro X hX
          go_simp
        try simp only [Act.put, List.getElem_toArray, List.getElem_cons_zero, List.getElem_cons_succ, List.setIfInBounds_toArray, List.set_cons_zero, List.set_cons_succ]
        refine wpAnyG_take [5] (i := 5) (v := (.string s)) rfl (by kernel_rfl) (by kernel_rfl) (by kernel_rfl) (by kernel_rfl) (by kernel_rfl) (by kernel_rfl) (by kernel_rfl) (by kernel_rfl) (fun _ _ _ h => h) (Or.inl ⟨by rfl, ?hy⟩) T0 ?_
        case hy =>
          intro X hX
          have hX1 := at_below c0 hX
          go_simp
        try simp only [Act.put, List.getElem_toArray, List.getElem_cons_zero, List.getElem_cons_succ, List.setIfInBounds_toArray, List.set_cons_zero, List.set_cons_succ]
        refine wpAnyG_take [7] (i := 7) (v := (.string s)) rfl (by kernel_rfl) (by kernel_rfl) (by kernel_rfl) (by kernel_rfl) (by kernel_rfl) (by kernel_rfl) (by kernel_rfl) (by kernel_rfl) (fun _ _ _ h => h) (Or.inl ⟨by rfl, ?hy⟩) T0 ?_
        case hy =>
          intro X hX
          have hX1 := at_below c0 hX
          go_simp
        try simp only [Act.put, List.getElem_toArray, List.getElem_cons_zero, List.getElem_cons_succ, List.setIfInBounds_toArray, List.set_cons_zero, List.set_cons_succ]
        refine wpAnyG_all (rs := [6, 8]) (by kernel_rfl) (by simp) ?_
        intro i hi
        simp only [List.mem_cons, List.not_mem_nil, or_false] at hi
        rcases hi with rfl | rfl
        · refine wpOp_open rfl (by rfl) ?_
          go_simp
          refine (to_z hs HN.out HZ.out _).mono ?_
          rintro e X1 ⟨o1, c1, rfl, r1, b1⟩
          have BX1 := BX0.trans (b1.mono BX0.size)
          have T0 := BX1
          refine ⟨fun _ => T0, ?_⟩
          try simp only [Act.put, List.getElem_toArray, List.getElem_cons_zero, List.getElem_cons_succ, List.setIfInBounds_toArray, List.set_cons_zero, List.set_cons_succ]
          refine wpAnyG_all (rs := [8]) (by kernel_rfl) (by simp) ?_
          intro i hi
          simp only [List.mem_cons, List.not_mem_nil, or_false] at hi
          subst hi
          refine wpOp_open rfl (by rfl) ?_
          obtain ⟨o2, c2, X2, e2, r2, b2⟩ := conv_z hs HN.out HZ.out X1
          have BX2 := BX1.trans (b2.mono BX1.size)
          go_simp
          have T0 := BX2
          refine ⟨fun _ => T0, ?_⟩
          try simp only [Act.put, List.getElem_toArray, List.getElem_cons_zero, List.getElem_cons_succ, List.setIfInBounds_toArray, List.set_cons_zero, List.set_cons_succ]
          have rA := rowI_kept r1 b2
          have rB := r2
          refine wpAnyG_all (rs := [9]) (by kernel_rfl) (by simp) ?_
          intro i hi
          simp only [List.mem_cons, List.not_mem_nil, or_false] at hi
          subst hi
          refine wpOp_open rfl (by rfl) ?_
          go_simp
          refine (same_any _ _ n _ _ Z HZn.out (by omega) _ rA rB).mono ?_
          rintro e X3 ⟨rfl, bS⟩
          have BX3 := BX2.trans (bS.mono BX2.size)
          have T0 := BX3
          refine ⟨fun _ => T0, ?_⟩
          try simp only [Act.put, List.getElem_toArray, List.getElem_cons_zero, List.getElem_cons_succ, List.setIfInBounds_toArray, List.set_cons_zero, List.set_cons_succ]
          refine wpAnyG_take [10] (i := 10) (v := (.bool false)) rfl (by kernel_rfl) (by kernel_rfl) (by kernel_rfl) (by kernel_rfl) (by kernel_rfl) (by kernel_rfl) (by kernel_rfl) (by kernel_rfl) (fun _ _ _ h => h) (Or.inl ⟨by rfl, ?hy⟩) T0 ?_
          case hy =>
            intro X hX
            go_simp
          try simp only [Act.put, List.getElem_toArray, List.getElem_cons_zero, List.getElem_cons_succ, List.setIfInBounds_toArray, List.set_cons_zero, List.set_cons_succ]
          refine wpAnyG_take [11] (i := 11) (v := (.bool false)) rfl (by kernel_rfl) (by kernel_rfl) (by kernel_rfl) (by kernel_rfl) (by kernel_rfl) (by kernel_rfl) (by kernel_rfl) (by kernel_rfl) (fun _ _ _ h => h) (Or.inl ⟨by rfl, ?hy⟩) T0 ?_
          case hy =>
            intro X hX
            go_simp
          try simp only [Act.put, List.getElem_toArray, List.getElem_cons_zero, List.getElem_cons_succ, List.setIfInBounds_toArray, List.set_cons_zero, List.set_cons_succ]
          refine wpAnyG_take [12] (i := 12) (v := (.bool false)) rfl (by kernel_rfl) (by kernel_rfl) (by kernel_rfl) (by kernel_rfl) (by kernel_rfl) (by kernel_rfl) (by kernel_rfl) (by kernel_rfl) (fun _ _ _ h => h) (Or.inl ⟨by rfl, ?hy⟩) T0 ?_
          case hy =>
            intro X hX
            go_simp
          try simp only [Act.put, List.getElem_toArray, List.getElem_cons_zero, List.getElem_cons_succ, List.setIfInBounds_toArray, List.set_cons_zero, List.set_cons_succ]
          refine wpAnyG_take [13] (i := 13) (v := (.slice oB n cB)) rfl (by kernel_rfl) (by kernel_rfl) (by kernel_rfl) (by kernel_rfl) (by kernel_rfl) (by kernel_rfl) (by kernel_rfl) (by kernel_rfl) (fun _ _ _ h => h) (Or.inl ⟨by rfl, ?hy⟩) T0 ?_
          case hy =>
            intro X hX
            have hX1 := at_below c3 hX
            go_simp
          try simp only [Act.put, List.getElem_toArray, List.getElem_cons_zero, List.getElem_cons_succ, List.setIfInBounds_toArray, List.set_cons_zero, List.set_cons_succ]
          refine wpAnyG_take [15] (i := 15) (v := (.slice oB n cB)) rfl (by kernel_rfl) (by kernel_rfl) (by kernel_rfl) (by kernel_rfl) (by kernel_rfl) (by kernel_rfl) (by kernel_rfl) (by kernel_rfl) (fun _ _ _ h => h) (Or.inl ⟨by rfl, ?hy⟩) T0 ?_
          case hy =>
            intro X hX
            have hX1 := at_below c3 hX
            go_simp
          try simp only [Act.put, List.getElem_toArray, List.getElem_cons_zero, List.getElem_cons_succ, List.setIfInBounds_toArray, List.set_cons_zero, List.set_cons_succ]
          refine wpAnyG_take [16] (i := 16) (v := (.string (encA Z))) rfl (by kernel_rfl) (by kernel_rfl) (by kernel_rfl) (by kernel_rfl) (by kernel_rfl) (by kernel_rfl) (by kernel_rfl) (by kernel_rfl) (fun _ _ _ h => h) (Or.inl ⟨by rfl, ?hy⟩) T0 ?_
          case hy =>
            intro X hX
            have hX1 := conv_runes (cap := cB) HZn.out (rowI_kept hrI hX)
            go_simp
          try simp only [Act.put, List.getElem_toArray, List.getElem_cons_zero, List.getElem_cons_succ, List.setIfInBounds_toArray, List.set_cons_zero, List.set_cons_succ]
          refine wpAnyG_all (rs := [14]) (by kernel_rfl) (by simp) ?_
          intro i hi
          simp only [List.mem_cons, List.not_mem_nil, or_false] at hi
          subst hi
          refine wpOp_open rfl (by rfl) ?_
          go_simp
          refine (of_any _ n _ Z HZn.out (by omega) _ (rowI_kept hrI BX3)).mono ?_
          rintro e X4 ⟨rfl, bO⟩
          have BX4 := BX3.trans (bO.mono BX3.size)
          have T0 := BX4
          refine ⟨fun _ => T0, ?_⟩
          try simp only [Act.put, List.getElem_toArray, List.getElem_cons_zero, List.getElem_cons_succ, List.setIfInBounds_toArray, List.set_cons_zero, List.set_cons_succ]
          refine wpAnyG_take [17] (i := 17) (v := (.bool false)) rfl (by kernel_rfl) (by kernel_rfl) (by kernel_rfl) (by kernel_rfl) (by kernel_rfl) (by kernel_rfl) (by kernel_rfl) (by kernel_rfl) (fun _ _ _ h => h) (Or.inl ⟨by rfl, ?hy⟩) T0 ?_
          case hy =>
            intro X hX
            go_simp
          try simp only [Act.put, List.getElem_toArray, List.getElem_cons_zero, List.getElem_cons_succ, List.setIfInBounds_toArray, List.set_cons_zero, List.set_cons_succ]
          refine wpAnyG_take [18] (i := 18) (v := (.bool false)) rfl (by kernel_rfl) (by kernel_rfl) (by kernel_rfl) (by kernel_rfl) (by kernel_rfl) (by kernel_rfl) (by kernel_rfl) (by kernel_rfl) (fun _ _ _ h => h) (Or.inl ⟨by rfl, ?hy⟩) T0 ?_
          case hy =>
            intro X hX
            go_simp
          try simp only [Act.put, List.getElem_toArray, List.getElem_cons_zero, List.getElem_cons_succ, List.setIfInBounds_toArray, List.set_cons_zero, List.set_cons_succ]
          refine wpAnyG_take [19] (i := 19) (v := (.bool false)) rfl (by kernel_rfl) (by kernel_rfl) (by kernel_rfl) (by kernel_rfl) (by kernel_rfl) (by kernel_rfl) (by kernel_rfl) (by kernel_rfl) (fun _ _ _ h => h) (Or.inl ⟨by rfl, ?hy⟩) T0 ?_
          case hy =>
            intro X hX
            go_simp
          try simp only [Act.put, List.getElem_toArray, List.getElem_cons_zero, List.getElem_cons_succ, List.setIfInBounds_toArray, List.set_cons_zero, List.set_cons_succ]
          refine wpAnyG_take [20] (i := 20) (v := (.string s)) rfl (by kernel_rfl) (by kernel_rfl) (by kernel_rfl) (by kernel_rfl) (by kernel_rfl) (by kernel_rfl) (by kernel_rfl) (by kernel_rfl) (fun _ _ _ h => h) (Or.inl ⟨by rfl, ?hy⟩) T0 ?_
          case hy =>
            intro X hX
            have hX1 := at_below c0 hX
            go_simp
          try simp only [Act.put, List.getElem_toArray, List.getElem_cons_zero, List.getElem_cons_succ, List.setIfInBounds_toArray, List.set_cons_zero, List.set_cons_succ]
          refine wpAnyG_take [23] (i := 23) (v := (.string s)) rfl (by kernel_rfl) (by kernel_rfl) (by kernel_rfl) (by kernel_rfl) (by kernel_rfl) (by kernel_rfl) (by kernel_rfl) (by kernel_rfl) (fun _ _ _ h => h) (Or.inl ⟨by rfl, ?hy⟩) T0 ?_
          case hy =>
            intro X hX
            have hX1 := at_below c0 hX
            go_simp
          try simp only [Act.put, List.getElem_toArray, List.getElem_cons_zero, List.getElem_cons_succ, List.setIfInBounds_toArray, List.set_cons_zero, List.set_cons_succ]
          refine wpAnyG_all (rs := [21, 24]) (by kernel_rfl) (by simp) ?_
          intro i hi
          simp only [List.mem_cons, List.not_mem_nil, or_false] at hi
          rcases hi with rfl | rfl
          · refine wpOp_open rfl (by rfl) ?_
            go_simp
            refine (to_z hs HN.out HZ.out _).mono ?_
            rintro e X5 ⟨o5, c5, rfl, r5, b5⟩
            have BX5 := BX4.trans (b5.mono BX4.size)
            have T0 := BX5
            refine ⟨fun _ => T0, ?_⟩
            try simp only [Act.put, List.getElem_toArray, List.getElem_cons_zero, List.getElem_cons_succ, List.setIfInBounds_toArray, List.set_cons_zero, List.set_cons_succ]
            refine wpAnyG_all (rs := [22, 24]) (by kernel_rfl) (by simp) ?_
            intro i hi
            simp only [List.mem_cons, List.not_mem_nil, or_false] at hi
            rcases hi with rfl | rfl
            · refine wpOp_open rfl (by rfl) ?_
              go_simp
              refine (of_any _ n _ Z HZn.out (by omega) _ (r5)).mono ?_
              rintro e X6 ⟨rfl, b6⟩
              have BX6 := BX5.trans (b6.mono BX5.size)
              have T0 := BX6
              refine ⟨fun _ => T0, ?_⟩
              try simp only [Act.put, List.getElem_toArray, List.getElem_cons_zero, List.getElem_cons_succ, List.setIfInBounds_toArray, List.set_cons_zero, List.set_cons_succ]
              refine wpAnyG_all (rs := [24]) (by kernel_rfl) (by simp) ?_
              intro i hi
              simp only [List.mem_cons, List.not_mem_nil, or_false] at hi
              subst hi
              refine wpOp_open rfl (by rfl) ?_
              obtain ⟨o7, c7, X7, e7, r7, b7⟩ := conv_z hs HN.out HZ.out X6
              have BX7 := BX6.trans (b7.mono BX6.size)
              go_simp
              have T0 := BX7
              refine ⟨fun _ => T0, ?_⟩
              try simp only [Act.put, List.getElem_toArray, List.getElem_cons_zero, List.getElem_cons_succ, List.setIfInBounds_toArray, List.set_cons_zero, List.set_cons_succ]
              refine wpAnyG_more (T' := fun X => Below V.heap.size V X ∧ Below X7.heap.size X7 X) (fun _ h => h.1) ?_
              have T0 : Below V.heap.size V X7 ∧ Below X7.heap.size X7 X7 := ⟨BX7, Below.refl _ _⟩
              refine wpAnyG_take [25] (i := 25) (v := (.string (encA Z))) rfl (by kernel_rfl) (by kernel_rfl) (by kernel_rfl) (by kernel_rfl) (by kernel_rfl) (by kernel_rfl) (by kernel_rfl) (by kernel_rfl) (fun _ _ _ h => h) (Or.inl ⟨by rfl, ?hy⟩) T0 ?_
              case hy =>
                intro X hX
                have hX1 := conv_runes (cap := c7) HZn.out (rowI_kept r7 hX.2)
                go_simp
              try simp only [Act.put, List.getElem_toArray, List.getElem_cons_zero, List.getElem_cons_succ, List.setIfInBounds_toArray, List.set_cons_zero, List.set_cons_succ]
              refine wpAnyG_take [26] (i := 26) (v := (.bool false)) rfl (by kernel_rfl) (by kernel_rfl) (by kernel_rfl) (by kernel_rfl) (by kernel_rfl) (by kernel_rfl) (by kernel_rfl) (by kernel_rfl) (fun _ _ _ h => h) (Or.inl ⟨by rfl, ?hy⟩) T0 ?_
              case hy =>
                intro X hX
                go_simp
              try simp only [Act.put, List.getElem_toArray, List.getElem_cons_zero, List.getElem_cons_succ, List.setIfInBounds_toArray, List.set_cons_zero, List.set_cons_succ]
              refine wpAnyG_take [27] (i := 27) (v := (.bool false)) rfl (by kernel_rfl) (by kernel_rfl) (by kernel_rfl) (by kernel_rfl) (by kernel_rfl) (by kernel_rfl) (by kernel_rfl) (by kernel_rfl) (fun _ _ _ h => h) (Or.inl ⟨by rfl, ?hy⟩) T0 ?_
              case hy =>
                intro X hX
                go_simp
              try simp only [Act.put, List.getElem_toArray, List.getElem_cons_zero, List.getElem_cons_succ, List.setIfInBounds_toArray, List.set_cons_zero, List.set_cons_succ]
              refine wpAnyG_done (by kernel_rfl) ?_ _
              exact NoPanic.normal ⟨rfl, (.slice o1 n c1, .slice o2 n c2, (.slice o5 n c5), (.slice o7 n c7)), by kernel_rfl, BX7⟩
            · refine wpOp_open rfl (by rfl) ?_
              obtain ⟨o6, c6, X6, e6, r6, b6⟩ := conv_z hs HN.out HZ.out X5
              have BX6 := BX5.trans (b6.mono BX5.size)
              go_simp
              have T0 := BX6
              refine ⟨fun _ => T0, ?_⟩
              try simp only [Act.put, List.getElem_toArray, List.getElem_cons_zero, List.getElem_cons_succ, List.setIfInBounds_toArray, List.set_cons_zero, List.set_cons_succ]
              refine wpAnyG_more (T' := fun X => Below V.heap.size V X ∧ Below X6.heap.size X6 X) (fun _ h => h.1) ?_
              have T0 : Below V.heap.size V X6 ∧ Below X6.heap.size X6 X6 := ⟨BX6, Below.refl _ _⟩
              refine wpAnyG_take [25] (i := 25) (v := (.string (encA Z))) rfl (by kernel_rfl) (by kernel_rfl) (by kernel_rfl) (by kernel_rfl) (by kernel_rfl) (by kernel_rfl) (by kernel_rfl) (by kernel_rfl) (fun _ _ _ h => h) (Or.inl ⟨by rfl, ?hy⟩) T0 ?_
              case hy =>
                intro X hX
                have hX1 := conv_runes (cap := c6) HZn.out (rowI_kept r6 hX.2)
                go_simp
              try simp only [Act.put, List.getElem_toArray, List.getElem_cons_zero, List.getElem_cons_succ, List.setIfInBounds_toArray, List.set_cons_zero, List.set_cons_succ]
              refine wpAnyG_all (rs := [22]) (by kernel_rfl) (by simp) ?_
              intro i hi
              simp only [List.mem_cons, List.not_mem_nil, or_false] at hi
              subst hi
              refine wpOp_open rfl (by rfl) ?_
              go_simp
              refine (of_any _ n _ Z HZn.out (by omega) _ (rowI_kept r5 b6)).mono ?_
              rintro e X7 ⟨rfl, b7⟩
              have BX7 := BX6.trans (b7.mono BX6.size)
              have T0 : Below V.heap.size V X7 ∧ Below X6.heap.size X6 X7 := ⟨BX7, b7⟩
              refine ⟨fun _ => T0, ?_⟩
              try simp only [Act.put, List.getElem_toArray, List.getElem_cons_zero, List.getElem_cons_succ, List.setIfInBounds_toArray, List.set_cons_zero, List.set_cons_succ]
              refine wpAnyG_take [26] (i := 26) (v := (.bool false)) rfl (by kernel_rfl) (by kernel_rfl) (by kernel_rfl) (by kernel_rfl) (by kernel_rfl) (by kernel_rfl) (by kernel_rfl) (by kernel_rfl) (fun _ _ _ h => h) (Or.inl ⟨by rfl, ?hy⟩) T0 ?_
              case hy =>
                intro X hX
                go_simp
              try simp only [Act.put, List.getElem_toArray, List.getElem_cons_zero, List.getElem_cons_succ, List.setIfInBounds_toArray, List.set_cons_zero, List.set_cons_succ]
              refine wpAnyG_take [27] (i := 27) (v := (.bool false)) rfl (by kernel_rfl) (by kernel_rfl) (by kernel_rfl) (by kernel_rfl) (by kernel_rfl) (by kernel_rfl) (by kernel_rfl) (by kernel_rfl) (fun _ _ _ h => h) (Or.inl ⟨by rfl, ?hy⟩) T0 ?_
              case hy =>
                intro X hX
                go_simp
              try simp only [Act.put, List.getElem_toArray, List.getElem_cons_zero, List.getElem_cons_succ, List.setIfInBounds_toArray, List.set_cons_zero, List.set_cons_succ]
              refine wpAnyG_done (by kernel_rfl) ?_ _
              exact NoPanic.normal ⟨rfl, (.slice o1 n c1, .slice o2 n c2, (.slice o5 n c5), (.slice o6 n c6)), by kernel_rfl, BX7⟩
          · refine wpOp_open rfl (by rfl) ?_
            obtain ⟨o5, c5, X5, e5, r5, b5⟩ := conv_z hs HN.out HZ.out X4
            have BX5 := BX4.trans (b5.mono BX4.size)
            go_simp
            have T0 := BX5
            refine ⟨fun _ => T0, ?_⟩
            try simp only [Act.put, List.getElem_toArray, List.getElem_cons_zero, List.getElem_cons_succ, List.setIfInBounds_toArray, List.set_cons_zero, List.set_cons_succ]
            refine wpAnyG_more (T' := fun X => Below V.heap.size V X ∧ Below X5.heap.size X5 X) (fun _ h => h.1) ?_
            have T0 : Below V.heap.size V X5 ∧ Below X5.heap.size X5 X5 := ⟨BX5, Below.refl _ _⟩
            refine wpAnyG_take [25] (i := 25) (v := (.string (encA Z))) rfl (by kernel_rfl) (by kernel_rfl) (by kernel_rfl) (by kernel_rfl) (by kernel_rfl) (by kernel_rfl) (by kernel_rfl) (by kernel_rfl) (fun _ _ _ h => h) (Or.inl ⟨by rfl, ?hy⟩) T0 ?_
            case hy =>
              intro X hX
              have hX1 := conv_runes (cap := c5) HZn.out (rowI_kept r5 hX.2)
              go_simp
            try simp only [Act.put, List.getElem_toArray, List.getElem_cons_zero, List.getElem_cons_succ, List.setIfInBounds_toArray, List.set_cons_zero, List.set_cons_succ]
            refine wpAnyG_all (rs := [21]) (by kernel_rfl) (by simp) ?_
            intro i hi
            simp only [List.mem_cons, List.not_mem_nil, or_false] at hi
            subst hi
            refine wpOp_open rfl (by rfl) ?_
            go_simp
            refine (to_z hs HN.out HZ.out _).mono ?_
            rintro e X6 ⟨o6, c6, rfl, r6, b6⟩
            have BX6 := BX5.trans (b6.mono BX5.size)
            have T0 : Below V.heap.size V X6 ∧ Below X5.heap.size X5 X6 := ⟨BX6, b6⟩
            refine ⟨fun _ => T0, ?_⟩
            try simp only [Act.put, List.getElem_toArray, List.getElem_cons_zero, List.getElem_cons_succ, List.setIfInBounds_toArray, List.set_cons_zero, List.set_cons_succ]
            refine wpAnyG_all (rs := [22]) (by kernel_rfl) (by simp) ?_
            intro i hi
            simp only [List.mem_cons, List.not_mem_nil, or_false] at hi
            subst hi
            refine wpOp_open rfl (by rfl) ?_
            go_simp
            refine (of_any _ n _ Z HZn.out (by omega) _ (r6)).mono ?_
            rintro e X7 ⟨rfl, b7⟩
            have BX7 := BX6.trans (b7.mono BX6.size)
            have T0 : Below V.heap.size V X7 ∧ Below X5.heap.size X5 X7 := ⟨BX7, b6.trans (b7.mono b6.size)⟩
            refine ⟨fun _ => T0, ?_⟩
            try simp only [Act.put, List.getElem_toArray, List.getElem_cons_zero, List.getElem_cons_succ, List.setIfInBounds_toArray, List.set_cons_zero, List.set_cons_succ]
            refine wpAnyG_take [26] (i := 26) (v := (.bool false)) rfl (by kernel_rfl) (by kernel_rfl) (by kernel_rfl) (by kernel_rfl) (by kernel_rfl) (by kernel_rfl) (by kernel_rfl) (by kernel_rfl) (fun _ _ _ h => h) (Or.inl ⟨by rfl, ?hy⟩) T0 ?_
            case hy =>
              intro X hX
              go_simp
            try simp only [Act.put, List.getElem_toArray, List.getElem_cons_zero, List.getElem_cons_succ, List.setIfInBounds_toArray, List.set_cons_zero, List.set_cons_succ]
            refine wpAnyG_take [27] (i := 27) (v := (.bool false)) rfl (by kernel_rfl) (by kernel_rfl) (by kernel_rfl) (by kernel_rfl) (by kernel_rfl) (by kernel_rfl) (by kernel_rfl) (by kernel_rfl) (fun _ _ _ h => h) (Or.inl ⟨by rfl, ?hy⟩) T0 ?_
            case hy =>
              intro X hX
              go_simp
            try simp only [Act.put, List.getElem_toArray, List.getElem_cons_zero, List.getElem_cons_succ, List.setIfInBounds_toArray, List.set_cons_zero, List.set_cons_succ]
            refine wpAnyG_done (by kernel_rfl) ?_ _
            exact NoPanic.normal ⟨rfl, (.slice o1 n c1, .slice o2 n c2, (.slice o6 n c6), (.slice o5 n c5)), by kernel_rfl, BX7⟩
        · refine wpOp_open rfl (by rfl) ?_
          obtain ⟨o1, c1, X1, e1, r1, b1⟩ := conv_z hs HN.out HZ.out X0
          have BX1 := BX0.trans (b1.mono BX0.size)
          go_simp
          have T0 := BX1
          refine ⟨fun _ => T0, ?_⟩
          try simp only [Act.put, List.getElem_toArray, List.getElem_cons_zero, List.getElem_cons_succ, List.setIfInBounds_toArray, List.set_cons_zero, List.set_cons_succ]
          refine wpAnyG_all (rs := [6]) (by kernel_rfl) (by simp) ?_
          intro i hi
          simp only [List.mem_cons, List.not_mem_nil, or_false] at hi
          subst hi
          refine wpOp_open rfl (by rfl) ?_
          go_simp
          refine (to_z hs HN.out HZ.out _).mono ?_
          rintro e X2 ⟨o2, c2, rfl, r2, b2⟩
          have BX2 := BX1.trans (b2.mono BX1.size)
          have T0 := BX2
          refine ⟨fun _ => T0, ?_⟩
          try simp only [Act.put, List.getElem_toArray, List.getElem_cons_zero, List.getElem_cons_succ, List.setIfInBounds_toArray, List.set_cons_zero, List.set_cons_succ]
          have rA := r2
          have rB := rowI_kept r1 b2
          refine wpAnyG_all (rs := [9]) (by kernel_rfl) (by simp) ?_
          intro i hi
          simp only [List.mem_cons, List.not_mem_nil, or_false] at hi
          subst hi
          refine wpOp_open rfl (by rfl) ?_
          go_simp
          refine (same_any _ _ n _ _ Z HZn.out (by omega) _ rA rB).mono ?_
          rintro e X3 ⟨rfl, bS⟩
          have BX3 := BX2.trans (bS.mono BX2.size)
          have T0 := BX3
          refine ⟨fun _ => T0, ?_⟩
          try simp only [Act.put, List.getElem_toArray, List.getElem_cons_zero, List.getElem_cons_succ, List.setIfInBounds_toArray, List.set_cons_zero, List.set_cons_succ]
          refine wpAnyG_take [10] (i := 10) (v := (.bool false)) rfl (by kernel_rfl) (by kernel_rfl) (by kernel_rfl) (by kernel_rfl) (by kernel_rfl) (by kernel_rfl) (by kernel_rfl) (by kernel_rfl) (fun _ _ _ h => h) (Or.inl ⟨by rfl, ?hy⟩) T0 ?_
          case hy =>
            intro X hX
            go_simp
          try simp only [Act.put, List.getElem_toArray, List.getElem_cons_zero, List.getElem_cons_succ, List.setIfInBounds_toArray, List.set_cons_zero, List.set_cons_succ]
          refine wpAnyG_take [11] (i := 11) (v := (.bool false)) rfl (by kernel_rfl) (by kernel_rfl) (by kernel_rfl) (by kernel_rfl) (by kernel_rfl) (by kernel_rfl) (by kernel_rfl) (by kernel_rfl) (fun _ _ _ h => h) (Or.inl ⟨by rfl, ?hy⟩) T0 ?_
          case hy =>
            intro X hX
            go_simp
          try simp only [Act.put, List.getElem_toArray, List.getElem_cons_zero, List.getElem_cons_succ, List.setIfInBounds_toArray, List.set_cons_zero, List.set_cons_succ]
          refine wpAnyG_take [12] (i := 12) (v := (.bool false)) rfl (by kernel_rfl) (by kernel_rfl) (by kernel_rfl) (by kernel_rfl) (by kernel_rfl) (by kernel_rfl) (by kernel_rfl) (by kernel_rfl) (fun _ _ _ h => h) (Or.inl ⟨by rfl, ?hy⟩) T0 ?_
          case hy =>
            intro X hX
            go_simp
          try simp only [Act.put, List.getElem_toArray, List.getElem_cons_zero, List.getElem_cons_succ, List.setIfInBounds_toArray, List.set_cons_zero, List.set_cons_succ]
          refine wpAnyG_take [13] (i := 13) (v := (.slice oB n cB)) rfl (by kernel_rfl) (by kernel_rfl) (by kernel_rfl) (by kernel_rfl) (by kernel_rfl) (by kernel_rfl) (by kernel_rfl) (by kernel_rfl) (fun _ _ _ h => h) (Or.inl ⟨by rfl, ?hy⟩) T0 ?_
          case hy =>
            intro X hX
            have hX1 := at_below c3 hX
            go_simp
          try simp only [Act.put, List.getElem_toArray, List.getElem_cons_zero, List.getElem_cons_succ, List.setIfInBounds_toArray, List.set_cons_zero, List.set_cons_succ]
          refine wpAnyG_take [15] (i := 15) (v := (.slice oB n cB)) rfl (by kernel_rfl) (by kernel_rfl) (by kernel_rfl) (by kernel_rfl) (by kernel_rfl) (by kernel_rfl) (by kernel_rfl) (by kernel_rfl) (fun _ _ _ h => h) (Or.inl ⟨by rfl, ?hy⟩) T0 ?_
          case hy =>
            intro X hX
            have hX1 := at_below c3 hX
            go_simp
          try simp only [Act.put, List.getElem_toArray, List.getElem_cons_zero, List.getElem_cons_succ, List.setIfInBounds_toArray, List.set_cons_zero, List.set_cons_succ]
          refine wpAnyG_take [16] (i := 16) (v := (.string (encA Z))) rfl (by kernel_rfl) (by kernel_rfl) (by kernel_rfl) (by kernel_rfl) (by kernel_rfl) (by kernel_rfl) (by kernel_rfl) (by kernel_rfl) (fun _ _ _ h => h) (Or.inl ⟨by rfl, ?hy⟩) T0 ?_
          case hy =>
            intro X hX
            have hX1 := conv_runes (cap := cB) HZn.out (rowI_kept hrI hX)
            go_simp
          try simp only [Act.put, List.getElem_toArray, List.getElem_cons_zero, List.getElem_cons_succ, List.setIfInBounds_toArray, List.set_cons_zero, List.set_cons_succ]
          refine wpAnyG_all (rs := [14]) (by kernel_rfl) (by simp) ?_
          intro i hi
          simp only [List.mem_cons, List.not_mem_nil, or_false] at hi
          subst hi
          refine wpOp_open rfl (by rfl) ?_
          go_simp
          refine (of_any _ n _ Z HZn.out (by omega) _ (rowI_kept hrI BX3)).mono ?_
          rintro e X4 ⟨rfl, bO⟩
          have BX4 := BX3.trans (bO.mono BX3.size)
          have T0 := BX4
          refine ⟨fun _ => T0, ?_⟩
          try simp only [Act.put, List.getElem_toArray, List.getElem_cons_zero, List.getElem_cons_succ, List.setIfInBounds_toArray, List.set_cons_zero, List.set_cons_succ]
          refine wpAnyG_take [17] (i := 17) (v := (.bool false)) rfl (by kernel_rfl) (by kernel_rfl) (by kernel_rfl) (by kernel_rfl) (by kernel_rfl) (by kernel_rfl) (by kernel_rfl) (by kernel_rfl) (fun _ _ _ h => h) (Or.inl ⟨by rfl, ?hy⟩) T0 ?_
          case hy =>
            intro X hX
            go_simp
          try simp only [Act.put, List.getElem_toArray, List.getElem_cons_zero, List.getElem_cons_succ, List.setIfInBounds_toArray, List.set_cons_zero, List.set_cons_succ]
          refine wpAnyG_take [18] (i := 18) (v := (.bool false)) rfl (by kernel_rfl) (by kernel_rfl) (by kernel_rfl) (by kernel_rfl) (by kernel_rfl) (by kernel_rfl) (by kernel_rfl) (by kernel_rfl) (fun _ _ _ h => h) (Or.inl ⟨by rfl, ?hy⟩) T0 ?_
          case hy =>
            intro X hX
            go_simp
          try simp only [Act.put, List.getElem_toArray, List.getElem_cons_zero, List.getElem_cons_succ, List.setIfInBounds_toArray, List.set_cons_zero, List.set_cons_succ]
          refine wpAnyG_take [19] (i := 19) (v := (.bool false)) rfl (by kernel_rfl) (by kernel_rfl) (by kernel_rfl) (by kernel_rfl) (by kernel_rfl) (by kernel_rfl) (by kernel_rfl) (by kernel_rfl) (fun _ _ _ h => h) (Or.inl ⟨by rfl, ?hy⟩) T0 ?_
          case hy =>
            intro X hX
            go_simp
          try simp only [Act.put, List.getElem_toArray, List.getElem_cons_zero, List.getElem_cons_succ, List.setIfInBounds_toArray, List.set_cons_zero, List.set_cons_succ]
          refine wpAnyG_take [20] (i := 20) (v := (.string s)) rfl (by kernel_rfl) (by kernel_rfl) (by kernel_rfl) (by kernel_rfl) (by kernel_rfl) (by kernel_rfl) (by kernel_rfl) (by kernel_rfl) (fun _ _ _ h => h) (Or.inl ⟨by rfl, ?hy⟩) T0 ?_
          case hy =>
            intro X hX
            have hX1 := at_below c0 hX
            go_simp
          try simp only [Act.put, List.getElem_toArray, List.getElem_cons_zero, List.getElem_cons_succ, List.setIfInBounds_toArray, List.set_cons_zero, List.set_cons_succ]
          refine wpAnyG_take [23] (i := 23) (v := (.string s)) rfl (by kernel_rfl) (by kernel_rfl) (by kernel_rfl) (by kernel_rfl) (by kernel_rfl) (by kernel_rfl) (by kernel_rfl) (by kernel_rfl) (fun _ _ _ h => h) (Or.inl ⟨by rfl, ?hy⟩) T0 ?_
          case hy =>
            intro X hX
            have hX1 := at_below c0 hX
            go_simp
          try simp only [Act.put, List.getElem_toArray, List.getElem_cons_zero, List.getElem_cons_succ, List.setIfInBounds_toArray, List.set_cons_zero, List.set_cons_succ]
          refine wpAnyG_all (rs := [21, 24]) (by kernel_rfl) (by simp) ?_
          intro i hi
          simp only [List.mem_cons, List.not_mem_nil, or_false] at hi
          rcases hi with rfl | rfl
          · refine wpOp_open rfl (by rfl) ?_
            go_simp
            refine (to_z hs HN.out HZ.out _).mono ?_
            rintro e X5 ⟨o5, c5, rfl, r5, b5⟩
            have BX5 := BX4.trans (b5.mono BX4.size)
            have T0 := BX5
            refine ⟨fun _ => T0, ?_⟩
            try simp only [Act.put, List.getElem_toArray, List.getElem_cons_zero, List.getElem_cons_succ, List.setIfInBounds_toArray, List.set_cons_zero, List.set_cons_succ]
            refine wpAnyG_all (rs := [22, 24]) (by kernel_rfl) (by simp) ?_
            intro i hi
            simp only [List.mem_cons, List.not_mem_nil, or_false] at hi
            rcases hi with rfl | rfl
            · refine wpOp_open rfl (by rfl) ?_
              go_simp
              refine (of_any _ n _ Z HZn.out (by omega) _ (r5)).mono ?_
              rintro e X6 ⟨rfl, b6⟩
              have BX6 := BX5.trans (b6.mono BX5.size)
              have T0 := BX6
              refine ⟨fun _ => T0, ?_⟩
              try simp only [Act.put, List.getElem_toArray, List.getElem_cons_zero, List.getElem_cons_succ, List.setIfInBounds_toArray, List.set_cons_zero, List.set_cons_succ]
              refine wpAnyG_all (rs := [24]) (by kernel_rfl) (by simp) ?_
              intro i hi
              simp only [List.mem_cons, List.not_mem_nil, or_false] at hi
              subst hi
              refine wpOp_open rfl (by rfl) ?_
              obtain ⟨o7, c7, X7, e7, r7, b7⟩ := conv_z hs HN.out HZ.out X6
              have BX7 := BX6.trans (b7.mono BX6.size)
              go_simp
              have T0 := BX7
              refine ⟨fun _ => T0, ?_⟩
              try simp only [Act.put, List.getElem_toArray, List.getElem_cons_zero, List.getElem_cons_succ, List.setIfInBounds_toArray, List.set_cons_zero, List.set_cons_succ]
              refine wpAnyG_more (T' := fun X => Below V.heap.size V X ∧ Below X7.heap.size X7 X) (fun _ h => h.1) ?_
              have T0 : Below V.heap.size V X7 ∧ Below X7.heap.size X7 X7 := ⟨BX7, Below.refl _ _⟩
              refine wpAnyG_take [25] (i := 25) (v := (.string (encA Z))) rfl (by kernel_rfl) (by kernel_rfl) (by kernel_rfl) (by kernel_rfl) (by kernel_rfl) (by kernel_rfl) (by kernel_rfl) (by kernel_rfl) (fun _ _ _ h => h) (Or.inl ⟨by rfl, ?hy⟩) T0 ?_
              case hy =>
                intro X hX
                have hX1 := conv_runes (cap := c7) HZn.out (rowI_kept r7 hX.2)
                go_simp
              try simp only [Act.put, List.getElem_toArray, List.getElem_cons_zero, List.getElem_cons_succ, List.setIfInBounds_toArray, List.set_cons_zero, List.set_cons_succ]
              refine wpAnyG_take [26] (i := 26) (v := (.bool false)) rfl (by kernel_rfl) (by kernel_rfl) (by kernel_rfl) (by kernel_rfl) (by kernel_rfl) (by kernel_rfl) (by kernel_rfl) (by kernel_rfl) (fun _ _ _ h => h) (Or.inl ⟨by rfl, ?hy⟩) T0 ?_
              case hy =>
                intro X hX
                go_simp
              try simp only [Act.put, List.getElem_toArray, List.getElem_cons_zero, List.getElem_cons_succ, List.setIfInBounds_toArray, List.set_cons_zero, List.set_cons_succ]
              refine wpAnyG_take [27] (i := 27) (v := (.bool false)) rfl (by kernel_rfl) (by kernel_rfl) (by kernel_rfl) (by kernel_rfl) (by kernel_rfl) (by kernel_rfl) (by kernel_rfl) (by kernel_rfl) (fun _ _ _ h => h) (Or.inl ⟨by rfl, ?hy⟩) T0 ?_
              case hy =>
                intro X hX
                go_simp
              try simp only [Act.put, List.getElem_toArray, List.getElem_cons_zero, List.getElem_cons_succ, List.setIfInBounds_toArray, List.set_cons_zero, List.set_cons_succ]
              refine wpAnyG_done (by kernel_rfl) ?_ _
              exact NoPanic.normal ⟨rfl, (.slice o2 n c2, .slice o1 n c1, (.slice o5 n c5), (.slice o7 n c7)), by kernel_rfl, BX7⟩
            · refine wpOp_open rfl (by rfl) ?_
              obtain ⟨o6, c6, X6, e6, r6, b6⟩ := conv_z hs HN.out HZ.out X5
              have BX6 := BX5.trans (b6.mono BX5.size)
              go_simp
              have T0 := BX6
              refine ⟨fun _ => T0, ?_⟩
              try simp only [Act.put, List.getElem_toArray, List.getElem_cons_zero, List.getElem_cons_succ, List.setIfInBounds_toArray, List.set_cons_zero, List.set_cons_succ]
              refine wpAnyG_more (T' := fun X => Below V.heap.size V X ∧ Below X6.heap.size X6 X) (fun _ h => h.1) ?_
              have T0 : Below V.heap.size V X6 ∧ Below X6.heap.size X6 X6 := ⟨BX6, Below.refl _ _⟩
              refine wpAnyG_take [25] (i := 25) (v := (.string (encA Z))) rfl (by kernel_rfl) (by kernel_rfl) (by kernel_rfl) (by kernel_rfl) (by kernel_rfl) (by kernel_rfl) (by kernel_rfl) (by kernel_rfl) (fun _ _ _ h => h) (Or.inl ⟨by rfl, ?hy⟩) T0 ?_
              case hy =>
                intro X hX
                have hX1 := conv_runes (cap := c6) HZn.out (rowI_kept r6 hX.2)
                go_simp
              try simp only [Act.put, List.getElem_toArray, List.getElem_cons_zero, List.getElem_cons_succ, List.setIfInBounds_toArray, List.set_cons_zero, List.set_cons_succ]
              refine wpAnyG_all (rs := [22]) (by kernel_rfl) (by simp) ?_
              intro i hi
              simp only [List.mem_cons, List.not_mem_nil, or_false] at hi
              subst hi
              refine wpOp_open rfl (by rfl) ?_
              go_simp
              refine (of_any _ n _ Z HZn.out (by omega) _ (rowI_kept r5 b6)).mono ?_
              rintro e X7 ⟨rfl, b7⟩
              have BX7 := BX6.trans (b7.mono BX6.size)
              have T0 : Below V.heap.size V X7 ∧ Below X6.heap.size X6 X7 := ⟨BX7, b7⟩
              refine ⟨fun _ => T0, ?_⟩
              try simp only [Act.put, List.getElem_toArray, List.getElem_cons_zero, List.getElem_cons_succ, List.setIfInBounds_toArray, List.set_cons_zero, List.set_cons_succ]
              refine wpAnyG_take [26] (i := 26) (v := (.bool false)) rfl (by kernel_rfl) (by kernel_rfl) (by kernel_rfl) (by kernel_rfl) (by kernel_rfl) (by kernel_rfl) (by kernel_rfl) (by kernel_rfl) (fun _ _ _ h => h) (Or.inl ⟨by rfl, ?hy⟩) T0 ?_
              case hy =>
                intro X hX
                go_simp
              try simp only [Act.put, List.getElem_toArray, List.getElem_cons_zero, List.getElem_cons_succ, List.setIfInBounds_toArray, List.set_cons_zero, List.set_cons_succ]
              refine wpAnyG_take [27] (i := 27) (v := (.bool false)) rfl (by kernel_rfl) (by kernel_rfl) (by kernel_rfl) (by kernel_rfl) (by kernel_rfl) (by kernel_rfl) (by kernel_rfl) (by kernel_rfl) (fun _ _ _ h => h) (Or.inl ⟨by rfl, ?hy⟩) T0 ?_
              case hy =>
                intro X hX
                go_simp
              try simp only [Act.put, List.getElem_toArray, List.getElem_cons_zero, List.getElem_cons_succ, List.setIfInBounds_toArray, List.set_cons_zero, List.set_cons_succ]
              refine wpAnyG_done (by kernel_rfl) ?_ _
              exact NoPanic.normal ⟨rfl, (.slice o2 n c2, .slice o1 n c1, (.slice o5 n c5), (.slice o6 n c6)), by kernel_rfl, BX7⟩
          · refine wpOp_open rfl (by rfl) ?_
            obtain ⟨o5, c5, X5, e5, r5, b5⟩ := conv_z hs HN.out HZ.out X4
            have BX5 := BX4.trans (b5.mono BX4.size)
            go_simp
            have T0 := BX5
            refine ⟨fun _ => T0, ?_⟩
            try simp only [Act.put, List.getElem_toArray, List.getElem_cons_zero, List.getElem_cons_succ, List.setIfInBounds_toArray, List.set_cons_zero, List.set_cons_succ]
            refine wpAnyG_more (T' := fun X => Below V.heap.size V X ∧ Below X5.heap.size X5 X) (fun _ h => h.1) ?_
            have T0 : Below V.heap.size V X5 ∧ Below X5.heap.size X5 X5 := ⟨BX5, Below.refl _ _⟩
            refine wpAnyG_take [25] (i := 25) (v := (.string (encA Z))) rfl (by kernel_rfl) (by kernel_rfl) (by kernel_rfl) (by kernel_rfl) (by kernel_rfl) (by kernel_rfl) (by kernel_rfl) (by kernel_rfl) (fun _ _ _ h => h) (Or.inl ⟨by rfl, ?hy⟩) T0 ?_
            case hy =>
              intro X hX
              have hX1 := conv_runes (cap := c5) HZn.out (rowI_kept r5 hX.2)
              go_simp
            try simp only [Act.put, List.getElem_toArray, List.getElem_cons_zero, List.getElem_cons_succ, List.setIfInBounds_toArray, List.set_cons_zero, List.set_cons_succ]
            refine wpAnyG_all (rs := [21]) (by kernel_rfl) (by simp) ?_
            intro i hi
            simp only [List.mem_cons, List.not_mem_nil, or_false] at hi
            subst hi
            refine wpOp_open rfl (by rfl) ?_
            go_simp
            refine (to_z hs HN.out HZ.out _).mono ?_
            rintro e X6 ⟨o6, c6, rfl, r6, b6⟩
            have BX6 := BX5.trans (b6.mono BX5.size)
            have T0 : Below V.heap.size V X6 ∧ Below X5.heap.size X5 X6 := ⟨BX6, b6⟩
            refine ⟨fun _ => T0, ?_⟩
            try simp only [Act.put, List.getElem_toArray, List.getElem_cons_zero, List.getElem_cons_succ, List.setIfInBounds_toArray, List.set_cons_zero, List.set_cons_succ]
            refine wpAnyG_all (rs := [22]) (by kernel_rfl) (by simp) ?_
            intro i hi
            simp only [List.mem_cons, List.not_mem_nil, or_false] at hi
            subst hi
            refine wpOp_open rfl (by rfl) ?_
            go_simp
            refine (of_any _ n _ Z HZn.out (by omega) _ (r6)).mono ?_
            rintro e X7 ⟨rfl, b7⟩
            have BX7 := BX6.trans (b7.mono BX6.size)
            have T0 : Below V.heap.size V X7 ∧ Below X5.heap.size X5 X7 := ⟨BX7, b6.trans (b7.mono b6.size)⟩
            refine ⟨fun _ => T0, ?_⟩
            try simp only [Act.put, List.getElem_toArray, List.getElem_cons_zero, List.getElem_cons_succ, List.setIfInBounds_toArray, List.set_cons_zero, List.set_cons_succ]
            refine wpAnyG_take [26] (i := 26) (v := (.bool false)) rfl (by kernel_rfl) (by kernel_rfl) (by kernel_rfl) (by kernel_rfl) (by kernel_rfl) (by kernel_rfl) (by kernel_rfl) (by kernel_rfl) (fun _ _ _ h => h) (Or.inl ⟨by rfl, ?hy⟩) T0 ?_
            case hy =>
              intro X hX
              go_simp
            try simp only [Act.put, List.getElem_toArray, List.getElem_cons_zero, List.getElem_cons_succ, List.setIfInBounds_toArray, List.set_cons_zero, List.set_cons_succ]
            refine wpAnyG_take [27] (i := 27) (v := (.bool false)) rfl (by kernel_rfl) (by kernel_rfl) (by kernel_rfl) (by kernel_rfl) (by kernel_rfl) (by kernel_rfl) (by kernel_rfl) (by kernel_rfl) (fun _ _ _ h => h) (Or.inl ⟨by rfl, ?hy⟩) T0 ?_
            case hy =>
              intro X hX
              go_simp
            try simp only [Act.put, List.getElem_toArray, List.getElem_cons_zero, List.getElem_cons_succ, List.setIfInBounds_toArray, List.set_cons_zero, List.set_cons_succ]
            refine wpAnyG_done (by kernel_rfl) ?_ _
            exact NoPanic.normal ⟨rfl, (.slice o2 n c2, .slice o1 n c1, (.slice o6 n c6), (.slice o5 n c5)), by kernel_rfl, BX7⟩

      case stop =>
        rintro D c pre W hD hp h _
        exact (h hp).elim
end Go.Proofs.Ytgpnheaefagfiaa
