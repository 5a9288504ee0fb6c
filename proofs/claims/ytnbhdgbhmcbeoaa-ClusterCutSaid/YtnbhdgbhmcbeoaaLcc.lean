/- ClusterCut: the law's call. -/
import Derived.Test.YtnbhdgbhmcbeoaaClb
import Derived.Test.YtnbhdgbhmcbeoaaRg
namespace Go.Proofs.Ytnbhdgbhmcbeoaa
set_option linter.unusedVariables false
set_option linter.unusedSimpArgs false
open Go Go.RowKit Go.Shelf
set_option maxRecDepth 100000
attribute [local go_sem] Oper.semAt_some

theorem cut_tail {s tl : ByteArray} {P rest : List Cel} {cz : Int} {e : Nat} (hr : cellsL s = P ++ rest) (htl : (cellsL tl).map (upC e) = rest) (hcx : ∀ x, P ++ [x] <+: cellsL s → max cz 0 < (colsL P : Int) + (x.2.2 : Int)) {x : Cel} (hx : [x] <+: cellsL tl) :
    max cz 0 < (colsL P : Int) + (x.2.2 : Int) ∧ colsL P + x.2.2 ≤ s.size := by
  obtain ⟨r, hx⟩ := hx
  rw [← hx, List.map_append, List.map_cons, List.map_nil] at htl
  have h : P ++ [upC e x] <+: cellsL s := ⟨r.map (upC e), by rw [hr, ← htl]; simp⟩
  exact ⟨hcx (upC e x) h, due_cols (x := upC e x) h⟩

set_option maxHeartbeats 8000000 in
theorem lcc_in (s : ByteArray) (cz : Int) (hs : s.size ≤ 9223372036854775807) (w : World) :
    CallsIn Fence.wide 12 Try.prog 10 #[.string s, .int .i64 cz] w fun e w' => e = .returned (.bool true) ∧ Below w.heap.size w w' := by
  refine callsIn_of_wp_marks Try.func10 rfl trivial ?_ rfl
  simp only [Try.ntmps10, List.size_toArray, List.length_cons, List.length_nil, Nat.reduceAdd, Nat.reduceSub, Array.replicate_succ, Array.replicate_zero, List.push_toArray, List.append_toArray, List.nil_append, List.cons_append]
  have hF : ∀ f, Fence.wide.fn f := fun _ => trivial
  gi_wp2_with (fail)
  refine (callsIn_wide.2 (works_any _)).mono ?_
  rintro e w1 ⟨rfl, hb1⟩
  have b0 := (Boxed.new w 3 (.int .i64 cz)).alloc (.cells #[.bool false] 4)
  have b1 := Boxed.new (w.alloc (.cells #[.int .i64 cz] 3)) 4 (.bool false)
  have z0 : ((w.alloc (.cells #[.int .i64 cz] 3)).alloc (.cells #[.bool false] 4)).heap.size = w.heap.size + 2 := by simp
  have hB0 := ((Below.refl _ w).alloc (Nat.le_refl _) (.cells #[.int .i64 cz] 3)).alloc (by simp) (.cells #[.bool false] 4)
  simp only [World.size_alloc] at b1 ⊢
  have c0 : Boxed w1 w.heap.size 3 (.int .i64 cz) := Blk.below' (show Blk _ _ _ _ from b0) hb1
  have c1 : Boxed w1 (w.heap.size + 1) 4 (.bool false) := Blk.below' (show Blk _ _ _ _ from b1) hb1
  have hB1 := hB0.trans (hb1.mono hB0.size)
  have hP := hb1.size
  rw [z0] at hP
  clear b0 b1 hb1 z0 hB0
  have d0 := c0.cell
  gi_wp2_with (fail)
  refine (callsIn_wide.2 (cut_any s hs cz _)).mono ?_
  rintro e w2 ⟨P, hP1, hP2, rfl, hb2⟩
  have c0 : Boxed w2 _ _ _ := Blk.below' (show Blk _ _ _ _ from c0) hb2
  have c1 : Boxed w2 _ _ _ := Blk.below' (show Blk _ _ _ _ from c1) hb2
  have hB2 := hB1.trans (hb2.mono hB1.size)
  have hQ := hb2.size
  clear hB1 d0
  obtain ⟨⟨rest, hr⟩, hcm, hcx⟩ := hP1
  have hr := hr.symm
  have hhd := cellsL_head s P ⟨rest, hr.symm⟩
  have htl := cellsL_tail s P rest hr
  have hht : s.extract 0 (endC P) ++ s.extract (endC P) s.size = s := by rw [ByteArray.extract_append_extract]; simp
  have cK := fun w0 : World => columnsOf_any (s.extract 0 (endC P)) (by rw [ByteArray.size_extract]; omega) w0
  rw [hhd] at cK
  obtain ⟨n, hn⟩ : ∃ n, colsL P = n := ⟨_, rfl⟩
  obtain ⟨hd, hhde⟩ : ∃ h, s.extract 0 (endC P) = h := ⟨_, rfl⟩
  have htz : (s.extract (endC P) s.size).size ≤ 9223372036854775807 := by rw [ByteArray.size_extract]; omega
  obtain ⟨tl, htle⟩ : ∃ h, s.extract (endC P) s.size = h := ⟨_, rfl⟩
  rw [hn] at hcm hcx cK ⊢
  rw [hhde] at hht cK ⊢
  rw [htle] at hht htl htz ⊢
  have hhl : hd.size + tl.size = s.size := by rw [← hht, ByteArray.size_append]
  have k1 : decide ((if cz < 0 then (0 : Int) else cz) < (n : Int)) = false := decide_eq_false (by split <;> omega)
  have HC := Lib.hid (And.intro hcm (And.intro hcx (And.intro hr (And.intro htl hn))))
  clear hcm hcx hr htl hn hhd hhde htle hP2
  gi_wp2_with (fail)
  have q4 : Boxed _ _ _ _ := Boxed.new w2 3 (.int .i64 (n : Int))
  have q0 : Boxed _ _ _ _ := c0.alloc (.cells #[.int .i64 (n : Int)] 3)
  have q1 : Boxed _ _ _ _ := c1.alloc (.cells #[.int .i64 (n : Int)] 3)
  have hB3 := hB2.alloc hB2.size (.cells #[.int .i64 (n : Int)] 3)
  obtain ⟨R, hR⟩ : ∃ R, w2.heap.size = R := ⟨_, rfl⟩
  rw [hR] at q4 hQ
  obtain ⟨X, hX⟩ : ∃ X, w2.alloc (.cells #[.int .i64 (n : Int)] 3) = X := ⟨_, rfl⟩
  rw [hX] at q4 q0 q1 hB3 ⊢
  rw [hR]
  clear hX hR hB2 c0 c1
  have Q := Lib.hid (And.intro q4 (And.intro q0 (And.intro q1 hB3)))
  have q4 := q4.cell
  have q0 := q0.cell
  refine wpIn_wide.2 ?_
  refine wp_region_noPanic ?_
  refine wp_region_g (S := untilG [] (fun Y => Below X.heap.size X Y)) (by kernel_rfl) ?_
  obtain ⟨X0, hX0⟩ : ∃ Y, X.drew = Y := ⟨_, rfl⟩
  have T0 : Below X.heap.size X X0 := hX0 ▸ (Below.refl X.heap.size X).drew
  rw [hX0]
  clear hX0 q1 hB3
  refine wpAnyG_take [0, 2, 4, 5, 6, 7, 8, 9, 10, 11, 12, 13, 14, 15, 16] (i := 0) (v := (.string hd)) rfl (by kernel_rfl) (by kernel_rfl) (by kernel_rfl) (by kernel_rfl) (by kernel_rfl) (by kernel_rfl) (by kernel_rfl) (by kernel_rfl) (fun _ _ _ h => h) (Or.inl ⟨by rfl, ?hy⟩) T0 ?_
  case hy =>
    intro X hX
    go_simp
  try simp only [Act.put, List.getElem_toArray, List.getElem_cons_zero, List.getElem_cons_succ, List.setIfInBounds_toArray, List.set_cons_zero, List.set_cons_succ]
  refine wpAnyG_take [1, 2, 4, 5, 6, 7, 8, 9, 10, 11, 12, 13, 14, 15, 16] (i := 1) (v := (.string tl)) rfl (by kernel_rfl) (by kernel_rfl) (by kernel_rfl) (by kernel_rfl) (by kernel_rfl) (by kernel_rfl) (by kernel_rfl) (by kernel_rfl) (fun _ _ _ h => h) (Or.inl ⟨by rfl, ?hy⟩) T0 ?_
  case hy =>
    intro X hX
    go_simp
  try simp only [Act.put, List.getElem_toArray, List.getElem_cons_zero, List.getElem_cons_succ, List.setIfInBounds_toArray, List.set_cons_zero, List.set_cons_succ]
  refine wpAnyG_take [2, 4, 5, 6, 7, 8, 9, 10, 11, 12, 13, 14, 15, 16] (i := 2) (v := (.string s)) rfl (by kernel_rfl) (by kernel_rfl) (by kernel_rfl) (by kernel_rfl) (by kernel_rfl) (by kernel_rfl) (by kernel_rfl) (by kernel_rfl) (fun _ _ _ h => h) (Or.inl ⟨by rfl, ?hy⟩) T0 ?_
  case hy =>
    intro X hX
    go_simp
  try simp only [Act.put, List.getElem_toArray, List.getElem_cons_zero, List.getElem_cons_succ, List.setIfInBounds_toArray, List.set_cons_zero, List.set_cons_succ]
  refine wpAnyG_take [3, 4, 5, 6, 7, 8, 9, 10, 11, 12, 13, 14, 15, 16] (i := 3) (v := (.string s)) rfl (by kernel_rfl) (by kernel_rfl) (by kernel_rfl) (by kernel_rfl) (by kernel_rfl) (by kernel_rfl) (by kernel_rfl) (by kernel_rfl) (fun _ _ _ h => h) (Or.inl ⟨by rfl, ?hy⟩) T0 ?_
  case hy =>
    intro X hX
    go_simp
  try simp only [Act.put, List.getElem_toArray, List.getElem_cons_zero, List.getElem_cons_succ, List.setIfInBounds_toArray, List.set_cons_zero, List.set_cons_succ]
  refine wpAnyG_take [4, 5, 6, 7, 8, 9, 10, 11, 12, 13, 14, 15, 16] (i := 4) (v := (.bool false)) rfl (by kernel_rfl) (by kernel_rfl) (by kernel_rfl) (by kernel_rfl) (by kernel_rfl) (by kernel_rfl) (by kernel_rfl) (by kernel_rfl) (fun _ _ _ h => h) (Or.inl ⟨by rfl, ?hy⟩) T0 ?_
  case hy =>
    intro X hX
    go_simp
  try simp only [Act.put, List.getElem_toArray, List.getElem_cons_zero, List.getElem_cons_succ, List.setIfInBounds_toArray, List.set_cons_zero, List.set_cons_succ]
  refine wpAnyG_take [5, 6, 7, 8, 9, 10, 11, 12, 13, 14, 15, 16] (i := 5) (v := (.bool false)) rfl (by kernel_rfl) (by kernel_rfl) (by kernel_rfl) (by kernel_rfl) (by kernel_rfl) (by kernel_rfl) (by kernel_rfl) (by kernel_rfl) (fun _ _ _ h => h) (Or.inl ⟨by rfl, ?hy⟩) T0 ?_
  case hy =>
    intro X hX
    go_simp
  try simp only [Act.put, List.getElem_toArray, List.getElem_cons_zero, List.getElem_cons_succ, List.setIfInBounds_toArray, List.set_cons_zero, List.set_cons_succ]
  refine wpAnyG_take [6, 7, 9, 10, 11, 12, 13, 14, 15, 16] (i := 6) (v := (.string hd)) rfl (by kernel_rfl) (by kernel_rfl) (by kernel_rfl) (by kernel_rfl) (by kernel_rfl) (by kernel_rfl) (by kernel_rfl) (by kernel_rfl) (fun _ _ _ h => h) (Or.inl ⟨by rfl, ?hy⟩) T0 ?_
  case hy =>
    intro X hX
    go_simp
  try simp only [Act.put, List.getElem_toArray, List.getElem_cons_zero, List.getElem_cons_succ, List.setIfInBounds_toArray, List.set_cons_zero, List.set_cons_succ]
  refine wpAnyG_take [8, 9, 10, 11, 12, 13, 14, 15, 16] (i := 8) (v := (.int .i64 (n : Int))) rfl (by kernel_rfl) (by kernel_rfl) (by kernel_rfl) (by kernel_rfl) (by kernel_rfl) (by kernel_rfl) (by kernel_rfl) (by kernel_rfl) (fun _ _ _ h => h) (Or.inl ⟨by rfl, ?hy⟩) T0 ?_
  case hy =>
    intro X hX
    have e0 := at_below q4 hX
    go_simp
  try simp only [Act.put, List.getElem_toArray, List.getElem_cons_zero, List.getElem_cons_succ, List.setIfInBounds_toArray, List.set_cons_zero, List.set_cons_succ]
  refine wpAnyG_all (rs := [7]) (by kernel_rfl) (by simp) ?_
  intro i hi
  simp only [List.mem_cons, List.not_mem_nil, or_false] at hi
  subst hi
  refine wpOp_open rfl (by rfl) ?_
  go_simp
  refine (cK _).mono ?_
  rintro e X1 ⟨rfl, hb5⟩
  replace T0 := T0.trans (hb5.mono T0.size)
  refine ⟨fun _ => T0, ?_⟩
  try simp only [Act.put, List.getElem_toArray, List.getElem_cons_zero, List.getElem_cons_succ, List.setIfInBounds_toArray, List.set_cons_zero, List.set_cons_succ]
  refine wpAnyG_take [9, 10, 11, 12, 13, 14, 15, 16] (i := 9) (v := (.bool false)) rfl (by kernel_rfl) (by kernel_rfl) (by kernel_rfl) (by kernel_rfl) (by kernel_rfl) (by kernel_rfl) (by kernel_rfl) (by kernel_rfl) (fun _ _ _ h => h) (Or.inl ⟨by rfl, ?hy⟩) T0 ?_
  case hy =>
    intro X hX
    go_simp
  try simp only [Act.put, List.getElem_toArray, List.getElem_cons_zero, List.getElem_cons_succ, List.setIfInBounds_toArray, List.set_cons_zero, List.set_cons_succ]
  refine wpAnyG_take [10, 11, 12, 13, 14, 15, 16] (i := 10) (v := (.bool false)) rfl (by kernel_rfl) (by kernel_rfl) (by kernel_rfl) (by kernel_rfl) (by kernel_rfl) (by kernel_rfl) (by kernel_rfl) (by kernel_rfl) (fun _ _ _ h => h) (Or.inl ⟨by rfl, ?hy⟩) T0 ?_
  case hy =>
    intro X hX
    go_simp
  try simp only [Act.put, List.getElem_toArray, List.getElem_cons_zero, List.getElem_cons_succ, List.setIfInBounds_toArray, List.set_cons_zero, List.set_cons_succ]
  refine wpAnyG_take [11, 12, 13, 14, 15, 16] (i := 11) (v := (.bool false)) rfl (by kernel_rfl) (by kernel_rfl) (by kernel_rfl) (by kernel_rfl) (by kernel_rfl) (by kernel_rfl) (by kernel_rfl) (by kernel_rfl) (fun _ _ _ h => h) (Or.inl ⟨by rfl, ?hy⟩) T0 ?_
  case hy =>
    intro X hX
    go_simp
  try simp only [Act.put, List.getElem_toArray, List.getElem_cons_zero, List.getElem_cons_succ, List.setIfInBounds_toArray, List.set_cons_zero, List.set_cons_succ]
  refine wpAnyG_take [12, 15, 16] (i := 12) (v := (.int .i64 (n : Int))) rfl (by kernel_rfl) (by kernel_rfl) (by kernel_rfl) (by kernel_rfl) (by kernel_rfl) (by kernel_rfl) (by kernel_rfl) (by kernel_rfl) (fun _ _ _ h => h) (Or.inl ⟨by rfl, ?hy⟩) T0 ?_
  case hy =>
    intro X hX
    have e0 := at_below q4 hX
    go_simp
  try simp only [Act.put, List.getElem_toArray, List.getElem_cons_zero, List.getElem_cons_succ, List.setIfInBounds_toArray, List.set_cons_zero, List.set_cons_succ]
  refine wpAnyG_take [13, 14, 15, 16] (i := 13) (v := (.int .i64 cz)) rfl (by kernel_rfl) (by kernel_rfl) (by kernel_rfl) (by kernel_rfl) (by kernel_rfl) (by kernel_rfl) (by kernel_rfl) (by kernel_rfl) (fun _ _ _ h => h) (Or.inl ⟨by rfl, ?hy⟩) T0 ?_
  case hy =>
    intro X hX
    have e0 := at_below q0 hX
    go_simp
  try simp only [Act.put, List.getElem_toArray, List.getElem_cons_zero, List.getElem_cons_succ, List.setIfInBounds_toArray, List.set_cons_zero, List.set_cons_succ]
  refine wpAnyG_take [14, 15, 16] (i := 14) (v := (.int .i64 (if cz < 0 then 0 else cz))) rfl (by kernel_rfl) (by kernel_rfl) (by kernel_rfl) (by kernel_rfl) (by kernel_rfl) (by kernel_rfl) (by kernel_rfl) (by kernel_rfl) (fun _ _ _ h => h) (Or.inl ⟨by rfl, ?hy⟩) T0 ?_
  case hy =>
    intro X hX
    go_simp
  try simp only [Act.put, List.getElem_toArray, List.getElem_cons_zero, List.getElem_cons_succ, List.setIfInBounds_toArray, List.set_cons_zero, List.set_cons_succ]
  refine wpAnyG_take [15, 16] (i := 15) (v := (.bool false)) rfl (by kernel_rfl) (by kernel_rfl) (by kernel_rfl) (by kernel_rfl) (by kernel_rfl) (by kernel_rfl) (by kernel_rfl) (by kernel_rfl) (fun _ _ _ h => h) (Or.inl ⟨by rfl, ?hy⟩) T0 ?_
  case hy =>
    intro X hX
    go_simp
  try simp only [Act.put, List.getElem_toArray, List.getElem_cons_zero, List.getElem_cons_succ, List.setIfInBounds_toArray, List.set_cons_zero, List.set_cons_succ]
  refine wpAnyG_take [16] (i := 16) (v := (.bool false)) rfl (by kernel_rfl) (by kernel_rfl) (by kernel_rfl) (by kernel_rfl) (by kernel_rfl) (by kernel_rfl) (by kernel_rfl) (by kernel_rfl) (fun _ _ _ h => h) (Or.inl ⟨by rfl, ?hy⟩) T0 ?_
  case hy =>
    intro X hX
    go_simp
  try simp only [Act.put, List.getElem_toArray, List.getElem_cons_zero, List.getElem_cons_succ, List.setIfInBounds_toArray, List.set_cons_zero, List.set_cons_succ]
  refine wpAnyG_done (by kernel_rfl) ?_ _
  refine NoPanic.normal ?_
  obtain ⟨q4, q0, q1, hB3⟩ := Q.out
  clear Q
  have q4 := Blk.below' (show Blk _ _ _ _ from q4) T0
  have q0 := Blk.below' (show Blk _ _ _ _ from q0) T0
  have q1 := Blk.below' (show Blk _ _ _ _ from q1) T0
  have hB4 := hB3.trans (T0.mono hB3.size)
  clear hB3 T0
  obtain ⟨hcm, hcx, hr, htl, hn⟩ := HC.out
  have hcut : ∀ x, [x] <+: cellsL tl → max cz 0 < (n : Int) + (x.2.2 : Int) ∧ n + x.2.2 ≤ s.size := by
    intro x hx
    rw [← hn]
    exact cut_tail hr htl (fun y hy => by rw [hn]; exact hcx y hy) hx
  clear hcm hcx hr htl hn HC
  clear k1
  generalize (if cz < 0 then (0 : Int) else cz) = mx
  gi_wp2_with (gi_at_call 27; refine (callsIn_wide.2 (each_any _ _)).mono ?_; rintro e w' ⟨rfl, rfl⟩)
  have b0 : Boxed _ _ _ _ := q0.alloc (.cells #[.string tl] 9)
  have b1 : Boxed _ _ _ _ := q1.alloc (.cells #[.string tl] 9)
  have b4 : Boxed _ _ _ _ := q4.alloc (.cells #[.string tl] 9)
  have b5 := Boxed.new X1 9 (.string tl)
  have hB5 := hB4.alloc hB4.size (.cells #[.string tl] 9)
  obtain ⟨S, hS⟩ : ∃ S, X1.heap.size = S := ⟨_, rfl⟩
  rw [hS] at b5
  obtain ⟨V, hV⟩ : ∃ V, X1.alloc (.cells #[.string tl] 9) = V := ⟨_, rfl⟩
  have lR := Blk.lt (show Blk _ _ _ _ from q4)
  rw [hS] at lR
  rw [hV] at b0 b1 b4 b5 hB5 ⊢
  have lS := Blk.lt (show Blk _ _ _ _ from b5)
  simp only [hS]
  clear hV hS q0 q1 q4 hB4
  refine range_each 8 tl htz S b5 rfl (fun _ pre X => SmI (w.heap.size + 1) w V X ∧ Boxed X (w.heap.size + 1) 4 (.bool false) ∧ pre = []) (fun c _ X => c = .ret ∧ SmI (w.heap.size + 1) w V X ∧ Boxed X (w.heap.size + 1) 4 (.bool true))
    (fun _ => smI_abO (f := fun _ => .bool false) (p := fun pre => pre = []) (by omega) (by omega)) (fun c l X Y row h hg hr => ⟨h.1, (smI_abO (α := Cel) (f := fun _ => .bool true) (p := fun _ => True) (by omega) (by omega) l X Y row ⟨h.2.1, h.2.2, trivial⟩ hg hr).imp id (fun h => h.1)⟩) ⟨SmI.start hB5, b1, rfl⟩ ?assign ?body ?done ?stop
  case assign =>
    intro l x W K hK
    simp only [celV] at hK ⊢
    gi_wp2
    exact hK
  case body =>
    rintro l m pre x Bx X2 ⟨h1, h2, rfl⟩ hm1 hle hbl hbx hdue
    obtain ⟨u1, u2⟩ := hcut x hdue
    clear hcut
    have j0 := (h1.box b0 (by omega)).cell
    have j4 := (h1.box b4 (by omega)).cell
    have jx := (show Blk X2 Bx #[.int .i64 (x.1 : Nat), .int .i64 (x.2.1 : Nat), .int .i64 (x.2.2 : Nat)] 26 from hbx).cell 2
    simp only [List.getElem?_toArray, List.getElem?_cons_succ, List.getElem?_cons_zero] at jx
    have k1 : IntKind.i64.wrap ((n : Int) + (x.2.2 : Int)) = (n : Int) + (x.2.2 : Int) := IntWalk.i64_in _ (by omega)
    have k2 : decide ((if cz < 0 then (0 : Int) else cz) < (n : Int) + (x.2.2 : Int)) = true := decide_eq_true (by split <;> omega)
    have H := Lib.hid (And.intro h1 h2)
    clear h1 h2 hbx hdue u1 u2 b0 b1 b4 b5 
    have key : (cz < 0 ∧ decide ((0 : Int) < (n : Int) + (x.2.2 : Int)) = true) ∨ (¬ cz < 0 ∧ decide (cz < (n : Int) + (x.2.2 : Int)) = true) := by
      by_cases hcz : cz < 0
      · rw [if_pos hcz] at k2; exact .inl ⟨hcz, k2⟩
      · rw [if_neg hcz] at k2; exact .inr ⟨hcz, k2⟩
    clear k2
    simp only [celV, List.setIfInBounds_toArray, List.set_cons_zero, List.set_cons_succ]
    rcases key with ⟨hcz, k3⟩ | ⟨hcz, k3⟩
    all_goals
      gi_wp2_with (fail)
      refine ((callsIn_wide.2 (works_any _)).inRound _).mono ?_
      rintro e X3 ⟨rfl, hb⟩
      obtain ⟨h1, h2⟩ := H.out
      have g1 := h1.below hb (by omega)
      have g2 : Boxed X3 _ _ _ := Blk.below' (show Blk _ _ _ _ from h2) hb
      have kb : KeepsFrom V.heap.size X2 X3 := kf_below hb
      have f2 := g2.cell
      have f3 := g2.frozen
      have G := Lib.hid (And.intro g1 (And.intro g2 kb))
      clear h1 h2 hb g1 g2 kb
      gi_wp2
      obtain ⟨g1, g2, kb⟩ := G.out
      exact ⟨kb.trans (kf_set _ _), rfl, g1.set (by omega) _ _, g2.set _⟩
  case done =>
    rintro D m X2 hDl ⟨h1, h2, h3⟩ _ hK
    have hB2 := h1.2.trans (belowK_b (w := w) (Nat.le_refl _) X2 D _ (.deferred none) (by omega) hK rfl rfl)
    gi_wp2_with (fail)
    refine (callsIn_wide.2 (works_any _)).mono ?_
    rintro e X3 ⟨rfl, hb⟩
    have g2 : Boxed X3 _ _ _ := Blk.below' (show Blk _ _ _ _ from h2) hb
    have f2 := g2.cell
    have f3 := g2.frozen
    have hl := (Array.getElem?_eq_some_iff.1 hK).1
    have hK3 := (hb.block D hl).trans hK
    have hB3 := h1.2.trans (hb.mono h1.2.size)
    have h4 := h1.size
    have G := Lib.hid (And.intro g2 (And.intro hK3 hB3))
    have hl3 := (Array.getElem?_eq_some_iff.1 hK3).1
    clear hB2 h1 h2 g2 hK3 hB3 hb hK
    gi_wp2
    obtain ⟨g2, hK3, hB3⟩ := G.out
    have g3 := g2.set (.bool true)
    have hD3 : (X3.setCell ⟨w.heap.size + 1, 0, none⟩ (.bool true)).heap[D]? = some (.deferred (some [])) := ((grownBy_setCell X3 _ 0 _).block D hl3 (by intro e; cases e; omega)).trans hK3
    have hB4 := (hB3.setCell (p := ⟨w.heap.size + 1, 0, none⟩) (by dsimp only; omega) (.bool true))
    have hB5 := hB4.trans (belowK_b (w := w) (Nat.le_refl _) _ D _ (.deferred none) (by omega) hD3 rfl rfl)
    have c1 := g3.cell
    refine ⟨by simp, .inl ⟨_, _, rfl, run_takeDeferred (w := X3.setCell ⟨w.heap.size + 1, 0, none⟩ (.bool true)) hD3, ?_⟩⟩
    refine ⟨.bool true, ?_, rfl, hB5⟩
    have c2 : ((X3.setCell ⟨w.heap.size + 1, 0, none⟩ (.bool true)).putObj D (.deferred none)).cell? ⟨w.heap.size + 1, 0, none⟩ = some (.bool true) := (World.cell?_of_block (w := X3.setCell ⟨w.heap.size + 1, 0, none⟩ (.bool true)) (World.putObj_heap_other (by dsimp only; omega))).trans c1
    simp [results, Try.f10, go_sem, c2]
  case stop =>
    rintro D c pre X2 hDl _ ⟨rfl, h1, h2⟩ hK
    have h4 := h1.size
    have hB5 := h1.2.trans (belowK_b (w := w) (Nat.le_refl _) _ D _ (.deferred none) (by omega) hK rfl rfl)
    have c1 := h2.cell
    gi_wp2
    refine ⟨by simp, .inl ⟨_, _, rfl, run_takeDeferred (w := X2) hK, ?_⟩⟩
    refine ⟨.bool true, ?_, rfl, hB5⟩
    have c2 : (X2.putObj D (.deferred none)).cell? ⟨w.heap.size + 1, 0, none⟩ = some (.bool true) := (World.cell?_of_block (w := X2) (World.putObj_heap_other (by dsimp only; omega))).trans c1
    simp [results, Try.f10, go_sem, c2]

theorem lcc_any (s : ByteArray) (cz : Int) (hs : s.size ≤ 9223372036854775807) (w : World) :
    Calls Try.prog 10 #[.string s, .int .i64 cz] w fun e w' => e = .returned (.bool true) ∧ Below w.heap.size w w' := callsIn_wide.1 (lcc_in s cz hs w)
end Go.Proofs.Ytnbhdgbhmcbeoaa
