/- The iterator of runes.Pieces and the law for a loop over it, for a chain that has R3. -/
import Derived.Test.YtfnngcecfjlfeaaCe
import Derived.Test.YtfnngcecfjlfeaaR3
namespace Go.Proofs.Ytfnngcecfjlfeaa
set_option linter.unusedVariables false
set_option linter.unusedSimpArgs false
open Go Go.RowKit Go.Shelf
set_option maxRecDepth 100000

set_option maxHeartbeats 400000 in
theorem whole_any (b : Nat) (hb : b < 256) (w : World) :
    Calls Try.prog 70 #[.int .u8 (b : Int)] w fun e w' => e = .returned (.int .i64 (whN b : Nat)) ∧ w = w' := by
  go_enter Try.func70, Try.ntmps70
  go_wp2
  all_goals go_ret
  all_goals exact ⟨ret_int (by unfold whN; repeat (first | rw [if_pos (by omega)] | rw [if_neg (by omega)] | rfl)), rfl⟩

set_option maxHeartbeats 1000000 in
theorem fitting_any (s : ByteArray) (i : Nat) (hi : i < s.size) (hs : s.size ≤ 9223372036854775807) (w : World) :
    Calls Try.prog 71 #[.string s, .int .i64 (i : Int)] w fun e w' => e = .returned (.int .i64 (fitN s i : Nat)) ∧ w = w' := by
  have hb := bt_lt s i
  have hg := bt_get s i hi
  have hw4 := whN_le (bt s i)
  obtain ⟨N, hN⟩ : ∃ N, fitN s i = N := ⟨_, rfl⟩
  obtain ⟨g, hgg⟩ : ∃ g, whN (bt s i) = g := ⟨_, rfl⟩
  rw [hgg] at hw4
  obtain ⟨m, hm⟩ : ∃ m, s.size - i = m := ⟨_, rfl⟩
  have hsub : (↑s.size : Int) - ↑i = (m : Int) := by omega
  obtain ⟨n, hn, hgm⟩ : ∃ n, min g m = n ∧ ((g ≤ m ∧ n = g) ∨ (m < g ∧ n = m)) := ⟨_, rfl, by omega⟩
  have hnm : n ≤ 4 ∧ n ≤ m ∧ i + m = s.size := by omega
  have HN : Hid (fitFrom s i n 4 1 = N) := by apply Lib.hid; rw [← hN, fitN, hgg, hm, hn]
  rw [hN]
  have HG := Lib.hid hgg
  clear hN hgg hm hn
  obtain ⟨hn4, hnm, hims⟩ := hnm
  have HI := Lib.hid hims; clear hims
  rcases hgm with ⟨h1, rfl⟩ | ⟨h1, rfl⟩
  all_goals
    go_enter Try.func71, Try.ntmps71
    go_wp2
    go_step3
    go_wp2_with (go_at_call 70; refine (whole_any (bt s i) hb _).mono ?_; rintro e w' ⟨rfl, rfl⟩; rw [HG.out])
    go_step3
    go_wp2
    go_loop [6] (fun v => ∃ k f : Nat, v = .int .i64 k ∧ 1 ≤ k ∧ k + f = 5 ∧ Hid (fitFrom s i n f k = N)) (fun v => 5 - (intOf v).toNat)
    case atStart => exact ⟨1, 4, rfl, by omega, by omega, HN⟩
    case round =>
      obtain ⟨k, f, rfl, hk1, hkf, HK⟩ := hrel
      by_cases hlt : k < n
      · have hik : i + k < s.size := by have := HI.out; omega
        have hg2 := bt_get s (i + k) hik
        have hc := bt_lt s (i + k)
        go_wp2
        all_goals first
          | (refine ⟨⟨k + 1, f - 1, by go_num, by omega, by omega, ?_⟩, by simp [intOf]; omega⟩
             apply Lib.hid
             rw [← HK.out, show f = (f - 1) + 1 by omega, fitFrom_step _ _ _ _ _ hlt ((okB_iff _ _ _).2 ?_)]
             · rfl
             · go_light; (try simp only [beq_iff_eq, beq_eq_false_iff_ne, ne_eq] at *); omega)
          | ((try rw [Exit.noGoto_ret]); go_ret
             refine ⟨ret_int ?_, rfl⟩
             rw [← HK.out, show f = (f - 1) + 1 by omega, fitFrom_stop _ _ _ _ _ hlt (okB_not _ _ _ ?_)]
             go_light; (try simp only [beq_iff_eq, beq_eq_false_iff_ne, ne_eq] at *); omega)
      · go_wp2
        (try rw [Exit.noGoto_ret]); go_ret
        refine ⟨ret_int ?_, rfl⟩
        rw [← HK.out]
        cases f with
        | zero => rfl
        | succ f => rw [fitFrom_ge _ _ _ _ _ (by omega)]

set_option maxHeartbeats 400000 in
theorem length_any (s : ByteArray) (i : Nat) (hi : i < s.size) (hs : s.size ≤ 9223372036854775807) (w : World) :
    Calls Try.prog 68 #[.string s, .int .i64 (i : Int)] w fun e w' => e = .returned (.int .i64 (lenN s i : Nat)) ∧ w = w' := by
  have hb := bt_lt s i
  have hg := bt_get s i hi
  obtain ⟨N, hN⟩ : ∃ N, lenN s i = N := ⟨_, rfl⟩
  have HN := Lib.hid hN; rw [hN]; clear hN
  go_enter Try.func68, Try.ntmps68
  go_wp2_with (first | (go_at_call 70; refine (whole_any (bt s i) hb _).mono ?_; rintro e w' ⟨rfl, rfl⟩) | (go_at_call 71; refine (fitting_any s i hi hs _).mono ?_; rintro e w' ⟨rfl, rfl⟩))
  all_goals go_ret
  all_goals refine ⟨ret_int ?_, rfl⟩
  all_goals rw [← HN.out, lenN]
  · rw [if_pos (by omega)]; rfl
  · rw [if_neg (by omega)]

set_option maxHeartbeats 400000 in
theorem broken_any (i : Int) (w : World) :
    Calls Try.prog 69 #[.int .i64 i] w fun e w' => e = .returned (.agg #[.int .i64 i, .int .i64 1, .int .i32 65533, .bool true]) ∧ Below w.heap.size w w' := by
  go_enter Try.func69, Try.ntmps69
  go_wp2
  refine bodyPost_ret (v := .agg #[.int .i64 i, .int .i64 1, .int .i32 65533, .bool true]) (by simp [results, Try.results69, go_sem]) rfl ⟨rfl, ?_⟩
  exact (Below.refl _ _).alloc (Nat.le_refl _) _

attribute [local go_sem] Oper.semAt_some

/-- A piece as the program says it. -/
def pcA (s : ByteArray) (i : Nat) : Array Value := #[.agg #[.int .i64 i, .int .i64 (wd s i : Nat), .int .i32 (rn s i : Nat), .bool (bk s i)]]

/-- Between two rounds of the iterator: pre has come, pos is next. -/
def RelP (s : ByteArray) (B it : Nat) (J : List (Pos s) → World → Prop) (wr : World) : Prop :=
  ∃ (pre : List (Pos s)) (pos : Nat), posns s = pre.map (·.1) ++ posG s pos ∧ wr.heap[it]? = some (.stringIter s pos) ∧ Boxed wr B 9 (.string s) ∧ J pre wr

theorem relP_next {s : ByteArray} {B it : Nat} {J : List (Pos s) → World → Prop} {pre : List (Pos s)} {x : Pos s} {pos : Nat} {W1 W' wr : World}
    (HP : Hid (posns s = (pre ++ [x]).map (·.1) ++ posG s pos)) (HM : Hid (s.size - pos < s.size - wr.iterPos it)) (hit : W1.heap[it]? = some (.stringIter s pos))
    (hbx : Boxed W1 B 9 (.string s)) (hk : KpB B W1 W') (hJ : J (pre ++ [x]) W') : RelP s B it J W' ∧ s.size - W'.iterPos it < s.size - wr.iterPos it := by
  have h1 := hk.1.same _ _ hit rfl
  refine ⟨⟨pre ++ [x], pos, HP.out, h1, hk.2.trans hbx, hJ⟩, ?_⟩
  have := HM.out
  simp only [World.iterPos, h1] at this ⊢
  exact this

theorem prefix_next {s : ByteArray} {pre : List (Pos s)} {x : Pos s} {pos : Nat} (HP : Hid (posns s = (pre ++ [x]).map (·.1) ++ posG s pos)) : (pre ++ [x]).map (·.1) <+: posns s := ⟨posG s pos, HP.out.symm⟩

set_option maxHeartbeats 1000000 in
theorem pieces1 (l B : Nat) (s : ByteArray) (hs : s.size ≤ 9223372036854775807) (J Jx : List (Pos s) → World → Prop) (W : World)
    (hJ : AbidesFrom W.heap.size J) (hBx : Boxed W B 9 (.string s))
    (hY : ∀ pre x W1, J pre W1 → pre.length < s.size → YieldAt Fence.wide 9 Try.prog l (pcA s x.1) W1 fun e W' =>
      (e = .returned (.bool true) ∧ J (pre ++ [x]) W' ∧ KpB B W1 W') ∨ (e = .returned (.bool false) ∧ Jx (pre ++ [x]) W'))
    (h0 : J [] W) :
    CallsIn Fence.wide 10 Try.prog 67 #[.func (.yield l) #[] #[], .pointer (some ⟨B, 0, none⟩)] W fun e W' => (∃ v, e = .returned v) ∧
      ((∃ xs, xs.map (·.1) = posns s ∧ J xs W') ∨ (∃ pre, pre.map (·.1) <+: posns s ∧ Jx pre W')) := by
  have hc := hBx.cell
  refine callsIn_of_wp Try.func67 rfl trivial ?_ rfl
  simp only [Try.ntmps67, List.size_toArray, List.length_cons, List.length_nil, Nat.reduceAdd, Nat.reduceSub, Array.replicate_succ, Array.replicate_zero, List.push_toArray, List.append_toArray, List.nil_append, List.cons_append]
  gi_wp2
  gi_loopw [] (fun wr => RelP s B W.heap.size J wr) (fun wr => s.size - wr.iterPos W.heap.size)
  case atStart =>
    exact ⟨[], 0, by simp [posns_G], World.iter_heap W s 0, hBx.alloc _, hJ _ _ _ none h0 (World.grownBy_alloc W _ none) (by simp)⟩
  case round =>
    obtain ⟨pre, pos, hpp, hit, hbx, hj⟩ := hrel
    have hF : ∀ f, Fence.wide.fn f := fun _ => trivial
    by_cases hps : pos < s.size
    · have hnx : ∀ ty, (Instr.next (.pointer (some ⟨W.heap.size, 0, none⟩)) true ty).run Try.prog wr = _ := fun ty => Lib.run_next_any_at wr W.heap.size s pos ty hit hps
      rw [dec_eq s pos hps] at hnx
      have hit1 := Lib.iterAt_heap wr W.heap.size s pos (pos + wd s pos) hit
      have hlt : W.heap.size < wr.heap.size := (Array.getElem?_eq_some_iff.1 hit).1
      have hj1 : J pre (wr.iterAt W.heap.size s (pos + wd s pos)) := hJ _ _ _ _ hj (grown_iterAt wr W.heap.size s _) (fun r e => by cases e; exact ⟨Nat.le_refl _, _, hit, rfl⟩)
      have hbx1 : Boxed (wr.iterAt W.heap.size s (pos + wd s pos)) B 9 (.string s) := by
        refine (Lib.iterAt_other wr W.heap.size B s _ ?_).trans hbx
        intro e; rw [← e] at hit; rw [show wr.heap[B]? = _ from hbx] at hit; cases hit
      obtain ⟨P, hP⟩ : ∃ P, wr.iterAt W.heap.size s (pos + wd s pos) = P := ⟨_, rfl⟩
      have hmeas : s.size - (pos + wd s pos) < s.size - wr.iterPos W.heap.size := by
        have := wd_pos s pos
        simp only [World.iterPos, hit]; omega
      rw [hP] at hnx hit1 hj1 hbx1
      clear hP
      have hlen : pre.length < s.size := by
        have h1 := posns_len s
        rw [hpp, posG_cons s pos hps] at h1
        simp at h1; omega
      have hpp2 : posns s = (pre ++ [(⟨pos, hps⟩ : Pos s)]).map (·.1) ++ posG s (pos + wd s pos) := by rw [hpp, posG_cons s pos hps]; simp
      have HP := Lib.hid hpp2
      have HM := Lib.hid hmeas
      have hsz : W.heap.size < P.heap.size := (Array.getElem?_eq_some_iff.1 hit1).1
      clear hpp hpp2 hmeas hit hj hbx
      have hcA : ∀ o, (P.alloc o).cell? ⟨B, 0, none⟩ = some (.string s) := fun o => (hbx1.alloc o).cell
      by_cases hr : rn s pos = 65533
      · have hrb : ((rn s pos : Int) == 65533) = true := by rw [beq_iff_eq]; omega
        have hw3 : ((widZ 65533 : Nat) : Int) = 3 := rfl
        cases hbk : bk s pos with
        | true =>
          have hl0 := (bk_iff s pos).1 hbk
          have HN := Lib.hid hl0; clear hl0
          have HY : Hid (∀ P2, Below (P.alloc (.cells #[.int .i64 pos, .int .i64 3, .int .i32 65533, .bool false] 56)).heap.size (P.alloc (.cells #[.int .i64 pos, .int .i64 3, .int .i32 65533, .bool false] 56)) P2 →
              YieldAt Fence.wide 9 Try.prog l #[.agg #[.int .i64 pos, .int .i64 1, .int .i32 65533, .bool true]] ((((P2.setCell ⟨P.heap.size, 0, none⟩ (.int .i64 pos)).setCell ⟨P.heap.size, 1, none⟩ (.int .i64 1)).setCell ⟨P.heap.size, 2, none⟩ (.int .i32 65533)).setCell ⟨P.heap.size, 3, none⟩ (.bool true)) fun e W' =>
                (e = .returned (.bool true) ∧ (RelP s B W.heap.size J W' ∧ s.size - W'.iterPos W.heap.size < s.size - wr.iterPos W.heap.size)) ∨ (e = .returned (.bool false) ∧ Jx (pre ++ [⟨pos, hps⟩]) W')) := by
            apply Lib.hid
            intro P2 hb
            have hB : Below P.heap.size P ((((P2.setCell ⟨P.heap.size, 0, none⟩ (.int .i64 pos)).setCell ⟨P.heap.size, 1, none⟩ (.int .i64 1)).setCell ⟨P.heap.size, 2, none⟩ (.int .i32 65533)).setCell ⟨P.heap.size, 3, none⟩ (.bool true)) :=
              (((((((Below.refl _ _).alloc (Nat.le_refl _) _).trans (hb.mono (by simp))).setCell (p := ⟨_, 0, none⟩) (Nat.le_refl _) _).setCell (p := ⟨_, 1, none⟩) (Nat.le_refl _) _).setCell (p := ⟨_, 2, none⟩) (Nat.le_refl _) _).setCell (p := ⟨_, 3, none⟩) (Nat.le_refl _) _)
            have hy0 := hY pre ⟨pos, hps⟩ _ (hJ _ _ _ none hj1 (grown_none hB) (by simp)) hlen
            have e0 : pcA s pos = #[.agg #[.int .i64 pos, .int .i64 1, .int .i32 65533, .bool true]] := by
              have := bk_rn s pos hbk; simp only [pcA, hbk, this.1, this.2]; rfl
            simp only [e0] at hy0
            refine hy0.mono ?_
            rintro e W' (⟨he, hJ', hk⟩ | h)
            · exact .inl ⟨he, relP_next HP HM ((hB.block _ hsz).trans hit1) ((hB.block _ hbx1.lt).trans hbx1) hk hJ'⟩
            · exact .inr h
          clear hY
          have HB := Lib.hid hbk; clear hbk
          gi_wp2_with (first | (gi_at_call 60; refine (callsIn_wide.2 (width_any _ _)).mono ?_; rintro e w' ⟨rfl, rfl⟩) | (gi_at_call 68; refine (callsIn_wide.2 (length_any s pos hps hs _)).mono ?_; rintro e w' ⟨rfl, rfl⟩; rw [HN.out]) | (gi_at_call 69; refine (callsIn_wide.2 (broken_any _ _)).mono ?_; rintro e P2 ⟨rfl, hb⟩; obtain ⟨hc2, hf2⟩ := bcell hb; have hz2 := hb.size; obtain ⟨fn, tmps, assign, body, hy, hR⟩ := HY.out P2 hb))
          refine hR.mono ?_
          rintro e W' (⟨rfl, hJ'⟩ | ⟨rfl, hJx'⟩)
          · gi_wp2
            exact hJ'
          · gi_wp2
            refine bodyPost_ret (results_none rfl _ _ _) rfl ?_
            exact ⟨⟨_, rfl⟩, .inr ⟨_, prefix_next HP, hJx'⟩⟩
        | false =>
          have hl0 := (bk_not s pos).1 hbk
          have hlb : ((lenN s pos : Int) == 0) = false := by rw [beq_eq_false_iff_ne]; omega
          have hwz := wid_rn s pos hps hbk
          rw [hr] at hwz
          have hw3' : wd s pos = 3 := hwz.symm
          have HW := Lib.hid hw3'; clear hw3' hwz
          obtain ⟨fn, tmps, assign, body, hy, hR⟩ := hY pre ⟨pos, hps⟩ (P.alloc (.cells #[.int .i64 pos, .int .i64 3, .int .i32 65533, .bool false] 56))
            (hJ _ _ _ none hj1 (World.grownBy_alloc P _ none) (by simp)) hlen
          have e0 : pcA s pos = #[.agg #[.int .i64 pos, .int .i64 3, .int .i32 65533, .bool false]] := by simp only [pcA, hbk, hr, HW.out]; rfl
          simp only [e0] at hy
          have HN := Lib.hid hl0; clear hl0
          have HB := Lib.hid hbk; clear hbk
          gi_wp2_with (first | (gi_at_call 60; refine (callsIn_wide.2 (width_any _ _)).mono ?_; rintro e w' ⟨rfl, rfl⟩) | (gi_at_call 68; refine (callsIn_wide.2 (length_any s pos hps hs _)).mono ?_; rintro e w' ⟨rfl, rfl⟩))
          refine hR.mono ?_
          rintro e W' (⟨rfl, hJ', hk⟩ | ⟨rfl, hJx'⟩)
          · gi_wp2
            exact relP_next HP HM ((Below.heap_alloc P _ _ hsz).trans hit1) (hbx1.alloc _) hk hJ'
          · gi_wp2
            refine bodyPost_ret (results_none rfl _ _ _) rfl ?_
            exact ⟨⟨_, rfl⟩, .inr ⟨_, prefix_next HP, hJx'⟩⟩
      · have hbk := bk_of_rn s pos hr
        have hwz := wid_rn s pos hps hbk
        have hrb : ((rn s pos : Int) == 65533) = false := by rw [beq_eq_false_iff_ne]; omega
        obtain ⟨fn, tmps, assign, body, hy, hR⟩ := hY pre ⟨pos, hps⟩ (P.alloc (.cells #[.int .i64 pos, .int .i64 (wd s pos : Nat), .int .i32 (rn s pos : Nat), .bool false] 56))
          (hJ _ _ _ none hj1 (World.grownBy_alloc P _ none) (by simp)) hlen
        simp only [pcA, hbk] at hy
        have HR := Lib.hid hr; clear hr
        have HB := Lib.hid hbk; clear hbk
        gi_wp2_with (first | (gi_at_call 60; refine (callsIn_wide.2 (width_any _ _)).mono ?_; rintro e w' ⟨rfl, rfl⟩))
        refine hR.mono ?_
        rintro e W' (⟨rfl, hJ', hk⟩ | ⟨rfl, hJx'⟩)
        · gi_wp2
          exact relP_next HP HM ((Below.heap_alloc P _ _ hsz).trans hit1) (hbx1.alloc _) hk hJ'
        · gi_wp2
          refine bodyPost_ret (results_none rfl _ _ _) rfl ?_
          exact ⟨⟨_, rfl⟩, .inr ⟨_, prefix_next HP, hJx'⟩⟩
    · have hnx : ∀ ty, (Instr.next (.pointer (some ⟨W.heap.size, 0, none⟩)) true ty).run Try.prog wr = _ := fun ty => Lib.run_next_end_at wr W.heap.size s pos ty hit hps
      rw [posG_end s pos (by omega), List.append_nil] at hpp
      have HP := Lib.hid hpp; clear hpp
      gi_wp2
      go_end0
      exact ⟨⟨_, rfl⟩, .inl ⟨pre, HP.out.symm, hj⟩⟩

set_option maxHeartbeats 400000 in
theorem pieces_any (s : ByteArray) (w : World) :
    Calls Try.prog 59 #[.string s] w fun e w' => e = .returned (.func (.func 67) #[] #[.pointer (some ⟨w.heap.size, 0, none⟩)]) ∧ w' = w.alloc (.cells #[.string s] 9) := by
  go_enter Try.func59, Try.ntmps59
  go_wp2
  go_ret
  exact ⟨rfl, rfl⟩

theorem pieces_stops (s : ByteArray) (hs : s.size ≤ 9223372036854775807) (B : Nat) (w : World) (hB : Boxed w B 9 (.string s)) :
    SeqStopsK Fence.wide 10 Try.prog 67 #[.pointer (some ⟨B, 0, none⟩)] (fun x : Pos s => pcA s x.1) (KpB B) (fun xs => xs.map (·.1) = posns s) (fun pre => pre.map (·.1) <+: posns s) s.size w :=
  fun l J Jx W hW hJ _ hY h0 => pieces1 l B s hs J Jx W hJ ((hW.block B hB.lt).trans hB) hY h0

/-- The cells of a piece. -/
def pcC (s : ByteArray) (i : Nat) : Array Value := #[.int .i64 i, .int .i64 (wd s i : Nat), .int .i32 (rn s i : Nat), .bool (bk s i)]

/-- A loop 'for p := range runes.Pieces(s)', p in a variable of its own in each round (slot v). -/
theorem range_pieces {g : Operand} {q : Tmp} {assign body : Code} {Q : Exit → Act → World → Prop} {a : Act} {w : World} (v : Nat) (s : ByteArray) (hs : s.size ≤ 9223372036854775807) (B : Nat)
    (hB : Boxed w B 9 (.string s)) (hg : a.eval g = .func (.func 67) #[] #[.pointer (some ⟨B, 0, none⟩)])
    (I : List (Pos s) → World → Prop) (Ix : Code → List (Pos s) → World → Prop) (hI : OwnFrom w.heap.size I) (hIx : ∀ c, OwnFrom w.heap.size (Ix c)) (h0 : I [] w)
    (hassign : ∀ (l : Nat) (x : Pos s) (W : World) (K : Act → World → Prop),
      K { tmps := (a.tmps.setIfInBounds q (.agg (pcC s x.1))).setIfInBounds v (.pointer (some ⟨W.heap.size, 0, none⟩)), defers := [] } (W.alloc (.cells (pcC s x.1) 56)) →
      assign.wpIn (Fence.wide.inRound l) 9 Try.prog (Exit.then K (fun _ _ _ => False)) { tmps := a.tmps.setIfInBounds q (.agg (pcC s x.1)), defers := [] } W)
    (hbody : ∀ (l : Nat) (pre : List (Pos s)) (x : Pos s) (Bx : Nat) (W : World), I pre W → w.heap.size ≤ Bx → W.heap[Bx]? = some (.cells (pcC s x.1) 56) → pre.length < s.size →
      body.wpIn (Fence.wide.inRound l) 9 Try.prog (ownPostG w.heap.size (KpB B) I Ix (pre ++ [x]) W) { tmps := (a.tmps.setIfInBounds q (.agg (pcC s x.1))).setIfInBounds v (.pointer (some ⟨Bx, 0, none⟩)), defers := [] } W)
    (hdone : ∀ (D : Nat) (xs : List (Pos s)) (W : World), w.heap.size ≤ D → xs.map (·.1) = posns s → I xs W → W.heap[D]? = some (.deferred (some [])) → Q .normal { a with defers := { target := .collected D, args := #[] } :: a.defers } W)
    (hstop : ∀ (D : Nat) (c : Code) (pre : List (Pos s)) (W : World), w.heap.size ≤ D → pre.map (·.1) <+: posns s → Ix c pre W → W.heap[D]? = some (.deferred (some [])) → c.wpIn Fence.wide 11 Try.prog Q { a with defers := { target := .collected D, args := #[] } :: a.defers } W) :
    (Code.rangeFunc g #[q] assign body).wpIn Fence.wide 11 Try.prog Q a w := by
  have hown : OwnFrom w.heap.size (fun (_ : List (Pos s)) W => w.heap.size ≤ W.heap.size) := fun _ _ _ _ hs hg _ => Nat.le_trans hs hg.size
  refine wpIn_rangeFunc_ownH (n := 11) rfl (by omega) (gf := 67) (lb := #[.pointer (some ⟨B, 0, none⟩)]) hg trivial (enters_of Try.func67 (by kernel_rfl) rfl)
    (pieces_stops s hs B w hB) kpB_t (kpB_b hB.lt) (Below.refl _ _) (fun _ => rfl) (fun pre W => I pre W ∧ w.heap.size ≤ W.heap.size) Ix (hI.and hown) hIx ⟨h0, Nat.le_refl _⟩
    (fun x a' W => ∃ Bx, w.heap.size ≤ Bx ∧ W.heap[Bx]? = some (.cells (pcC s x.1) 56) ∧ a' = { tmps := (a.tmps.setIfInBounds q (.agg (pcC s x.1))).setIfInBounds v (.pointer (some ⟨Bx, 0, none⟩)), defers := [] })
    (fun x a' => ?_) ?_ ?_ (fun D xs W hD hS hi => hdone D xs W hD hS hi.1) hstop
  · rintro _ W W' row ⟨Bx, h1, h2, h3⟩ hg hr
    refine ⟨Bx, h1, (hg.block Bx (Array.getElem?_eq_some_iff.1 h2).1 ?_).trans h2, h3⟩
    intro e
    obtain ⟨_, o, ho, hc⟩ := hr Bx e.symm
    rw [h2] at ho; cases ho; cases hc
  · rintro l pre x W K ⟨hi, hsz⟩ hK
    have e0 : ((#[q].zip (pcA s x.1)).foldl (fun t (p, v) => t.setIfInBounds p v) a.tmps) = a.tmps.setIfInBounds q (.agg (pcC s x.1)) := by simp [pcA, pcC]
    rw [e0]
    refine hassign l x W K (hK _ _ ((KeepsOthers.alloc _ _).from _) ⟨KeepsWalks.alloc _ _, ?_⟩ ⟨hI.alloc _ hi, by simp; omega⟩ ⟨W.heap.size, hsz, World.alloc_heap_new W _, rfl⟩)
    exact Below.heap_alloc W _ _ (Nat.lt_of_lt_of_le hB.lt hsz)
  · rintro l pre x a' W _ _ ⟨hi, hsz⟩ ⟨Bx, h1, h2, rfl⟩ hlen
    refine wpIn_mono (hbody l pre x Bx W hi h1 h2 hlen) ?_
    rintro e a3 W3 hp
    cases e with
    | normal => exact ⟨hp.1, hp.2.1, hp.2.2, Nat.le_trans hsz hp.1.size⟩
    | ret => exact hp
    | exit id => exact hp
    | goto t => exact hp
    | panic ch => exact hp
    | outgrown => exact hp

theorem pcell {s : ByteArray} {i : Nat} {W : World} {Bx : Nat} (h : W.heap[Bx]? = some (.cells (pcC s i) 56)) :
    W.cell? ⟨Bx, 0, none⟩ = some (.int .i64 i) ∧ W.cell? ⟨Bx, 1, none⟩ = some (.int .i64 (wd s i : Nat)) ∧ W.cell? ⟨Bx, 2, none⟩ = some (.int .i32 (rn s i : Nat)) ∧ W.cell? ⟨Bx, 3, none⟩ = some (.bool (bk s i)) := by
  simp [World.cell?, h, pcC]
end Go.Proofs.Ytfnngcecfjlfeaa
