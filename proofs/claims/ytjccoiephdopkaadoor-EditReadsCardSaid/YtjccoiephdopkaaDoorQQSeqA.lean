/- What runes.Width answers, and what the iterator of runes.Pieces tells its caller. -/
import Derived.Test.YtjccoiephdopkaaDoorRnB
import Derived.Test.YtjccoiephdopkaaDoorPc
import Derived.RangeFuncNested
import Derived.RangeFuncBound
import Derived.RangeFuncCalls
import Derived.RangeFuncLeaves
import Derived.RangeFuncBox
import Derived.Shelf.Abstract
import Derived.Shelf.RegionOpen
import Derived.OwnWalkIn
import Derived.TacticsInMore
import Derived.LoopNIn
import Derived.LoopIn
import Derived.Lib.OthersKept
namespace Go.Proofs.YtjccoiephdopkaaDoor.SQ
set_option linter.unusedVariables false
set_option linter.unusedSimpArgs false
open Go Go.RowKit Go.Shelf
set_option maxRecDepth 100000
attribute [local go_sem] Oper.semAt_some

set_option maxHeartbeats 400000 in
theorem width_any (r : Int) (w : World) :
    Calls Tryd.prog 91 #[.int .i32 r] w fun e w' => e = .returned (.int .i64 (widZ r : Nat)) ∧ w = w' := by
  go_enter Tryd.func91, Tryd.ntmps91
  go_wp2
  all_goals go_ret
  all_goals exact ⟨ret_int (by unfold widZ; repeat (first | rw [if_pos (by omega)] | rw [if_neg (by omega)] | rfl)), rfl⟩

/-- What the body of a round keeps for the iterator over a text's pieces: the walk's own object, and the variable that holds the text. -/
def KpB (B : Nat) (W W' : World) : Prop := KeepsWalks W W' ∧ W'.heap[B]? = W.heap[B]?

theorem kpB_t {B : Nat} {X Y Z : World} (h : KpB B X Y) (k : KpB B Y Z) : KpB B X Z := ⟨h.1.trans k.1, k.2.trans h.2⟩
theorem kpB_b {B : Nat} {w : World} (hB : B < w.heap.size) (W : World) (l : Nat) (o o' : Obj) (hl : w.heap.size ≤ l) (h : W.heap[l]? = some o) (_ : o.isCells = false) (hw : o.isWalk = false) : KpB B W (W.putObj l o') :=
  ⟨KeepsWalks.putObj _ h hw, World.putObj_heap_other (by omega)⟩

/-- A piece of s: the place at which it begins. -/
abbrev Pos (s : ByteArray) := { i : Nat // i < s.size }

/-- A piece as the program says it. -/
def pcA (s : ByteArray) (i : Nat) : Array Value := #[.agg #[.int .i64 i, .int .i64 (wd s i : Nat), .int .i32 (rn s i : Nat), .bool (bk s i)]]

theorem grown_none {w w' : World} (h : Below w.heap.size w w') : w.grownBy w' none :=
  ⟨h.os, h.tape, h.output, h.size, fun k hk _ => h.block k hk⟩

theorem grown_iterAt (w : World) (k : Nat) (s : ByteArray) (pos : Nat) : w.grownBy (w.iterAt k s pos) (some k) :=
  ⟨rfl, rfl, rfl, by rw [Lib.iterAt_size]; exact Nat.le_refl _, fun i _ h => Lib.iterAt_other w k i s pos (fun e => h (by rw [e]))⟩

/-- Between two rounds of the iterator: pre has come, pos is next. -/
def RelP (s : ByteArray) (B it : Nat) (J : List (Pos s) → World → Prop) (wr : World) : Prop :=
  ∃ (pre : List (Pos s)) (pos : Nat), posns s = pre.map (·.1) ++ posG s pos ∧ wr.heap[it]? = some (.stringIter s pos) ∧ Boxed wr B 9 (.string s) ∧ J pre wr

theorem relP_next {s : ByteArray} {B it : Nat} {J : List (Pos s) → World → Prop} {pre : List (Pos s)} {x : Pos s} {pos : Nat} {W1 W' wr : World}
    (HP : Hid (posns s = (pre ++ [x]).map (·.1) ++ posG s pos)) (HM : Hid (s.size - pos < s.size - wr.iterPos it)) (hit : W1.heap[it]? = some (.stringIter s pos))
    (hbx : Boxed W1 B 9 (.string s)) (hk : KpB B W1 W') (hJ : J (pre ++ [x]) W') : RelP s B it J W' ∧ s.size - W'.iterPos it < s.size - wr.iterPos it := by
  have h1 := hk.1.same _ _ hit rfl
  refine ⟨⟨pre ++ [x], pos, HP.out, h1, hk.2.trans hbx, hJ⟩, ?_⟩
  have := HM.out
  simp only [World.iterPos, h1] at this ⊢
  exact this

theorem prefix_next {s : ByteArray} {pre : List (Pos s)} {x : Pos s} {pos : Nat} (HP : Hid (posns s = (pre ++ [x]).map (·.1) ++ posG s pos)) : (pre ++ [x]).map (·.1) <+: posns s := ⟨posG s pos, HP.out.symm⟩

set_option maxHeartbeats 1000000 in
theorem pieces1 (l B : Nat) (s : ByteArray) (hs : s.size ≤ 9223372036854775807) (J Jx : List (Pos s) → World → Prop) (W : World)
    (hJ : AbidesFrom W.heap.size J) (hBx : Boxed W B 9 (.string s))
    (hY : ∀ pre x W1, J pre W1 → pre.length < s.size → YieldAt Fence.wide 9 Tryd.prog l (pcA s x.1) W1 fun e W' =>
      (e = .returned (.bool true) ∧ J (pre ++ [x]) W' ∧ KpB B W1 W') ∨ (e = .returned (.bool false) ∧ Jx (pre ++ [x]) W'))
    (h0 : J [] W) :
    CallsIn Fence.wide 10 Tryd.prog 90 #[.func (.yield l) #[] #[], .pointer (some ⟨B, 0, none⟩)] W fun e W' => (∃ v, e = .returned v) ∧
      ((∃ xs, xs.map (·.1) = posns s ∧ J xs W') ∨ (∃ pre, pre.map (·.1) <+: posns s ∧ Jx pre W')) := by
  have hc := hBx.cell
  refine callsIn_of_wp Tryd.func90 rfl trivial ?_ rfl
  simp only [Tryd.ntmps90, List.size_toArray, List.length_cons, List.length_nil, Nat.reduceAdd, Nat.reduceSub, Array.replicate_succ, Array.replicate_zero, List.push_toArray, List.append_toArray, List.nil_append, List.cons_append]
  gi_wp2
  gi_loopw [] (fun wr => RelP s B W.heap.size J wr) (fun wr => s.size - wr.iterPos W.heap.size)
  case atStart =>
    exact ⟨[], 0, by simp [posns_G], World.iter_heap W s 0, hBx.alloc _, hJ _ _ _ none h0 (World.grownBy_alloc W _ none) (by simp)⟩
  case round =>
    obtain ⟨pre, pos, hpp, hit, hbx, hj⟩ := hrel
    have hF : ∀ f, Fence.wide.fn f := fun _ => trivial
    by_cases hps : pos < s.size
    · have hnx : ∀ ty, (Instr.next (.pointer (some ⟨W.heap.size, 0, none⟩)) true ty).run Tryd.prog wr = _ := fun ty => Lib.run_next_any_at wr W.heap.size s pos ty hit hps
      rw [dec_eq s pos hps] at hnx
      have hit1 := Lib.iterAt_heap wr W.heap.size s pos (pos + wd s pos) hit
      have hlt : W.heap.size < wr.heap.size := (Array.getElem?_eq_some_iff.1 hit).1
      have hj1 : J pre (wr.iterAt W.heap.size s (pos + wd s pos)) := hJ _ _ _ _ hj (grown_iterAt wr W.heap.size s _) (fun r e => by cases e; exact ⟨Nat.le_refl _, _, hit, rfl⟩)
      have hbx1 : Boxed (wr.iterAt W.heap.size s (pos + wd s pos)) B 9 (.string s) := by
        refine (Lib.iterAt_other wr W.heap.size B s _ ?_).trans hbx
        intro e; rw [← e] at hit; rw [show wr.heap[B]? = _ from hbx] at hit; cases hit
      obtain ⟨P, hP⟩ : ∃ P, wr.iterAt W.heap.size s (pos + wd s pos) = P := ⟨_, rfl⟩
      have hmeas : s.size - (pos + wd s pos) < s.size - wr.iterPos W.heap.size := by
        have := wd_pos s pos
        simp only [World.iterPos, hit]; omega
      rw [hP] at hnx hit1 hj1 hbx1
      clear hP
      have hlen : pre.length < s.size := by
        have h1 := posns_len s
        rw [hpp, posG_cons s pos hps] at h1
        simp at h1; omega
      have hpp2 : posns s = (pre ++ [(⟨pos, hps⟩ : Pos s)]).map (·.1) ++ posG s (pos + wd s pos) := by rw [hpp, posG_cons s pos hps]; simp
      have HP := Lib.hid hpp2
      have HM := Lib.hid hmeas
      have hsz : W.heap.size < P.heap.size := (Array.getElem?_eq_some_iff.1 hit1).1
      clear hpp hpp2 hmeas hit hj hbx
      have hcA : ∀ o, (P.alloc o).cell? ⟨B, 0, none⟩ = some (.string s) := fun o => (hbx1.alloc o).cell
      by_cases hr : rn s pos = 65533
      · have hrb : ((rn s pos : Int) == 65533) = true := by rw [beq_iff_eq]; omega
        have hw3 : ((widZ 65533 : Nat) : Int) = 3 := rfl
        cases hbk : bk s pos with
        | true =>
          have hl0 := (bk_iff s pos).1 hbk
          have HN := Lib.hid hl0; clear hl0
          have HY : Hid (∀ P2, Below (P.alloc (.cells #[.int .i64 pos, .int .i64 3, .int .i32 65533, .bool false] 120)).heap.size (P.alloc (.cells #[.int .i64 pos, .int .i64 3, .int .i32 65533, .bool false] 120)) P2 →
              YieldAt Fence.wide 9 Tryd.prog l #[.agg #[.int .i64 pos, .int .i64 1, .int .i32 65533, .bool true]] ((((P2.setCell ⟨P.heap.size, 0, none⟩ (.int .i64 pos)).setCell ⟨P.heap.size, 1, none⟩ (.int .i64 1)).setCell ⟨P.heap.size, 2, none⟩ (.int .i32 65533)).setCell ⟨P.heap.size, 3, none⟩ (.bool true)) fun e W' =>
                (e = .returned (.bool true) ∧ (RelP s B W.heap.size J W' ∧ s.size - W'.iterPos W.heap.size < s.size - wr.iterPos W.heap.size)) ∨ (e = .returned (.bool false) ∧ Jx (pre ++ [⟨pos, hps⟩]) W')) := by
            apply Lib.hid
            intro P2 hb
            have hB : Below P.heap.size P ((((P2.setCell ⟨P.heap.size, 0, none⟩ (.int .i64 pos)).setCell ⟨P.heap.size, 1, none⟩ (.int .i64 1)).setCell ⟨P.heap.size, 2, none⟩ (.int .i32 65533)).setCell ⟨P.heap.size, 3, none⟩ (.bool true)) :=
              (((((((Below.refl _ _).alloc (Nat.le_refl _) _).trans (hb.mono (by simp))).setCell (p := ⟨_, 0, none⟩) (Nat.le_refl _) _).setCell (p := ⟨_, 1, none⟩) (Nat.le_refl _) _).setCell (p := ⟨_, 2, none⟩) (Nat.le_refl _) _).setCell (p := ⟨_, 3, none⟩) (Nat.le_refl _) _)
            have hy0 := hY pre ⟨pos, hps⟩ _ (hJ _ _ _ none hj1 (grown_none hB) (by simp)) hlen
            have e0 : pcA s pos = #[.agg #[.int .i64 pos, .int .i64 1, .int .i32 65533, .bool true]] := by
              have := bk_rn s pos hbk; simp only [pcA, hbk, this.1, this.2]; rfl
            simp only [e0] at hy0
            refine hy0.mono ?_
            rintro e W' (⟨he, hJ', hk⟩ | h)
            · exact .inl ⟨he, relP_next HP HM ((hB.block _ hsz).trans hit1) ((hB.block _ hbx1.lt).trans hbx1) hk hJ'⟩
            · exact .inr h
          clear hY
          have HB := Lib.hid hbk; clear hbk
          gi_wp2_with (first | (gi_at_call 91; refine (callsIn_wide.2 (width_any _ _)).mono ?_; rintro e w' ⟨rfl, rfl⟩) | (gi_at_call 92; refine (callsIn_wide.2 (length_any s pos hps hs _)).mono ?_; rintro e w' ⟨rfl, rfl⟩; rw [HN.out]) | (gi_at_call 93; refine (callsIn_wide.2 (broken_any _ _)).mono ?_; rintro e P2 ⟨rfl, hb⟩; obtain ⟨hc2, hf2⟩ := bcell hb; have hz2 := hb.size; obtain ⟨fn, tmps, assign, body, hy, hR⟩ := HY.out P2 hb))
          refine hR.mono ?_
          rintro e W' (⟨rfl, hJ'⟩ | ⟨rfl, hJx'⟩)
          · gi_wp2
            exact hJ'
          · gi_wp2
            refine bodyPost_ret (results_none rfl _ _ _) rfl ?_
            exact ⟨⟨_, rfl⟩, .inr ⟨_, prefix_next HP, hJx'⟩⟩
        | false =>
          have hl0 := (bk_not s pos).1 hbk
          have hlb : ((lenN s pos : Int) == 0) = false := by rw [beq_eq_false_iff_ne]; omega
          have hwz := wid_rn s pos hps hbk
          rw [hr] at hwz
          have hw3' : wd s pos = 3 := hwz.symm
          have HW := Lib.hid hw3'; clear hw3' hwz
          obtain ⟨fn, tmps, assign, body, hy, hR⟩ := hY pre ⟨pos, hps⟩ (P.alloc (.cells #[.int .i64 pos, .int .i64 3, .int .i32 65533, .bool false] 120))
            (hJ _ _ _ none hj1 (World.grownBy_alloc P _ none) (by simp)) hlen
          have e0 : pcA s pos = #[.agg #[.int .i64 pos, .int .i64 3, .int .i32 65533, .bool false]] := by simp only [pcA, hbk, hr, HW.out]; rfl
          simp only [e0] at hy
          have HN := Lib.hid hl0; clear hl0
          have HB := Lib.hid hbk; clear hbk
          gi_wp2_with (first | (gi_at_call 91; refine (callsIn_wide.2 (width_any _ _)).mono ?_; rintro e w' ⟨rfl, rfl⟩) | (gi_at_call 92; refine (callsIn_wide.2 (length_any s pos hps hs _)).mono ?_; rintro e w' ⟨rfl, rfl⟩))
          refine hR.mono ?_
          rintro e W' (⟨rfl, hJ', hk⟩ | ⟨rfl, hJx'⟩)
          · gi_wp2
            exact relP_next HP HM ((Below.heap_alloc P _ _ hsz).trans hit1) (hbx1.alloc _) hk hJ'
          · gi_wp2
            refine bodyPost_ret (results_none rfl _ _ _) rfl ?_
            exact ⟨⟨_, rfl⟩, .inr ⟨_, prefix_next HP, hJx'⟩⟩
      · have hbk := bk_of_rn s pos hr
        have hwz := wid_rn s pos hps hbk
        have hrb : ((rn s pos : Int) == 65533) = false := by rw [beq_eq_false_iff_ne]; omega
        obtain ⟨fn, tmps, assign, body, hy, hR⟩ := hY pre ⟨pos, hps⟩ (P.alloc (.cells #[.int .i64 pos, .int .i64 (wd s pos : Nat), .int .i32 (rn s pos : Nat), .bool false] 120))
          (hJ _ _ _ none hj1 (World.grownBy_alloc P _ none) (by simp)) hlen
        simp only [pcA, hbk] at hy
        have HR := Lib.hid hr; clear hr
        have HB := Lib.hid hbk; clear hbk
        gi_wp2_with (first | (gi_at_call 91; refine (callsIn_wide.2 (width_any _ _)).mono ?_; rintro e w' ⟨rfl, rfl⟩))
        refine hR.mono ?_
        rintro e W' (⟨rfl, hJ', hk⟩ | ⟨rfl, hJx'⟩)
        · gi_wp2
          exact relP_next HP HM ((Below.heap_alloc P _ _ hsz).trans hit1) (hbx1.alloc _) hk hJ'
        · gi_wp2
          refine bodyPost_ret (results_none rfl _ _ _) rfl ?_
          exact ⟨⟨_, rfl⟩, .inr ⟨_, prefix_next HP, hJx'⟩⟩
    · have hnx : ∀ ty, (Instr.next (.pointer (some ⟨W.heap.size, 0, none⟩)) true ty).run Tryd.prog wr = _ := fun ty => Lib.run_next_end_at wr W.heap.size s pos ty hit hps
      rw [posG_end s pos (by omega), List.append_nil] at hpp
      have HP := Lib.hid hpp; clear hpp
      gi_wp2
      go_end0
      exact ⟨⟨_, rfl⟩, .inl ⟨pre, HP.out.symm, hj⟩⟩
end Go.Proofs.YtjccoiephdopkaaDoor.SQ
