/- Several texts in one. -/
import Derived.Test.YtepbplmggladfaaRnB
import Derived.Test.YtepbplmggladfaaPc
import Derived.RangeFuncNested
import Derived.RangeFuncBound
import Derived.RangeFuncCalls
import Derived.RangeFuncLeaves
import Derived.RangeFuncBox
import Derived.Shelf.Abstract
import Derived.Shelf.RegionOpen
import Derived.OwnWalkIn
import Derived.TacticsInMore
import Derived.LoopNIn
import Derived.LoopIn
import Derived.Lib.OthersKept
import Derived.Test.YtepbplmggladfaaFm
import Derived.Handy
import Derived.Deep.Light
import Derived.Deep.RegionHeld3
import Derived.BigQuiet
import Derived.Deep.QuietTactic
import Derived.Deep.AppendLies
import Derived.Test.YtepbplmggladfaaBd
import Derived.Test.YtepbplmggladfaaArM
import Derived.Test.YtepbplmggladfaaRows
import Derived.Test.YtepbplmggladfaaCz
import Derived.WalkSpells
import Derived.WalkLawsBesides
import Derived.Lib.Hide
import Derived.Maps.AppendAt
/- What runes.Width answers, and what the iterator of runes.Pieces tells its caller. -/
namespace Go.Proofs.Ytepbplmggladfaa.SQ
set_option linter.unusedVariables false
set_option linter.unusedSimpArgs false
open Go Go.RowKit Go.Shelf
set_option maxRecDepth 100000
attribute [local go_sem] Oper.semAt_some

set_option maxHeartbeats 400000 in
theorem width_any (r : Int) (w : World) :
    Calls Try.prog 56 #[.int .i32 r] w fun e w' => e = .returned (.int .i64 (widZ r : Nat)) ∧ w = w' := by
  go_enter Try.func56, Try.ntmps56
  go_wp2
  all_goals go_ret
  all_goals exact ⟨ret_int (by unfold widZ; repeat (first | rw [if_pos (by omega)] | rw [if_neg (by omega)] | rfl)), rfl⟩

/-- What the body of a round keeps for the iterator over a text's pieces: the walk's own object, and the variable that holds the text. -/
def KpB (B : Nat) (W W' : World) : Prop := KeepsWalks W W' ∧ W'.heap[B]? = W.heap[B]?

theorem kpB_t {B : Nat} {X Y Z : World} (h : KpB B X Y) (k : KpB B Y Z) : KpB B X Z := ⟨h.1.trans k.1, k.2.trans h.2⟩
theorem kpB_b {B : Nat} {w : World} (hB : B < w.heap.size) (W : World) (l : Nat) (o o' : Obj) (hl : w.heap.size ≤ l) (h : W.heap[l]? = some o) (_ : o.isCells = false) (hw : o.isWalk = false) : KpB B W (W.putObj l o') :=
  ⟨KeepsWalks.putObj _ h hw, World.putObj_heap_other (by omega)⟩

/-- A piece of s: the place at which it begins. -/
abbrev Pos (s : ByteArray) := { i : Nat // i < s.size }

/-- A piece as the program says it. -/
def pcA (s : ByteArray) (i : Nat) : Array Value := #[.agg #[.int .i64 i, .int .i64 (wd s i : Nat), .int .i32 (rn s i : Nat), .bool (bk s i)]]

theorem grown_none {w w' : World} (h : Below w.heap.size w w') : w.grownBy w' none :=
  ⟨h.os, h.tape, h.output, h.size, fun k hk _ => h.block k hk⟩

theorem grown_iterAt (w : World) (k : Nat) (s : ByteArray) (pos : Nat) : w.grownBy (w.iterAt k s pos) (some k) :=
  ⟨rfl, rfl, rfl, by rw [Lib.iterAt_size]; exact Nat.le_refl _, fun i _ h => Lib.iterAt_other w k i s pos (fun e => h (by rw [e]))⟩

/-- Between two rounds of the iterator: pre has come, pos is next. -/
def RelP (s : ByteArray) (B it : Nat) (J : List (Pos s) → World → Prop) (wr : World) : Prop :=
  ∃ (pre : List (Pos s)) (pos : Nat), posns s = pre.map (·.1) ++ posG s pos ∧ wr.heap[it]? = some (.stringIter s pos) ∧ Boxed wr B 9 (.string s) ∧ J pre wr

theorem relP_next {s : ByteArray} {B it : Nat} {J : List (Pos s) → World → Prop} {pre : List (Pos s)} {x : Pos s} {pos : Nat} {W1 W' wr : World}
    (HP : Hid (posns s = (pre ++ [x]).map (·.1) ++ posG s pos)) (HM : Hid (s.size - pos < s.size - wr.iterPos it)) (hit : W1.heap[it]? = some (.stringIter s pos))
    (hbx : Boxed W1 B 9 (.string s)) (hk : KpB B W1 W') (hJ : J (pre ++ [x]) W') : RelP s B it J W' ∧ s.size - W'.iterPos it < s.size - wr.iterPos it := by
  have h1 := hk.1.same _ _ hit rfl
  refine ⟨⟨pre ++ [x], pos, HP.out, h1, hk.2.trans hbx, hJ⟩, ?_⟩
  have := HM.out
  simp only [World.iterPos, h1] at this ⊢
  exact this

theorem prefix_next {s : ByteArray} {pre : List (Pos s)} {x : Pos s} {pos : Nat} (HP : Hid (posns s = (pre ++ [x]).map (·.1) ++ posG s pos)) : (pre ++ [x]).map (·.1) <+: posns s := ⟨posG s pos, HP.out.symm⟩

set_option maxHeartbeats 1000000 in
theorem pieces1 (l B : Nat) (s : ByteArray) (hs : s.size ≤ 9223372036854775807) (J Jx : List (Pos s) → World → Prop) (W : World)
    (hJ : AbidesFrom W.heap.size J) (hBx : Boxed W B 9 (.string s))
    (hY : ∀ pre x W1, J pre W1 → pre.length < s.size → YieldAt Fence.wide 9 Try.prog l (pcA s x.1) W1 fun e W' =>
      (e = .returned (.bool true) ∧ J (pre ++ [x]) W' ∧ KpB B W1 W') ∨ (e = .returned (.bool false) ∧ Jx (pre ++ [x]) W'))
    (h0 : J [] W) :
    CallsIn Fence.wide 10 Try.prog 55 #[.func (.yield l) #[] #[], .pointer (some ⟨B, 0, none⟩)] W fun e W' => (∃ v, e = .returned v) ∧
      ((∃ xs, xs.map (·.1) = posns s ∧ J xs W') ∨ (∃ pre, pre.map (·.1) <+: posns s ∧ Jx pre W')) := by
  have hc := hBx.cell
  refine callsIn_of_wp Try.func55 rfl trivial ?_ rfl
  simp only [Try.ntmps55, List.size_toArray, List.length_cons, List.length_nil, Nat.reduceAdd, Nat.reduceSub, Array.replicate_succ, Array.replicate_zero, List.push_toArray, List.append_toArray, List.nil_append, List.cons_append]
  gi_wp2
  gi_loopw [] (fun wr => RelP s B W.heap.size J wr) (fun wr => s.size - wr.iterPos W.heap.size)
  case atStart =>
    exact ⟨[], 0, by simp [posns_G], World.iter_heap W s 0, hBx.alloc _, hJ _ _ _ none h0 (World.grownBy_alloc W _ none) (by simp)⟩
  case round =>
    obtain ⟨pre, pos, hpp, hit, hbx, hj⟩ := hrel
    have hF : ∀ f, Fence.wide.fn f := fun _ => trivial
    by_cases hps : pos < s.size
    · have hnx : ∀ ty, (Instr.next (.pointer (some ⟨W.heap.size, 0, none⟩)) true ty).run Try.prog wr = _ := fun ty => Lib.run_next_any_at wr W.heap.size s pos ty hit hps
      rw [dec_eq s pos hps] at hnx
      have hit1 := Lib.iterAt_heap wr W.heap.size s pos (pos + wd s pos) hit
      have hlt : W.heap.size < wr.heap.size := (Array.getElem?_eq_some_iff.1 hit).1
      have hj1 : J pre (wr.iterAt W.heap.size s (pos + wd s pos)) := hJ _ _ _ _ hj (grown_iterAt wr W.heap.size s _) (fun r e => by cases e; exact ⟨Nat.le_refl _, _, hit, rfl⟩)
      have hbx1 : Boxed (wr.iterAt W.heap.size s (pos + wd s pos)) B 9 (.string s) := by
        refine (Lib.iterAt_other wr W.heap.size B s _ ?_).trans hbx
        intro e; rw [← e] at hit; rw [show wr.heap[B]? = _ from hbx] at hit; cases hit
      obtain ⟨P, hP⟩ : ∃ P, wr.iterAt W.heap.size s (pos + wd s pos) = P := ⟨_, rfl⟩
      have hmeas : s.size - (pos + wd s pos) < s.size - wr.iterPos W.heap.size := by
        have := wd_pos s pos
        simp only [World.iterPos, hit]; omega
      rw [hP] at hnx hit1 hj1 hbx1
      clear hP
      have hlen : pre.length < s.size := by
        have h1 := posns_len s
        rw [hpp, posG_cons s pos hps] at h1
        simp at h1; omega
      have hpp2 : posns s = (pre ++ [(⟨pos, hps⟩ : Pos s)]).map (·.1) ++ posG s (pos + wd s pos) := by rw [hpp, posG_cons s pos hps]; simp
      have HP := Lib.hid hpp2
      have HM := Lib.hid hmeas
      have hsz : W.heap.size < P.heap.size := (Array.getElem?_eq_some_iff.1 hit1).1
      clear hpp hpp2 hmeas hit hj hbx
      have hcA : ∀ o, (P.alloc o).cell? ⟨B, 0, none⟩ = some (.string s) := fun o => (hbx1.alloc o).cell
      by_cases hr : rn s pos = 65533
      · have hrb : ((rn s pos : Int) == 65533) = true := by rw [beq_iff_eq]; omega
        have hw3 : ((widZ 65533 : Nat) : Int) = 3 := rfl
        cases hbk : bk s pos with
        | true =>
          have hl0 := (bk_iff s pos).1 hbk
          have HN := Lib.hid hl0; clear hl0
          have HY : Hid (∀ P2, Below (P.alloc (.cells #[.int .i64 pos, .int .i64 3, .int .i32 65533, .bool false] 79)).heap.size (P.alloc (.cells #[.int .i64 pos, .int .i64 3, .int .i32 65533, .bool false] 79)) P2 →
              YieldAt Fence.wide 9 Try.prog l #[.agg #[.int .i64 pos, .int .i64 1, .int .i32 65533, .bool true]] ((((P2.setCell ⟨P.heap.size, 0, none⟩ (.int .i64 pos)).setCell ⟨P.heap.size, 1, none⟩ (.int .i64 1)).setCell ⟨P.heap.size, 2, none⟩ (.int .i32 65533)).setCell ⟨P.heap.size, 3, none⟩ (.bool true)) fun e W' =>
                (e = .returned (.bool true) ∧ (RelP s B W.heap.size J W' ∧ s.size - W'.iterPos W.heap.size < s.size - wr.iterPos W.heap.size)) ∨ (e = .returned (.bool false) ∧ Jx (pre ++ [⟨pos, hps⟩]) W')) := by
            apply Lib.hid
            intro P2 hb
            have hB : Below P.heap.size P ((((P2.setCell ⟨P.heap.size, 0, none⟩ (.int .i64 pos)).setCell ⟨P.heap.size, 1, none⟩ (.int .i64 1)).setCell ⟨P.heap.size, 2, none⟩ (.int .i32 65533)).setCell ⟨P.heap.size, 3, none⟩ (.bool true)) :=
              (((((((Below.refl _ _).alloc (Nat.le_refl _) _).trans (hb.mono (by simp))).setCell (p := ⟨_, 0, none⟩) (Nat.le_refl _) _).setCell (p := ⟨_, 1, none⟩) (Nat.le_refl _) _).setCell (p := ⟨_, 2, none⟩) (Nat.le_refl _) _).setCell (p := ⟨_, 3, none⟩) (Nat.le_refl _) _)
            have hy0 := hY pre ⟨pos, hps⟩ _ (hJ _ _ _ none hj1 (grown_none hB) (by simp)) hlen
            have e0 : pcA s pos = #[.agg #[.int .i64 pos, .int .i64 1, .int .i32 65533, .bool true]] := by
              have := bk_rn s pos hbk; simp only [pcA, hbk, this.1, this.2]; rfl
            simp only [e0] at hy0
            refine hy0.mono ?_
            rintro e W' (⟨he, hJ', hk⟩ | h)
            · exact .inl ⟨he, relP_next HP HM ((hB.block _ hsz).trans hit1) ((hB.block _ hbx1.lt).trans hbx1) hk hJ'⟩
            · exact .inr h
          clear hY
          have HB := Lib.hid hbk; clear hbk
          gi_wp2_with (first | (gi_at_call 56; refine (callsIn_wide.2 (width_any _ _)).mono ?_; rintro e w' ⟨rfl, rfl⟩) | (gi_at_call 53; refine (callsIn_wide.2 (length_any s pos hps hs _)).mono ?_; rintro e w' ⟨rfl, rfl⟩; rw [HN.out]) | (gi_at_call 54; refine (callsIn_wide.2 (broken_any _ _)).mono ?_; rintro e P2 ⟨rfl, hb⟩; obtain ⟨hc2, hf2⟩ := bcell hb; have hz2 := hb.size; obtain ⟨fn, tmps, assign, body, hy, hR⟩ := HY.out P2 hb))
          refine hR.mono ?_
          rintro e W' (⟨rfl, hJ'⟩ | ⟨rfl, hJx'⟩)
          · gi_wp2
            exact hJ'
          · gi_wp2
            refine bodyPost_ret (results_none rfl _ _ _) rfl ?_
            exact ⟨⟨_, rfl⟩, .inr ⟨_, prefix_next HP, hJx'⟩⟩
        | false =>
          have hl0 := (bk_not s pos).1 hbk
          have hlb : ((lenN s pos : Int) == 0) = false := by rw [beq_eq_false_iff_ne]; omega
          have hwz := wid_rn s pos hps hbk
          rw [hr] at hwz
          have hw3' : wd s pos = 3 := hwz.symm
          have HW := Lib.hid hw3'; clear hw3' hwz
          obtain ⟨fn, tmps, assign, body, hy, hR⟩ := hY pre ⟨pos, hps⟩ (P.alloc (.cells #[.int .i64 pos, .int .i64 3, .int .i32 65533, .bool false] 79))
            (hJ _ _ _ none hj1 (World.grownBy_alloc P _ none) (by simp)) hlen
          have e0 : pcA s pos = #[.agg #[.int .i64 pos, .int .i64 3, .int .i32 65533, .bool false]] := by simp only [pcA, hbk, hr, HW.out]; rfl
          simp only [e0] at hy
          have HN := Lib.hid hl0; clear hl0
          have HB := Lib.hid hbk; clear hbk
          gi_wp2_with (first | (gi_at_call 56; refine (callsIn_wide.2 (width_any _ _)).mono ?_; rintro e w' ⟨rfl, rfl⟩) | (gi_at_call 53; refine (callsIn_wide.2 (length_any s pos hps hs _)).mono ?_; rintro e w' ⟨rfl, rfl⟩))
          refine hR.mono ?_
          rintro e W' (⟨rfl, hJ', hk⟩ | ⟨rfl, hJx'⟩)
          · gi_wp2
            exact relP_next HP HM ((Below.heap_alloc P _ _ hsz).trans hit1) (hbx1.alloc _) hk hJ'
          · gi_wp2
            refine bodyPost_ret (results_none rfl _ _ _) rfl ?_
            exact ⟨⟨_, rfl⟩, .inr ⟨_, prefix_next HP, hJx'⟩⟩
      · have hbk := bk_of_rn s pos hr
        have hwz := wid_rn s pos hps hbk
        have hrb : ((rn s pos : Int) == 65533) = false := by rw [beq_eq_false_iff_ne]; omega
        obtain ⟨fn, tmps, assign, body, hy, hR⟩ := hY pre ⟨pos, hps⟩ (P.alloc (.cells #[.int .i64 pos, .int .i64 (wd s pos : Nat), .int .i32 (rn s pos : Nat), .bool false] 79))
          (hJ _ _ _ none hj1 (World.grownBy_alloc P _ none) (by simp)) hlen
        simp only [pcA, hbk] at hy
        have HR := Lib.hid hr; clear hr
        have HB := Lib.hid hbk; clear hbk
        gi_wp2_with (first | (gi_at_call 56; refine (callsIn_wide.2 (width_any _ _)).mono ?_; rintro e w' ⟨rfl, rfl⟩))
        refine hR.mono ?_
        rintro e W' (⟨rfl, hJ', hk⟩ | ⟨rfl, hJx'⟩)
        · gi_wp2
          exact relP_next HP HM ((Below.heap_alloc P _ _ hsz).trans hit1) (hbx1.alloc _) hk hJ'
        · gi_wp2
          refine bodyPost_ret (results_none rfl _ _ _) rfl ?_
          exact ⟨⟨_, rfl⟩, .inr ⟨_, prefix_next HP, hJx'⟩⟩
    · have hnx : ∀ ty, (Instr.next (.pointer (some ⟨W.heap.size, 0, none⟩)) true ty).run Try.prog wr = _ := fun ty => Lib.run_next_end_at wr W.heap.size s pos ty hit hps
      rw [posG_end s pos (by omega), List.append_nil] at hpp
      have HP := Lib.hid hpp; clear hpp
      gi_wp2
      go_end0
      exact ⟨⟨_, rfl⟩, .inl ⟨pre, HP.out.symm, hj⟩⟩
end Go.Proofs.Ytepbplmggladfaa.SQ

/- What the forms of runes are: runes.Encode, and the document's own. -/
namespace Go.Proofs.Ytepbplmggladfaa.SQ
set_option linter.unusedVariables false
set_option linter.unusedSimpArgs false
open Go Go.RowKit
set_option maxRecDepth 100000

/-- string(b) of a new row of bytes. -/
theorem conv_new (w : World) (xs : List Int) (n : Nat) (hn : xs.length = n) :
    (convert 47 9 (.slice (some ⟨w.heap.size, 0, none⟩) n n)).run Try.prog (w.alloc (.cells (xs.map (Value.int .u8)).toArray 5)) = .ok (.string (strOfNums xs)) (w.alloc (.cells (xs.map (Value.int .u8)).toArray 5)) := by
  refine run_convert_bytes_arg _ 47 5 Try.underlying47 Try.underlying5 w.heap.size 0 n n xs hn (fun i hi => ?_) 9 Try.underlying9
  have := World.alloc_heap_new w (.cells (xs.map (Value.int .u8)).toArray 5)
  simp only [World.cell?, this]
  simp [List.getD, List.getElem?_eq_getElem (show i < xs.length by omega)]

theorem conv1 (w : World) (a : Int) : (convert 47 9 (.slice (some ⟨w.heap.size, 0, none⟩) 1 1)).run Try.prog (w.alloc (.cells #[.int .u8 a] 5)) = .ok (.string (strOfNums [a])) (w.alloc (.cells #[.int .u8 a] 5)) := conv_new w [a] 1 rfl
theorem conv2 (w : World) (a b : Int) : (convert 47 9 (.slice (some ⟨w.heap.size, 0, none⟩) 2 2)).run Try.prog (w.alloc (.cells #[.int .u8 a, .int .u8 b] 5)) = .ok (.string (strOfNums [a, b])) (w.alloc (.cells #[.int .u8 a, .int .u8 b] 5)) := conv_new w [a, b] 2 rfl
theorem conv3 (w : World) (a b c : Int) : (convert 47 9 (.slice (some ⟨w.heap.size, 0, none⟩) 3 3)).run Try.prog (w.alloc (.cells #[.int .u8 a, .int .u8 b, .int .u8 c] 5)) = .ok (.string (strOfNums [a, b, c])) (w.alloc (.cells #[.int .u8 a, .int .u8 b, .int .u8 c] 5)) := conv_new w [a, b, c] 3 rfl
theorem conv4 (w : World) (a b c d : Int) : (convert 47 9 (.slice (some ⟨w.heap.size, 0, none⟩) 4 4)).run Try.prog (w.alloc (.cells #[.int .u8 a, .int .u8 b, .int .u8 c, .int .u8 d] 5)) = .ok (.string (strOfNums [a, b, c, d])) (w.alloc (.cells #[.int .u8 a, .int .u8 b, .int .u8 c, .int .u8 d] 5)) := conv_new w [a, b, c, d] 4 rfl

theorem info5 : (Try.prog.info? 5).map (fun i => (i.zero, i.size, i.bytes)) = some (some (.int .u8 0), 1, 1) := by kernel_rfl

/-- make([]byte, n). -/
theorem make_new (w : World) (n : Nat) (h : n ≤ 4) (k : Int) (hk : (n : Int) = k) (C : Array Value) (hC : madeCells (Value.int .u8 0).cells n = C) :
    (Instr.makeSlice 47 (.int .i64 k) (.int .i64 k)).run Try.prog w = .ok (.slice (some ⟨w.heap.size, 0, none⟩) n n) (w.alloc (.cells C 5)) := by
  subst hk; subst hC
  obtain ⟨i0, hi, hz0, hz1, hz2⟩ := info_parts info5
  have := run_make (P := Try.prog) w 47 5 i0 (.int .u8 0) Try.underlying47 hi hz0 .i64 .i64 n n (by omega) (by omega) (by rw [hz2]; omega) (by omega)
  rw [hz1] at this
  simpa using this
theorem make2 (w : World) : (Instr.makeSlice 47 (.int .i64 2) (.int .i64 2)).run Try.prog w = .ok (.slice (some ⟨w.heap.size, 0, none⟩) 2 2) (w.alloc (.cells #[.int .u8 0, .int .u8 0] 5)) := make_new w 2 (by omega) 2 rfl _ (by kernel_rfl)
theorem make3 (w : World) : (Instr.makeSlice 47 (.int .i64 3) (.int .i64 3)).run Try.prog w = .ok (.slice (some ⟨w.heap.size, 0, none⟩) 3 3) (w.alloc (.cells #[.int .u8 0, .int .u8 0, .int .u8 0] 5)) := make_new w 3 (by omega) 3 rfl _ (by kernel_rfl)
theorem make4 (w : World) : (Instr.makeSlice 47 (.int .i64 4) (.int .i64 4)).run Try.prog w = .ok (.slice (some ⟨w.heap.size, 0, none⟩) 4 4) (w.alloc (.cells #[.int .u8 0, .int .u8 0, .int .u8 0, .int .u8 0] 5)) := make_new w 4 (by omega) 4 rfl _ (by kernel_rfl)

end Go.Proofs.Ytepbplmggladfaa.SQ

/- The form that begins at a place, as the document's own answer finds it. -/
namespace Go.Proofs.Ytepbplmggladfaa.SQ
set_option linter.unusedVariables false
set_option linter.unusedSimpArgs false
open Go Go.RowKit
set_option maxRecDepth 100000

theorem below_drewN {B : Nat} {a w : World} (h : Below B a w) (n : Nat) : Below B a (w.drewN n) := h.trans ⟨rfl, rfl, rfl, Nat.le_refl _, fun _ _ => rfl⟩

/-- The forms of fewer than n bytes are ruled out. -/
def outF (s : ByteArray) (i n : Nat) : Prop := ∀ m, 1 ≤ m → m < n → isF s i m = false
theorem outF_next {s : ByteArray} {i n k : Nat} (h : outF s i n) (hk : k = n + 1) (h' : isF s i n = false) : outF s i k := by
  intro m h1 h2
  by_cases e : m = n
  · rw [e]; exact h'
  · exact h m h1 (by omega)

/-- Between two rounds of the document's Form. -/
def FmRel (s : ByteArray) (i : Nat) (w : World) (v : Value) (wr : World) : Prop := ∃ n : Nat, v = .int .i64 n ∧ 1 ≤ n ∧ n ≤ 5 ∧ Below w.heap.size w wr ∧ outF s i n

theorem fmRel_next {s : ByteArray} {i n k : Nat} {w w1 : World} {z : Int} (h1 : 1 ≤ n) (h4 : n ≤ 4) (ho : Hid (outF s i n)) (hk : k = n + 1) (hz : z = k) (h' : isF s i n = false) (hB : Below w.heap.size w w1) : FmRel s i w (.int .i64 z) w1 :=
  ⟨k, by rw [hz], by omega, by omega, hB, outF_next ho.out hk h'⟩

theorem fm_none {s : ByteArray} {i n : Nat} (hi : i < s.size) (ho : Hid (outF s i n)) (hn : n = 5 ∨ s.size < i + n) : fmR s i = 0 ∧ lenN s i = 0 := by
  have := lenN_of_none s i n hi ho.out hn
  exact ⟨by rw [fmR, if_pos this], this⟩

theorem fm_some {s : ByteArray} {i n : Nat} {R : Int} (h1 : 1 ≤ n) (hn : n ≤ 4) (hf : i + n ≤ s.size) (hno : Hid (noR R = false)) (hw : Hid (widZ R = n)) (he : Hid (Utf8.encode R = s.extract i (i + n))) : fmR s i = R ∧ lenN s i = n := by
  obtain ⟨_, h2, h3⟩ := form_of_enc s i n R h1 hn hf hno.out hw.out he.out
  exact ⟨by rw [fmR, if_neg (by omega)]; exact h2, h3⟩

end Go.Proofs.Ytepbplmggladfaa.SQ

/- The law for a loop over runes.Pieces, and the calls that are such a loop: Count. -/
namespace Go.Proofs.Ytepbplmggladfaa.SQ
set_option linter.unusedVariables false
set_option linter.unusedSimpArgs false
open Go Go.RowKit Go.Shelf
set_option maxRecDepth 100000
attribute [local go_sem] Oper.semAt_some

set_option maxHeartbeats 400000 in
theorem pieces_any (s : ByteArray) (w : World) :
    Calls Try.prog 51 #[.string s] w fun e w' => e = .returned (.func (.func 55) #[] #[.pointer (some ⟨w.heap.size, 0, none⟩)]) ∧ w' = w.alloc (.cells #[.string s] 9) := by
  go_enter Try.func51, Try.ntmps51
  go_wp2
  go_ret
  exact ⟨rfl, rfl⟩

theorem pieces_stops (s : ByteArray) (hs : s.size ≤ 9223372036854775807) (B : Nat) (w : World) (hB : Boxed w B 9 (.string s)) :
    SeqStopsK Fence.wide 10 Try.prog 55 #[.pointer (some ⟨B, 0, none⟩)] (fun x : Pos s => pcA s x.1) (KpB B) (fun xs => xs.map (·.1) = posns s) (fun pre => pre.map (·.1) <+: posns s) s.size w :=
  fun l J Jx W hW hJ _ hY h0 => pieces1 l B s hs J Jx W hJ ((hW.block B hB.lt).trans hB) hY h0

/-- The cells of a piece. -/
def pcC (s : ByteArray) (i : Nat) : Array Value := #[.int .i64 i, .int .i64 (wd s i : Nat), .int .i32 (rn s i : Nat), .bool (bk s i)]

/-- A loop 'for p := range runes.Pieces(s)', p in a variable of its own in each round (slot v). -/
theorem range_pieces {g : Operand} {q : Tmp} {assign body : Code} {Q : Exit → Act → World → Prop} {a : Act} {w : World} (v : Nat) (s : ByteArray) (hs : s.size ≤ 9223372036854775807) (B : Nat)
    (hB : Boxed w B 9 (.string s)) (hg : a.eval g = .func (.func 55) #[] #[.pointer (some ⟨B, 0, none⟩)])
    (I : List (Pos s) → World → Prop) (Ix : Code → List (Pos s) → World → Prop) (hI : OwnFrom w.heap.size I) (hIx : ∀ c, OwnFrom w.heap.size (Ix c)) (h0 : I [] w)
    (hassign : ∀ (l : Nat) (x : Pos s) (W : World) (K : Act → World → Prop),
      K { tmps := (a.tmps.setIfInBounds q (.agg (pcC s x.1))).setIfInBounds v (.pointer (some ⟨W.heap.size, 0, none⟩)), defers := [] } (W.alloc (.cells (pcC s x.1) 79)) →
      assign.wpIn (Fence.wide.inRound l) 9 Try.prog (Exit.then K (fun _ _ _ => False)) { tmps := a.tmps.setIfInBounds q (.agg (pcC s x.1)), defers := [] } W)
    (hbody : ∀ (l : Nat) (pre : List (Pos s)) (x : Pos s) (Bx : Nat) (W : World), I pre W → w.heap.size ≤ Bx → W.heap[Bx]? = some (.cells (pcC s x.1) 79) → pre.length < s.size →
      body.wpIn (Fence.wide.inRound l) 9 Try.prog (ownPostG w.heap.size (KpB B) I Ix (pre ++ [x]) W) { tmps := (a.tmps.setIfInBounds q (.agg (pcC s x.1))).setIfInBounds v (.pointer (some ⟨Bx, 0, none⟩)), defers := [] } W)
    (hdone : ∀ (D : Nat) (xs : List (Pos s)) (W : World), w.heap.size ≤ D → xs.map (·.1) = posns s → I xs W → W.heap[D]? = some (.deferred (some [])) → Q .normal { a with defers := { target := .collected D, args := #[] } :: a.defers } W)
    (hstop : ∀ (D : Nat) (c : Code) (pre : List (Pos s)) (W : World), w.heap.size ≤ D → pre.map (·.1) <+: posns s → Ix c pre W → W.heap[D]? = some (.deferred (some [])) → c.wpIn Fence.wide 11 Try.prog Q { a with defers := { target := .collected D, args := #[] } :: a.defers } W) :
    (Code.rangeFunc g #[q] assign body).wpIn Fence.wide 11 Try.prog Q a w := by
  have hown : OwnFrom w.heap.size (fun (_ : List (Pos s)) W => w.heap.size ≤ W.heap.size) := fun _ _ _ _ hs hg _ => Nat.le_trans hs hg.size
  refine wpIn_rangeFunc_ownH (n := 11) rfl (by omega) (gf := 55) (lb := #[.pointer (some ⟨B, 0, none⟩)]) hg trivial (enters_of Try.func55 (by kernel_rfl) rfl)
    (pieces_stops s hs B w hB) kpB_t (kpB_b hB.lt) (Below.refl _ _) (fun _ => rfl) (fun pre W => I pre W ∧ w.heap.size ≤ W.heap.size) Ix (hI.and hown) hIx ⟨h0, Nat.le_refl _⟩
    (fun x a' W => ∃ Bx, w.heap.size ≤ Bx ∧ W.heap[Bx]? = some (.cells (pcC s x.1) 79) ∧ a' = { tmps := (a.tmps.setIfInBounds q (.agg (pcC s x.1))).setIfInBounds v (.pointer (some ⟨Bx, 0, none⟩)), defers := [] })
    (fun x a' => ?_) ?_ ?_ (fun D xs W hD hS hi => hdone D xs W hD hS hi.1) hstop
  · rintro _ W W' row ⟨Bx, h1, h2, h3⟩ hg hr
    refine ⟨Bx, h1, (hg.block Bx (Array.getElem?_eq_some_iff.1 h2).1 ?_).trans h2, h3⟩
    intro e
    obtain ⟨_, o, ho, hc⟩ := hr Bx e.symm
    rw [h2] at ho; cases ho; cases hc
  · rintro l pre x W K ⟨hi, hsz⟩ hK
    have e0 : ((#[q].zip (pcA s x.1)).foldl (fun t (p, v) => t.setIfInBounds p v) a.tmps) = a.tmps.setIfInBounds q (.agg (pcC s x.1)) := by simp [pcA, pcC]
    rw [e0]
    refine hassign l x W K (hK _ _ ((KeepsOthers.alloc _ _).from _) ⟨KeepsWalks.alloc _ _, ?_⟩ ⟨hI.alloc _ hi, by simp; omega⟩ ⟨W.heap.size, hsz, World.alloc_heap_new W _, rfl⟩)
    exact Below.heap_alloc W _ _ (Nat.lt_of_lt_of_le hB.lt hsz)
  · rintro l pre x a' W _ _ ⟨hi, hsz⟩ ⟨Bx, h1, h2, rfl⟩ hlen
    refine wpIn_mono (hbody l pre x Bx W hi h1 h2 hlen) ?_
    rintro e a3 W3 hp
    cases e with
    | normal => exact ⟨hp.1, hp.2.1, hp.2.2, Nat.le_trans hsz hp.1.size⟩
    | ret => exact hp
    | exit id => exact hp
    | goto t => exact hp
    | panic ch => exact hp
    | outgrown => exact hp

theorem pcell {s : ByteArray} {i : Nat} {W : World} {Bx : Nat} (h : W.heap[Bx]? = some (.cells (pcC s i) 79)) :
    W.cell? ⟨Bx, 0, none⟩ = some (.int .i64 i) ∧ W.cell? ⟨Bx, 1, none⟩ = some (.int .i64 (wd s i : Nat)) ∧ W.cell? ⟨Bx, 2, none⟩ = some (.int .i32 (rn s i : Nat)) ∧ W.cell? ⟨Bx, 3, none⟩ = some (.bool (bk s i)) := by
  simp [World.cell?, h, pcC]

/-- How many broken bytes there are among pieces. -/
def badN (s : ByteArray) (l : List (Pos s)) : Nat := (l.filter (fun x => bk s x.1)).length
theorem badN_snoc (s : ByteArray) (l : List (Pos s)) (x : Pos s) : badN s (l ++ [x]) = badN s l + if bk s x.1 then 1 else 0 := by
  unfold badN; rw [List.filter_append, List.length_append]
  cases h : bk s x.1 <;> simp [h]

theorem badN_le (s : ByteArray) (l : List (Pos s)) : badN s l ≤ l.length := List.length_filter_le _ _

end Go.Proofs.Ytepbplmggladfaa.SQ

/- What runes.At answers, Count in all, and that the layer wakes. -/
namespace Go.Proofs.Ytepbplmggladfaa.SQ
set_option linter.unusedVariables false
set_option linter.unusedSimpArgs false
open Go Go.RowKit Go.Shelf
set_option maxRecDepth 100000

/-- How many broken bytes a text has. -/
def badC (s : ByteArray) : Nat := ((posns s).filter (bk s)).length

theorem badN_all (s : ByteArray) (xs : List (Pos s)) (h : xs.map (·.1) = posns s) : badN s xs = badC s := by
  unfold badN badC; rw [← h, List.filter_map, List.length_map]; rfl

theorem read_pc (s : ByteArray) (i : Nat) (hi : i < s.size) (hs : s.size ≤ 9223372036854775807) (w : World) :
    Calls Try.prog 50 #[.string s, .int .i64 (i : Int)] w fun e w' => e = .returned (.agg (pcC s i)) ∧ Below w.heap.size w w' := by
  by_cases h : lenN s i = 0
  · refine (read_none s i hi hs w h).mono ?_
    rintro e w' ⟨rfl, hb⟩
    refine ⟨?_, hb⟩
    have hk := (bk_iff s i).2 h
    have h2 := bk_rn s i hk
    simp only [pcC, hk, h2.1, h2.2]; rfl
  · refine (read_any s i hi hs w (lenN s i) rfl (by omega)).mono ?_
    rintro e w' ⟨rfl, hb⟩
    refine ⟨?_, hb⟩
    have hk := (bk_not s i).2 h
    simp only [pcC, hk, wd, rn, if_neg h]

theorem read_pcL (s : ByteArray) (i : Nat) (hi : i < s.size) (hs : s.size ≤ 9223372036854775807) (w : World) :
    Calls Try.prog 50 #[.string s, .int .i64 (i : Int)] w fun e w' => e = .returned (.agg #[.int .i64 i, .int .i64 (wd s i : Nat), .int .i32 (rn s i : Nat), .bool (bk s i)]) ∧ Below w.heap.size w w' := read_pc s i hi hs w

set_option maxHeartbeats 400000 in
theorem at_ok (s : ByteArray) (i : Nat) (hi : i < s.size) (hs : s.size ≤ 9223372036854775807) (w : World) :
    Calls Try.prog 40 #[.string s, .int .i64 (i : Int)] w fun e w' => e = .returned (.tuple #[.agg #[.int .i64 i, .int .i64 (wd s i : Nat), .int .i32 (rn s i : Nat), .bool (bk s i)], .int .i64 0]) ∧ Below w.heap.size w w' := by
  go_enter Try.func40, Try.ntmps40
  go_wp2_with (go_at_call 50; refine (read_pcL s i hi hs _).mono ?_; rintro e w' ⟨rfl, hb⟩; obtain ⟨hc2, hf2⟩ := bcell hb; have hz2 := hb.size)
  refine bodyPost_ret (v := .tuple #[.agg #[.int .i64 i, .int .i64 (wd s i : Nat), .int .i32 (rn s i : Nat), .bool (bk s i)], .int .i64 0]) (by simp [results, Try.f40, go_sem, hc2, hz2]) rfl ⟨rfl, ?_⟩
  exact (((((((Below.refl _ _).alloc (Nat.le_refl _) _).trans (hb.mono (by simp))).setCell (p := ⟨_, 0, none⟩) (Nat.le_refl _) _).setCell (p := ⟨_, 1, none⟩) (Nat.le_refl _) _).setCell (p := ⟨_, 2, none⟩) (Nat.le_refl _) _).setCell (p := ⟨_, 3, none⟩) (Nat.le_refl _) _)

set_option maxHeartbeats 400000 in
theorem at_no (s : ByteArray) (i : Int) (hi : i < 0 ∨ (s.size : Int) ≤ i) (w : World) :
    Calls Try.prog 40 #[.string s, .int .i64 i] w fun e w' => e = .returned (.tuple #[.agg #[.int .i64 0, .int .i64 0, .int .i32 0, .bool false], .int .i64 5]) ∧ Below w.heap.size w w' := by
  rcases hi with hi | hi
  · go_enter Try.func40, Try.ntmps40
    go_wp2
    refine bodyPost_ret (v := .tuple #[.agg #[.int .i64 0, .int .i64 0, .int .i32 0, .bool false], .int .i64 5]) (by simp [results, Try.f40, go_sem]) rfl ⟨rfl, ?_⟩
    exact (Below.refl _ _).alloc (Nat.le_refl _) _
  · have h0 : ¬ i < 0 := by omega
    go_enter Try.func40, Try.ntmps40
    go_wp2
    refine bodyPost_ret (v := .tuple #[.agg #[.int .i64 0, .int .i64 0, .int .i32 0, .bool false], .int .i64 5]) (by simp [results, Try.f40, go_sem]) rfl ⟨rfl, ?_⟩
    exact (Below.refl _ _).alloc (Nat.le_refl _) _

end Go.Proofs.Ytepbplmggladfaa.SQ

/- What the document's At answers: the piece that begins at a place. -/
namespace Go.Proofs.Ytepbplmggladfaa.SQ
set_option linter.unusedVariables false
set_option linter.unusedSimpArgs false
open Go Go.RowKit
set_option maxRecDepth 100000

theorem infoP : (Try.prog.info? 79).map (fun i => (i.zero, i.size, i.bytes)) = some (some (.agg #[.int .i64 0, .int .i64 0, .int .i32 0, .bool false]), 4, 24) := by kernel_rfl

end Go.Proofs.Ytepbplmggladfaa.SQ

/- What the document's Pieces answers: the list of a text's pieces. -/
namespace Go.Proofs.Ytepbplmggladfaa.SQ
set_option linter.unusedVariables false
set_option linter.unusedSimpArgs false
open Go Go.RowKit
set_option maxRecDepth 100000

/-- The cells of a list of pieces. -/
def pcs (s : ByteArray) (l : List Nat) : List Value := l.flatMap fun (i : Nat) => [.int .i64 i, .int .i64 (wd s i : Nat), .int .i32 (rn s i : Nat), .bool (bk s i)]
theorem pcs_snoc (s : ByteArray) (l : List Nat) (i : Nat) : pcs s (l ++ [i]) = pcs s l ++ [.int .i64 i, .int .i64 (wd s i : Nat), .int .i32 (rn s i : Nat), .bool (bk s i)] := by simp [pcs]
theorem pcs_len (s : ByteArray) (l : List Nat) : (pcs s l).length = l.length * 4 := by
  induction l with
  | nil => rfl
  | cons x l ih => simp only [pcs, List.flatMap_cons, List.length_append, List.length_cons, List.length_nil] at ih ⊢; omega

theorem own_below {w w1 : World} {base : Nat} {e : TypeId} {size n : Nat} {v : Value} {xs : List Value} (h : w.ownsRow base e size v n xs) (hb : Below w.heap.size w w1) : w1.ownsRow base e size v n xs :=
  h.kept (grown_none hb) (by cases v.ownBlock <;> simp)

theorem own_other {w w1 : World} {base : Nat} {e : TypeId} {size n : Nat} {v : Value} {xs : List Value} (h : w.ownsRow base e size v n xs) {k : Nat} (hk : w.heap.size ≤ k) (hw : w.heap.size ≤ w1.heap.size) : some k ≠ v.ownBlock := by
  intro e1
  have := h.lt k e1.symm
  omega

/-- Between two rounds of the document's Pieces. -/
def PsRel (s : ByteArray) (w : World) (l v : Value) (wr : World) : Prop :=
  ∃ (pre : List Nat) (pos : Nat), v = .int .i64 pos ∧ posns s = pre ++ posG s pos ∧ wr.ownsRow w.heap.size 79 4 l pre.length (pcs s pre) ∧ Below w.heap.size w wr

def PsPost (s : ByteArray) (w : World) (e : Ending) (w' : World) : Prop :=
  ∃ v, e = .returned v ∧ w'.ownsRow w.heap.size 79 4 v (posns s).length (pcs s (posns s)) ∧ Below w.heap.size w w'

end Go.Proofs.Ytepbplmggladfaa.SQ

/- Two texts, piece by piece. -/
namespace Go.Proofs.Ytepbplmggladfaa.SQ
set_option linter.unusedVariables false
set_option linter.unusedSimpArgs false
open Go Go.RowKit
set_option maxRecDepth 100000

/-- A piece's place in the order of pieces. -/
def wt (s : ByteArray) (i : Nat) : Nat := if bk s i = true then 16777216 + bt s i else rn s i
theorem wt_bk {s : ByteArray} {i : Nat} (h : bk s i = true) : wt s i = 16777216 + bt s i := by unfold wt; rw [if_pos h]
theorem wt_wh {s : ByteArray} {i : Nat} (h : bk s i = false) : wt s i = rn s i := by unfold wt; rw [if_neg (by rw [h]; simp)]
theorem wt_lt (s : ByteArray) (i : Nat) (hi : i < s.size) : wt s i < 33554432 := by
  cases h : bk s i with
  | true => rw [wt_bk h]; have := bt_lt s i; omega
  | false => rw [wt_wh h]; have := rn_lt s i hi; omega

theorem one_byte (s : ByteArray) (i : Nat) (hi : i < s.size) : s.extract i (i + 1) = strOfNums [(bt s i : Int)] := ext_nums s 1 i (by omega)

theorem form_same (a b : ByteArray) (p : Nat) (ha : p < a.size) (hb : p < b.size) (hw : wd a p = wd b p) (he : a.extract p (p + wd a p) = b.extract p (p + wd a p)) (hk : bk a p = false) : bk b p = false ∧ rn a p = rn b p := by
  have h0 := (bk_not a p).1 hk
  obtain ⟨e1, e2, e3⟩ := enc_of_form a p ha h0
  have hwd : wd a p = lenN a p := by unfold wd; rw [if_neg h0]
  have h4 := lenN_le a p
  obtain ⟨_, f2, f3⟩ := form_of_enc b p (lenN a p) (rn a p) (by omega) h4 (by have := wd_fits b p hb; omega) e1 e2 (by rw [e3, ← hwd, he])
  exact ⟨(bk_not b p).2 (by omega), by omega⟩

/-- Two pieces at one place are the same just if their places in the order are. -/
theorem same_iff (a b : ByteArray) (p : Nat) (ha : p < a.size) (hb : p < b.size) : (wd a p = wd b p ∧ a.extract p (p + wd a p) = b.extract p (p + wd a p)) ↔ wt a p = wt b p := by
  constructor
  · rintro ⟨hw, he⟩
    cases hka : bk a p with
    | false =>
      obtain ⟨h1, h2⟩ := form_same a b p ha hb hw he hka
      rw [wt_wh hka, wt_wh h1, h2]
    | true =>
      cases hkb : bk b p with
      | false =>
        obtain ⟨h1, h2⟩ := form_same b a p hb ha hw.symm (by rw [← hw]; exact he.symm) hkb
        rw [hka] at h1; cases h1
      | true =>
        have h1 := (bk_rn a p hka).2
        rw [h1, one_byte a p ha, one_byte b p hb] at he
        have := str_inj _ _ (by intro x hx; simp at hx; have := bt_lt a p; omega) (by intro x hx; simp at hx; have := bt_lt b p; omega) he
        simp at this
        rw [wt_bk hka, wt_bk hkb]; omega
  · intro h
    cases hka : bk a p with
    | false =>
      cases hkb : bk b p with
      | false =>
        rw [wt_wh hka, wt_wh hkb] at h
        have w1 := wid_rn a p ha hka
        have w2 := wid_rn b p hb hkb
        rw [h] at w1
        have hw : wd a p = wd b p := by omega
        have n1 := (bk_not a p).1 hka
        have n2 := (bk_not b p).1 hkb
        have d1 : wd a p = lenN a p := by unfold wd; rw [if_neg n1]
        have d2 : wd b p = lenN b p := by unfold wd; rw [if_neg n2]
        have e1 := (enc_of_form a p ha n1).2.2
        have e2 := (enc_of_form b p hb n2).2.2
        refine ⟨hw, ?_⟩
        rw [← d1, h] at e1
        rw [← d2, ← hw] at e2
        exact e1.symm.trans e2
      | true =>
        rw [wt_wh hka, wt_bk hkb] at h
        have := rn_lt a p ha; omega
    | true =>
      cases hkb : bk b p with
      | false =>
        rw [wt_bk hka, wt_wh hkb] at h
        have := rn_lt b p hb; omega
      | true =>
        rw [wt_bk hka, wt_bk hkb] at h
        have h1 := (bk_rn a p hka).2
        have h2 := (bk_rn b p hkb).2
        refine ⟨by omega, ?_⟩
        rw [h1, one_byte a p ha, one_byte b p hb, show bt a p = bt b p by omega]

/-- The first n pieces of both are the same; p is where they end. -/
def Lk (a b : ByteArray) (p n : Nat) : Prop := p ≤ a.size ∧ p ≤ b.size ∧ ∃ pre : List Nat, pre.length = n ∧ posns a = pre ++ posG a p ∧ posns b = pre ++ posG b p ∧ ∀ i ∈ pre, i < a.size ∧ i < b.size ∧ wt a i = wt b i
/-- And no more. -/
def St (a b : ByteArray) (p : Nat) : Prop := ¬ (p < a.size ∧ p < b.size ∧ wt a p = wt b p)

theorem lk_0 (a b : ByteArray) : Lk a b 0 0 := ⟨Nat.zero_le _, Nat.zero_le _, [], rfl, rfl, rfl, fun i hi => by cases hi⟩
theorem lk_next {a b : ByteArray} {p n : Nat} (h : Lk a b p n) (ha : p < a.size) (hb : p < b.size) (hw : wt a p = wt b p) : Lk a b (p + wd a p) (n + 1) := by
  obtain ⟨_, _, pre, h1, h2, h3, h4⟩ := h
  have hs := ((same_iff a b p ha hb).2 hw).1
  refine ⟨wd_fits a p ha, by rw [hs]; exact wd_fits b p hb, pre ++ [p], by simp [h1], ?_, ?_, fun i hi => ?_⟩
  · rw [h2, posG_cons a p ha]; simp
  · rw [h3, posG_cons b p hb, hs]; simp
  · rcases List.mem_append.1 hi with h | h
    · exact h4 i h
    · rw [List.mem_singleton.1 h]; exact ⟨ha, hb, hw⟩

theorem posG_nil_iff (s : ByteArray) (p : Nat) : posG s p = [] ↔ s.size ≤ p := by
  constructor
  · intro h
    rcases Nat.lt_or_ge p s.size with h' | h'
    · rw [posG_cons s p h'] at h; cases h
    · exact h'
  · exact posG_end s p

theorem lk_lenA {a b : ByteArray} {p n : Nat} (h : Lk a b p n) : n ≤ (posns a).length ∧ (n = (posns a).length ↔ p = a.size) ∧ (p < a.size → (posns a)[n]? = some p) := by
  obtain ⟨hp, _, pre, h1, h2, _, _⟩ := h
  rw [h2, List.length_append, h1]
  refine ⟨by omega, ⟨fun h => ?_, fun h => ?_⟩, fun h => ?_⟩
  · have := (posG_nil_iff a p).1 (List.eq_nil_of_length_eq_zero (by omega)); omega
  · rw [(posG_nil_iff a p).2 (by omega)]; rfl
  · rw [List.getElem?_append_right (by omega), h1, Nat.sub_self, posG_cons a p h]; rfl
theorem lk_lenB {a b : ByteArray} {p n : Nat} (h : Lk a b p n) : n ≤ (posns b).length ∧ (n = (posns b).length ↔ p = b.size) ∧ (p < b.size → (posns b)[n]? = some p) := by
  obtain ⟨_, hp, pre, h1, _, h2, _⟩ := h
  rw [h2, List.length_append, h1]
  refine ⟨by omega, ⟨fun h => ?_, fun h => ?_⟩, fun h => ?_⟩
  · have := (posG_nil_iff b p).1 (List.eq_nil_of_length_eq_zero (by omega)); omega
  · rw [(posG_nil_iff b p).2 (by omega)]; rfl
  · rw [List.getElem?_append_right (by omega), h1, Nat.sub_self, posG_cons b p h]; rfl

theorem lk_le {a b : ByteArray} {p n q m : Nat} (h : Lk a b p n) (hs : St a b p) (k : Lk a b q m) : m ≤ n := by
  rcases Nat.lt_or_ge n m with hlt | hge
  · exfalso
    obtain ⟨hpa, hpb, pre, h1, h2, h3, h4⟩ := h
    obtain ⟨_, _, qre, k1, k2, k3, k4⟩ := k
    have e1 : (posns a)[n]? = qre[n]? := by rw [k2, List.getElem?_append_left (by omega)]
    have e2 : (posns b)[n]? = qre[n]? := by rw [k3, List.getElem?_append_left (by omega)]
    obtain ⟨x, hx⟩ : ∃ x, qre[n]? = some x := ⟨_, List.getElem?_eq_getElem (by omega)⟩
    rw [h2, List.getElem?_append_right (by omega), h1, Nat.sub_self, hx] at e1
    have hp : p < a.size := by
      rcases Nat.lt_or_ge p a.size with h | h
      · exact h
      · rw [posG_end a p h] at e1; cases e1
    rw [posG_cons a p hp] at e1
    have hpx : p = x := Option.some.inj e1
    have := k4 x (List.mem_of_getElem? hx)
    rw [← hpx] at this
    exact hs this
  · exact hge

theorem lk_one {a b : ByteArray} {p n q m : Nat} (h : Lk a b p n) (hs : St a b p) (k : Lk a b q m) (ks : St a b q) : p = q ∧ n = m := by
  have hn : n = m := Nat.le_antisymm (lk_le k ks h) (lk_le h hs k)
  subst hn
  refine ⟨?_, rfl⟩
  have h1 := lk_lenA h
  have k1 := lk_lenA k
  by_cases hp : p < a.size
  · have := h1.2.2 hp
    by_cases hq : q < a.size
    · rw [k1.2.2 hq] at this; exact (Option.some.inj this).symm
    · have := h1.2.1.1 (k1.2.1.2 (by have := k.1; omega)); omega
  · have hpe : p = a.size := by have := h.1; omega
    have := k1.2.1.1 (h1.2.1.2 hpe); omega

/-- The order of two texts that are the same up to p. -/
def cmpZ (a b : ByteArray) (p : Nat) : Int := if p = a.size ∧ p = b.size then 0 else if p = a.size ∨ (p < b.size ∧ wt a p < wt b p) then -1 else 1
end Go.Proofs.Ytepbplmggladfaa.SQ

/- What alike, Common and Compare answer. -/
namespace Go.Proofs.Ytepbplmggladfaa.SQ
set_option linter.unusedVariables false
set_option linter.unusedSimpArgs false
open Go Go.RowKit
set_option maxRecDepth 100000

theorem field_piece1 (x0 x1 x2 : Int) (x3 : Bool) (w : World) : (Instr.field 79 (.agg #[.int .i64 x0, .int .i64 x1, .int .i32 x2, .bool x3]) 1).run Try.prog w = .ok (.int .i64 x1) w := by kernel_rfl

def AkPost (a b : ByteArray) (w : World) (e : Ending) (w' : World) : Prop :=
  ∃ p n : Nat, Lk a b p n ∧ St a b p ∧ e = .returned (.tuple #[.int .i64 p, .int .i64 n]) ∧ Below w.heap.size w w'
def AkRel (a b : ByteArray) (w : World) (v1 v2 : Value) (wr : World) : Prop :=
  ∃ p n : Nat, v1 = .int .i64 p ∧ v2 = .int .i64 n ∧ Lk a b p n ∧ Below w.heap.size w wr

set_option maxHeartbeats 4000000 in
theorem alike_any (a b : ByteArray) (ha : a.size ≤ 1048576) (hb : b.size ≤ 1048576) (w : World) :
    Calls Try.prog 44 #[.string a, .string b] w (AkPost a b w) := by
  have hfd := field_piece1
  go_enter Try.func44, Try.ntmps44
  go_wp2
  go_loopw [4, 5] (fun v1 v2 wr => AkRel a b w v1 v2 wr) (fun v1 _ _ => a.size - (intOf v1).toNat)
  case atStart => exact ⟨0, 0, rfl, rfl, lk_0 a b, Below.refl _ _⟩
  case round =>
    obtain ⟨p, n, rfl, rfl, hlk, hB⟩ := hrel
    have hn1 := (lk_lenA hlk).1
    have hn2 := posns_len a
    have HL := Lib.hid hlk
    have hpA := hlk.1
    have hpB := hlk.2.1
    clear hlk
    by_cases hpa : p < a.size
    · by_cases hpb : p < b.size
      · have cA := read_pcL a p hpa (by omega)
        have cB := read_pcL b p hpb (by omega)
        have hwA := wd_fits a p hpa
        have hwB := wd_fits b p hpb
        have hsame := same_iff a b p hpa hpb
        have hd1 := wd_pos a p
        have hd4 := wd_le a p
        have hnx := fun h => lk_next HL.out hpa hpb h
        obtain ⟨d, hd⟩ : ∃ d, wd a p = d := ⟨_, rfl⟩
        obtain ⟨d2, hd2⟩ : ∃ d, wd b p = d := ⟨_, rfl⟩
        rw [hd] at cA hwA hd1 hd4 hsame hnx
        rw [hd2] at cB hwB hsame
        clear hd
        by_cases hw : d = d2
        · subst hw
          clear hd2
          have f1 : IntKind.i64.wrap ((p : Int) + d) = (p : Int) + d := IntWalk.i64_in _ (by omega)
          have f2 : (0 : Int) ≤ (p : Int) := by omega
          have f3 : (p : Int) ≤ (p : Int) + d := by omega
          have f4 : (p : Int) + d ≤ (a.size : Int) := by omega
          have f5 : (p : Int) + d ≤ (b.size : Int) := by omega
          have f6 : ((p : Int) + d).toNat = p + d := by omega
          by_cases he : a.extract p (p + d) = b.extract p (p + d)
          · have hwt := hnx (hsame.1 ⟨rfl, he⟩)
            have hbe : ((a.extract p (p + d)).toList == (b.extract p (p + d)).toList) = true := by rw [he]; exact beq_self_eq_true _
            have HX := Lib.hid hwt
            clear hsame hwt he hnx
            go_wp2_with (first | (go_at_call 50; refine (cA _).mono ?_; rintro e w3 ⟨rfl, hb3⟩))
            go_region_held3 (fun w' => True) (trivial) (first | (go_at_call 50; refine (cB _).mono ?_; rintro e w4 ⟨rfl, hb4⟩))
            go_wp2
            go_roundw
            case rel => exact ⟨p + d, n + 1, by go_num, by go_num, HX.out, ((hB.trans (hb3.mono hB.size)).drew.trans (hb4.mono (Nat.le_trans hB.size hb3.size)))⟩
            case measure => simp [intOf]; omega
          · have hbe : ((a.extract p (p + d)).toList == (b.extract p (p + d)).toList) = false := by
              rw [beq_eq_false_iff_ne]; exact fun h => he (by apply ByteArray.ext; apply Array.ext'; simpa [ByteArray.toList_eq] using h)
            have hst : St a b p := fun h => he (hsame.2 h.2.2).2
            have HX := Lib.hid hst
            clear hsame hst he hnx
            go_wp2_with (first | (go_at_call 50; refine (cA _).mono ?_; rintro e w3 ⟨rfl, hb3⟩))
            go_region_held3 (fun w' => True) (trivial) (first | (go_at_call 50; refine (cB _).mono ?_; rintro e w4 ⟨rfl, hb4⟩))
            go_wp2
            refine bodyPost_ret (v := .tuple #[.int .i64 p, .int .i64 n]) (by simp [results, Try.f44, go_sem]) rfl ⟨p, n, HL.out, HX.out, rfl, ((hB.trans (hb3.mono hB.size)).drew.trans (hb4.mono (Nat.le_trans hB.size hb3.size)))⟩
        · have hst : St a b p := fun h => hw (hsame.2 h.2.2).1
          have HX := Lib.hid hst
          clear hsame hst hnx
          have hbn : ((d : Int) != (d2 : Int)) = true := by rw [bne_iff_ne]; omega
          clear hw hd2
          go_wp2_with (first | (go_at_call 50; refine (cA _).mono ?_; rintro e w3 ⟨rfl, hb3⟩))
          refine wp_region_held_drew (S := fun _ => True) (by kernel_rfl) trivial (fun hHeld => ?_)
          refine wpAnyH_take (i := 0) (v := .int .i64 d) rfl (by kernel_rfl) (by kernel_rfl) (by kernel_rfl) (fun _ _ _ h => h) (Or.inl ⟨by rfl, ?hy⟩) (by assumption) ?_
          case hy =>
            intro w hSw
            rfl
          try simp only [Act.put, List.getElem_toArray, List.getElem_cons_zero, List.getElem_cons_succ, List.setIfInBounds_toArray, List.set_cons_zero, List.set_cons_succ]
          refine wpAnyH_take (i := 1) (v := .string b) rfl (by kernel_rfl) (by kernel_rfl) (by kernel_rfl) (fun _ _ _ h => h) (Or.inl ⟨by rfl, ?hy⟩) (by assumption) ?_
          case hy =>
            intro w hSw
            rfl
          try simp only [Act.put, List.getElem_toArray, List.getElem_cons_zero, List.getElem_cons_succ, List.setIfInBounds_toArray, List.set_cons_zero, List.set_cons_succ]
          refine wpAnyH_take (i := 2) (v := .int .i64 p) rfl (by kernel_rfl) (by kernel_rfl) (by kernel_rfl) (fun _ _ _ h => h) (Or.inl ⟨by rfl, ?hy⟩) (by assumption) ?_
          case hy =>
            intro w hSw
            rfl
          try simp only [Act.put, List.getElem_toArray, List.getElem_cons_zero, List.getElem_cons_succ, List.setIfInBounds_toArray, List.set_cons_zero, List.set_cons_succ]
          refine wpAnyH_ready (rs := [3]) (by kernel_rfl) (by simp) ?_
          refine AllReadyH.cons (o := { dst := some 24, op := Op.call { callee := Callee.value (Operand.func 50), args := #[Operand.tmp 22, Operand.tmp 23], argTypes := #[9, 3] }, type := 79, pos := "runes.go:209", after := #[{ on := 1, ground := Ground.data }, { on := 2, ground := Ground.data }], guard := none }) rfl (fun K hK => ?_) AllReadyH.nil
          rw [if_pos (by rfl)]
          go_wp2_with (go_at_call 50; refine (cB _).mono ?_; rintro e w4 ⟨rfl, hb4⟩)
          refine hK.out _ _ trivial (fun hHeld => ?_)
          clear hK K
          try simp only [Act.put, List.getElem_toArray, List.getElem_cons_zero, List.getElem_cons_succ, List.setIfInBounds_toArray, List.set_cons_zero, List.set_cons_succ]
          refine wpAnyH_take (i := 4) (v := .int .i64 d2) rfl (by kernel_rfl) (by kernel_rfl) (by kernel_rfl) (fun _ _ _ h => h) (Or.inl ⟨by rfl, ?hy⟩) (by assumption) ?_
          case hy =>
            intro w hSw
            go_simp
          try simp only [Act.put, List.getElem_toArray, List.getElem_cons_zero, List.getElem_cons_succ, List.setIfInBounds_toArray, List.set_cons_zero, List.set_cons_succ]
          refine wpAnyH_take (i := 5) (v := .bool true) rfl (by kernel_rfl) (by kernel_rfl) (by kernel_rfl) (fun _ _ _ h => h) (Or.inl ⟨by rfl, ?hy⟩) (by assumption) ?_
          case hy =>
            intro w hSw
            go_simp
          try simp only [Act.put, List.getElem_toArray, List.getElem_cons_zero, List.getElem_cons_succ, List.setIfInBounds_toArray, List.set_cons_zero, List.set_cons_succ]
          refine wpAnyH_take (i := 6) (v := .bool true) rfl (by kernel_rfl) (by kernel_rfl) (by kernel_rfl) (fun _ _ _ h => h) (Or.inl ⟨by rfl, ?hy⟩) (by assumption) ?_
          case hy =>
            intro w hSw
            rfl
          try simp only [Act.put, List.getElem_toArray, List.getElem_cons_zero, List.getElem_cons_succ, List.setIfInBounds_toArray, List.set_cons_zero, List.set_cons_succ]
          refine wpAnyH_take (i := 7) (v := undef) rfl (by kernel_rfl) (by kernel_rfl) (by kernel_rfl) (fun _ _ _ h => h) (Or.inr ⟨by rfl, rfl⟩) (by assumption) ?_
          try simp only [Act.put, List.getElem_toArray, List.getElem_cons_zero, List.getElem_cons_succ, List.setIfInBounds_toArray, List.set_cons_zero, List.set_cons_succ]
          refine wpAnyH_take (i := 8) (v := undef) rfl (by kernel_rfl) (by kernel_rfl) (by kernel_rfl) (fun _ _ _ h => h) (Or.inr ⟨by rfl, rfl⟩) (by assumption) ?_
          try simp only [Act.put, List.getElem_toArray, List.getElem_cons_zero, List.getElem_cons_succ, List.setIfInBounds_toArray, List.set_cons_zero, List.set_cons_succ]
          refine wpAnyH_take (i := 9) (v := undef) rfl (by kernel_rfl) (by kernel_rfl) (by kernel_rfl) (fun _ _ _ h => h) (Or.inr ⟨by rfl, rfl⟩) (by assumption) ?_
          try simp only [Act.put, List.getElem_toArray, List.getElem_cons_zero, List.getElem_cons_succ, List.setIfInBounds_toArray, List.set_cons_zero, List.set_cons_succ]
          refine wpAnyH_take (i := 10) (v := undef) rfl (by kernel_rfl) (by kernel_rfl) (by kernel_rfl) (fun _ _ _ h => h) (Or.inr ⟨by rfl, rfl⟩) (by assumption) ?_
          try simp only [Act.put, List.getElem_toArray, List.getElem_cons_zero, List.getElem_cons_succ, List.setIfInBounds_toArray, List.set_cons_zero, List.set_cons_succ]
          refine wpAnyH_take (i := 11) (v := undef) rfl (by kernel_rfl) (by kernel_rfl) (by kernel_rfl) (fun _ _ _ h => h) (Or.inr ⟨by rfl, rfl⟩) (by assumption) ?_
          try simp only [Act.put, List.getElem_toArray, List.getElem_cons_zero, List.getElem_cons_succ, List.setIfInBounds_toArray, List.set_cons_zero, List.set_cons_succ]
          refine wpAnyH_take (i := 12) (v := undef) rfl (by kernel_rfl) (by kernel_rfl) (by kernel_rfl) (fun _ _ _ h => h) (Or.inr ⟨by rfl, rfl⟩) (by assumption) ?_
          try simp only [Act.put, List.getElem_toArray, List.getElem_cons_zero, List.getElem_cons_succ, List.setIfInBounds_toArray, List.set_cons_zero, List.set_cons_succ]
          refine wpAnyH_take (i := 13) (v := undef) rfl (by kernel_rfl) (by kernel_rfl) (by kernel_rfl) (fun _ _ _ h => h) (Or.inr ⟨by rfl, rfl⟩) (by assumption) ?_
          try simp only [Act.put, List.getElem_toArray, List.getElem_cons_zero, List.getElem_cons_succ, List.setIfInBounds_toArray, List.set_cons_zero, List.set_cons_succ]
          refine wpAnyH_take (i := 14) (v := undef) rfl (by kernel_rfl) (by kernel_rfl) (by kernel_rfl) (fun _ _ _ h => h) (Or.inr ⟨by rfl, rfl⟩) (by assumption) ?_
          try simp only [Act.put, List.getElem_toArray, List.getElem_cons_zero, List.getElem_cons_succ, List.setIfInBounds_toArray, List.set_cons_zero, List.set_cons_succ]
          refine wpAnyH_take (i := 15) (v := undef) rfl (by kernel_rfl) (by kernel_rfl) (by kernel_rfl) (fun _ _ _ h => h) (Or.inr ⟨by rfl, rfl⟩) (by assumption) ?_
          try simp only [Act.put, List.getElem_toArray, List.getElem_cons_zero, List.getElem_cons_succ, List.setIfInBounds_toArray, List.set_cons_zero, List.set_cons_succ]
          refine wpAnyH_take (i := 16) (v := undef) rfl (by kernel_rfl) (by kernel_rfl) (by kernel_rfl) (fun _ _ _ h => h) (Or.inr ⟨by rfl, rfl⟩) (by assumption) ?_
          try simp only [Act.put, List.getElem_toArray, List.getElem_cons_zero, List.getElem_cons_succ, List.setIfInBounds_toArray, List.set_cons_zero, List.set_cons_succ]
          refine wpAnyH_take (i := 17) (v := undef) rfl (by kernel_rfl) (by kernel_rfl) (by kernel_rfl) (fun _ _ _ h => h) (Or.inr ⟨by rfl, rfl⟩) (by assumption) ?_
          try simp only [Act.put, List.getElem_toArray, List.getElem_cons_zero, List.getElem_cons_succ, List.setIfInBounds_toArray, List.set_cons_zero, List.set_cons_succ]
          refine wpAnyH_take (i := 18) (v := undef) rfl (by kernel_rfl) (by kernel_rfl) (by kernel_rfl) (fun _ _ _ h => h) (Or.inr ⟨by rfl, rfl⟩) (by assumption) ?_
          try simp only [Act.put, List.getElem_toArray, List.getElem_cons_zero, List.getElem_cons_succ, List.setIfInBounds_toArray, List.set_cons_zero, List.set_cons_succ]
          refine wpAnyH_take (i := 19) (v := undef) rfl (by kernel_rfl) (by kernel_rfl) (by kernel_rfl) (fun _ _ _ h => h) (Or.inr ⟨by rfl, rfl⟩) (by assumption) ?_
          try simp only [Act.put, List.getElem_toArray, List.getElem_cons_zero, List.getElem_cons_succ, List.setIfInBounds_toArray, List.set_cons_zero, List.set_cons_succ]
          refine wpAnyH_take (i := 20) (v := .bool true) rfl (by kernel_rfl) (by kernel_rfl) (by kernel_rfl) (fun _ _ _ h => h) (Or.inl ⟨by rfl, ?hy⟩) (by assumption) ?_
          case hy =>
            intro w hSw
            go_simp
          try simp only [Act.put, List.getElem_toArray, List.getElem_cons_zero, List.getElem_cons_succ, List.setIfInBounds_toArray, List.set_cons_zero, List.set_cons_succ]
          refine wpAnyH_done (by kernel_rfl) ?_ _
          go_wp2
          refine bodyPost_ret (v := .tuple #[.int .i64 p, .int .i64 n]) (by simp [results, Try.f44, go_sem]) rfl ⟨p, n, HL.out, HX.out, rfl, ((hB.trans (hb3.mono hB.size)).drew.trans (hb4.mono (Nat.le_trans hB.size hb3.size)))⟩
      · go_wp2
        refine bodyPost_ret (v := .tuple #[.int .i64 p, .int .i64 n]) (by simp [results, Try.f44, go_sem]) rfl ⟨p, n, HL.out, fun h => hpb h.2.1, rfl, hB⟩
    · go_wp2
      refine bodyPost_ret (v := .tuple #[.int .i64 p, .int .i64 n]) (by simp [results, Try.f44, go_sem]) rfl ⟨p, n, HL.out, fun h => hpa h.1, rfl, hB⟩

set_option maxHeartbeats 400000 in
theorem Common_any (a b : ByteArray) (ha : a.size ≤ 1048576) (hb : b.size ≤ 1048576) (w : World) :
    Calls Try.prog 26 #[.string a, .string b] w fun e w' => ∃ p n : Nat, Lk a b p n ∧ St a b p ∧ e = .returned (.int .i64 n) ∧ Below w.heap.size w w' := by
  have cA := alike_any a b ha hb
  go_enter Try.func26, Try.ntmps26
  go_wp2_with (first | (go_at_call 44; refine (cA _).mono ?_; rintro e w3 ⟨p, n, h1, h2, rfl, hb3⟩))
  go_ret
  exact ⟨p, n, h1, h2, rfl, hb3⟩
end Go.Proofs.Ytepbplmggladfaa.SQ

/- What runes.before and runes.Before answer: the last piece of what stands ahead of a place. -/
namespace Go.Proofs.Ytepbplmggladfaa.SQ
set_option linter.unusedVariables false
set_option linter.unusedSimpArgs false
open Go Go.RowKit
set_option maxRecDepth 100000

/-- Where a text's last piece begins. -/
def lp (t : ByteArray) : Nat := (posns t).getLast?.getD 0
theorem lp_eq (t : ByteArray) (pre : List Nat) (p : Nat) (h : posns t = pre ++ [p]) : lp t = p := by simp [lp, h]

/-- A piece, as a value. -/
def pcV (s : ByteArray) (i : Nat) : Value := .agg (pcC s i)

theorem pc_form (s : ByteArray) (n q k : Nat) (hn : n ≤ s.size) (hq : q + k = n) (hk : 1 ≤ k) (h : lenN (s.extract 0 n) q = k) : pcV s q = pcV (s.extract 0 n) (lp (s.extract 0 n)) := by
  have hz := size_head s n hn
  obtain ⟨pre, p, hp, he⟩ := posns_last (s.extract 0 n) (by omega)
  have := last_form (s.extract 0 n) k hk (by omega) (by rw [hz, show n - k = q by omega]; exact h) pre p hp he
  rw [hz, show n - k = q by omega] at this
  rw [lp_eq _ pre p hp, this]
  have hf := head_form s n q hn (by omega) (by omega)
  simp only [pcV, pcC, wd, rn, bk, hf.1]
  rw [h]
  have hr := hf.2
  unfold rn at hr
  rw [hf.1, h, if_neg (by omega), if_neg (by omega)] at hr
  rw [if_neg (by omega), if_neg (by omega), if_neg (by omega), hr]

theorem pc_broken (s : ByteArray) (n : Nat) (hn : n ≤ s.size) (h1 : 1 ≤ n) (h : ∀ m, 1 ≤ m → m ≤ 4 → m ≤ n → lenN (s.extract 0 n) (n - m) ≠ m) :
    Value.agg #[.int .i64 ((n : Int) - 1), .int .i64 1, .int .i32 65533, .bool true] = pcV (s.extract 0 n) (lp (s.extract 0 n)) := by
  have hz := size_head s n hn
  obtain ⟨pre, p, hp, he⟩ := posns_last (s.extract 0 n) (by omega)
  have := last_broken (s.extract 0 n) (by omega) (by rw [hz]; exact h) pre p hp he
  rw [hz] at this
  have hk := (bk_iff _ _).2 this.2
  have h2 := bk_rn _ _ hk
  rw [lp_eq _ pre p hp]
  simp only [pcV, pcC, hk, h2.1, h2.2]
  rw [show ((n : Int) - 1) = (p : Int) by omega]
  rfl

/-- No form of fewer than n bytes ends at i. -/
def noEnd (s : ByteArray) (i n : Nat) : Prop := ∀ m, 1 ≤ m → m < n → m ≤ i → lenN (s.extract 0 i) (i - m) ≠ m

set_option maxHeartbeats 1000000 in
theorem before_any (s : ByteArray) (i : Nat) (h1 : 1 ≤ i) (hi : i ≤ s.size) (hs : s.size ≤ 281474976710656) (w : World) :
    Calls Try.prog 52 #[.string s, .int .i64 (i : Int)] w fun e w' => e = .returned (pcV (s.extract 0 i) (lp (s.extract 0 i))) ∧ Below w.heap.size w w' := by
  have hz := size_head s i hi
  obtain ⟨A, hA⟩ : ∃ A, pcV (s.extract 0 i) (lp (s.extract 0 i)) = A := ⟨_, rfl⟩
  have HA := Lib.hid hA
  rw [hA]; clear hA
  go_enter Try.func52, Try.ntmps52
  go_wp2
  go_loop [5] (fun v => ∃ n : Nat, v = .int .i64 n ∧ 1 ≤ n ∧ n ≤ 5 ∧ noEnd s i n) (fun v => 5 - (intOf v).toNat)
  case atStart => exact ⟨1, rfl, by omega, by omega, fun m h1 h2 => by omega⟩
  case round =>
    obtain ⟨n, rfl, hn1, hn5, hno⟩ := hrel
    have HO := Lib.hid hno; clear hno
    by_cases hlt : n ≤ 4 ∧ n ≤ i
    · obtain ⟨hn4, hni⟩ := hlt
      obtain ⟨q, hq⟩ : ∃ q, q + n = i := ⟨i - n, by omega⟩
      have hqi : (i : Int) - (n : Int) = (q : Int) := by omega
      obtain ⟨T, hT⟩ : ∃ T, s.extract 0 i = T := ⟨_, rfl⟩
      have hl := length_any T q (by rw [← hT, hz]; omega) (by rw [← hT, hz]; omega)
      have HT := Lib.hid hT
      have HQ := Lib.hid hq; clear hq
      by_cases he : lenN T q = n
      · rw [he] at hl
        have hr := read_pcL s q (by have := HQ.out; omega) (by omega)
        have hfin := pc_form s i q n hi HQ.out hn1 (by rw [hT]; exact he)
        rw [HA.out] at hfin
        have HF := Lib.hid hfin; clear hfin
        have HE := Lib.hid he; clear he
        go_wp2_with (first | (go_at_call 53; refine (hl _).mono ?_; rintro e w' ⟨rfl, rfl⟩) | (go_at_call 50; refine (hr _).mono ?_; rintro e w' ⟨rfl, hb⟩; obtain ⟨hc2, hf2⟩ := bcell hb; have hz2 := hb.size))
        refine bodyPost_ret (v := .agg #[.int .i64 q, .int .i64 (wd s q : Nat), .int .i32 (rn s q : Nat), .bool (bk s q)]) (by simp [results, Try.f52, go_sem, hc2, hz2]) rfl ⟨by rw [← HF.out]; rfl, ?_⟩
        exact (((((((Below.refl _ _).alloc (Nat.le_refl _) _).trans (hb.mono (by simp))).setCell (p := ⟨_, 0, none⟩) (Nat.le_refl _) _).setCell (p := ⟨_, 1, none⟩) (Nat.le_refl _) _).setCell (p := ⟨_, 2, none⟩) (Nat.le_refl _) _).setCell (p := ⟨_, 3, none⟩) (Nat.le_refl _) _)
      · have hneq : ((lenN T q : Int) == (n : Int)) = false := by rw [beq_eq_false_iff_ne]; omega
        have HE := Lib.hid he; clear he
        go_wp2_with (first | (go_at_call 53; refine (hl _).mono ?_; rintro e w' ⟨rfl, rfl⟩))
        go_round
        case rel =>
          refine ⟨n + 1, by go_num, by omega, by omega, fun m hm1 hm2 hmi => ?_⟩
          by_cases e : m = n
          · rw [e, HT.out, show i - n = q by have := HQ.out; omega]; exact HE.out
          · exact HO.out m hm1 (by omega) hmi
        case measure => simp [intOf]; omega
    · have hfin := pc_broken s i hi h1 (fun m hm1 hm4 hmi => HO.out m hm1 (by omega) hmi)
      rw [HA.out] at hfin
      have HF := Lib.hid hfin; clear hfin
      by_cases hn4 : n ≤ 4
      all_goals
        go_wp2_with (first | (go_at_call 54; refine (broken_any _ _).mono ?_; rintro e w' ⟨rfl, hb⟩; obtain ⟨hc2, hf2⟩ := bcell hb; have hz2 := hb.size))
        refine bodyPost_ret (v := .agg #[.int .i64 ((i : Int) - 1), .int .i64 1, .int .i32 65533, .bool true]) (by simp [results, Try.f52, go_sem, hc2, hz2]) rfl ⟨by rw [← HF.out], ?_⟩
        exact (((((((Below.refl _ _).alloc (Nat.le_refl _) _).trans (hb.mono (by simp))).setCell (p := ⟨_, 0, none⟩) (Nat.le_refl _) _).setCell (p := ⟨_, 1, none⟩) (Nat.le_refl _) _).setCell (p := ⟨_, 2, none⟩) (Nat.le_refl _) _).setCell (p := ⟨_, 3, none⟩) (Nat.le_refl _) _)
end Go.Proofs.Ytepbplmggladfaa.SQ

/- The boundaries of a text: what the document's Ends answers. -/
namespace Go.Proofs.Ytepbplmggladfaa.SQ
set_option linter.unusedVariables false
set_option linter.unusedSimpArgs false
open Go Go.RowKit
set_option maxRecDepth 100000

/-- Numbers, as values. -/
def ints (l : List Nat) : List Value := l.map fun (i : Nat) => Value.int .i64 i
theorem ints_snoc (l : List Nat) (i : Nat) : ints (l ++ [i]) = ints l ++ [.int .i64 i] := by simp [ints]

theorem rows_apart {w : World} {b1 b2 : Nat} {e1 e2 : TypeId} {s1 s2 n1 n2 : Nat} {v1 v2 : Value} {x1 x2 : List Value} (h1 : w.ownsRow b1 e1 s1 v1 n1 x1) (h2 : w.ownsRow b2 e2 s2 v2 n2 x2) (he : e1 ≠ e2) : v1.ownBlock = none ∨ v1.ownBlock ≠ v2.ownBlock := by
  rcases h1.2 with ⟨rfl, _⟩ | ⟨g1, c1, cur1, rfl, _, hg1, _⟩
  · exact .inl rfl
  · rcases h2.2 with ⟨rfl, _⟩ | ⟨g2, c2, cur2, rfl, _, hg2, _⟩
    · right; simp [Value.ownBlock]
    · right
      simp only [Value.ownBlock, ne_eq, Option.some.injEq]
      intro e
      rw [e, hg2] at hg1
      cases hg1
      exact he rfl

theorem own_slice {w : World} {b : Nat} {e : TypeId} {sz n : Nat} {v : Value} {xs : List Value} (h : w.ownsRow b e sz v n xs) : ∃ o cap, v = .slice o n cap ∧ (0 < n → ∃ g, o = some ⟨g, 0, none⟩) := by
  rcases h.2 with ⟨rfl, rfl⟩ | ⟨g, cap, cur, rfl, _⟩
  · exact ⟨none, 0, rfl, fun h => by omega⟩
  · exact ⟨_, cap, rfl, fun _ => ⟨g, rfl⟩⟩

theorem cell_one_new2 (W : World) (o : Obj) (x : Value) (t : TypeId) : ∀ j u, [x][j]? = some u → ((W.alloc o).alloc (.cells #[x] t)).cell? ((⟨W.heap.size + 1, 0, none⟩ : Addr).add j) = some u := by
  have := World.alloc_heap_new (W.alloc o) (.cells #[x] t)
  rw [World.size_alloc] at this
  exact World.news_of_block (cs := #[x]) this

theorem infoI : (Try.prog.info? 3).map (fun i => (i.zero, i.size, i.bytes)) = some (some (.int .i64 0), 1, 8) := by kernel_rfl

/-- Piece number k of a list of pieces, where it lies. -/
theorem nth_cells {T : ByteArray} {l : List Nat} {base g cap n : Nat} {w : World} (h : w.ownsRow base 79 4 (.slice (some ⟨g, 0, none⟩) n cap) n (pcs T l)) (hn : l.length = n) (k : Nat) (hk : k < n) (p : Nat) (hp : l[k]? = some p) :
    w.cell? ⟨g, k * 4, none⟩ = some (.int .i64 p) ∧ w.cell? ⟨g, k * 4 + 1, none⟩ = some (.int .i64 (wd T p : Nat)) ∧
      w.cell? ⟨g, k * 4 + 2, none⟩ = some (.int .i32 (rn T p : Nat)) ∧ w.cell? ⟨g, k * 4 + 3, none⟩ = some (.bool (bk T p)) := by
  have hc := fun j (hj : j < n * 4) => h.cellAt j hj
  have hs : l = l.take k ++ p :: l.drop (k + 1) := by
    have h1 : k < l.length := by omega
    rw [List.getElem?_eq_getElem h1] at hp
    rw [← Option.some.inj hp, List.getElem_cons_drop, List.take_append_drop]
  have hpcs : pcs T l = pcs T (l.take k) ++ ([.int .i64 p, .int .i64 (wd T p : Nat), .int .i32 (rn T p : Nat), .bool (bk T p)] ++ pcs T (l.drop (k + 1))) := by
    conv => lhs; rw [hs]
    simp [pcs]
  have hl : (pcs T (l.take k)).length = k * 4 := by rw [pcs_len, List.length_take]; omega
  refine ⟨?_, ?_, ?_, ?_⟩
  · rw [hc _ (by omega), hpcs, List.getElem?_append_right (by omega), show k * 4 - (pcs T (l.take k)).length = 0 by omega]; rfl
  · rw [hc _ (by omega), hpcs, List.getElem?_append_right (by omega), show k * 4 + 1 - (pcs T (l.take k)).length = 1 by omega]; rfl
  · rw [hc _ (by omega), hpcs, List.getElem?_append_right (by omega), show k * 4 + 2 - (pcs T (l.take k)).length = 2 by omega]; rfl
  · rw [hc _ (by omega), hpcs, List.getElem?_append_right (by omega), show k * 4 + 3 - (pcs T (l.take k)).length = 3 by omega]; rfl

/-- Number k of a list of numbers, where it lies. -/
theorem nth_int {l : List Nat} {e : TypeId} {base g cap n : Nat} {w : World} (h : w.ownsRow base e 1 (.slice (some ⟨g, 0, none⟩) n cap) n (ints l)) (hn : l.length = n) (k : Nat) (hk : k < n) (p : Nat) (hp : l[k]? = some p) :
    w.cell? ⟨g, k, none⟩ = some (.int .i64 p) := by
  rw [h.cellAt k (by omega)]
  simp [ints, hp]

def EnPost (s : ByteArray) (w : World) (e : Ending) (w' : World) : Prop :=
  ∃ g cap, e = .returned (.slice (some ⟨g, 0, none⟩) (ends s).length cap) ∧ w'.ownsRow w.heap.size 3 1 (.slice (some ⟨g, 0, none⟩) (ends s).length cap) (ends s).length (ints (ends s)) ∧ Below w.heap.size w w'

def EnRel (s : ByteArray) (w : World) (pv : Value) (v i : Value) (wr : World) : Prop :=
  ∃ k : Nat, i = .int .i64 k ∧ k ≤ (posns s).length ∧ wr.ownsRow w.heap.size 3 1 v k (ints ((posns s).take k)) ∧ wr.ownsRow w.heap.size 79 4 pv (posns s).length (pcs s (posns s)) ∧ Below w.heap.size w wr

end Go.Proofs.Ytepbplmggladfaa.SQ

/- Small facts on a block of cells that the call itself has made. -/
namespace Go.Proofs.Ytepbplmggladfaa.SQ
set_option linter.unusedVariables false
set_option linter.unusedSimpArgs false
open Go Go.RowKit

/-- Block B holds the cells cs of type t, none of them frozen. -/
def Blk (W : World) (B : Nat) (cs : Array Value) (t : TypeId) : Prop := W.heap[B]? = some (.cells cs t (0, 0))

theorem Blk.lt {W : World} {B : Nat} {cs : Array Value} {t : TypeId} (h : Blk W B cs t) : B < W.heap.size := (Array.getElem?_eq_some_iff.1 h).1
theorem Blk.cell {W : World} {B : Nat} {cs : Array Value} {t : TypeId} (h : Blk W B cs t) (o : Nat) : W.cell? ⟨B, o, none⟩ = cs[o]? := by
  simp only [World.cell?, show W.heap[B]? = _ from h]; rfl
theorem Blk.frozen {W : World} {B : Nat} {cs : Array Value} {t : TypeId} (h : Blk W B cs t) (o : Nat) : W.frozen? ⟨B, o, none⟩ = false := by simp [World.frozen?, show W.heap[B]? = _ from h]
theorem Blk.new (W : World) (cs : Array Value) (t : TypeId) : Blk (W.alloc (.cells cs t)) W.heap.size cs t := World.alloc_heap_new W _
theorem Blk.kept {W W' : World} {row : Option Nat} {B : Nat} {cs : Array Value} {t : TypeId} (h : Blk W B cs t) (hg : W.grownBy W' row) (hne : some B ≠ row) : Blk W' B cs t := (hg.block B h.lt hne).trans h
theorem Blk.alloc {W : World} {B : Nat} {cs : Array Value} {t : TypeId} (h : Blk W B cs t) (o : Obj) : Blk (W.alloc o) B cs t := h.kept (World.grownBy_alloc W o none) (by simp)
theorem Blk.below {W W' : World} {B n : Nat} {cs : Array Value} {t : TypeId} (h : Blk W B cs t) (hb : Below n W W') (hn : B < n) : Blk W' B cs t := (hb.block B hn).trans h
theorem Blk.below' {W W' : World} {B : Nat} {cs : Array Value} {t : TypeId} (h : Blk W B cs t) (hb : Below W.heap.size W W') : Blk W' B cs t := h.below hb h.lt
theorem Blk.drew {W : World} {B : Nat} {cs : Array Value} {t : TypeId} (h : Blk W B cs t) : Blk W.drew B cs t := h

theorem Blk.set {W : World} {B : Nat} {cs : Array Value} {t : TypeId} (h : Blk W B cs t) (o : Nat) (v : Value) : Blk (W.setCell ⟨B, o, none⟩ v) B (cs.setIfInBounds o v) t := by
  obtain ⟨hlt, hk⟩ := Array.getElem?_eq_some_iff.1 h
  show (W.heap.modify B _)[B]? = _
  rw [Array.getElem?_eq_getElem (by rw [Array.size_modify]; exact hlt), Array.getElem_modify_self, hk]
  rfl
theorem grownBy_setCell (W : World) (b o : Nat) (v : Value) : W.grownBy (W.setCell ⟨b, o, none⟩ v) (some b) :=
  ⟨rfl, rfl, rfl, (by show W.heap.size ≤ (W.heap.modify _ _).size; rw [Array.size_modify]; exact Nat.le_refl _), fun k _ hk => Below.heap_setCell _ _ _ k (fun e => hk (by rw [e]))⟩
theorem Blk.other {W : World} {B B' : Nat} {cs : Array Value} {t : TypeId} (h : Blk W B cs t) (hne : B ≠ B') (o : Nat) (u : Value) : Blk (W.setCell ⟨B', o, none⟩ u) B cs t := h.kept (grownBy_setCell W B' o u) (fun e => hne (by cases e; rfl))
theorem Blk.not_row {W : World} {B : Nat} {cs : Array Value} {t e : TypeId} (h : Blk W B cs t) (hte : t ≠ e) {base size k : Nat} {v : Value} {xs : List Value} (hr : W.ownsRow base e size v k xs) : some B ≠ v.ownBlock := by
  rcases hr.2 with ⟨rfl, _⟩ | ⟨g, cap, cur, rfl, _, hgb, _⟩
  · simp [Value.ownBlock]
  · intro e'
    obtain rfl : B = g := by simpa [Value.ownBlock] using e'
    have := (show W.heap[B]? = _ from h).symm.trans hgb
    simp at this
    exact hte this.2
/-- A row of another type stands when a cell of B is written. -/
theorem row_other {W : World} {B : Nat} {cs : Array Value} {t e : TypeId} (h : Blk W B cs t) (hte : t ≠ e) {base size k : Nat} {v : Value} {xs : List Value} (hr : W.ownsRow base e size v k xs) (o : Nat) (u : Value) : (W.setCell ⟨B, o, none⟩ u).ownsRow base e size v k xs :=
  hr.kept (grownBy_setCell W B o u) (.inr (fun e1 => h.not_row hte hr e1.symm))
theorem drew_row {W : World} {base : Nat} {e : TypeId} {size k : Nat} {v : Value} {xs : List Value} (hr : W.ownsRow base e size v k xs) : W.drew.ownsRow base e size v k xs := hr
end Go.Proofs.Ytepbplmggladfaa.SQ

/- What Nth and both Cut answer. -/
namespace Go.Proofs.Ytepbplmggladfaa.SQ
set_option linter.unusedVariables false
set_option linter.unusedSimpArgs false
open Go Go.RowKit Go.Shelf
set_option maxRecDepth 100000
attribute [local go_sem] Oper.semAt_some

theorem blk_own {β : Type} (B : Nat) (t : TypeId) (f : β → Array Value) : Own (fun s W => Blk W B (f s) t) := fun s X Y row hs hg hrow =>
  hs.kept hg (fun e' => by
    obtain ⟨o, ho, hc⟩ := hrow B e'.symm
    rw [show X.heap[B]? = _ from hs] at ho; cases ho; cases hc)

def zP : Array Value := #[.int .i64 0, .int .i64 0, .int .i32 0, .bool false]
/-- The last place of a list. -/
def lstN {s : ByteArray} (l : List (Pos s)) : Nat := match l.getLast? with | some x => x.1 | none => 0
theorem lstN_snoc {s : ByteArray} (l : List (Pos s)) (x : Pos s) : lstN (l ++ [x]) = x.1 := by simp [lstN]

def nthR (s : ByteArray) (k : Nat) : Value := match (posns s)[k]? with
  | some p => .tuple #[.agg (pcC s p), .bool true]
  | none => .tuple #[.agg zP, .bool false]
theorem nthR_no {s : ByteArray} {k : Nat} (h : (posns s).length ≤ k) : nthR s k = .tuple #[.agg zP, .bool false] := by
  unfold nthR; rw [List.getElem?_eq_none h]
theorem nthR_yes {s : ByteArray} {k p : Nat} (h : (posns s)[k]? = some p) : nthR s k = .tuple #[.agg (pcC s p), .bool true] := by
  unfold nthR; rw [h]
theorem pre_nth {s : ByteArray} {pre : List (Pos s)} {k : Nat} (h : pre.map (·.1) <+: posns s) (hl : pre.length = k + 1) : (posns s)[k]? = some (lstN pre) := by
  obtain ⟨rest, hr⟩ := h
  have hne : pre ≠ [] := by rintro rfl; cases hl
  obtain ⟨l, x, rfl⟩ : ∃ l x, pre = l ++ [x] := ⟨pre.dropLast, pre.getLast hne, (List.dropLast_concat_getLast hne).symm⟩
  have : l.length = k := by simp at hl; exact hl
  rw [← hr, lstN_snoc, List.map_append, List.map_singleton, List.append_assoc, List.getElem?_append_right (by simp; omega)]
  simp [this]

set_option maxHeartbeats 2000000 in
theorem nth_in (s : ByteArray) (k : Nat) (hs : s.size ≤ 9223372036854775807) (hk : k ≤ 9223372036854775807) (w : World) :
    CallsIn Fence.wide 11 Try.prog 43 #[.string s, .int .i64 (k : Int)] w fun e w' => e = .returned (nthR s k) ∧ Below w.heap.size w w' := by
  refine callsIn_of_wp_marks Try.func43 rfl trivial ?_ rfl
  simp only [Try.ntmps43, List.size_toArray, List.length_cons, List.length_nil, Nat.reduceAdd, Nat.reduceSub, Array.replicate_succ, Array.replicate_zero, List.push_toArray, List.append_toArray, List.nil_append, List.cons_append]
  have hF : ∀ f, Fence.wide.fn f := fun _ => trivial
  have hk0 : ¬ (k : Int) < 0 := by omega
  gi_wp2_with (gi_at_call 51; refine (callsIn_wide.2 (pieces_any _ _)).mono ?_; rintro e w' ⟨rfl, rfl⟩)
  have b0 := (((Boxed.new w 3 (.int .i64 k)).alloc (.cells zP 79)).alloc (.cells #[.bool false] 4)).alloc (.cells #[.string s] 9)
  have b1 := ((Blk.new (w.alloc (.cells #[.int .i64 k] 3)) zP 79).alloc (.cells #[.bool false] 4)).alloc (.cells #[.string s] 9)
  have b2 := (Boxed.new ((w.alloc (.cells #[.int .i64 k] 3)).alloc (.cells zP 79)) 4 (.bool false)).alloc (.cells #[.string s] 9)
  have b3 := Boxed.new (((w.alloc (.cells #[.int .i64 k] 3)).alloc (.cells zP 79)).alloc (.cells #[.bool false] 4)) 9 (.string s)
  simp only [World.size_alloc] at b1 b2 b3
  have hB0 : Below w.heap.size w ((((w.alloc (.cells #[.int .i64 k] 3)).alloc (.cells zP 79)).alloc (.cells #[.bool false] 4)).alloc (.cells #[.string s] 9)) := ((((Below.refl _ w).alloc (Nat.le_refl _) _).alloc (by simp) _).alloc (by simp; omega) _).alloc (by simp; omega) _
  have hsz : ((((w.alloc (.cells #[.int .i64 k] 3)).alloc (.cells zP 79)).alloc (.cells #[.bool false] 4)).alloc (.cells #[.string s] 9)).heap.size = w.heap.size + 4 := by simp
  simp only [zP] at b0 b1 b2 b3 hB0 hsz ⊢
  obtain ⟨W0, hW0⟩ : ∃ W0, ((((w.alloc (.cells #[.int .i64 k] 3)).alloc (.cells #[.int .i64 0, .int .i64 0, .int .i32 0, .bool false] 79)).alloc (.cells #[.bool false] 4)).alloc (.cells #[.string s] 9)) = W0 := ⟨_, rfl⟩
  rw [hW0] at b0 b1 b2 b3 hB0 hsz ⊢
  clear hW0
  refine range_pieces 6 s hs (w.heap.size + 1 + 1 + 1) b3 rfl
    (fun pre W => ((((Boxed W w.heap.size 3 (.int .i64 ((k - pre.length : Nat) : Int)) ∧ Blk W (w.heap.size + 1) #[.int .i64 0, .int .i64 0, .int .i32 0, .bool false] 79) ∧ Boxed W (w.heap.size + 1 + 1) 4 (.bool false)) ∧ Boxed W (w.heap.size + 1 + 1 + 1) 9 (.string s)) ∧ pre.length ≤ k) ∧ Below w.heap.size w W)
    (fun c pre W => ((Blk W (w.heap.size + 1) (pcC s (lstN pre)) 79 ∧ Boxed W (w.heap.size + 1 + 1) 4 (.bool true)) ∧ c = .ret ∧ pre.length = k + 1) ∧ Below w.heap.size w W)
    (OwnFrom.and (OwnFrom.and (OwnFrom.and (OwnFrom.and (OwnFrom.and (Own.from (boxed_own _ _ _) _) (Own.from (blk_own _ _ _) _)) (Own.from (boxed_own _ _ _) _)) (Own.from (boxed_own _ _ _) _)) (fun _ _ _ _ hs _ _ => hs)) (ownFrom_below (Nat.le_refl _) (by omega)))
    (fun c => OwnFrom.and (OwnFrom.and (OwnFrom.and (Own.from (blk_own _ _ _) _) (Own.from (boxed_own _ _ _) _)) (fun _ _ _ _ hs _ _ => hs)) (ownFrom_below (Nat.le_refl _) (by omega))) ⟨⟨⟨⟨⟨b0, b1⟩, b2⟩, b3⟩, Nat.zero_le _⟩, hB0⟩ ?assign ?body ?done ?stop
  case assign =>
    intro l x W K hK
    simp only [pcC] at hK ⊢
    gi_wp2
    exact hK
  case body =>
    rintro l pre x Bx W ⟨⟨⟨⟨⟨h0, h1⟩, h2⟩, h3⟩, hlk⟩, hB⟩ hle hbx hlen
    rw [hsz] at hle
    obtain ⟨d, hd⟩ : ∃ d, k - pre.length = d := ⟨_, rfl⟩
    rw [hd] at h0
    have hc0 := h0.cell
    have hf0 := h0.frozen
    have hc2 := h2.cell
    have hf2 := h2.frozen
    have k0 : W.cell? ⟨w.heap.size + 1, 0, none⟩ = some (.int .i64 0) := h1.cell 0
    have k1 : W.cell? ⟨w.heap.size + 1, 1, none⟩ = some (.int .i64 0) := h1.cell 1
    have k2 : W.cell? ⟨w.heap.size + 1, 2, none⟩ = some (.int .i32 0) := h1.cell 2
    have k3 : W.cell? ⟨w.heap.size + 1, 3, none⟩ = some (.bool false) := h1.cell 3
    have g0 := h1.frozen 0
    have g1 := h1.frozen 1
    have g2 := h1.frozen 2
    have g3 := h1.frozen 3
    obtain ⟨p0, p1, p2, p3⟩ := pcell hbx
    have HD := Lib.hid hd
    simp only [pcC]
    by_cases h : d = 0
    · subst h
      clear hd
      gi_wp2
      have x1 := ((((h1.set 0 (.int .i64 x.1)).set 1 (.int .i64 (wd s x.1 : Nat))).set 2 (.int .i32 (rn s x.1 : Nat))).set 3 (.bool (bk s x.1))).other (B' := w.heap.size + 1 + 1) (by omega) 0 (.bool true)
      have x2 := ((((((show Blk W (w.heap.size + 1 + 1) #[.bool false] 4 from h2).other (B' := w.heap.size + 1) (by omega) 0 (.int .i64 x.1)).other (B' := w.heap.size + 1) (by omega) 1 (.int .i64 (wd s x.1 : Nat))).other (B' := w.heap.size + 1) (by omega) 2 (.int .i32 (rn s x.1 : Nat))).other (B' := w.heap.size + 1) (by omega) 3 (.bool (bk s x.1))).set 0 (.bool true))
      refine ⟨(((((KeepsOthers.setCell _ _ _).trans (KeepsOthers.setCell _ _ _)).trans (KeepsOthers.setCell _ _ _)).trans (KeepsOthers.setCell _ _ _)).trans (KeepsOthers.setCell _ _ _)).from _, ⟨⟨?_, x2⟩, rfl, by simp; have := HD.out; omega⟩, ?_⟩
      · rw [lstN_snoc]; exact x1
      · exact ((((hB.setCell (p := ⟨w.heap.size + 1, 0, none⟩) (by simp) _).setCell (p := ⟨w.heap.size + 1, 1, none⟩) (by simp) _).setCell (p := ⟨w.heap.size + 1, 2, none⟩) (by simp) _).setCell (p := ⟨w.heap.size + 1, 3, none⟩) (by simp) _).setCell (p := ⟨w.heap.size + 1 + 1, 0, none⟩) (by dsimp only; omega) _
    · obtain ⟨d', rfl⟩ : ∃ d', d = d' + 1 := ⟨d - 1, by omega⟩
      have hdb : d' + 1 ≤ 9223372036854775807 := by omega
      clear hd h
      gi_wp2
      have hv : (k - (pre ++ [x]).length : Nat) = d' := by rw [List.length_append]; simp; have := HD.out; omega
      refine ⟨(KeepsOthers.setCell _ _ _).from _, ⟨KeepsWalks.setCell _ _ _, ?_⟩, ⟨⟨⟨⟨?_, h1.other (by omega) 0 _⟩, h2.other (by omega) _⟩, h3.other (by omega) _⟩, by simp; have := HD.out; omega⟩, hB.setCell (p := ⟨w.heap.size, 0, none⟩) (Nat.le_refl _) _⟩
      · rw [Below.heap_setCell _ _ _ _ (by dsimp only; omega)]
      · rw [hv]
        have := h0.set (.int .i64 d')
        exact this
  case done =>
    rintro D xs W hD hxs ⟨⟨⟨⟨⟨h0, h1⟩, h2⟩, h3⟩, hlk⟩, hB⟩ hK
    have hno : nthR s k = .tuple #[.agg #[.int .i64 0, .int .i64 0, .int .i32 0, .bool false], .bool false] := nthR_no (by rw [← hxs, List.length_map]; exact hlk)
    have HN := Lib.hid hno
    clear hno hxs hlk
    have hc2 := h2.cell
    have hf2 := h2.frozen
    have k0 : W.cell? ⟨w.heap.size + 1, 0, none⟩ = some (.int .i64 0) := h1.cell 0
    have k1 : W.cell? ⟨w.heap.size + 1, 1, none⟩ = some (.int .i64 0) := h1.cell 1
    have k2 : W.cell? ⟨w.heap.size + 1, 2, none⟩ = some (.int .i32 0) := h1.cell 2
    have k3 : W.cell? ⟨w.heap.size + 1, 3, none⟩ = some (.bool false) := h1.cell 3
    have g0 := h1.frozen 0
    have g1 := h1.frozen 1
    have g2 := h1.frozen 2
    have g3 := h1.frozen 3
    gi_wp2
    have y1 := ((((h1.set 0 (.int .i64 0)).set 1 (.int .i64 0)).set 2 (.int .i32 0)).set 3 (.bool false)).other (B' := w.heap.size + 1 + 1) (by omega) 0 (.bool false)
    have y2 := ((((((show Blk W (w.heap.size + 1 + 1) #[.bool false] 4 from h2).other (B' := w.heap.size + 1) (by omega) 0 (.int .i64 0)).other (B' := w.heap.size + 1) (by omega) 1 (.int .i64 0)).other (B' := w.heap.size + 1) (by omega) 2 (.int .i32 0)).other (B' := w.heap.size + 1) (by omega) 3 (.bool false)).set 0 (.bool false))
    have hB2 := ((((hB.setCell (p := ⟨w.heap.size + 1, 0, none⟩) (by simp) (.int .i64 0)).setCell (p := ⟨w.heap.size + 1, 1, none⟩) (by simp) (.int .i64 0)).setCell (p := ⟨w.heap.size + 1, 2, none⟩) (by simp) (.int .i32 0)).setCell (p := ⟨w.heap.size + 1, 3, none⟩) (by simp) (.bool false)).setCell (p := ⟨w.heap.size + 1 + 1, 0, none⟩) (by dsimp only; omega) (.bool false)
    have hK2 : (((((W.setCell ⟨w.heap.size + 1, 0, none⟩ (.int .i64 0)).setCell ⟨w.heap.size + 1, 1, none⟩ (.int .i64 0)).setCell ⟨w.heap.size + 1, 2, none⟩ (.int .i32 0)).setCell ⟨w.heap.size + 1, 3, none⟩ (.bool false)).setCell ⟨w.heap.size + 1 + 1, 0, none⟩ (.bool false)).heap[D]? = some (.deferred (some [])) := by
      rw [Below.heap_setCell _ _ _ _ (by dsimp only; omega), Below.heap_setCell _ _ _ _ (by dsimp only; omega), Below.heap_setCell _ _ _ _ (by dsimp only; omega), Below.heap_setCell _ _ _ _ (by dsimp only; omega), Below.heap_setCell _ _ _ _ (by dsimp only; omega)]
      exact hK
    obtain ⟨W2, hW2⟩ : ∃ W2, ((((W.setCell ⟨w.heap.size + 1, 0, none⟩ (.int .i64 0)).setCell ⟨w.heap.size + 1, 1, none⟩ (.int .i64 0)).setCell ⟨w.heap.size + 1, 2, none⟩ (.int .i32 0)).setCell ⟨w.heap.size + 1, 3, none⟩ (.bool false)).setCell ⟨w.heap.size + 1 + 1, 0, none⟩ (.bool false) = W2 := ⟨_, rfl⟩
    rw [hW2] at y1 y2 hB2 hK2 ⊢
    clear hW2
    have e0 : (W2.putObj D (.deferred none)).cell? ⟨w.heap.size + 1, 0, none⟩ = some (.int .i64 0) := (World.cell?_of_block (w := W2) (World.putObj_heap_other (by dsimp only; omega))).trans (y1.cell 0)
    have e1 : (W2.putObj D (.deferred none)).cell? ⟨w.heap.size + 1, 1, none⟩ = some (.int .i64 0) := (World.cell?_of_block (w := W2) (World.putObj_heap_other (by dsimp only; omega))).trans (y1.cell 1)
    have e2 : (W2.putObj D (.deferred none)).cell? ⟨w.heap.size + 1, 2, none⟩ = some (.int .i32 0) := (World.cell?_of_block (w := W2) (World.putObj_heap_other (by dsimp only; omega))).trans (y1.cell 2)
    have e3 : (W2.putObj D (.deferred none)).cell? ⟨w.heap.size + 1, 3, none⟩ = some (.bool false) := (World.cell?_of_block (w := W2) (World.putObj_heap_other (by dsimp only; omega))).trans (y1.cell 3)
    have e4 : (W2.putObj D (.deferred none)).cell? ⟨w.heap.size + 1 + 1, 0, none⟩ = some (.bool false) := (World.cell?_of_block (w := W2) (World.putObj_heap_other (by dsimp only; omega))).trans (y2.cell 0)
    refine ⟨by simp, .inl ⟨_, _, rfl, run_takeDeferred (w := W2) hK2, ?_⟩⟩
    refine ⟨.tuple #[.agg #[.int .i64 0, .int .i64 0, .int .i32 0, .bool false], .bool false], ?_, by rw [HN.out]; try rfl, hB2.trans (belowK_b (w := w) (Nat.le_refl _) W2 D _ _ (by omega) hK2 rfl rfl)⟩
    simp [results, Try.f43, go_sem, e0, e1, e2, e3, e4]
  case stop =>
    rintro D c pre W hD hp ⟨⟨⟨h1, h2⟩, rfl, hl⟩, hB⟩ hK
    have hyes := nthR_yes (pre_nth hp hl)
    obtain ⟨q, hq⟩ : ∃ q, lstN pre = q := ⟨_, rfl⟩
    rw [hq] at hyes h1
    have HN := Lib.hid hyes
    clear hyes hq hp hl
    have hc2 := h2.cell
    gi_wp2
    have y1 := h1
    have y2 := (show Blk W (w.heap.size + 1 + 1) #[.bool true] 4 from h2)
    have hB2 := hB
    have hK2 := hK
    have e0 : (W.putObj D (.deferred none)).cell? ⟨w.heap.size + 1, 0, none⟩ = some (.int .i64 q) := (World.cell?_of_block (w := W) (World.putObj_heap_other (by dsimp only; omega))).trans (y1.cell 0)
    have e1 : (W.putObj D (.deferred none)).cell? ⟨w.heap.size + 1, 1, none⟩ = some (.int .i64 (wd s q : Nat)) := (World.cell?_of_block (w := W) (World.putObj_heap_other (by dsimp only; omega))).trans (y1.cell 1)
    have e2 : (W.putObj D (.deferred none)).cell? ⟨w.heap.size + 1, 2, none⟩ = some (.int .i32 (rn s q : Nat)) := (World.cell?_of_block (w := W) (World.putObj_heap_other (by dsimp only; omega))).trans (y1.cell 2)
    have e3 : (W.putObj D (.deferred none)).cell? ⟨w.heap.size + 1, 3, none⟩ = some (.bool (bk s q)) := (World.cell?_of_block (w := W) (World.putObj_heap_other (by dsimp only; omega))).trans (y1.cell 3)
    have e4 : (W.putObj D (.deferred none)).cell? ⟨w.heap.size + 1 + 1, 0, none⟩ = some (.bool true) := (World.cell?_of_block (w := W) (World.putObj_heap_other (by dsimp only; omega))).trans (y2.cell 0)
    refine ⟨by simp, .inl ⟨_, _, rfl, run_takeDeferred (w := W) hK2, ?_⟩⟩
    refine ⟨.tuple #[.agg #[.int .i64 q, .int .i64 (wd s q : Nat), .int .i32 (rn s q : Nat), .bool (bk s q)], .bool true], ?_, by rw [HN.out]; try rfl, hB2.trans (belowK_b (w := w) (Nat.le_refl _) W D _ _ (by omega) hK2 rfl rfl)⟩
    simp [results, Try.f43, go_sem, e0, e1, e2, e3, e4]

theorem nth_any (s : ByteArray) (k : Nat) (hs : s.size ≤ 9223372036854775807) (hk : k ≤ 9223372036854775807) (w : World) :
    Calls Try.prog 43 #[.string s, .int .i64 (k : Int)] w fun e w' => e = .returned (nthR s k) ∧ Below w.heap.size w w' := callsIn_wide.1 (nth_in s k hs hk w)

/-- The text of the first n pieces ends here. -/
def cutN (s : ByteArray) (n : Int) : Nat := (ends s).getD (min n.toNat ((ends s).length - 1)) 0
theorem ends_len (s : ByteArray) : (ends s).length = (posns s).length + 1 := by simp [ends]
theorem cutN_low (s : ByteArray) (n : Int) (h : n ≤ 0) : cutN s n = 0 := by
  unfold cutN
  rw [show n.toNat = 0 by omega, Nat.zero_min]
  unfold ends
  by_cases h0 : 0 < s.size
  · rw [posns_G, posG_cons s 0 h0]; rfl
  · have hz : s.size = 0 := by omega
    rw [posns_G, posG_end s 0 (by omega)]; simp [hz]
theorem cutN_in (s : ByteArray) (n : Nat) (p : Nat) (h : (posns s)[n]? = some p) : cutN s n = p := by
  have hl : n < (posns s).length := by
    rcases Nat.lt_or_ge n (posns s).length with h' | h'
    · exact h'
    · rw [List.getElem?_eq_none h'] at h; cases h
  unfold cutN
  rw [ends_len, show min ((n : Int).toNat) ((posns s).length + 1 - 1) = n by omega, List.getD_eq_getElem?_getD]
  unfold ends
  rw [List.getElem?_append_left hl, h]; rfl
theorem cutN_out (s : ByteArray) (n : Nat) (h : (posns s).length ≤ n) : cutN s n = s.size := by
  unfold cutN
  rw [ends_len, show min ((n : Int).toNat) ((posns s).length + 1 - 1) = (posns s).length by omega, List.getD_eq_getElem?_getD]
  unfold ends
  rw [List.getElem?_append_right (Nat.le_refl _)]; simp
theorem ext_none (s : ByteArray) : s.extract 0 0 = ByteArray.empty := by
  apply ByteArray.ext; simp
theorem ext_full (s : ByteArray) : s.extract 0 s.size = s := by simp
theorem ext_over (s : ByteArray) : s.extract s.size s.size = ByteArray.empty := by
  apply ByteArray.ext; simp

set_option maxHeartbeats 1000000 in
theorem cut_any (s : ByteArray) (n : Int) (hs : s.size ≤ 281474976710656) (hn : n ≤ 9223372036854775807) (w : World) :
    Calls Try.prog 25 #[.string s, .int .i64 n] w fun e w' => e = .returned (.tuple #[.string (s.extract 0 (cutN s n)), .string (s.extract (cutN s n) s.size)]) ∧ Below w.heap.size w w' := by
  by_cases h0 : n ≤ 0
  · rw [cutN_low s n h0, ext_none, ext_full]
    go_enter Try.func25, Try.ntmps25
    go_wp2
    go_ret2
    exact ⟨rfl, Below.refl _ _⟩
  · obtain ⟨k, rfl⟩ := Int.eq_ofNat_of_zero_le (show 0 ≤ n by omega)
    have cN := nth_any s k (by omega) (by omega)
    rcases Nat.lt_or_ge k (posns s).length with hk | hk
    · obtain ⟨p, hp⟩ : ∃ p, (posns s)[k]? = some p := ⟨_, List.getElem?_eq_getElem hk⟩
      have hps := (posG_ge s 0 p (List.mem_of_getElem? hp)).2
      rw [nthR_yes hp] at cN
      rw [cutN_in s k p hp]
      simp only [pcC] at cN
      clear hp hk
      have f2 : (0 : Int) ≤ (p : Int) := by omega
      have f4 : (p : Int) ≤ (s.size : Int) := by omega
      go_enter Try.func25, Try.ntmps25
      go_wp2_with (first | (go_at_call 43; refine (cN _).mono ?_; rintro e w1 ⟨rfl, hb1⟩))
      go_quiet (fail)
      go_wp2
      go_ret2
      exact ⟨rfl, below_drewN (hb1.alloc hb1.size _) _⟩
    · rw [nthR_no hk] at cN
      rw [cutN_out s k hk, ext_full, ext_over]
      simp only [zP] at cN
      go_enter Try.func25, Try.ntmps25
      go_wp2_with (first | (go_at_call 43; refine (cN _).mono ?_; rintro e w1 ⟨rfl, hb1⟩))
      go_ret2
      exact ⟨rfl, hb1.alloc hb1.size _⟩

theorem cutN_get (s : ByteArray) (n : Int) : (ends s)[min n.toNat (posns s).length]? = some (cutN s n) := by
  unfold cutN
  have h := ends_len s
  rw [h, show (posns s).length + 1 - 1 = (posns s).length by omega, List.getD_eq_getElem?_getD, List.getElem?_eq_getElem (by omega)]
  rfl
theorem cutN_le (s : ByteArray) (n : Int) : cutN s n ≤ s.size := by
  have h := List.mem_of_getElem? (cutN_get s n)
  rcases (mem_ends s _).1 h with h | h
  · have := (posG_ge s 0 _ h).2; omega
  · omega

end Go.Proofs.Ytepbplmggladfaa.SQ

/- What the program's class answers of a rune. -/
namespace Go.Proofs.Ytepbplmggladfaa.SZ
set_option linter.unusedVariables false
set_option linter.unusedSimpArgs false
open Go Go.RowKit
set_option maxRecDepth 100000

theorem ret_int {k : IntKind} {a b : Int} (h : a = b) : Ending.returned (.int k a) = .returned (.int k b) := by rw [h]
theorem ret_bool {a b : Bool} (h : a = b) : Ending.returned (.bool a) = .returned (.bool b) := by rw [h]

set_option maxHeartbeats 400000 in
theorem width_any (r : Int) (w : World) :
    Calls Try.prog 56 #[.int .i32 r] w fun e w' => e = .returned (.int .i64 (widZ r : Nat)) ∧ w = w' := by
  go_enter Try.func56, Try.ntmps56
  go_wp2
  all_goals go_ret
  all_goals exact ⟨ret_int (by unfold widZ; repeat (first | rw [if_pos (by omega)] | rw [if_neg (by omega)] | rfl)), rfl⟩

end Go.Proofs.Ytepbplmggladfaa.SZ

/- Rows and blocks of one's own: small facts (layer 3). -/
namespace Go.Proofs.Ytepbplmggladfaa.SZ
set_option linter.unusedVariables false
set_option linter.unusedSimpArgs false
open Go Go.RowKit Go.Shelf
set_option maxRecDepth 100000

theorem bcell {W w1 : World} (hb : Below W.heap.size W w1) : (∀ b o, b < W.heap.size → w1.cell? ⟨b, o, none⟩ = W.cell? ⟨b, o, none⟩) ∧ (∀ b o, b < W.heap.size → w1.frozen? ⟨b, o, none⟩ = W.frozen? ⟨b, o, none⟩) :=
  ⟨fun b o h => hb.cell (p := ⟨b, o, none⟩) h, fun b o h => hb.frozen (p := ⟨b, o, none⟩) h⟩

theorem grown_none {w w' : World} (h : Below w.heap.size w w') : w.grownBy w' none :=
  ⟨h.os, h.tape, h.output, h.size, fun k hk _ => h.block k hk⟩

theorem grown_iterAt (w : World) (k : Nat) (s : ByteArray) (pos : Nat) : w.grownBy (w.iterAt k s pos) (some k) :=
  ⟨rfl, rfl, rfl, by rw [Lib.iterAt_size]; exact Nat.le_refl _, fun i _ h => Lib.iterAt_other w k i s pos (fun e => h (by rw [e]))⟩

/-- What the body of a round keeps for the iterator over a text's pieces: the walk's own object, and the variable that holds the text. -/
def KpB (B : Nat) (W W' : World) : Prop := KeepsWalks W W' ∧ W'.heap[B]? = W.heap[B]?

theorem kpB_t {B : Nat} {X Y Z : World} (h : KpB B X Y) (k : KpB B Y Z) : KpB B X Z := ⟨h.1.trans k.1, k.2.trans h.2⟩
theorem kpB_b {B : Nat} {w : World} (hB : B < w.heap.size) (W : World) (l : Nat) (o o' : Obj) (hl : w.heap.size ≤ l) (h : W.heap[l]? = some o) (_ : o.isCells = false) (hw : o.isWalk = false) : KpB B W (W.putObj l o') :=
  ⟨KeepsWalks.putObj _ h hw, World.putObj_heap_other (by omega)⟩

/-- The cells of a list of pieces. -/
def pcs (s : ByteArray) (l : List Nat) : List Value := l.flatMap fun (i : Nat) => [.int .i64 i, .int .i64 (wd s i : Nat), .int .i32 (rn s i : Nat), .bool (bk s i)]
theorem pcs_snoc (s : ByteArray) (l : List Nat) (i : Nat) : pcs s (l ++ [i]) = pcs s l ++ [.int .i64 i, .int .i64 (wd s i : Nat), .int .i32 (rn s i : Nat), .bool (bk s i)] := by simp [pcs]
theorem pcs_len (s : ByteArray) (l : List Nat) : (pcs s l).length = l.length * 4 := by
  induction l with
  | nil => rfl
  | cons x l ih => simp only [pcs, List.flatMap_cons, List.length_append, List.length_cons, List.length_nil] at ih ⊢; omega

theorem own_below {w w1 : World} {base : Nat} {e : TypeId} {size n : Nat} {v : Value} {xs : List Value} (h : w.ownsRow base e size v n xs) (hb : Below w.heap.size w w1) : w1.ownsRow base e size v n xs :=
  h.kept (grown_none hb) (by cases v.ownBlock <;> simp)

theorem own_other {w w1 : World} {base : Nat} {e : TypeId} {size n : Nat} {v : Value} {xs : List Value} (h : w.ownsRow base e size v n xs) {k : Nat} (hk : w.heap.size ≤ k) (hw : w.heap.size ≤ w1.heap.size) : some k ≠ v.ownBlock := by
  intro e1
  have := h.lt k e1.symm
  omega

theorem rows_apart {w : World} {b1 b2 : Nat} {e1 e2 : TypeId} {s1 s2 n1 n2 : Nat} {v1 v2 : Value} {x1 x2 : List Value} (h1 : w.ownsRow b1 e1 s1 v1 n1 x1) (h2 : w.ownsRow b2 e2 s2 v2 n2 x2) (he : e1 ≠ e2) : v1.ownBlock = none ∨ v1.ownBlock ≠ v2.ownBlock := by
  rcases h1.2 with ⟨rfl, _⟩ | ⟨g1, c1, cur1, rfl, _, hg1, _⟩
  · exact .inl rfl
  · rcases h2.2 with ⟨rfl, _⟩ | ⟨g2, c2, cur2, rfl, _, hg2, _⟩
    · right; simp [Value.ownBlock]
    · right
      simp only [Value.ownBlock, ne_eq, Option.some.injEq]
      intro e
      rw [e, hg2] at hg1
      cases hg1
      exact he rfl

theorem own_slice {w : World} {b : Nat} {e : TypeId} {sz n : Nat} {v : Value} {xs : List Value} (h : w.ownsRow b e sz v n xs) : ∃ o cap, v = .slice o n cap ∧ (0 < n → ∃ g, o = some ⟨g, 0, none⟩) := by
  rcases h.2 with ⟨rfl, rfl⟩ | ⟨g, cap, cur, rfl, _⟩
  · exact ⟨none, 0, rfl, fun h => by omega⟩
  · exact ⟨_, cap, rfl, fun _ => ⟨g, rfl⟩⟩

/-- Numbers, as values. -/
def ints (l : List Nat) : List Value := l.map fun (i : Nat) => Value.int .i64 i
theorem ints_snoc (l : List Nat) (i : Nat) : ints (l ++ [i]) = ints l ++ [.int .i64 i] := by simp [ints]

/-- Piece number k of a list of pieces, where it lies. -/
theorem nth_cells {T : ByteArray} {l : List Nat} {e : TypeId} {base g cap n : Nat} {w : World} (h : w.ownsRow base e 4 (.slice (some ⟨g, 0, none⟩) n cap) n (pcs T l)) (hn : l.length = n) (k : Nat) (hk : k < n) (p : Nat) (hp : l[k]? = some p) :
    w.cell? ⟨g, k * 4, none⟩ = some (.int .i64 p) ∧ w.cell? ⟨g, k * 4 + 1, none⟩ = some (.int .i64 (wd T p : Nat)) ∧
      w.cell? ⟨g, k * 4 + 2, none⟩ = some (.int .i32 (rn T p : Nat)) ∧ w.cell? ⟨g, k * 4 + 3, none⟩ = some (.bool (bk T p)) := by
  have hc := fun j (hj : j < n * 4) => h.cellAt j hj
  have hs : l = l.take k ++ p :: l.drop (k + 1) := by
    have h1 : k < l.length := by omega
    rw [List.getElem?_eq_getElem h1] at hp
    rw [← Option.some.inj hp, List.getElem_cons_drop, List.take_append_drop]
  have hpcs : pcs T l = pcs T (l.take k) ++ ([.int .i64 p, .int .i64 (wd T p : Nat), .int .i32 (rn T p : Nat), .bool (bk T p)] ++ pcs T (l.drop (k + 1))) := by
    conv => lhs; rw [hs]
    simp [pcs]
  have hl : (pcs T (l.take k)).length = k * 4 := by rw [pcs_len, List.length_take]; omega
  refine ⟨?_, ?_, ?_, ?_⟩
  · rw [hc _ (by omega), hpcs, List.getElem?_append_right (by omega), show k * 4 - (pcs T (l.take k)).length = 0 by omega]; rfl
  · rw [hc _ (by omega), hpcs, List.getElem?_append_right (by omega), show k * 4 + 1 - (pcs T (l.take k)).length = 1 by omega]; rfl
  · rw [hc _ (by omega), hpcs, List.getElem?_append_right (by omega), show k * 4 + 2 - (pcs T (l.take k)).length = 2 by omega]; rfl
  · rw [hc _ (by omega), hpcs, List.getElem?_append_right (by omega), show k * 4 + 3 - (pcs T (l.take k)).length = 3 by omega]; rfl

/-- Number k of a list of numbers, where it lies. -/
theorem nth_int {l : List Nat} {e : TypeId} {base g cap n : Nat} {w : World} (h : w.ownsRow base e 1 (.slice (some ⟨g, 0, none⟩) n cap) n (ints l)) (hn : l.length = n) (k : Nat) (hk : k < n) (p : Nat) (hp : l[k]? = some p) :
    w.cell? ⟨g, k, none⟩ = some (.int .i64 p) := by
  rw [h.cellAt k (by omega)]
  simp [ints, hp]

/-- Block B holds the cells cs of type t, none of them frozen. -/
def Blk (W : World) (B : Nat) (cs : Array Value) (t : TypeId) : Prop := W.heap[B]? = some (.cells cs t (0, 0))

theorem Blk.lt {W : World} {B : Nat} {cs : Array Value} {t : TypeId} (h : Blk W B cs t) : B < W.heap.size := (Array.getElem?_eq_some_iff.1 h).1
theorem Blk.cell {W : World} {B : Nat} {cs : Array Value} {t : TypeId} (h : Blk W B cs t) (o : Nat) : W.cell? ⟨B, o, none⟩ = cs[o]? := by
  simp only [World.cell?, show W.heap[B]? = _ from h]; rfl
theorem Blk.frozen {W : World} {B : Nat} {cs : Array Value} {t : TypeId} (h : Blk W B cs t) (o : Nat) : W.frozen? ⟨B, o, none⟩ = false := by simp [World.frozen?, show W.heap[B]? = _ from h]
theorem Blk.new (W : World) (cs : Array Value) (t : TypeId) : Blk (W.alloc (.cells cs t)) W.heap.size cs t := World.alloc_heap_new W _
theorem Blk.kept {W W' : World} {row : Option Nat} {B : Nat} {cs : Array Value} {t : TypeId} (h : Blk W B cs t) (hg : W.grownBy W' row) (hne : some B ≠ row) : Blk W' B cs t := (hg.block B h.lt hne).trans h
theorem Blk.alloc {W : World} {B : Nat} {cs : Array Value} {t : TypeId} (h : Blk W B cs t) (o : Obj) : Blk (W.alloc o) B cs t := h.kept (World.grownBy_alloc W o none) (by simp)
theorem Blk.below {W W' : World} {B n : Nat} {cs : Array Value} {t : TypeId} (h : Blk W B cs t) (hb : Below n W W') (hn : B < n) : Blk W' B cs t := (hb.block B hn).trans h
theorem Blk.below' {W W' : World} {B : Nat} {cs : Array Value} {t : TypeId} (h : Blk W B cs t) (hb : Below W.heap.size W W') : Blk W' B cs t := h.below hb h.lt
theorem Blk.drew {W : World} {B : Nat} {cs : Array Value} {t : TypeId} (h : Blk W B cs t) : Blk W.drew B cs t := h

theorem Blk.set {W : World} {B : Nat} {cs : Array Value} {t : TypeId} (h : Blk W B cs t) (o : Nat) (v : Value) : Blk (W.setCell ⟨B, o, none⟩ v) B (cs.setIfInBounds o v) t := by
  obtain ⟨hlt, hk⟩ := Array.getElem?_eq_some_iff.1 h
  show (W.heap.modify B _)[B]? = _
  rw [Array.getElem?_eq_getElem (by rw [Array.size_modify]; exact hlt), Array.getElem_modify_self, hk]
  rfl
theorem grownBy_setCell (W : World) (b o : Nat) (v : Value) : W.grownBy (W.setCell ⟨b, o, none⟩ v) (some b) :=
  ⟨rfl, rfl, rfl, (by show W.heap.size ≤ (W.heap.modify _ _).size; rw [Array.size_modify]; exact Nat.le_refl _), fun k _ hk => Below.heap_setCell _ _ _ k (fun e => hk (by rw [e]))⟩
theorem Blk.other {W : World} {B B' : Nat} {cs : Array Value} {t : TypeId} (h : Blk W B cs t) (hne : B ≠ B') (o : Nat) (u : Value) : Blk (W.setCell ⟨B', o, none⟩ u) B cs t := h.kept (grownBy_setCell W B' o u) (fun e => hne (by cases e; rfl))
theorem Blk.not_row {W : World} {B : Nat} {cs : Array Value} {t e : TypeId} (h : Blk W B cs t) (hte : t ≠ e) {base size k : Nat} {v : Value} {xs : List Value} (hr : W.ownsRow base e size v k xs) : some B ≠ v.ownBlock := by
  rcases hr.2 with ⟨rfl, _⟩ | ⟨g, cap, cur, rfl, _, hgb, _⟩
  · simp [Value.ownBlock]
  · intro e'
    obtain rfl : B = g := by simpa [Value.ownBlock] using e'
    have := (show W.heap[B]? = _ from h).symm.trans hgb
    simp at this
    exact hte this.2
/-- A row of another type stands when a cell of B is written. -/
theorem row_other {W : World} {B : Nat} {cs : Array Value} {t e : TypeId} (h : Blk W B cs t) (hte : t ≠ e) {base size k : Nat} {v : Value} {xs : List Value} (hr : W.ownsRow base e size v k xs) (o : Nat) (u : Value) : (W.setCell ⟨B, o, none⟩ u).ownsRow base e size v k xs :=
  hr.kept (grownBy_setCell W B o u) (.inr (fun e1 => h.not_row hte hr e1.symm))
theorem drew_row {W : World} {base : Nat} {e : TypeId} {size k : Nat} {v : Value} {xs : List Value} (hr : W.ownsRow base e size v k xs) : W.drew.ownsRow base e size v k xs := hr
/-- A piece of s: the place at which it begins. -/
abbrev Pos (s : ByteArray) := { i : Nat // i < s.size }
theorem take_next {l : List Nat} {k p : Nat} (h : l[k]? = some p) : l.take (k + 1) = l.take k ++ [p] := by
  rw [List.take_add_one, h]; rfl
end Go.Proofs.Ytepbplmggladfaa.SZ

/- Layer 3: the document's Pieces: a text's pieces as Go's own range tells them. -/
namespace Go.Proofs.Ytepbplmggladfaa.SZ
set_option linter.unusedVariables false
set_option linter.unusedSimpArgs false
open Go Go.RowKit Go.Shelf
set_option maxRecDepth 100000

/-- Cells of four each. -/
def q4 (l : List (Nat × Nat × Nat × Bool)) : List Value := l.flatMap fun x => [.int .i64 (x.1 : Nat), .int .i64 (x.2.1 : Nat), .int .i32 (x.2.2.1 : Nat), .bool x.2.2.2]
theorem q4_app (a b : List (Nat × Nat × Nat × Bool)) : q4 (a ++ b) = q4 a ++ q4 b := by simp [q4]
theorem q4_one (i w r : Nat) (b : Bool) : q4 [(i, w, r, b)] = [.int .i64 (i : Nat), .int .i64 (w : Nat), .int .i32 (r : Nat), .bool b] := by simp [q4]
theorem q4_len (l : List (Nat × Nat × Nat × Bool)) : (q4 l).length = l.length * 4 := by
  induction l with
  | nil => rfl
  | cons x l ih => simp only [q4, List.flatMap_cons, List.length_append, List.length_cons, List.length_nil] at ih ⊢; omega
theorem q4_set1 (a b : List (Nat × Nat × Nat × Bool)) (i w r : Nat) (c : Bool) (v : Nat) : (q4 (a ++ (i, w, r, c) :: b)).set (a.length * 4 + 1) (.int .i64 v) = q4 (a ++ (i, v, r, c) :: b) := by
  rw [show (i, w, r, c) :: b = [(i, w, r, c)] ++ b from rfl, show (i, v, r, c) :: b = [(i, v, r, c)] ++ b from rfl]
  rw [q4_app, q4_app, q4_app, q4_app, q4_one, q4_one, List.set_append_right _ _ (by rw [q4_len]; omega), q4_len, show a.length * 4 + 1 - a.length * 4 = 1 by omega]
  rfl
theorem q4_set3 (a b : List (Nat × Nat × Nat × Bool)) (i w r : Nat) (c d : Bool) : (q4 (a ++ (i, w, r, c) :: b)).set (a.length * 4 + 3) (.bool d) = q4 (a ++ (i, w, r, d) :: b) := by
  rw [show (i, w, r, c) :: b = [(i, w, r, c)] ++ b from rfl, show (i, w, r, d) :: b = [(i, w, r, d)] ++ b from rfl]
  rw [q4_app, q4_app, q4_app, q4_app, q4_one, q4_one, List.set_append_right _ _ (by rw [q4_len]; omega), q4_len, show a.length * 4 + 3 - a.length * 4 = 3 by omega]
  rfl
theorem q4_at (a b : List (Nat × Nat × Nat × Bool)) (i w r : Nat) (c : Bool) {e : TypeId} {base g cap n : Nat} {W : World} (h : W.ownsRow base e 4 (.slice (some ⟨g, 0, none⟩) n cap) n (q4 (a ++ (i, w, r, c) :: b))) (hn : a.length + 1 + b.length = n) :
    W.cell? ⟨g, a.length * 4, none⟩ = some (.int .i64 i) ∧ W.cell? ⟨g, a.length * 4 + 1, none⟩ = some (.int .i64 w) ∧ W.cell? ⟨g, a.length * 4 + 2, none⟩ = some (.int .i32 r) ∧ W.cell? ⟨g, a.length * 4 + 3, none⟩ = some (.bool c) := by
  have hc := fun j (hj : j < n * 4) => h.cellAt j hj
  have hq : q4 (a ++ (i, w, r, c) :: b) = q4 a ++ ([.int .i64 (i : Nat), .int .i64 (w : Nat), .int .i32 (r : Nat), .bool c] ++ q4 b) := by
    rw [show (i, w, r, c) :: b = [(i, w, r, c)] ++ b from rfl, q4_app, q4_app, q4_one]
  have hl := q4_len a
  refine ⟨?_, ?_, ?_, ?_⟩
  · rw [hc _ (by omega), hq, List.getElem?_append_right (by omega), show a.length * 4 - (q4 a).length = 0 by omega]; rfl
  · rw [hc _ (by omega), hq, List.getElem?_append_right (by omega), show a.length * 4 + 1 - (q4 a).length = 1 by omega]; rfl
  · rw [hc _ (by omega), hq, List.getElem?_append_right (by omega), show a.length * 4 + 2 - (q4 a).length = 2 by omega]; rfl
  · rw [hc _ (by omega), hq, List.getElem?_append_right (by omega), show a.length * 4 + 3 - (q4 a).length = 3 by omega]; rfl

def pHalf (s : ByteArray) (i : Nat) : Nat × Nat × Nat × Bool := (i, wd s i, rn s i, false)
def pFull (s : ByteArray) (i : Nat) : Nat × Nat × Nat × Bool := (i, wd s i, rn s i, bk s i)
theorem q4_pcs (s : ByteArray) (l : List Nat) : q4 (l.map (pFull s)) = pcs s l := by
  simp only [q4, pcs, List.flatMap_map]; rfl

theorem iter_not_row {W : World} {k : Nat} {t : ByteArray} {p : Nat} (h : W.heap[k]? = some (.stringIter t p)) {base size n : Nat} {e : TypeId} {v : Value} {xs : List Value} (hr : W.ownsRow base e size v n xs) : some k ≠ v.ownBlock := by
  rcases hr.2 with ⟨rfl, _⟩ | ⟨g, cap, cur, rfl, _, hgb, _⟩
  · simp [Value.ownBlock]
  · intro e'
    obtain rfl : k = g := by simpa [Value.ownBlock] using e'
    rw [h] at hgb; cases hgb

def PdRel (s : ByteArray) (w : World) (it : Nat) (l : Value) (wr : World) : Prop :=
  ∃ (pre : List Nat) (pos : Nat), posns s = pre ++ posG s pos ∧ wr.heap[it]? = some (.stringIter s pos) ∧ Below w.heap.size w wr ∧
    ((pre = [] ∧ pos = 0 ∧ l = .slice none 0 0) ∨
      ∃ q x, pre = q ++ [x] ∧ x < s.size ∧ pos = x + wd s x ∧ wr.ownsRow w.heap.size 68 4 l (q.length + 1) (q4 (q.map (pHalf s) ++ [(x, 0, rn s x, false)])))
def PdRel2 (s : ByteArray) (n : Nat) (w : World) (g cap : Nat) (i : Value) (wr : World) : Prop :=
  ∃ k : Nat, i = .int .i64 k ∧ k ≤ n ∧ wr.ownsRow w.heap.size 68 4 (.slice (some ⟨g, 0, none⟩) n cap) n (q4 (((posns s).take k).map (pFull s) ++ ((posns s).drop k).map (pHalf s))) ∧ Below w.heap.size w wr

def PdPost (s : ByteArray) (w : World) (e : Ending) (w' : World) : Prop :=
  ∃ v, e = .returned v ∧ w'.ownsRow w.heap.size 68 4 v (posns s).length (pcs s (posns s)) ∧ Below w.heap.size w w'

theorem infoD : (Try.prog.info? 68).map (fun i => (i.zero, i.size, i.bytes)) = some (some (.agg #[.int .i64 0, .int .i64 0, .int .i32 0, .bool false]), 4, 24) := by kernel_rfl

set_option maxHeartbeats 4000000 in
theorem piecesD_any (s : ByteArray) (hs : s.size ≤ 17179869184) (w : World) : Calls Try.prog 32 #[.string s] w (PdPost s w) := by
  obtain ⟨i0, hi, hz0, hz1, hz2⟩ := info_parts infoD
  go_enter Try.func32, Try.ntmps32
  go_wp2
  go_loopw [3] (fun l wr => PdRel s w w.heap.size l wr) (fun _ wr => s.size - wr.iterPos w.heap.size)
  case atStart => exact ⟨[], 0, by simp [posns_G], World.iter_heap w s 0, (Below.refl _ _).alloc (Nat.le_refl _) _, .inl ⟨rfl, rfl, rfl⟩⟩
  case round =>
    obtain ⟨pre, pos, hpp, hit, hB, hd⟩ := hrel
    by_cases hps : pos < s.size
    · have hnx : ∀ ty, (Instr.next (.pointer (some ⟨w.heap.size, 0, none⟩)) true ty).run Try.prog wr = _ := fun ty => Lib.run_next_any_at wr w.heap.size s pos ty hit hps
      rw [dec_eq s pos hps] at hnx
      have hit1 := Lib.iterAt_heap wr w.heap.size s pos (pos + wd s pos) hit
      have hB1 : Below w.heap.size w (wr.iterAt w.heap.size s (pos + wd s pos)) := Lib.below_iterAt hB (Nat.le_refl _) s _
      have hmeas : s.size - (pos + wd s pos) < s.size - wr.iterPos w.heap.size := by
        have := wd_pos s pos
        simp only [World.iterPos, hit]; omega
      have hlen : pre.length < s.size := by
        have h1 := posns_len s
        rw [hpp, posG_cons s pos hps] at h1
        simp at h1; omega
      have hpp2 : posns s = (pre ++ [pos]) ++ posG s (pos + wd s pos) := by rw [hpp, posG_cons s pos hps]; simp
      have hgi := grown_iterAt wr w.heap.size s (pos + wd s pos)
      rcases hd with ⟨rfl, rfl, rfl⟩ | ⟨q, x, rfl, hx, hpx, hown⟩
      · obtain ⟨P, hP⟩ : ∃ P, wr.iterAt w.heap.size s (0 + wd s 0) = P := ⟨_, rfl⟩
        rw [hP] at hnx hit1 hB1
        have HM := Lib.hid hmeas
        have HP := Lib.hid hpp2
        have hown : P.ownsRow w.heap.size 68 4 (.slice none 0 0) 0 [] := World.ownsRow_nil _ _ _ _
        clear hP hpp hpp2 hmeas hit hB hgi
        go_wp2_with (at_builtin; refine wpList_append_own _ rfl _ _ 65 rfl w.heap.size 68 i0 (.agg #[.int .i64 0, .int .i64 0, .int .i32 0, .bool false]) 4 24 Try.underlying65 hi hz0 hz1 hz2 rfl (by decide) (.slice none 0 0) _ _ rfl (hown.alloc _) ⟨P.heap.size, 0, none⟩ 1 1 [.int .i64 0, .int .i64 0, .int .i32 (rn s 0 : Nat), .bool false] rfl rfl (World.news_of_block (cs := #[.int .i64 0, .int .i64 0, .int .i32 (rn s 0 : Nat), .bool false]) (t := 68) (fr := (0, 0)) (World.alloc_heap_new P _)) (fun x hx => by simp at hx; rcases hx with rfl | rfl | rfl | rfl <;> rfl) (by unfold maxLen; omega) (by omega) (by have := hB1.size; simp; omega) ?_; intro v' w2 hown' hgrow _; obtain ⟨g', cap', rfl⟩ := ownsRow_succ hown')
        go_roundw
        case rel =>
          refine ⟨[0], 0 + wd s 0, HP.out, (hgrow.block _ (by have := (Array.getElem?_eq_some_iff.1 hit1).1; simp; omega) (by simp [Value.ownBlock])).trans ((Below.heap_alloc P _ _ (Array.getElem?_eq_some_iff.1 hit1).1).trans hit1), (hB1.alloc hB1.size _).grown hgrow (by have := hB1.size; simp; omega) (fun j hj => by simp [Value.ownBlock] at hj), .inr ⟨[], 0, rfl, hps, rfl, ?_⟩⟩
          rw [List.map_nil, List.nil_append, q4_one]
          exact hown'
        case measure => simp only [World.iterPos, (hgrow.block _ (by have := (Array.getElem?_eq_some_iff.1 hit1).1; simp; omega) (by simp [Value.ownBlock])).trans ((Below.heap_alloc P _ _ (Array.getElem?_eq_some_iff.1 hit1).1).trans hit1)]; exact HM.out
      · obtain ⟨P, hP⟩ : ∃ P, wr.iterAt w.heap.size s (pos + wd s pos) = P := ⟨_, rfl⟩
        have ownP := hown.kept hgi (.inr (fun e => iter_not_row hit hown e.symm))
        rw [hP] at hnx hit1 hB1 ownP
        have HM := Lib.hid hmeas
        have HP := Lib.hid hpp2
        obtain ⟨m, hm⟩ : ∃ m, q.length = m := ⟨_, rfl⟩
        obtain ⟨o, cap, rfl, ho⟩ := own_slice ownP
        obtain ⟨g, rfl⟩ := ho (by omega)
        obtain ⟨A, hA⟩ : ∃ A, q.map (pHalf s) = A := ⟨_, rfl⟩
        have hAm : A.length = m := by rw [← hA, List.length_map, hm]
        rw [hA, hm] at ownP
        rw [hm]
        obtain ⟨W1, hW1⟩ : ∃ W1, wd s x = W1 := ⟨_, rfl⟩
        rw [hW1] at hpx
        have hsub : (pos : Int) - (x : Int) = (W1 : Int) := by omega
        obtain ⟨z0, z1, z2, z3⟩ := q4_at A [] x 0 (rn s x) false ownP (by simp [hAm])
        rw [hAm] at z0 z1 z2 z3
        have zf := ownP.frozenAt (m * 4 + 1)
        have hg0 : w.heap.size ≤ g := (ownP.lt g rfl).1
        have hgne : g ≠ w.heap.size := fun e => iter_not_row hit1 ownP (by rw [← e]; rfl)
        obtain ⟨st, sg⟩ := ownP.stored (m * 4 + 1) (.int .i64 W1)
        rw [← hAm, q4_set1, hAm] at st
        have hit2 := (Below.heap_setCell P ⟨g, m * 4 + 1, none⟩ (.int .i64 W1) w.heap.size (by dsimp only; omega)).trans hit1
        have hB2 := hB1.setCell (p := ⟨g, m * 4 + 1, none⟩) hg0 (.int .i64 W1)
        have hmb : m + 1 ≤ 17179869184 := by rw [List.length_append, hm] at hlen; simp at hlen; omega
        have hmj : ((m + 1 : Nat) : Int) - 1 = (m : Int) := by omega
        have hmi : (m : Int) < ((m + 1 : Nat) : Int) := by omega
        have HA := Lib.hid hA
        have HAm := Lib.hid hAm
        have HW := Lib.hid hW1
        have Hm := Lib.hid hm
        have HX := Lib.hid hpx
        clear hP hpp hpp2 hmeas hit hB hgi hown hA hAm hW1 hm hpx hlen
        go_wp2_with (at_builtin; refine wpList_append_own _ rfl _ _ 65 rfl w.heap.size 68 i0 (.agg #[.int .i64 0, .int .i64 0, .int .i32 0, .bool false]) 4 24 Try.underlying65 hi hz0 hz1 hz2 rfl (by decide) (.slice (some ⟨g, 0, none⟩) (m + 1) cap) _ _ rfl (st.alloc _) ⟨P.heap.size, 0, none⟩ 1 1 [.int .i64 pos, .int .i64 0, .int .i32 (rn s pos : Nat), .bool false] rfl rfl (World.news_of_block (cs := #[.int .i64 pos, .int .i64 0, .int .i32 (rn s pos : Nat), .bool false]) (t := 68) (fr := (0, 0)) (by have := World.alloc_heap_new (P.setCell ⟨g, m * 4 + 1, none⟩ (.int .i64 W1)) (.cells #[.int .i64 pos, .int .i64 0, .int .i32 (rn s pos : Nat), .bool false] 68); rw [show (P.setCell ⟨g, m * 4 + 1, none⟩ (.int .i64 W1)).heap.size = P.heap.size by simp] at this; exact this)) (fun x hx => by simp at hx; rcases hx with rfl | rfl | rfl | rfl <;> rfl) (by unfold maxLen; omega) (by omega) (by have := hB1.size; simp; omega) ?_; intro v' w2 hown' hgrow _; obtain ⟨g', cap', rfl⟩ := ownsRow_succ hown')
        go_roundw
        case rel =>
          have hi3 := (hgrow.block w.heap.size (by have := (Array.getElem?_eq_some_iff.1 hit2).1; simp at this ⊢; omega) (by simp only [Value.ownBlock, ne_eq, Option.some.injEq]; omega)).trans ((Below.heap_alloc _ _ _ (Array.getElem?_eq_some_iff.1 hit2).1).trans hit2)
          refine ⟨(q ++ [x]) ++ [pos], pos + wd s pos, HP.out, hi3, (hB2.alloc hB2.size _).grown hgrow (by have := hB2.size; simp at this ⊢; omega) (fun j hj => (st.lt j hj).1), .inr ⟨q ++ [x], pos, rfl, hps, rfl, ?_⟩⟩
          rw [List.map_append, HA.out, q4_app, q4_one, List.length_append, Hm.out]
          have e : [x].map (pHalf s) = [(x, W1, rn s x, false)] := by simp [pHalf, HW.out]
          rw [e]
          exact hown'
        case measure =>
          have hi3 := (hgrow.block w.heap.size (by have := (Array.getElem?_eq_some_iff.1 hit2).1; simp at this ⊢; omega) (by simp only [Value.ownBlock, ne_eq, Option.some.injEq]; omega)).trans ((Below.heap_alloc _ _ _ (Array.getElem?_eq_some_iff.1 hit2).1).trans hit2)
          simp only [World.iterPos, hi3]; exact HM.out
    · have hsz : s.size ≤ pos := by omega
      have hnx : ∀ ty, (Instr.next (.pointer (some ⟨w.heap.size, 0, none⟩)) true ty).run Try.prog wr = _ := fun ty => Lib.run_next_end_at wr w.heap.size s pos ty hit hps
      rw [posG_end s pos hsz, List.append_nil] at hpp
      rcases hd with ⟨rfl, rfl, rfl⟩ | ⟨q, x, rfl, hx, hpx, hown⟩
      · have HP := Lib.hid hpp
        clear hpp hit
        go_wp2
        go_loopw [6] (fun i wq => i = .int .i64 0 ∧ wq = wr) (fun _ _ => 0)
        case atStart => exact ⟨rfl, rfl⟩
        case round =>
          obtain ⟨rfl, rfl⟩ := hrel
          go_wp2
          go_ret
          exact ⟨_, rfl, by rw [HP.out]; exact World.ownsRow_nil _ _ _ _, hB⟩
      · obtain ⟨m, hm⟩ : ∃ m, q.length = m := ⟨_, rfl⟩
        obtain ⟨o, cap, rfl, ho⟩ := own_slice hown
        obtain ⟨g, rfl⟩ := ho (by omega)
        obtain ⟨A, hA⟩ : ∃ A, q.map (pHalf s) = A := ⟨_, rfl⟩
        have hAm : A.length = m := by rw [← hA, List.length_map, hm]
        have hn1 : (posns s).length = m + 1 := by rw [hpp, List.length_append, hm]; rfl
        rw [hA, hm] at hown
        rw [hm]
        obtain ⟨W1, hW1⟩ : ∃ W1, wd s x = W1 := ⟨_, rfl⟩
        have hwf := wd_fits s x hx
        rw [hW1] at hpx hwf
        have hsub : (s.size : Int) - (x : Int) = (W1 : Int) := by omega
        obtain ⟨z0, z1, z2, z3⟩ := q4_at A [] x 0 (rn s x) false hown (by simp [hAm])
        rw [hAm] at z0 z1 z2 z3
        have zf := hown.frozenAt (m * 4 + 1)
        have hg0 : w.heap.size ≤ g := (hown.lt g rfl).1
        obtain ⟨st, sg⟩ := hown.stored (m * 4 + 1) (.int .i64 W1)
        rw [← hAm, q4_set1, hAm] at st
        have hB2 := hB.setCell (p := ⟨g, m * 4 + 1, none⟩) hg0 (.int .i64 W1)
        have hlen := posns_len s
        rw [hn1] at hlen
        have hmb : m + 1 ≤ 17179869184 := by omega
        have hmj : ((m + 1 : Nat) : Int) - 1 = (m : Int) := by omega
        have hmi : (m : Int) < ((m + 1 : Nat) : Int) := by omega
        have hst : (posns s).map (pHalf s) = A ++ [(x, W1, rn s x, false)] := by rw [hpp, List.map_append, hA]; simp [pHalf, hW1]
        rw [← hst] at st
        have HN := Lib.hid hn1
        clear hit hown hA hAm hW1 hm hpx hwf hlen hst hpp hn1
        go_wp2
        go_loopw [6] (fun i wq => PdRel2 s (m + 1) w g cap i wq) (fun i _ => m + 1 - (intOf i).toNat)
        case atStart => exact ⟨0, rfl, by omega, by rw [List.take_zero, List.drop_zero]; exact st, hB2⟩
        case round =>
          clear st sg hB2 hB z0 z1 z2 z3 zf hsub
          obtain ⟨k, rfl, hk, hv, hB⟩ := hrel
          by_cases hlt : k < m + 1
          · have hlti : (k : Int) < ((m + 1 : Nat) : Int) := by omega
            have hkl : k < (posns s).length := by rw [HN.out]; exact hlt
            obtain ⟨p, hpk⟩ : ∃ p, (posns s)[k]? = some p := ⟨_, List.getElem?_eq_getElem hkl⟩
            have hps := (posG_ge s 0 p (List.mem_of_getElem? hpk)).2
            have hdr : (posns s).drop k = p :: (posns s).drop (k + 1) := by
              have := List.getElem?_eq_some_iff.1 hpk
              obtain ⟨h1, h2⟩ := this
              rw [← h2, List.getElem_cons_drop]
            have htk := take_next hpk
            obtain ⟨a, ha⟩ : ∃ a, ((posns s).take k).map (pFull s) = a := ⟨_, rfl⟩
            obtain ⟨b, hb⟩ : ∃ b, ((posns s).drop (k + 1)).map (pHalf s) = b := ⟨_, rfl⟩
            have hal : a.length = k := by rw [← ha, List.length_map, List.length_take]; omega
            have hbl : b.length = m + 1 - (k + 1) := by rw [← hb, List.length_map, List.length_drop, HN.out]
            have hrow : q4 (((posns s).take k).map (pFull s) ++ ((posns s).drop k).map (pHalf s)) = q4 (a ++ (p, wd s p, rn s p, false) :: b) := by rw [hdr, List.map_cons, ha, hb]; rfl
            have hrow2 : q4 (((posns s).take (k + 1)).map (pFull s) ++ ((posns s).drop (k + 1)).map (pHalf s)) = q4 (a ++ (p, wd s p, rn s p, bk s p) :: b) := by rw [htk, List.map_append, ha, hb]; simp [pFull]
            rw [hrow] at hv
            have HR := Lib.hid hrow2
            obtain ⟨y0, y1, y2, y3⟩ := q4_at a b p (wd s p) (rn s p) false hv (by omega)
            rw [hal] at y0 y1 y2 y3
            have yf := hv.frozenAt (k * 4 + 3)
            have hg0 : w.heap.size ≤ g := (hv.lt g rfl).1
            obtain ⟨st, sg⟩ := hv.stored (k * 4 + 3) (.bool (bk s p))
            rw [← hal, q4_set3, hal, ← HR.out] at st
            have hB2 := hB.setCell (p := ⟨g, k * 4 + 3, none⟩) hg0 (.bool (bk s p))
            have hwz := wid_rn s p hps
            clear hrow hrow2 HR hdr htk ha hb hal hbl hv hB sg hpk hkl
            cases hbk : bk s p with
            | true =>
              obtain ⟨e1, e2⟩ := bk_rn s p hbk
              rw [e1] at y2
              rw [e2] at y1
              rw [hbk] at st hB2
              clear hwz hbk
              go_wp2
              go_roundw
              case rel => exact ⟨k + 1, by go_num, by omega, st, hB2⟩
              case measure => simp [intOf]; omega
            | false =>
              have hw2 := hwz hbk
              rw [hbk] at st hB2
              by_cases h5 : rn s p = 65533
              · have h3 : wd s p = 3 := by rw [← hw2, h5]; rfl
                rw [h5] at y2
                rw [h3] at y1
                clear hwz hbk hw2
                go_wp2
                go_roundw
                case rel => exact ⟨k + 1, by go_num, by omega, st, hB2⟩
                case measure => simp [intOf]; omega
              · have h5b : ((rn s p : Int) == 65533) = false := by rw [beq_eq_false_iff_ne]; omega
                clear hwz hbk hw2
                go_wp2
                go_roundw
                case rel => exact ⟨k + 1, by go_num, by omega, st, hB2⟩
                case measure => simp [intOf]; omega
          · have hkm : k = m + 1 := by omega
            subst hkm
            rw [← HN.out, List.take_length, List.drop_length, List.map_nil, List.append_nil, q4_pcs, HN.out] at hv
            go_wp2
            go_ret
            exact ⟨_, rfl, by rw [HN.out]; exact hv, hB⟩
end Go.Proofs.Ytepbplmggladfaa.SZ
