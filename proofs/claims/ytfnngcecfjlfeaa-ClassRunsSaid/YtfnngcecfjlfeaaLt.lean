/- Layer 3: what the iterator of class.Letters tells its caller; the law for a loop over it. -/
import Derived.Test.YtfnngcecfjlfeaaPd
import Derived.Test.YtfnngcecfjlfeaaCw4
import Derived.RangeFuncMany
namespace Go.Proofs.Ytfnngcecfjlfeaa
set_option linter.unusedVariables false
set_option linter.unusedSimpArgs false
open Go Go.RowKit Go.Shelf
set_option maxRecDepth 100000
attribute [local go_sem] Oper.semAt_some

/-- Places at which letters begin. -/
def lpos (s : ByteArray) (l : List Nat) : List Nat := l.filter fun i => leB (rn s i)
theorem lpos_t {s : ByteArray} {i : Nat} (h : leB (rn s i) = true) (l : List Nat) : lpos s (l ++ [i]) = lpos s l ++ [i] := by simp [lpos, h]
theorem lpos_f {s : ByteArray} {i : Nat} (h : leB (rn s i) = false) (l : List Nat) : lpos s (l ++ [i]) = lpos s l := by simp [lpos, h]
theorem lpos_app (s : ByteArray) (a b : List Nat) : lpos s (a ++ b) = lpos s a ++ lpos s b := by simp [lpos]
theorem lpos_len (s : ByteArray) (l : List Nat) : (lpos s l).length ≤ l.length := List.length_filter_le _ _

/-- A letter as the program says it. -/
def leA (s : ByteArray) (i : Nat) : Array Value := #[.int .i64 i, .int .i32 (rn s i : Nat)]

def RelL (s : ByteArray) (B it : Nat) (J : List (Pos s) → World → Prop) (wr : World) : Prop :=
  ∃ (d : List Nat) (pre : List (Pos s)) (pos : Nat), posns s = d ++ posG s pos ∧ pre.map (·.1) = lpos s d ∧ wr.heap[it]? = some (.stringIter s pos) ∧ Boxed wr B 9 (.string s) ∧ J pre wr

set_option maxHeartbeats 1000000 in
theorem letters1 (l B : Nat) (s : ByteArray) (hs : s.size ≤ 9223372036854775807) (J Jx : List (Pos s) → World → Prop) (W : World)
    (hJ : AbidesFrom W.heap.size J) (hBx : Boxed W B 9 (.string s))
    (hY : ∀ pre x W1, J pre W1 → pre.length < s.size → YieldAt Fence.wide 9 Try.prog l (leA s x.1) W1 fun e W' =>
      (e = .returned (.bool true) ∧ J (pre ++ [x]) W' ∧ KpB B W1 W') ∨ (e = .returned (.bool false) ∧ Jx (pre ++ [x]) W'))
    (h0 : J [] W) :
    CallsIn Fence.wide 10 Try.prog 64 #[.func (.yield l) #[] #[], .pointer (some ⟨B, 0, none⟩)] W fun e W' => (∃ v, e = .returned v) ∧
      ((∃ xs, xs.map (·.1) = lpos s (posns s) ∧ J xs W') ∨ (∃ pre, pre.map (·.1) <+: lpos s (posns s) ∧ Jx pre W')) := by
  have hc := hBx.cell
  refine callsIn_of_wp Try.func64 rfl trivial ?_ rfl
  simp only [Try.ntmps64, List.size_toArray, List.length_cons, List.length_nil, Nat.reduceAdd, Nat.reduceSub, Array.replicate_succ, Array.replicate_zero, List.push_toArray, List.append_toArray, List.nil_append, List.cons_append]
  gi_wp2
  gi_loopw [] (fun wr => RelL s B W.heap.size J wr) (fun wr => s.size - wr.iterPos W.heap.size)
  case atStart =>
    exact ⟨[], [], 0, by simp [posns_G], rfl, World.iter_heap W s 0, hBx.alloc _, hJ _ _ _ none h0 (World.grownBy_alloc W _ none) (by simp)⟩
  case round =>
    obtain ⟨d, pre, pos, hpp, hpre, hit, hbx, hj⟩ := hrel
    have hF : ∀ f, Fence.wide.fn f := fun _ => trivial
    by_cases hps : pos < s.size
    · have hnx : ∀ ty, (Instr.next (.pointer (some ⟨W.heap.size, 0, none⟩)) true ty).run Try.prog wr = _ := fun ty => Lib.run_next_any_at wr W.heap.size s pos ty hit hps
      rw [dec_eq s pos hps] at hnx
      have hit1 := Lib.iterAt_heap wr W.heap.size s pos (pos + wd s pos) hit
      have hlt : W.heap.size < wr.heap.size := (Array.getElem?_eq_some_iff.1 hit).1
      have hj1 : J pre (wr.iterAt W.heap.size s (pos + wd s pos)) := hJ _ _ _ _ hj (grown_iterAt wr W.heap.size s _) (fun r e => by cases e; exact ⟨Nat.le_refl _, _, hit, rfl⟩)
      have hbx1 : Boxed (wr.iterAt W.heap.size s (pos + wd s pos)) B 9 (.string s) := by
        refine (Lib.iterAt_other wr W.heap.size B s _ ?_).trans hbx
        intro e; rw [← e] at hit; rw [show wr.heap[B]? = _ from hbx] at hit; cases hit
      obtain ⟨P, hP⟩ : ∃ P, wr.iterAt W.heap.size s (pos + wd s pos) = P := ⟨_, rfl⟩
      have hmeas : s.size - (pos + wd s pos) < s.size - wr.iterPos W.heap.size := by
        have := wd_pos s pos
        simp only [World.iterPos, hit]; omega
      rw [hP] at hnx hit1 hj1 hbx1
      clear hP
      have hlen : pre.length < s.size := by
        have h1 := posns_len s
        have h2 := lpos_len s d
        have h3 : pre.length = (lpos s d).length := by rw [← hpre, List.length_map]
        rw [hpp, posG_cons s pos hps] at h1
        simp at h1; omega
      have hpp2 : posns s = (d ++ [pos]) ++ posG s (pos + wd s pos) := by rw [hpp, posG_cons s pos hps]; simp
      have HP := Lib.hid hpp2
      have HM := Lib.hid hmeas
      have cL := letter_any (rn s pos)
      cases hle : leB (rn s pos) with
      | true =>
        rw [hle] at cL
        have hpre2 : (pre ++ [(⟨pos, hps⟩ : Pos s)]).map (·.1) = lpos s (d ++ [pos]) := by rw [lpos_t hle, List.map_append, hpre]; rfl
        have HE := Lib.hid hpre2
        obtain ⟨fn, tmps, assign, body, hy, hR⟩ := hY pre ⟨pos, hps⟩ P hj1 hlen
        simp only [leA] at hy
        clear hpp hpp2 hmeas hit hj hbx hY hpre hpre2 hle
        gi_wp2_with (first | (gi_at_call 61; refine (callsIn_wide.2 (cL _)).mono ?_; rintro e w' ⟨rfl, rfl⟩))
        refine hR.mono ?_
        rintro e W' (⟨rfl, hJ', hk⟩ | ⟨rfl, hJx'⟩)
        · have h1 := hk.1.same _ _ hit1 rfl
          gi_wp2
          refine ⟨⟨d ++ [pos], pre ++ [⟨pos, hps⟩], pos + wd s pos, HP.out, HE.out, h1, hk.2.trans hbx1, hJ'⟩, ?_⟩
          have := HM.out
          simp only [World.iterPos, h1] at this ⊢
          exact this
        · gi_wp2
          refine bodyPost_ret (results_none rfl _ _ _) rfl ?_
          refine ⟨⟨_, rfl⟩, .inr ⟨_, ?_, hJx'⟩⟩
          rw [HE.out, HP.out, lpos_app s (d ++ [pos])]
          exact List.prefix_append _ _
      | false =>
        rw [hle] at cL
        have hpre2 : pre.map (·.1) = lpos s (d ++ [pos]) := by rw [lpos_f hle, hpre]
        have HE := Lib.hid hpre2
        clear hpp hpp2 hmeas hit hj hbx hY hpre hpre2 hle
        gi_wp2_with (first | (gi_at_call 61; refine (callsIn_wide.2 (cL _)).mono ?_; rintro e w' ⟨rfl, rfl⟩))
        refine ⟨⟨d ++ [pos], pre, pos + wd s pos, HP.out, HE.out, hit1, hbx1, hj1⟩, ?_⟩
        have := HM.out
        simp only [World.iterPos, hit1] at this ⊢
        exact this
    · have hnx : ∀ ty, (Instr.next (.pointer (some ⟨W.heap.size, 0, none⟩)) true ty).run Try.prog wr = _ := fun ty => Lib.run_next_end_at wr W.heap.size s pos ty hit hps
      rw [posG_end s pos (by omega), List.append_nil] at hpp
      have HP := Lib.hid hpp
      have HE := Lib.hid hpre
      clear hpp hpre
      gi_wp2
      go_end0
      exact ⟨⟨_, rfl⟩, .inl ⟨pre, by rw [HP.out]; exact HE.out, hj⟩⟩

set_option maxHeartbeats 400000 in
theorem letters_any (s : ByteArray) (w : World) :
    Calls Try.prog 48 #[.string s] w fun e w' => e = .returned (.func (.func 64) #[] #[.pointer (some ⟨w.heap.size, 0, none⟩)]) ∧ w' = w.alloc (.cells #[.string s] 9) := by
  go_enter Try.func48, Try.ntmps48
  go_wp2
  go_ret
  exact ⟨rfl, rfl⟩

theorem letters_stops (s : ByteArray) (hs : s.size ≤ 9223372036854775807) (B : Nat) (w : World) (hB : Boxed w B 9 (.string s)) :
    SeqStopsK Fence.wide 10 Try.prog 64 #[.pointer (some ⟨B, 0, none⟩)] (fun x : Pos s => leA s x.1) (KpB B) (fun xs => xs.map (·.1) = lpos s (posns s)) (fun pre => pre.map (·.1) <+: lpos s (posns s)) s.size w :=
  fun l J Jx W hW hJ _ hY h0 => letters1 l B s hs J Jx W hJ ((hW.block B hB.lt).trans hB) hY h0

/-- A loop 'for at, r := range class.Letters(s)'. -/
theorem range_letters {g : Operand} {q1 q2 : Tmp} {assign body : Code} {Q : Exit → Act → World → Prop} {a : Act} {w : World} (s : ByteArray) (hs : s.size ≤ 9223372036854775807) (B : Nat)
    (hB : Boxed w B 9 (.string s)) (hg : a.eval g = .func (.func 64) #[] #[.pointer (some ⟨B, 0, none⟩)])
    (I : List (Pos s) → World → Prop) (Ix : Code → List (Pos s) → World → Prop) (hI : OwnFrom w.heap.size I) (hIx : ∀ c, OwnFrom w.heap.size (Ix c)) (h0 : I [] w) (f : Pos s → Array Value → Array Value)
    (hassign : ∀ (l : Nat) (x : Pos s) (W : World) (K : Act → World → Prop), K { tmps := f x ((a.tmps.setIfInBounds q1 (.int .i64 x.1)).setIfInBounds q2 (.int .i32 (rn s x.1 : Nat))), defers := [] } W →
      assign.wpIn (Fence.wide.inRound l) 9 Try.prog (Exit.then K (fun _ _ _ => False)) { tmps := (a.tmps.setIfInBounds q1 (.int .i64 x.1)).setIfInBounds q2 (.int .i32 (rn s x.1 : Nat)), defers := [] } W)
    (hbody : ∀ (l : Nat) (pre : List (Pos s)) (x : Pos s) (W : World), I pre W → pre.length < s.size →
      body.wpIn (Fence.wide.inRound l) 9 Try.prog (ownPostG w.heap.size (KpB B) I Ix (pre ++ [x]) W) { tmps := f x ((a.tmps.setIfInBounds q1 (.int .i64 x.1)).setIfInBounds q2 (.int .i32 (rn s x.1 : Nat))), defers := [] } W)
    (hdone : ∀ (D : Nat) (xs : List (Pos s)) (W : World), w.heap.size ≤ D → xs.map (·.1) = lpos s (posns s) → I xs W → W.heap[D]? = some (.deferred (some [])) → Q .normal { a with defers := { target := .collected D, args := #[] } :: a.defers } W)
    (hstop : ∀ (D : Nat) (c : Code) (pre : List (Pos s)) (W : World), w.heap.size ≤ D → pre.map (·.1) <+: lpos s (posns s) → Ix c pre W → W.heap[D]? = some (.deferred (some [])) → c.wpIn Fence.wide 11 Try.prog Q { a with defers := { target := .collected D, args := #[] } :: a.defers } W) :
    (Code.rangeFunc g #[q1, q2] assign body).wpIn Fence.wide 11 Try.prog Q a w :=
  wpIn_rangeFunc_ownG_of_H (n := 11) rfl (by omega) (gf := 64) (lb := #[.pointer (some ⟨B, 0, none⟩)]) hg trivial (enters_of Try.func64 (by kernel_rfl) rfl)
    (letters_stops s hs B w hB) kpB_t (kpB_b hB.lt) (Below.refl _ _) (fun _ => rfl) I Ix hI hIx h0 (fun x => { tmps := f x ((a.tmps.setIfInBounds q1 (.int .i64 x.1)).setIfInBounds q2 (.int .i32 (rn s x.1 : Nat))), defers := [] })
    (fun l x W K hK => by
      have e0 : ((#[q1, q2].zip (leA s x.1)).foldl (fun t (p, v) => t.setIfInBounds p v) a.tmps) = (a.tmps.setIfInBounds q1 (.int .i64 x.1)).setIfInBounds q2 (.int .i32 (rn s x.1 : Nat)) := by simp [leA]
      rw [e0]; exact hassign l x W K hK)
    hbody hdone hstop (fun W => ⟨⟨Nat.le_refl _, fun _ _ h _ => h⟩, rfl⟩)
end Go.Proofs.Ytfnngcecfjlfeaa
