/- A region that draws its order, in a round of a range over a function: what holds outside of rounds holds there too, of operations that defer nothing. -/
import Derived.WalkKit
import Derived.StillTailTactics
import Derived.OrdersIn
import Derived.OrdersHeld
import Derived.TacticsIn
import Derived.TacticsInMore
import Derived.RangeFuncCalls
import Derived.RangeFuncWrites
namespace Go.Proofs.YtjccoiephdopkaaDoor
set_option linter.unusedVariables false
set_option linter.unusedSimpArgs false
open Go

/-- No operation defers a call. -/
def noDefer (ops : List Oper) : Bool := ops.all fun o => match o.op with | .defer _ => false | _ => true
theorem noDefer_at {ops : List Oper} (h : noDefer ops = true) {i : Nat} {o : Oper} (ho : ops[i]? = some o) : ∀ c, o.op ≠ .defer c := by
  intro c hc
  have := (List.all_eq_true.1 h) o (List.mem_of_getElem? ho)
  rw [hc] at this
  cases this

theorem comes_wide {l : Nat} {P : Program} {m m' : Machine} {e : Ending} (h : Comes P m m' e) : ComesIn (Machine.fenced P (Fence.wide.inRound l)) P m m' e := comesIn_wide.2 h

theorem rows_wide {l n : Nat} {P : Program} {row : String} {args : Array Value} {w : World} {R : Value → World → Prop} (h : Rows P row args w R) : RowsIn (Fence.wide.inRound l) n P row args w R :=
  fun c cs _ => let ⟨v, w', r, s⟩ := h c cs; ⟨v, w', r, stepsIn_wide.2 s⟩

theorem oper_round {l n : Nat} {P : Program} {o : Oper} {a : Act} {w : World} {K : Act → World → Prop} {Q : Exit → Act → World → Prop} (ho : ∀ c, o.op ≠ .defer c)
    (h : o.wp P a w K Q) : o.wpIn (Fence.wide.inRound l) n P a w K Q := by
  refine ⟨fun _ _ => trivial, ?_⟩
  rw [show (Fence.wide.inRound l).round = some l from rfl, Oper.semAt_some l _ _ ho]
  have h' : o.upon P a K Q ((execOp a.eval o).run P w) := h
  generalize (execOp a.eval o).run P w = r at h' ⊢
  have hd : (Fence.wide.inRound l).depth.isSome = true → 1 ≤ n := fun hh => by cases hh
  match r, h' with
  | .ok (.value v) w', h' => exact h'
  | .ok .skip w', h' => exact h'
  | .ok (.defer d) w', h' => exact h'
  | .ok (.enter f args) w', h' => exact ⟨hd, CallsIn.inRound l (callsIn_wide.2 h')⟩
  | .ok (.row row args) w', h' => exact ⟨hd, rows_wide h'⟩
  | .halt (.panic v) w', h' => exact h'

theorem wpOp_round {l n : Nat} {P : Program} {ops : List Oper} {i : Nat} {a : Act} {w : World} {K K' : Act → World → Prop} {Q : Exit → Act → World → Prop} (hnd : noDefer ops = true) (hQ : ¬ LetsOut Q) (hK : ∀ a w, K a w → K' a w)
    (h : wpOp P ops.toArray Q i K a w) : wpOpIn (Fence.wide.inRound l) n P ops.toArray Q i K' a w := by
  unfold wpOp at h
  unfold wpOpIn
  cases hi : ops.toArray[i]? with
  | none => rw [hi] at h; exact hK _ _ h
  | some o =>
    rw [hi] at h
    have ho := noDefer_at hnd (i := i) (o := o) (by simpa using hi)
    simp only at h ⊢
    split
    · rename_i hw
      rw [if_pos hw] at h
      rcases h with h | h
      · exact oper_round ho (Oper.wp_mono hK h)
      · exact absurd h.2 hQ
    · rename_i hw
      rw [if_neg hw] at h
      exact ⟨fun _ _ => trivial, hK _ _ h⟩

theorem wpAny_round {l n : Nat} {P : Program} {md : Region.Mode} {ops : List Oper} {Q : Exit → Act → World → Prop} (hnd : noDefer ops = true) (hQ : ¬ LetsOut Q) :
    ∀ (fuel : Nat) (listed : Array Bool) (a : Act) (w : World), wpAny P md ops.toArray Q fuel listed a w → wpAnyIn (Fence.wide.inRound l) n P md ops.toArray Q fuel listed a w := by
  intro fuel
  induction fuel with
  | zero => intro listed a w h; exact h
  | succ fuel ih =>
    intro listed a w h
    exact ⟨h.1, fun i hi => wpOp_round hnd hQ (fun a w hh => ih _ a w hh) (h.2 i hi)⟩

/-- Reads ahead of a tail whose order is one, in a round. -/
theorem round_still_tail {l' nn : Nat} {P : Program} {id : Nat} {Q : Exit → Act → World → Prop} {a : Act} {w : World} {ops : List Oper} (n : Nat) (hm : P.follows .mixedOrders = true) (hB : Region.lexTailB .any ops.toArray n = true) (hnd : noDefer ops = true) (hQ : ¬ LetsOut Q)
    (h : wpStill P ops.toArray w.drew (fun a' => wpList P ops.toArray Q (ops.drop n) a' w.drew) (ops.take n) a) : (Code.region id ops.toArray true).wpIn (Fence.wide.inRound l') nn P Q a w := by
  have hB' := hB
  simp only [Region.lexTailB, Bool.and_eq_true, decide_eq_true_eq] at hB'
  obtain ⟨⟨⟨⟨hsel, hn⟩, hs⟩, hc⟩, hlex⟩ := hB'
  have hsz : n < ops.length := by simpa using hn
  have ht : (ops.take n).length = n := by rw [List.length_take]; omega
  have hd : (ops.drop n).length = ops.toArray.size - n := by rw [List.length_drop]; rfl
  have i0 : HeadInv .any ops.toArray n (Array.replicate ops.toArray.size false) :=
    ⟨by simp, fun j oj _ hl => absurd hl (by rw [getD_replicate_false]; simp), fun t _ hx => getD_in (by simpa using hx) (getD_replicate_false _ _)⟩
  have hL := wpAnyL_lex (P := P) (md := .any) (g := ops.toArray.size - n) hsel hs hc hn (ops.take n) 0 (Array.replicate ops.toArray.size false) a
    (fun j hj => by rw [ht] at hj; simp [List.getElem?_take, hj]) (by omega) i0 (by rw [ht]; exact hlex) h
  have hA := wpAny_of_head (P := P) (Q' := Q) (g := ops.toArray.size - n) (fun listed a' hx => by
    have := wpAny_of_seq (P := P) (md := .any) (Q' := Q) (ops.drop n) n listed a' w.drew (fun j => by simp [List.getElem?_drop]) (by rw [hd]; exact hx.1) hx.2
    rw [hd] at this
    exact this) _ _ _ hL
  rw [ht, Nat.add_sub_of_le (Nat.le_of_lt hn)] at hA
  exact wpIn_region_any hm (wpAny_round hnd hQ _ _ _ _ hA)

/-- Under one condition on the world, in a round. -/
theorem round_held {l nn : Nat} {P : Program} {id : Nat} {Q : Exit → Act → World → Prop} {a : Act} {w : World} {ops : List Oper} {S : World → Prop} (hm : P.follows .mixedOrders = true) (hnd : noDefer ops = true) (hQ : ¬ LetsOut Q) (hS : S w.drew)
    (h : S w.drew → wpAnyH P .any ops.toArray Q S ops.toArray.size (Array.replicate ops.toArray.size false) a w.drew) : (Code.region id ops.toArray true).wpIn (Fence.wide.inRound l) nn P Q a w :=
  wpIn_region_any hm (wpAny_round hnd hQ _ _ _ _ (wpAny_of_held _ _ _ _ (h hS)))

/-- Operations in order, in a round. -/
theorem round_list {l nn : Nat} {P : Program} {Q : Exit → Act → World → Prop} {ops : Array Oper} (hQ : ¬ LetsOut Q) : ∀ (os : List Oper) (a : Act) (w : World), noDefer os = true →
    wpList P ops Q os a w → wpListIn (Fence.wide.inRound l) nn P ops Q os a w := by
  intro os
  induction os with
  | nil => intro a w _ h; exact h
  | cons o os ih =>
    intro a w hnd h
    have ho : ∀ c, o.op ≠ .defer c := noDefer_at hnd (i := 0) rfl
    have hr : noDefer os = true := by
      unfold noDefer at hnd ⊢
      rw [List.all_cons, Bool.and_eq_true] at hnd
      exact hnd.2
    unfold wpList at h
    unfold wpListIn
    split
    · rename_i hw
      rw [if_pos hw] at h
      rcases h with h | h
      · exact oper_round ho (Oper.wp_mono (fun a w hh => ih a w hr hh) h)
      · exact absurd h.2 hQ
    · rename_i hw
      rw [if_neg hw] at h
      exact ⟨fun _ _ => trivial, ih _ _ hr h⟩

theorem outG {α : Type} {B : Nat} {Kp : World → World → Prop} {I : List α → World → Prop} {Ix : Code → List α → World → Prop} {xs : List α} {W : World} : ∀ a w, ¬ ownPostG B Kp I Ix xs W .outgrown a w := fun _ _ h => h
theorem noOut_then {K : Act → World → Prop} {Q : Exit → Act → World → Prop} (h : ∀ a w, ¬ Q .outgrown a w) : ¬ LetsOut (Exit.then K Q) := fun ⟨a, w, hh⟩ => h a w hh
theorem noOut {Q : Exit → Act → World → Prop} (h : ∀ a w, ¬ Q .outgrown a w) : ¬ LetsOut Q := fun ⟨a, w, hh⟩ => h a w hh
end Go.Proofs.YtjccoiephdopkaaDoor
