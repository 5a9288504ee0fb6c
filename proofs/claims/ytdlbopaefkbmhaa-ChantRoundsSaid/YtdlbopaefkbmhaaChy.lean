/- Stage 31: Scale, the program's. -/
import Derived.Test.YtdlbopaefkbmhaaChx
import Derived.WalkLawsBesides
namespace Go.Proofs.Ytdlbopaefkbmhaa
set_option linter.unusedVariables false
set_option linter.unusedSimpArgs false
open Go Go.RowKit Go.Shelf
set_option maxRecDepth 100000

theorem own_empty (w : World) (base : Nat) (hb : base ≤ w.heap.size) : (w.alloc (.cells #[] 37)).ownsRow base 37 6 (.slice (some ⟨w.heap.size, 0, none⟩) 0 0) 0 [] :=
  ⟨rfl, .inr ⟨w.heap.size, 0, #[], rfl, hb, World.alloc_heap_new w _, Nat.le_refl _, by unfold maxLen; omega, rfl, rfl⟩⟩
set_option maxHeartbeats 4000000 in
theorem clone_any (l : List Nt) (o : Option Addr) (cap : Nat) (hf : NForm o l.length cap) (hn : l.length ≤ 1048576) (w : World) (hr : RowAt w encN 6 o l) :
    Calls Try.prog 17 #[.slice o l.length cap] w fun e w' => ∃ v, e = .returned v ∧ w'.ownsRow w.heap.size 37 6 v l.length (l.flatMap encN) ∧ Below w.heap.size w w' := by
  obtain ⟨i0, hi, hz0, hz1, hz2⟩ := info_parts infoNote
  rcases hf with ⟨rfl, rfl, h0⟩ | ⟨a, rfl, h1, h2⟩
  · obtain rfl : l = [] := List.eq_nil_of_length_eq_zero h0
    have hnil : ∀ W, (binOp .eql 22 (.slice none 0 0) (.slice none 0 0)).run Try.prog W = .ok (.bool true) W := fun _ => by kernel_rfl
    simp only [List.length_nil]
    go_enter Try.func17, Try.ntmps17
    go_wp2
    go_ret
    exact ⟨_, rfl, World.ownsRow_nil _ _ _ _, Below.refl _ _⟩
  · have hnil : ∀ W, (binOp .eql 22 (.slice (some a) l.length cap) (.slice none 0 0)).run Try.prog W = .ok (.bool false) W := fun _ => by kernel_rfl
    have hB := (Below.refl w.heap.size w).alloc (Nat.le_refl _) (.cells #[] 37)
    have hown := own_empty w w.heap.size (Nat.le_refl _)
    have hnews := rowAt_news (hr.below encN_len (by decide) hB)
    go_enter Try.func17, Try.ntmps17
    go_wp2_with (at_builtin; refine wpList_append_own _ rfl _ _ 22 rfl w.heap.size 37 i0 (.agg #[.int .i64 0, .int .i64 0, .int .i64 0, .bool false, .float .f64 0, .float .f64 0]) 6 48 Try.underlying22 hi hz0 hz1 hz2 rfl (by decide) _ 0 [] rfl hown a l.length cap (l.flatMap encN) rfl (fl_len encN_len l) hnews (encN_one l) (by unfold maxLen; omega) (by omega) (by simp) ?_; intro v2 w2 hown2 hg2 _)
    go_ret
    exact ⟨v2, rfl, by simpa using hown2, hB.grown hg2 (by simp) (fun r hr => (hown.lt r hr).1)⟩

def okS (total r : Nat) : Bool := finB total && finB r && !flt total 0 && !(flt r 0 || feq r 0)
/-- A note scaled. -/
def ScN (q : Nat) (x y : Nt) : Prop := y.line = x.line ∧ y.beat = x.beat ∧ y.word = x.word ∧ y.strong = x.strong ∧ (∃ a, FIs .mul x.at' q a ∧ y.at' = plainF a) ∧ ∃ b, FIs .mul x.long q b ∧ y.long = plainF b
def ScOK (q : Nat) (l l' : List Nt) : Prop := l'.length = l.length ∧ ∀ (i : Nat) (x y : Nt), l[i]? = some x → l'[i]? = some y → ScN q x y
def ScPost (l : List Nt) (total : Nat) (w : World) (e : Ending) (w' : World) : Prop := ∃ r, LenIs l r ∧ ((okS total r = false ∧ e = .returned (.tuple #[.slice none 0 0, .int .i64 2])) ∨
  (okS total r = true ∧ ∃ q v l', FIs .quo total r q ∧ ScOK q l l' ∧ e = .returned (.tuple #[v, .int .i64 0]) ∧ w'.ownsRow w.heap.size 37 6 v l.length (l'.flatMap encN))) ∧ Below w.heap.size w w'

theorem set_two (done rest : List Nt) (x : Nt) (a b : Nat) : (((done ++ x :: rest).flatMap encN).set (done.length * 6 + 4) (.float .f64 a)).set (done.length * 6 + 5) (.float .f64 b) = (done ++ { x with at' := a, long := b } :: rest).flatMap encN := by
  rw [List.flatMap_append, List.flatMap_append, List.flatMap_cons, List.flatMap_cons]
  have hl : (done.flatMap encN).length = done.length * 6 := fl_len encN_len done
  rw [List.set_append_right _ _ (by omega), List.set_append_right _ _ (by omega), hl]
  rw [show done.length * 6 + 4 - done.length * 6 = 4 by omega, show done.length * 6 + 5 - done.length * 6 = 5 by omega]
  rfl
def ScG (w : World) (n g c nb : Nat) (cs : Array Value) (xs : List Value) (X : World) : Prop := X.ownsRow w.heap.size 37 6 (.slice (some ⟨g, 0, none⟩) n c) n xs ∧ Blk X nb cs 37 ∧ Below w.heap.size w X
theorem ScG.drewN {w : World} {n g c nb : Nat} {cs : Array Value} {xs : List Value} {X : World} (h : ScG w n g c nb cs xs X) (k : Nat) : ScG w n g c nb cs xs (X.drewN k) :=
  ⟨h.1, h.2.1, ⟨h.2.2.os, h.2.2.tape, h.2.2.output, h.2.2.size, h.2.2.block⟩⟩
theorem ScG.set {w : World} {n g c nb : Nat} {cs : Array Value} {xs : List Value} {X : World} (h : ScG w n g c nb cs xs X) (hne : nb ≠ g) (j : Nat) (v : Value) : ScG w n g c nb cs (xs.set j v) (X.setCell ⟨g, j, none⟩ v) :=
  ⟨(h.1.stored j v).1, h.2.1.other hne j v, h.2.2.setCell (p := ⟨g, j, none⟩) (h.1.lt g rfl).1 v⟩
theorem ScG.cell {w : World} {n g c nb j : Nat} {cs : Array Value} {xs : List Value} {X : World} (h : ScG w n g c nb cs xs X) (hj : j < n * 6) : ∃ u, X.cell? ⟨g, j, none⟩ = some u := by
  obtain ⟨u, hu⟩ := own_has h.1 hj
  exact ⟨u, (h.1.cellAt j hj).trans hu⟩

theorem own_base {w : World} {b b' n sz : Nat} {e : TypeId} {v : Value} {xs : List Value} (h : w.ownsRow b e sz v n xs) (hb : b' ≤ b) : w.ownsRow b' e sz v n xs :=
  ⟨h.1, h.2.imp id (fun ⟨g, c, cur, a1, a2, a3⟩ => ⟨g, c, cur, a1, Nat.le_trans hb a2, a3⟩)⟩
def ScI (l : List Nt) (q : Nat) (v : Value) (w : World) (i : Value) (wr : World) : Prop := ∃ (k : Nat) (done : List Nt), i = .int .i64 k ∧ k ≤ l.length ∧ ScOK q (l.take k) done ∧ wr.ownsRow w.heap.size 37 6 v l.length ((done ++ l.drop k).flatMap encN) ∧ Below w.heap.size w wr
theorem ScOK.snoc {q k : Nat} {l done : List Nt} {x y : Nt} (h : ScOK q (l.take k) done) (hx : l[k]? = some x) (hs : ScN q x y) : ScOK q (l.take (k + 1)) (done ++ [y]) := by
  have hk : k < l.length := (List.getElem?_eq_some_iff.1 hx).1
  have hd : done.length = k := by rw [h.1]; simp; omega
  refine ⟨by simp [hd]; omega, fun i a b ha hb => ?_⟩
  by_cases hi : i < k
  · rw [List.getElem?_append_left (by omega)] at hb
    refine h.2 i a b ?_ hb
    rw [List.getElem?_take, if_pos hi]
    rw [List.getElem?_take, if_pos (by omega)] at ha
    exact ha
  · have : i < (done ++ [y]).length := (List.getElem?_eq_some_iff.1 hb).1
    simp at this
    obtain rfl : i = k := by omega
    rw [List.getElem?_append_right (by omega), hd] at hb
    simp at hb
    subst hb
    rw [List.getElem?_take, if_pos (by omega), hx] at ha
    cases ha
    exact hs

end Go.Proofs.Ytdlbopaefkbmhaa
