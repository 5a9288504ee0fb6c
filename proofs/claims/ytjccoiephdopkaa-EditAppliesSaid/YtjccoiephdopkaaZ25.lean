/- Several texts in one. -/
import Derived.Test.YtjccoiephdopkaaZ16
import Derived.Test.YtjccoiephdopkaaZ12
import Derived.Test.YtjccoiephdopkaaZ24
import Derived.Deep.CutRange
import Derived.Test.YtjccoiephdopkaaZ23
import Derived.Test.YtjccoiephdopkaaZ09
/- Stage 27: the document's Between. -/
namespace Go.Proofs.Ytjccoiephdopkaa
set_option linter.unusedVariables false
set_option linter.unusedSimpArgs false
open Go Go.RowKit Go.Shelf
set_option maxRecDepth 100000

/-- One maker of the document's. -/
def E1 (w0 : World) (B b : Nat) (W : World) (A : List Atm) : Prop := ∃ v, DkA W B b v A ∧ w0.heap.size ≤ B ∧ Below w0.heap.size w0 W
section
variable {w0 W X : World} {B b : Nat} {A : List Atm}
theorem E1.below (h : E1 w0 B b W A) (hb : Below W.heap.size W X) : E1 w0 B b X A := by
  obtain ⟨v, h1, h2, h3⟩ := h
  exact ⟨v, h1.below hb, h2, h3.trans (hb.mono h3.size)⟩
theorem e1_keep (h : E1 w0 B b W A) (n : Nat) (hn : n ≤ 1000000) (hA : A.length ≤ 900000) :
    Calls Try.prog 23 #[.pointer (some ⟨B, 0, none⟩), .int .i64 n] W fun e W' => e = .returned (.tuple #[]) ∧ E1 w0 B b W' (A ++ List.replicate n .K) := by
  obtain ⟨v, h1, h2, h3⟩ := h
  refine (dka_keep h1 n hn hA).mono ?_
  rintro e W' ⟨rfl, v', g1, g2⟩
  exact ⟨rfl, v', g1, h2, g2.belowK h1 h2 h3⟩
theorem e1_end (h : E1 w0 B b W A) (hA : A.length ≤ 900000) :
    Calls Try.prog 24 #[.pointer (some ⟨B, 0, none⟩)] W fun e W' => e = .returned (.tuple #[]) ∧ ∃ v, W'.cell? ⟨B, 0, none⟩ = some v ∧ W'.ownsRow w0.heap.size 54 3 v (nfA A).length ((nfA A).flatMap encS) ∧ Below w0.heap.size w0 W' := by
  obtain ⟨v, h1, h2, h3⟩ := h
  refine (dka_end h1 hA).mono ?_
  rintro e W' ⟨rfl, v', g1, g2⟩
  exact ⟨rfl, v', (DkB.cells g1).1, own_base (DkB.ro g1) (by have := DkB.bb g1; omega), g2.belowK h1 h2 h3⟩
theorem E1.new {w0 W : World} (h : Below w0.heap.size w0 W) : E1 w0 W.heap.size (W.heap.size + 1) (W.alloc (.cells #[.slice none 0 0, .string .empty, .string .empty] 56)) [] :=
  ⟨.slice none 0 0, ⟨Blk.new W _ _, World.ownsRow_nil _ _ _ _, by omega, by simp⟩, h.size, h.trans (((Below.refl W.heap.size W).alloc (Nat.le_refl _) _).mono h.size)⟩
theorem keep_emp (p : Nat) : (fdL (List.replicate p .K) mk0).put = .empty ∧ (fdL (List.replicate p .K) mk0).drop = .empty := by
  rw [← keep_fd, keepM_no (by decide)]
  exact ⟨rfl, rfl⟩
theorem emp_app (s : ByteArray) : ByteArray.empty ++ s = s := by apply bL_inj; rw [bL_app, bL_emp, List.nil_append]
/-- What is put and dropped is laid into it whole. -/
theorem E1.both {p : Nat} (h : E1 w0 B b W (List.replicate p .K)) (x y : ByteArray) : E1 w0 B b ((W.setCell ⟨B, 1, none⟩ (.string x)).setCell ⟨B, 2, none⟩ (.string y)) (List.replicate p .K ++ (bL x).map .P ++ (bL y).map .D) := by
  obtain ⟨v, h1, h2, h3⟩ := h
  obtain ⟨k1, k2⟩ := keep_emp p
  obtain ⟨e1, e2, e3⟩ := row_put x (fdL (List.replicate p .K) mk0)
  rw [puts_fd, ← fdL_app] at e1 e2 e3
  obtain ⟨f1, f2, f3⟩ := row_drop y (fdL (List.replicate p .K ++ (bL x).map .P) mk0)
  rw [drops_fd, ← fdL_app] at f1 f2 f3
  have g1 : DkB (W.setCell ⟨B, 1, none⟩ (.string x)) B b v (rowM (fdL (List.replicate p .K) mk0)).out x (fdL (List.replicate p .K) mk0).drop := DkB.setP h1 x
  have g2 := DkB.setD g1 y
  refine ⟨v, ?_, h2, (KpD.set g1 2 (.string y)).belowK g1 h2 ((KpD.set h1 1 (.string x)).belowK h1 h2 h3)⟩
  unfold DkA
  rw [f1, f2, f3, e1, e2, e3, k1, k2, emp_app, emp_app]
  exact g2
theorem E1.both2 {p : Nat} (h : E1 w0 B b W (List.replicate p .K)) (x y : ByteArray) : E1 w0 B b ((W.setCell ⟨B, 2, none⟩ (.string y)).setCell ⟨B, 1, none⟩ (.string x)) (List.replicate p .K ++ (bL x).map .P ++ (bL y).map .D) := by
  obtain ⟨v, h1, h2, h3⟩ := h
  obtain ⟨k1, k2⟩ := keep_emp p
  obtain ⟨e1, e2, e3⟩ := row_put x (fdL (List.replicate p .K) mk0)
  rw [puts_fd, ← fdL_app] at e1 e2 e3
  obtain ⟨f1, f2, f3⟩ := row_drop y (fdL (List.replicate p .K ++ (bL x).map .P) mk0)
  rw [drops_fd, ← fdL_app] at f1 f2 f3
  have g1 : DkB (W.setCell ⟨B, 2, none⟩ (.string y)) B b v (rowM (fdL (List.replicate p .K) mk0)).out (fdL (List.replicate p .K) mk0).put y := DkB.setD h1 y
  have g2 := DkB.setP g1 x
  refine ⟨v, ?_, h2, (KpD.set g1 1 (.string x)).belowK g1 h2 ((KpD.set h1 2 (.string y)).belowK h1 h2 h3)⟩
  unfold DkA
  rw [f1, f2, f3, e1, e2, e3, k1, k2, emp_app, emp_app]
  exact g2
theorem E1.fro (h : E1 w0 B b W A) : W.frozen? ⟨B, 1, none⟩ = false ∧ W.frozen? ⟨B, 2, none⟩ = false ∧ ∃ x y, W.cell? ⟨B, 1, none⟩ = some x ∧ W.cell? ⟨B, 2, none⟩ = some y := by
  obtain ⟨v, h1, _⟩ := h
  exact ⟨DkB.blk h1 |>.frozen 1, DkB.blk h1 |>.frozen 2, _, _, (DkB.cells h1).2.1, (DkB.cells h1).2.2⟩
end

def encQ (s : ByteArray) (i : Nat) : List Value := [.int .i64 i, .int .i64 (wd s i : Nat), .int .i32 (rn s i : Nat), .bool (bk s i)]
theorem q_get {s : ByteArray} {W : World} {o : Option Addr} {L : List Nat} {q x : Nat} (h : RowAt W (encQ s) 4 o L) (hq : L[q]? = some x) : ∃ g off, o = some ⟨g, off, none⟩ ∧ ∀ X, Below W.heap.size W X → X.cell? ⟨g, off + q * 4, none⟩ = some (.int .i64 x) ∧ X.cell? ⟨g, off + q * 4 + 1, none⟩ = some (.int .i64 (wd s x : Nat)) := by
  obtain ⟨g, off, e, hc⟩ := h q x hq
  have h0 := hc 0 (by decide)
  have h1 := hc 1 (by decide)
  rw [Nat.add_zero] at h0
  exact ⟨g, off, e, fun X hX => ⟨at_below h0 hX, at_below h1 hX⟩⟩
theorem lk_eg {s t : ByteArray} {p n : Nat} (h : SQ.Lk s t p n) : Eg s n p := by
  obtain ⟨h1, h2, pre, h3, h4, h5, h6⟩ := h
  refine ⟨h1, by rw [h4]; simp [h3], ?_⟩
  rw [h4, ← h3, List.drop_left]
theorem lk_head {s t : ByteArray} {p n : Nat} (h : SQ.Lk s t p n) (hn : 0 < n) : ∃ x, (posns s)[n - 1]? = some x ∧ x + wd s x = p := by
  obtain ⟨m, rfl⟩ : ∃ m, n = m + 1 := ⟨n - 1, by omega⟩
  obtain ⟨x, h1, h2, h3, h4⟩ := eg_prev (lk_eg h)
  exact ⟨x, h1, h3⟩
theorem lk_zero {s t : ByteArray} {p n : Nat} (h : SQ.Lk s t p n) (hn : ¬ 0 < n) : p = 0 := by
  obtain rfl : n = 0 := by omega
  exact eg_zero (lk_eg h)

def BeD (s t : ByteArray) (w : World) (e : Ending) (w' : World) : Prop :=
  ∃ p M v, BnK s t p M ∧ e = .returned v ∧ w'.ownsRow w.heap.size 54 3 v (nfA (bnA s t p M)).length ((nfA (bnA s t p M)).flatMap encS) ∧ Below w.heap.size w w'
/-- May one go on at the head? -/
def GoH (s t : ByteArray) (p n : Nat) (b : Bool) : Prop := (b = true ∧ p < s.size ∧ p < t.size ∧ SQ.wt s p = SQ.wt t p) ∨ (b = false ∧ SQ.St s t p)
/-- May one go on at the tail? -/
def GoT (s t : ByteArray) (i j : Nat) (b : Bool) : Prop := (b = true ∧ ∃ i0 j0 p q, i = i0 + 1 ∧ j = j0 + 1 ∧ (posns s)[i0]? = some p ∧ (posns t)[j0]? = some q ∧ smeB s t p q = true) ∨ (b = false ∧ bkN s t i j = 0)
def HdR (s t : ByteArray) (W0 : World) (v : Value) (wr : World) : Prop := ∃ n p, v = .int .i64 (n : Nat) ∧ SQ.Lk s t p n ∧ Below W0.heap.size W0 wr
def TlR (s t : ByteArray) (n M : Nat) (W0 : World) (v1 v2 : Value) (wr : World) : Prop :=
  ∃ i j q r m : Nat, v1 = .int .i64 ((n + i : Nat) : Int) ∧ v2 = .int .i64 ((n + j : Nat) : Int) ∧ Eg s i q ∧ Eg t j r ∧ q + m = s.size ∧ r + m = t.size ∧ M = m + bkN s t i j ∧ Below W0.heap.size W0 wr

end Go.Proofs.Ytjccoiephdopkaa

/- Stage 27: the document's Whole: mathematics of its loops. -/
namespace Go.Proofs.Ytjccoiephdopkaa
set_option linter.unusedVariables false
set_option linter.unusedSimpArgs false
open Go Go.RowKit Go.Shelf
set_option maxRecDepth 100000

theorem infoInt27 : (Try.prog.info? 3).map (fun i => (i.zero, i.size, i.bytes)) = some (some (.int .i64 0), 1, 8) := by kernel_rfl
theorem make_ints (w : World) (n : Nat) (h : n ≤ 1000000) : (Instr.makeSlice 75 (.int .i64 (n : Int)) (.int .i64 (n : Int))).run Try.prog w = .ok (.slice (some ⟨w.heap.size, 0, none⟩) n n) (w.alloc (.cells (madeCells #[.int .i64 0] n) 3)) := by
  obtain ⟨i0, hi, hz0, hz1, hz2⟩ := info_parts infoInt27
  have := run_make (P := Try.prog) w 75 3 i0 (.int .i64 0) Try.underlying75 hi hz0 .i64 .i64 n n (by omega) (by omega) (by rw [hz2]; omega) (by omega)
  rw [hz1, Nat.mul_one] at this
  exact this
theorem rowI0 (X : World) (b F : Nat) (hb : b ≤ X.heap.size) (hF : F ≤ 65536) : (X.alloc (.cells (madeCells #[.int .i64 0] F) 3)).ownsRow b 3 1 (.slice (some ⟨X.heap.size, 0, none⟩) F F) F (List.replicate F (.int .i64 0)) := by
  have h := World.ownsRow_lit (base := b) (e := 3) (size := 1) X (madeCells #[.int .i64 0] F) F hb (by unfold maxLen; omega) (by rw [size_madeCells]; omega)
  rw [made_one] at h
  exact h
def encG : Option Nat → List Value
  | none => [.int .i64 (-1)]
  | some g => [.int .i64 g]
theorem encG_len (x : Option Nat) : (encG x).length = 1 := by cases x <;> rfl
theorem encG_flat (G : List (Option Nat)) : (G.flatMap encG).length = G.length := by
  induction G with
  | nil => rfl
  | cons x G ih => rw [List.flatMap_cons, List.length_append, encG_len, ih, List.length_cons]; omega
theorem set_at {xs ys : List Value} {p : Nat} {v u : Value} (h : xs.length = p) : (xs ++ u :: ys).set p v = xs ++ v :: ys := by
  subst h
  rw [List.set_append_right _ _ (Nat.le_refl _), Nat.sub_self]; rfl
theorem rep_cons {F p : Nat} (h : p < F) (z : Value) : List.replicate (F - p) z = z :: List.replicate (F - (p + 1)) z := by
  rw [show F - p = (F - (p + 1)) + 1 by omega, List.replicate_succ]
/-- The row as it is being filled. -/
def GoesB (W : World) (b g F : Nat) (G : List (Option Nat)) (u : List Value) : Prop :=
  W.ownsRow b 3 1 (.slice (some ⟨g, 0, none⟩) F F) F (G.flatMap encG ++ u)
theorem GoesB.set {W : World} {b g F p : Nat} {G : List (Option Nat)} {u : Value} {us : List Value} (h : GoesB W b g F G (u :: us)) (hp : G.length = p) (hF : p < F) (v : Value) : GoesB (W.setCell ⟨g, p, none⟩ v) b g F G (v :: us) := by
  have h1 := own_setK h (o := p) (by omega) v
  rw [set_at (by rw [encG_flat]; exact hp)] at h1
  exact h1
theorem GoesB.cell {W : World} {b g F p : Nat} {G : List (Option Nat)} {u : Value} {us : List Value} (h : GoesB W b g F G (u :: us)) (hp : G.length = p) (hF : p < F) : W.cell? ⟨g, p, none⟩ = some u ∧ W.frozen? ⟨g, p, none⟩ = false := by
  refine ⟨?_, own_freeK h p⟩
  rw [World.ownsRow.cellAt h p (by omega), List.getElem?_append_right (by rw [encG_flat]; omega), encG_flat, hp, Nat.sub_self]
  rfl
theorem GoesB.snoc {W : World} {b g F : Nat} {G : List (Option Nat)} {u : Option Nat} {us : List Value} {v : Value} (h : GoesB W b g F G (v :: us)) (hv : encG u = [v]) : GoesB W b g F (G ++ [u]) us := by
  unfold GoesB at h ⊢
  rw [List.flatMap_append]
  simp only [List.flatMap_cons, List.flatMap_nil, hv, List.append_nil, List.append_assoc, List.cons_append, List.nil_append]
  exact h
theorem gsA_Ps (l : List UInt8) : ∀ t, gsA (l.map .P) t = [] := by
  induction l with
  | nil => intro t; rfl
  | cons c l ih => intro t; exact ih (t + 1)
/-- How the first loop stands. -/
structure GoP (gs : List (Option Nat)) (x : Sd) (F p at' : Nat) (G : List (Option Nat)) : Prop where
  le : p ≤ F
  len : G.length = p
  eq : gs = G ++ gsA (frR x F p) at'
  sz : at' + outA (frR x F p) ≤ 65536
/-- Behind the puts. -/
structure GoQ (gs : List (Option Nat)) (x : Sd) (F p at' : Nat) (G : List (Option Nat)) : Prop where
  eq : gs = G ++ gsA (pD x.D x.B p :: frR x F (p + 1)) at'
  sz : at' + outA (pD x.D x.B p :: frR x F (p + 1)) ≤ 65536
theorem go_put {gs : List (Option Nat)} {x : Sd} {F p at' : Nat} {G : List (Option Nat)} {y : ByteArray} (h : GoP gs x F p at' G) (hp : p < F) (hy : x.P[p]? = some y) : GoQ gs x F p (at' + y.size) G ∧ at' + y.size ≤ 65536 := by
  obtain ⟨h0, h1, h2, h3⟩ := h
  rw [frR_lt hp hy] at h2 h3
  rw [gsA_app, gsA_Ps, List.nil_append, (in_map_P _).2, bL_len] at h2
  rw [outA_append, (in_map_P _).2, bL_len] at h3
  exact ⟨⟨h2, by omega⟩, by omega⟩
theorem go_keep {gs : List (Option Nat)} {x : Sd} {F p at' : Nat} {G : List (Option Nat)} (h : GoQ gs x F p at' G) (hl : G.length = p) (hp : p < F) (hd : x.D[p]? = some false) : GoP gs x F (p + 1) (at' + 1) (G ++ [some at']) ∧ at' + 1 ≤ 65536 := by
  obtain ⟨h2, h3⟩ := h
  rw [pD_no hd] at h2 h3
  rw [gsA] at h2
  rw [outA] at h3
  exact ⟨⟨hp, by rw [List.length_append, hl]; rfl, by rw [h2]; simp, by omega⟩, by omega⟩
theorem go_drop {gs : List (Option Nat)} {x : Sd} {F p at' : Nat} {G : List (Option Nat)} {c : UInt8} (h : GoQ gs x F p at' G) (hl : G.length = p) (hp : p < F) (hd : x.D[p]? = some true) (hc : x.B[p]? = some c) : GoP gs x F (p + 1) at' (G ++ [none]) := by
  obtain ⟨h2, h3⟩ := h
  rw [pD_yes hd hc] at h2 h3
  rw [gsA] at h2
  rw [outA] at h3
  exact ⟨hp, by rw [List.length_append, hl]; rfl, by rw [h2]; simp, by omega⟩
theorem go_fin {gs : List (Option Nat)} {x : Sd} {F at' : Nat} {G : List (Option Nat)} {y : ByteArray} (h : GoP gs x F F at' G) (hy : x.P[F]? = some y) : gs = G := by
  have h2 := h.eq
  rw [frR_eq hy, gsA_Ps, List.append_nil] at h2
  exact h2
/-- Are the bytes of a piece kept side by side, so far? -/
def rB (gs : List (Option Nat)) (p n : Nat) : Bool := (rgt gs p n).isSome
theorem rB_yes {gs : List (Option Nat)} {p n : Nat} (hn : 0 < n) : rB gs p n = true ↔ ∃ g, ∀ q, q < n → gs[p + q]? = some (some (g + q)) := by
  unfold rB
  rw [Option.isSome_iff_exists]
  constructor
  · rintro ⟨g, h⟩; exact ⟨g, (rgt_some hn).1 h⟩
  · rintro ⟨g, h⟩; exact ⟨g, (rgt_some hn).2 h⟩
theorem rB_one {gs : List (Option Nat)} {p : Nat} {u : Option Nat} (h : gs[p]? = some u) : rB gs p 1 = u.isSome := by
  cases u with
  | none =>
    show _ = false
    rw [← Bool.not_eq_true, rB_yes (by decide)]
    rintro ⟨g, hg⟩
    have := hg 0 (by decide)
    rw [Nat.add_zero, h] at this
    cases this
  | some g =>
    show _ = true
    rw [rB_yes (by decide)]
    refine ⟨g, fun q hq => ?_⟩
    obtain rfl : q = 0 := by omega
    exact h
theorem rB_next_no {gs : List (Option Nat)} {p n : Nat} (hn : 0 < n) (h : rB gs p n = false) : rB gs p (n + 1) = false := by
  rw [← Bool.not_eq_true] at h ⊢
  rw [rB_yes hn] at h
  rw [rB_yes (by omega)]
  rintro ⟨g, hg⟩
  exact h ⟨g, fun q hq => hg q (by omega)⟩
theorem rB_next {gs : List (Option Nat)} {p n : Nat} (hn : 0 < n) (h : rB gs p n = true) : ∃ g, gs[p]? = some (some g) ∧ (∀ u, gs[p + n]? = some u → rB gs p (n + 1) = decide (u = some (g + n))) := by
  rw [rB_yes hn] at h
  obtain ⟨g, hg⟩ := h
  have h0 := hg 0 hn
  rw [Nat.add_zero, Nat.add_zero] at h0
  refine ⟨g, h0, fun u hu => ?_⟩
  rw [Bool.eq_iff_iff, decide_eq_true_iff, rB_yes (by omega)]
  constructor
  · rintro ⟨g2, h2⟩
    have a := h2 0 (by omega)
    rw [Nat.add_zero, Nat.add_zero, h0] at a
    cases a
    have b := h2 n (by omega)
    rw [hu] at b
    cases b; rfl
  · rintro rfl
    refine ⟨g, fun q hq => ?_⟩
    by_cases e : q = n
    · subst e; exact hu
    · exact hg q (by omega)
theorem rB_tk {s t : ByteArray} {gs : List (Option Nat)} {p : Nat} (h : rB gs p (wd s p) = false) : tkW s t gs p = none := by
  unfold tkW
  unfold rB at h
  cases hr : rgt gs p (wd s p) with
  | none => rfl
  | some g => rw [hr] at h; cases h
theorem rB_tk2 {s t : ByteArray} {gs : List (Option Nat)} {p : Nat} (h : rB gs p (wd s p) = true) : ∃ g, gs[p]? = some (some g) ∧ (g ∈ posns t ∧ wd t g = wd s p → tkW s t gs p = some g) ∧ (¬ (g ∈ posns t ∧ wd t g = wd s p) → tkW s t gs p = none) := by
  have hw := wd_pos s p
  unfold tkW
  unfold rB at h
  cases hr : rgt gs p (wd s p) with
  | none => rw [hr] at h; cases h
  | some g =>
    have := (rgt_some hw).1 hr 0 hw
    rw [Nat.add_zero, Nat.add_zero] at this
    exact ⟨g, this, fun hh => if_pos hh, fun hh => if_neg hh⟩
theorem eg_next {s : ByteArray} {i q : Nat} (h : Eg s i q) (hi : i < (posns s).length) : Eg s (i + 1) (q + wd s q) := by
  obtain ⟨h1, h2, h3⟩ := h
  obtain ⟨e1, e2⟩ := (eg_at ⟨h1, h2, h3⟩).1 hi
  refine ⟨wd_fits s q e2, hi, ?_⟩
  have h4 := posG_cons s q e2
  rw [← h3] at h4
  have h5 : (posns s).drop (i + 1) = ((posns s).drop i).drop 1 := by rw [List.drop_drop]
  rw [h5, h4]; rfl
theorem eg_start (s : ByteArray) : Eg s 0 0 := ⟨Nat.zero_le _, Nat.zero_le _, rfl⟩
theorem eg_mem {s : ByteArray} {i q : Nat} (h : Eg s i q) (hi : i < (posns s).length) : q ∈ posns s := List.mem_of_getElem? ((eg_at h).1 hi).1
theorem eg_edB {s : ByteArray} {i q : Nat} (h : Eg s i q) : EdB s q := edB_eg h
/-- All pieces ahead of the j-th lie ahead of whatever comes. -/
def JP (t : ByteArray) (gs : List (Option Nat)) (j c : Nat) : Prop := j ≤ (posns t).length ∧ ∀ i x, i < j → (posns t)[i]? = some x → ∀ p g, c ≤ p → gs[p]? = some (some g) → x < g
theorem JP.mono {t : ByteArray} {gs : List (Option Nat)} {j c d : Nat} (h : JP t gs j c) (hd : c ≤ d) : JP t gs j d := ⟨h.1, fun i x hi hx p g hp hg => h.2 i x hi hx p g (by omega) hg⟩
/-- The j-th piece is the first that does not lie ahead. -/
def JG (t : ByteArray) (j g : Nat) : Prop := j ≤ (posns t).length ∧ ∀ i x, i < j → (posns t)[i]? = some x → x < g
theorem jg_next {t : ByteArray} {j g x : Nat} (h : JG t j g) (hx : (posns t)[j]? = some x) (hg : x < g) : JG t (j + 1) g :=
  ⟨(List.getElem?_eq_some_iff.1 hx).1, fun i y hi hy => by
    by_cases e : i = j
    · subst e; rw [hx] at hy; cases hy; exact hg
    · exact h.2 i y (by omega) hy⟩
theorem jg_out {t : ByteArray} {j g : Nat} (h : JG t j g) (hj : ¬ j < (posns t).length) : g ∉ posns t := by
  intro hm
  obtain ⟨i, hi⟩ := List.mem_iff_getElem?.1 hm
  have := (List.getElem?_eq_some_iff.1 hi).1
  have := h.2 i g (by omega) hi
  omega
theorem jg_at {t : ByteArray} {j g x : Nat} (h : JG t j g) (hx : (posns t)[j]? = some x) (hg : ¬ x < g) : g ∈ posns t ↔ x = g := by
  constructor
  · intro hm
    obtain ⟨i, hi⟩ := List.mem_iff_getElem?.1 hm
    rcases Nat.lt_trichotomy i j with c | c | c
    · have := h.2 i g c hi; omega
    · subst c; rw [hx] at hi; cases hi; rfl
    · have hs := posG_sorted t 0
      have h1 := (List.getElem?_eq_some_iff.1 hi)
      have h2 := (List.getElem?_eq_some_iff.1 hx)
      have := List.pairwise_iff_getElem.1 hs j i h2.1 h1.1 c
      have e1 : (posG t 0)[j]'h2.1 = x := h2.2
      have e2 : (posG t 0)[i]'h1.1 = g := h1.2
      omega
  · rintro rfl; exact List.mem_of_getElem? hx
theorem jp_of {t : ByteArray} {gs : List (Option Nat)} {s : ByteArray} {j g p : Nat} (hg : GsK s t gs) (h : JG t j g) (hp : gs[p]? = some (some g)) : JP t gs j (p + 1) :=
  ⟨h.1, fun i x hi hx p' g' hp' hg' => by
    have := h.2 i x hi hx
    have := hg.mono p p' g g' (by omega) hp hg'
    omega⟩
end Go.Proofs.Ytjccoiephdopkaa

/- Two conditions side by side in a drawn region: one that holds until the first store, one until the second. -/
namespace Go.Proofs.Ytjccoiephdopkaa
set_option linter.unusedVariables false
set_option linter.unusedSimpArgs false
open Go
set_option maxRecDepth 100000

section
variable {P : Program} {md : Region.Mode} {ops : Array Oper} {Q : Exit → Act → World → Prop}
/-- Both conditions. -/
def until2 (k1 k2 : List Nat) (T1 T2 : World → Prop) (l : Array Bool) (w : World) : Prop := untilG k1 T1 l w ∧ untilG k2 T2 l w
theorem wpAnyG_take2 (M : List Nat) {k1 k2 : List Nat} {T1 T2 : World → Prop} {i : Nat} {oi : Oper} {v : Value} {fuel : Nat} {listed : Array Bool} {a : Act} {w : World} (hi : ops[i]? = some oi)
    (hs : Region.noSelect ops = true) (hf : Region.free md ops listed i = true) (hr : (Region.ready md ops listed).contains i = true)
    (hM : (M.contains i && M.all (fun m => m == i || M.any (fun m' => waits md ops m m'))) = true) (hw : (k1.all fun k => M.any fun m => waits md ops k m) = true) (hw2 : (k2.all fun k => M.any fun m => waits md ops k m) = true) (hself : (oi.after.any fun e => Region.binds md e && M.contains e.on) = false)
    (hun : (k1.all fun k => listed.getD k true == false) = true) (hml : (M.all fun m => listed.getD m true == false) = true)
    (hQ : ∀ c a w, Q (.panic c) (a.put oi.dst v) w → Q (.panic c) a w) (hy : YieldsIf P ops T1 oi v a) (hS : T1 w) (hS2 : T2 w)
    (h : wpAnyG P md ops Q (until2 k1 k2 T1 T2) fuel (listed.setIfInBounds i true) (a.put oi.dst v) w) : wpAnyG P md ops Q (until2 k1 k2 T1 T2) (fuel + 1) listed a w := by
  rw [Bool.and_eq_true] at hM
  refine wpAnyG_first (M := M) hi (Region.noSelect_spec hs) hQ (by simpa using hM.1) ?_ ?_ ?_ fuel listed a w (Region.free_spec hi hf) (by simpa using hr) (fun m hm => by simpa using List.all_eq_true.1 hml m hm) (yieldsIf_imp hy fun w ht => ht.1 hun) ⟨fun _ => hS, fun _ => hS2⟩ h
  · intro m hm
    have h1 := List.all_eq_true.1 hM.2 m hm
    rw [Bool.or_eq_true, beq_iff_eq] at h1
    refine h1.imp id fun h2 => ?_
    obtain ⟨m', hm', h3⟩ := List.any_eq_true.1 h2
    cases ho : ops[m]? with
    | none => unfold waits at h3; rw [ho] at h3; cases h3
    | some om =>
      obtain ⟨e, he, hb, heq⟩ := waits_spec ho h3
      exact ⟨om, rfl, e, he, hb, heq ▸ hm'⟩
  · intro e he hb
    have h1 := Array.any_eq_false'.1 hself e he
    rw [hb, Bool.true_and] at h1
    simpa using h1
  · intro j oj hj hn l w
    have key : ∀ ks : List Nat, (ks.all fun k => M.any fun m => waits md ops k m) = true → j ∉ ks := by
      intro ks hks hmem
      obtain ⟨m, hm, h1⟩ := List.any_eq_true.1 (List.all_eq_true.1 hks j hmem)
      obtain ⟨e, he, hb, ho⟩ := waits_spec hj h1
      exact hn e he hb (ho ▸ hm)
    unfold until2
    rw [untilG_set (key k1 hw) l w, untilG_set (key k2 hw2) l w]
theorem wpAnyG_both {k1 k2 : List Nat} {T1 T2 : World → Prop} {fuel : Nat} {listed : Array Bool} {a : Act} {w : World} (H : wpAnyG P md ops Q (until2 k1 k2 T1 T2) fuel listed a w) : wpAnyG P md ops Q (untilG k2 T2) fuel listed a w :=
  wpAnyG_strong (fun _ _ h' => h'.2) fuel listed a w H
end
end Go.Proofs.Ytjccoiephdopkaa
