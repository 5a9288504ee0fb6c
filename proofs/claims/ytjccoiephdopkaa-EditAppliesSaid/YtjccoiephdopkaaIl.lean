/- Stage 27: the variables of Whole, and its closure. -/
import Derived.Test.YtjccoiephdopkaaZ18
import Derived.Test.YtjccoiephdopkaaZ16
namespace Go.Proofs.Ytjccoiephdopkaa
set_option linter.unusedVariables false
set_option linter.unusedSimpArgs false
open Go Go.RowKit Go.Shelf
set_option maxRecDepth 100000

/-- Where Whole's variables lie. -/
structure Wv where
  bs : Nat
  bt : Nat
  bm : Nat
  bp : Nat
  bo : Nat
  ba : Nat
  bb : Nat
  b : Nat
structure WhO (w0 : World) (D : Wv) : Prop where
  h0 : w0.heap.size ≤ D.bs
  h1 : D.bs < D.bt
  h2 : D.bt < D.bm
  h3 : D.bm < D.bp
  h4 : D.bp < D.bo
  h5 : D.bo < D.ba
  h6 : D.ba < D.bb
  h7 : D.bb < D.b
/-- Whole's variables, but the maker. -/
structure WhB (w0 : World) (D : Wv) (s t : ByteArray) (pl tt a' b' : Nat) (X : World) : Prop where
  low : Below w0.heap.size w0 X
  cs : Blk X D.bs #[.string s] 9
  ct : Blk X D.bt #[.string t] 9
  cp : Blk X D.bp #[.int .i64 pl] 3
  co : Blk X D.bo #[.int .i64 tt] 3
  ca : Blk X D.ba #[.int .i64 a'] 3
  cb : Blk X D.bb #[.int .i64 b'] 3
section
variable {w0 X Y : World} {D : Wv} {s t : ByteArray} {pl tt a' b' : Nat}
theorem WhB.below (h : WhB w0 D s t pl tt a' b' X) (hb : Below X.heap.size X Y) : WhB w0 D s t pl tt a' b' Y :=
  ⟨h.low.trans (hb.mono h.low.size), h.cs.below' hb, h.ct.below' hb, h.cp.below' hb, h.co.below' hb, h.ca.below' hb, h.cb.below' hb⟩
theorem WhB.keq (h : WhB w0 D s t pl tt a' b' X) (ho : WhO w0 D) (hl : Below w0.heap.size w0 Y) (hk : ∀ q, q < D.b → q ≠ D.bm → Y.heap[q]? = X.heap[q]?) : WhB w0 D s t pl tt a' b' Y := by
  obtain ⟨o0, o1, o2, o3, o4, o5, o6, o7⟩ := ho
  exact ⟨hl, (hk _ (by omega) (by omega)).trans h.cs, (hk _ (by omega) (by omega)).trans h.ct, (hk _ (by omega) (by omega)).trans h.cp, (hk _ (by omega) (by omega)).trans h.co, (hk _ (by omega) (by omega)).trans h.ca, (hk _ (by omega) (by omega)).trans h.cb⟩
theorem WhB.cells (h : WhB w0 D s t pl tt a' b' X) : X.cell? ⟨D.bs, 0, none⟩ = some (.string s) ∧ X.cell? ⟨D.bt, 0, none⟩ = some (.string t) ∧ X.cell? ⟨D.bp, 0, none⟩ = some (.int .i64 pl) ∧ X.cell? ⟨D.bo, 0, none⟩ = some (.int .i64 tt) ∧ X.cell? ⟨D.ba, 0, none⟩ = some (.int .i64 a') ∧ X.cell? ⟨D.bb, 0, none⟩ = some (.int .i64 b') :=
  ⟨h.cs.cell 0, h.ct.cell 0, h.cp.cell 0, h.co.cell 0, h.ca.cell 0, h.cb.cell 0⟩
theorem below_set (h : Below w0.heap.size w0 X) {r : Nat} (hr : w0.heap.size ≤ r) (v : Value) : Below w0.heap.size w0 (X.setCell ⟨r, 0, none⟩ v) := Below.setCell h (p := ⟨r, 0, none⟩) hr v
theorem blk_one {r : Nat} {v : Value} {ty : TypeId} (h : Blk X r #[v] ty) (u : Value) : Blk (X.setCell ⟨r, 0, none⟩ u) r #[u] ty := by
  have := h.set 0 u
  simpa using this
theorem WhB.setA (h : WhB w0 D s t pl tt a' b' X) (ho : WhO w0 D) (v : Nat) : WhB w0 D s t pl tt v b' (X.setCell ⟨D.ba, 0, none⟩ (.int .i64 v)) := by
  obtain ⟨o0, o1, o2, o3, o4, o5, o6, o7⟩ := ho
  exact ⟨below_set h.low (by omega) _, h.cs.other (by omega) _ _, h.ct.other (by omega) _ _, h.cp.other (by omega) _ _, h.co.other (by omega) _ _, blk_one h.ca _, h.cb.other (by omega) _ _⟩
theorem WhB.setB (h : WhB w0 D s t pl tt a' b' X) (ho : WhO w0 D) (v : Nat) : WhB w0 D s t pl tt a' v (X.setCell ⟨D.bb, 0, none⟩ (.int .i64 v)) := by
  obtain ⟨o0, o1, o2, o3, o4, o5, o6, o7⟩ := ho
  exact ⟨below_set h.low (by omega) _, h.cs.other (by omega) _ _, h.ct.other (by omega) _ _, h.cp.other (by omega) _ _, h.co.other (by omega) _ _, h.ca.other (by omega) _ _, blk_one h.cb _⟩
theorem WhB.setP (h : WhB w0 D s t pl tt a' b' X) (ho : WhO w0 D) (v : Nat) : WhB w0 D s t v tt a' b' (X.setCell ⟨D.bp, 0, none⟩ (.int .i64 v)) := by
  obtain ⟨o0, o1, o2, o3, o4, o5, o6, o7⟩ := ho
  exact ⟨below_set h.low (by omega) _, h.cs.other (by omega) _ _, h.ct.other (by omega) _ _, blk_one h.cp _, h.co.other (by omega) _ _, h.ca.other (by omega) _ _, h.cb.other (by omega) _ _⟩
theorem WhB.setO (h : WhB w0 D s t pl tt a' b' X) (ho : WhO w0 D) (v : Nat) : WhB w0 D s t pl v a' b' (X.setCell ⟨D.bo, 0, none⟩ (.int .i64 v)) := by
  obtain ⟨o0, o1, o2, o3, o4, o5, o6, o7⟩ := ho
  exact ⟨below_set h.low (by omega) _, h.cs.other (by omega) _ _, h.ct.other (by omega) _ _, h.cp.other (by omega) _ _, blk_one h.co _, h.ca.other (by omega) _ _, h.cb.other (by omega) _ _⟩
theorem MkB.other {B b r : Nat} {vo vp vd : Value} {m : Mk} (h : MkB X B b vo vp vd m) (hr : r < b) (hne : B ≠ r) (v : Value) : MkB (X.setCell ⟨r, 0, none⟩ v) B b vo vp vd m :=
  ⟨h.blk.other hne _ _, own_low h.ro hr 0 v, own_low h.rp hr 0 v, own_low h.rd hr 0 v, h.ap, h.bb, by simpa using h.bw⟩
end
/-- With the maker, and what lies beside it. -/
def WhM (w0 : World) (D : Wv) (s t : ByteArray) (pl tt : Nat) (A : List Atm) (a' b' : Nat) (K : List (Nat × Obj)) (X : World) : Prop :=
  WhB w0 D s t pl tt a' b' X ∧ ∃ vo vp vd, MkB X D.bm D.b vo vp vd (fdL A mk0) ∧ ∀ e ∈ K, X.heap[e.1]? = some e.2 ∧ N3 (vo, vp, vd) e.1 ∧ D.b ≤ e.1
section
variable {w0 X Y : World} {D : Wv} {s t : ByteArray} {pl tt a' b' q : Nat} {A : List Atm} {cs : Array Value} {ty : TypeId} {K : List (Nat × Obj)}
theorem WhM.below (h : WhM w0 D s t pl tt A a' b' K X) (hb : Below X.heap.size X Y) : WhM w0 D s t pl tt A a' b' K Y := by
  obtain ⟨h1, vo, vp, vd, h2, h3⟩ := h
  exact ⟨h1.below hb, vo, vp, vd, h2.below hb, fun e he => by
    obtain ⟨k1, k2, k3⟩ := h3 e he
    exact ⟨(hb.block e.1 (Array.getElem?_eq_some_iff.1 k1).1).trans k1, k2, k3⟩⟩
theorem WhM.tail {e : Nat × Obj} (h : WhM w0 D s t pl tt A a' b' (e :: K) X) : WhM w0 D s t pl tt A a' b' K X := by
  obtain ⟨h1, vo, vp, vd, h2, h3⟩ := h
  exact ⟨h1, vo, vp, vd, h2, fun e he => h3 e (by simp [he])⟩
theorem WhM.kept (h : WhM w0 D s t pl tt A a' b' K X) {e : Nat × Obj} (he : e ∈ K) : X.heap[e.1]? = some e.2 := by
  obtain ⟨h1, vo, vp, vd, h2, h3⟩ := h
  exact (h3 e he).1
theorem WhM.blk (h : WhM w0 D s t pl tt A a' b' ((q, .cells cs ty (0, 0)) :: K) X) : Blk X q cs ty := h.kept (e := (q, .cells cs ty (0, 0))) (by simp)
theorem WhM.new (h : WhM w0 D s t pl tt A a' b' K X) (cs : Array Value) (ty : TypeId) : WhM w0 D s t pl tt A a' b' ((X.heap.size, .cells cs ty (0, 0)) :: K) (X.alloc (.cells cs ty)) := by
  have hb := (Below.refl X.heap.size X).alloc (Nat.le_refl _) (.cells cs ty)
  have hh := h.below hb
  obtain ⟨h1, vo, vp, vd, h2, h3⟩ := h
  obtain ⟨g1, _, _, _, _, _⟩ := hh
  refine ⟨g1, vo, vp, vd, h2.below hb, fun e he => ?_⟩
  rcases List.mem_cons.1 he with rfl | he
  · exact ⟨Blk.new X cs ty, h2.n3_new (Nat.le_refl _), h2.bw⟩
  · obtain ⟨k1, k2, k3⟩ := h3 e he
    exact ⟨(hb.block e.1 (Array.getElem?_eq_some_iff.1 k1).1).trans k1, k2, k3⟩
/-- A block that came behind the maker is put to those that lie beside. -/
theorem WhM.add (h : WhM w0 D s t pl tt A a' b' K X) (hb : Below X.heap.size X Y) {g : Nat} {o : Obj} (hg : X.heap.size ≤ g) (ho : Y.heap[g]? = some o) : WhM w0 D s t pl tt A a' b' ((g, o) :: K) Y := by
  have hh := h.below hb
  obtain ⟨h1, vo, vp, vd, h2, h3⟩ := h
  obtain ⟨g1, _, _, _, _, _⟩ := hh
  refine ⟨g1, vo, vp, vd, h2.below hb, fun e he => ?_⟩
  rcases List.mem_cons.1 he with rfl | he
  · exact ⟨ho, h2.n3_new hg, Nat.le_trans h2.bw hg⟩
  · obtain ⟨k1, k2, k3⟩ := h3 e he
    exact ⟨(hb.block e.1 (Array.getElem?_eq_some_iff.1 k1).1).trans k1, k2, k3⟩
theorem wm_keep (h : WhM w0 D s t pl tt A a' b' K X) (ho : WhO w0 D) (hA : A.length ≤ 1000000) (n : Nat) (hn : n ≤ 65536) :
    Calls Try.prog 26 #[.pointer (some ⟨D.bm, 0, none⟩), .int .i64 n] X fun e Y => e = .returned (.tuple #[]) ∧ WhM w0 D s t pl tt (A ++ List.replicate n .K) a' b' K Y := by
  obtain ⟨h1, vo, vp, vd, h2, h3⟩ := h
  have hbd := fd_bd A
  refine (keep_any h2 n hn (by omega) (by omega) (by omega) (by omega)).mono ?_
  rintro e W' ⟨rfl, vo', vp', vd', g1, g2⟩
  rw [keep_fd, ← fdL_app] at g1
  exact ⟨rfl, h1.keq ho (g2.below h2 (by have := ho.h0; have := ho.h1; have := ho.h2; omega) h1.low) (fun r hr hne => g2.low h2 hr hne), _, _, _, g1, fun e he => by
    obtain ⟨k1, k2, k3⟩ := h3 e he
    have hb := g2.blk e.1 (Array.getElem?_eq_some_iff.1 k1).1 (by have := h2.bb; omega) k2
    exact ⟨hb.1.trans k1, hb.2, k3⟩⟩
theorem wm_puts (h : WhM w0 D s t pl tt A a' b' K X) (ho : WhO w0 D) (hA : A.length ≤ 1000000) (y : ByteArray) (hy : y.size ≤ 1000000) :
    Calls Try.prog 28 #[.pointer (some ⟨D.bm, 0, none⟩), .string y] X fun e Y => e = .returned (.tuple #[]) ∧ WhM w0 D s t pl tt (A ++ (bL y).map .P) a' b' K Y := by
  obtain ⟨h1, vo, vp, vd, h2, h3⟩ := h
  have hbd := fd_bd A
  refine (puts_any h2 y hy (by omega) (by omega)).mono ?_
  rintro e W' ⟨rfl, vo', vp', vd', g1, g2⟩
  rw [puts_fd, ← fdL_app] at g1
  exact ⟨rfl, h1.keq ho (g2.below h2 (by have := ho.h0; have := ho.h1; have := ho.h2; omega) h1.low) (fun r hr hne => g2.low h2 hr hne), _, _, _, g1, fun e he => by
    obtain ⟨k1, k2, k3⟩ := h3 e he
    have hb := g2.blk e.1 (Array.getElem?_eq_some_iff.1 k1).1 (by have := h2.bb; omega) k2
    exact ⟨hb.1.trans k1, hb.2, k3⟩⟩
theorem wm_drops (h : WhM w0 D s t pl tt A a' b' K X) (ho : WhO w0 D) (hA : A.length ≤ 1000000) (y : ByteArray) (hy : y.size ≤ 1000000) :
    Calls Try.prog 27 #[.pointer (some ⟨D.bm, 0, none⟩), .string y] X fun e Y => e = .returned (.tuple #[]) ∧ WhM w0 D s t pl tt (A ++ (bL y).map .D) a' b' K Y := by
  obtain ⟨h1, vo, vp, vd, h2, h3⟩ := h
  have hbd := fd_bd A
  refine (drops_any h2 y hy (by omega) (by omega)).mono ?_
  rintro e W' ⟨rfl, vo', vp', vd', g1, g2⟩
  rw [drops_fd, ← fdL_app] at g1
  exact ⟨rfl, h1.keq ho (g2.below h2 (by have := ho.h0; have := ho.h1; have := ho.h2; omega) h1.low) (fun r hr hne => g2.low h2 hr hne), _, _, _, g1, fun e he => by
    obtain ⟨k1, k2, k3⟩ := h3 e he
    have hb := g2.blk e.1 (Array.getElem?_eq_some_iff.1 k1).1 (by have := h2.bb; omega) k2
    exact ⟨hb.1.trans k1, hb.2, k3⟩⟩
theorem WhM.mk1 (h : WhM w0 D s t pl tt A a' b' K X) (ho : WhO w0 D) : Mk1 w0 D.bm D.b X A := by
  obtain ⟨h1, vo, vp, vd, h2, h3⟩ := h
  exact ⟨vo, vp, vd, h2, h1.low, by have := ho.h0; have := ho.h1; have := ho.h2; omega⟩
theorem kept_set {vo vp vd u : Value} {r : Nat} (hr : r < D.b) (h3 : ∀ e ∈ K, X.heap[e.1]? = some e.2 ∧ N3 (vo, vp, vd) e.1 ∧ D.b ≤ e.1) : ∀ e ∈ K, (X.setCell ⟨r, 0, none⟩ u).heap[e.1]? = some e.2 ∧ N3 (vo, vp, vd) e.1 ∧ D.b ≤ e.1 := fun e he => by
  obtain ⟨k1, k2, k3⟩ := h3 e he
  exact ⟨(Below.heap_setCell _ _ _ _ (fun hh => by have : e.1 = r := hh; omega)).trans k1, k2, k3⟩
theorem WhM.setA (h : WhM w0 D s t pl tt A a' b' K X) (ho : WhO w0 D) (v : Nat) : WhM w0 D s t pl tt A v b' K (X.setCell ⟨D.ba, 0, none⟩ (.int .i64 v)) := by
  obtain ⟨h1, vo, vp, vd, h2, h3⟩ := h
  have hr : D.ba < D.b ∧ D.bm ≠ D.ba := by obtain ⟨o0, o1, o2, o3, o4, o5, o6, o7⟩ := ho; omega
  exact ⟨h1.setA ho v, vo, vp, vd, h2.other hr.1 hr.2 _, kept_set hr.1 h3⟩
theorem WhM.setB (h : WhM w0 D s t pl tt A a' b' K X) (ho : WhO w0 D) (v : Nat) : WhM w0 D s t pl tt A a' v K (X.setCell ⟨D.bb, 0, none⟩ (.int .i64 v)) := by
  obtain ⟨h1, vo, vp, vd, h2, h3⟩ := h
  have hr : D.bb < D.b ∧ D.bm ≠ D.bb := by obtain ⟨o0, o1, o2, o3, o4, o5, o6, o7⟩ := ho; omega
  exact ⟨h1.setB ho v, vo, vp, vd, h2.other hr.1 hr.2 _, kept_set hr.1 h3⟩
theorem WhM.setP (h : WhM w0 D s t pl tt A a' b' K X) (ho : WhO w0 D) (v : Nat) : WhM w0 D s t v tt A a' b' K (X.setCell ⟨D.bp, 0, none⟩ (.int .i64 v)) := by
  obtain ⟨h1, vo, vp, vd, h2, h3⟩ := h
  have hr : D.bp < D.b ∧ D.bm ≠ D.bp := by obtain ⟨o0, o1, o2, o3, o4, o5, o6, o7⟩ := ho; omega
  exact ⟨h1.setP ho v, vo, vp, vd, h2.other hr.1 hr.2 _, kept_set hr.1 h3⟩
theorem WhM.setO (h : WhM w0 D s t pl tt A a' b' K X) (ho : WhO w0 D) (v : Nat) : WhM w0 D s t pl v A a' b' K (X.setCell ⟨D.bo, 0, none⟩ (.int .i64 v)) := by
  obtain ⟨h1, vo, vp, vd, h2, h3⟩ := h
  have hr : D.bo < D.b ∧ D.bm ≠ D.bo := by obtain ⟨o0, o1, o2, o3, o4, o5, o6, o7⟩ := ho; omega
  exact ⟨h1.setO ho v, vo, vp, vd, h2.other hr.1 hr.2 _, kept_set hr.1 h3⟩
theorem WhM.fro (h : WhM w0 D s t pl tt A a' b' K X) : X.frozen? ⟨D.ba, 0, none⟩ = false ∧ X.frozen? ⟨D.bb, 0, none⟩ = false ∧ X.frozen? ⟨D.bp, 0, none⟩ = false ∧ X.frozen? ⟨D.bo, 0, none⟩ = false :=
  ⟨h.1.ca.frozen 0, h.1.cb.frozen 0, h.1.cp.frozen 0, h.1.co.frozen 0⟩
end
/-- The state at a boundary, as it lies in memory. -/
def WhS (w0 : World) (D : Wv) (s t : ByteArray) (pl tt : Nat) (x : WS) (K : List (Nat × Obj)) (X : World) : Prop := WhM w0 D s t pl tt x.A x.a x.b K X
theorem new2N (w : World) (a b : Value) (t : TypeId) : ∃ W, w.alloc (.cells #[a, b] t) = W ∧ W.heap.size = w.heap.size + 1 ∧ Below w.heap.size w W ∧ W.cell? ⟨w.heap.size, 0, none⟩ = some a ∧ W.cell? ⟨w.heap.size, 1, none⟩ = some b := by
  refine ⟨_, rfl, by simp, (Below.refl _ _).alloc (Nat.le_refl _) _, ?_⟩
  simp only [World.cell?, World.alloc_heap_new]
  exact ⟨rfl, rfl⟩
theorem inB_facts {s : ByteArray} {i F T : Nat} (hi : i ≤ s.size) (h : InB s i F T) : i ≤ T ∧ EdB s T ∧ ∀ p ∈ posns s, i ≤ p → ¬ p < T := by
  rcases h with ⟨hm, rfl, rfl⟩ | ⟨hm, p, hp, h1, h2, rfl, rfl⟩
  · exact ⟨Nat.le_refl _, (mem_ends s _).1 hm, fun p _ h => by omega⟩
  · refine ⟨by omega, edB_next hp, fun p' hp' h3 h4 => ?_⟩
    have := posG_apart s 0 _ hp p' hp' (by omega)
    omega
/-- How a row that is kept tells where its pieces go. -/
def TkW (s t : ByteArray) (gs : List (Option Nat)) (pl tt n : Nat) : Prop :=
  ∀ p, pl ≤ p → p < pl + n → ∀ g, tkW s t gs p = some g ↔ p + wd s p ≤ pl + n ∧ g = tt + (p - pl) ∧ g ∈ posns t ∧ wd t g = wd s p
theorem tkW_no {s t : ByteArray} {gs : List (Option Nat)} {pl tt n p : Nat} (h : TkW s t gs pl tt n) (h1 : pl ≤ p) (h2 : p < pl + n) (hn : ¬ (p + wd s p ≤ pl + n ∧ tt + (p - pl) ∈ posns t ∧ wd t (tt + (p - pl)) = wd s p)) : tkW s t gs p = none := by
  cases ht : tkW s t gs p with
  | none => rfl
  | some g =>
    obtain ⟨a1, rfl, a3, a4⟩ := (h p h1 h2 g).1 ht
    exact absurd ⟨a1, a3, a4⟩ hn
/-- How the closure's loop stands. -/
def KeR (w0 : World) (D : Wv) (s t : ByteArray) (gs : List (Option Nat)) (pl tt E : Nat) (K : List (Nat × Obj)) (v : Value) (W : World) : Prop :=
  ∃ q : Nat, v = .int .i64 q ∧ pl ≤ q ∧ EdB s q ∧ (∀ p ∈ posns s, E ≤ p → ¬ p < q) ∧ WhS w0 D s t pl tt (upW s t gs q) K W
theorem edB_in {s : ByteArray} {q : Nat} (h : EdB s q) (hq : q < s.size) : q ∈ posns s := by
  rcases h with h | h
  · exact h
  · omega
theorem edB_le {s : ByteArray} {q : Nat} (h : EdB s q) : q ≤ s.size := by
  rcases h with h | h
  · exact Nat.le_of_lt (posG_ge s 0 q h).2
  · omega
set_option maxHeartbeats 4000000 in
theorem keeps_any (w0 : World) (D : Wv) (hO : WhO w0 D) (s t : ByteArray) (hs : s.size ≤ 65536) (ht : t.size ≤ 65536) (gs : List (Option Nat)) (hg : GsK s t gs) (pl tt n : Nat) (hp : pl + n ≤ s.size) (hq : tt + n ≤ t.size) (hT : TkW s t gs pl tt n) (K : List (Nat × Obj)) (X : World) (hX : WhS w0 D s t pl tt (upW s t gs pl) K X) :
    Calls Try.prog 30 #[.int .i64 n, .pointer (some ⟨D.bo, 0, none⟩), .pointer (some ⟨D.bp, 0, none⟩), .pointer (some ⟨D.bs, 0, none⟩), .pointer (some ⟨D.bt, 0, none⟩), .pointer (some ⟨D.bm, 0, none⟩), .pointer (some ⟨D.bb, 0, none⟩), .pointer (some ⟨D.ba, 0, none⟩)] X fun e Y => e = .returned (.tuple #[]) ∧ WhS w0 D s t pl tt (upW s t gs (pl + n)) K Y := by
  obtain ⟨E, hE⟩ : ∃ E, pl + n = E := ⟨_, rfl⟩
  rw [hE] at hp ⊢
  obtain ⟨fr, hfr⟩ : ∃ fr : Int, (tt : Int) - (pl : Int) = fr := ⟨_, rfl⟩
  have j0 : IntKind.i64.wrap ((tt : Int) - (pl : Int)) = fr := by rw [IntWalk.i64_in _ (by omega), hfr]
  have jE : IntKind.i64.wrap ((pl : Int) + (n : Int)) = (E : Int) := by rw [IntWalk.i64_in _ (by omega)]; omega
  have hpl : pl ≤ s.size := by omega
  have cA := SQ.Around_ok s pl hpl (by omega)
  obtain ⟨c1, c2, c3, c4, c5, c6⟩ := hX.1.cells
  have HS := Lib.hid (And.intro hO (And.intro hg (And.intro hT hE)))
  have HF := Lib.hid hfr
  have HX := Lib.hid hX
  clear hO hg hT hE hfr hX
  go_enter Try.func30, Try.ntmps30
  go_wp2_with (fail)
  refine (cA _).mono ?_
  rintro e V1 ⟨F, T, hin, rfl, hb1⟩
  obtain ⟨k1, k2, k3⟩ := inB_facts hpl hin
  have hb2 := hb1.trans (((Below.refl V1.heap.size V1).alloc (Nat.le_refl _) (.cells #[.int .i64 F, .int .i64 T] 65)).mono hb1.size)
  have H1 := Lib.hid (And.intro (HX.out.below hb2) (And.intro k1 (And.intro k2 k3)))
  clear hin hb1 hb2 k1 k2 k3 cA c1 c2 c3 c4 c5 c6
  go_wp2
  go_loopw [12] (fun v W => KeR w0 D s t gs pl tt E K v W) (fun v _ => s.size - (intOf v).toNat)
  case atStart =>
    refine ⟨T, rfl, H1.out.2.1, H1.out.2.2.1, fun p hp1 hp2 => H1.out.2.2.2 p hp1 (by have := HS.out.2.2.2; omega), ?_⟩
    have h1 := H1.out.1
    have h2 := upW_same (s := s) (t := t) (gs := gs) H1.out.2.1 H1.out.2.2.2
    show WhM _ _ _ _ _ _ (upW s t gs T).A _ _ _ _
    rw [h2]
    exact h1
  case round =>
    obtain ⟨q, rfl, r1, r2, r3, hM⟩ := hrel
    have hqs := edB_le r2
    obtain ⟨c1, c2, c3, c4, c5, c6⟩ := hM.1.cells
    by_cases hlt : q < E
    · have hmem := edB_in r2 (show q < s.size by omega)
      have hW := upW_ok HS.out.2.1 q r2
      have hle := hW.len
      have hstep := upW_step (t := t) (gs := gs) hmem
      have hT := HS.out.2.2.1 q r1 (by rw [HS.out.2.2.2]; exact hlt) (tt + (q - pl))
      have hTn := fun h => tkW_no HS.out.2.2.1 r1 (by rw [HS.out.2.2.2]; exact hlt) h
      rw [HS.out.2.2.2] at hT hTn
      have hEd := edB_next hmem
      have hr3 : ∀ p ∈ posns s, E ≤ p → ¬ p < q + wd s q := fun p hp1 hp2 hp3 => by
        have := posG_apart s 0 q hmem p hp1 (by omega)
        omega
      have hwl := wd_le s q
      have hwp := wd_pos s q
      have hwf := wd_fits s q (show q < s.size by omega)
      obtain ⟨g, hgE⟩ : ∃ g, tt + (q - pl) = g := ⟨_, rfl⟩
      rw [hgE] at hT hTn
      have hE0 := HS.out.2.2.2
      have hF0 := HF.out
      have hgt : g < t.size := by omega
      have cP := SQ.at_ok s q (by omega) (by omega)
      have cQ := SQ.at_ok t g hgt (by omega)
      obtain ⟨w, hw⟩ : ∃ w, wd s q = w := ⟨_, rfl⟩
      obtain ⟨v, hv⟩ : ∃ v, wd t g = v := ⟨_, rfl⟩
      rw [hw] at cP hT hTn hEd hr3 hstep hwl hwp hwf
      rw [hv] at cQ hT hTn
      obtain ⟨x, hx⟩ : ∃ x, upW s t gs q = x := ⟨_, rfl⟩
      rw [hx] at hM hW hle hstep
      obtain ⟨A, a1, b1⟩ := x
      simp only at hle
      obtain ⟨Q, hQ⟩ : ∃ Q, q + w = Q := ⟨_, rfl⟩
      obtain ⟨G, hG⟩ : ∃ G, g + w = G := ⟨_, rfl⟩
      rw [hQ] at hT hTn hEd hr3 hstep hwf
      have jq : IntKind.i64.wrap ((q : Int) + (w : Int)) = (Q : Int) := by rw [IntWalk.i64_in _ (by omega)]; omega
      have jg : IntKind.i64.wrap ((q : Int) + fr) = (g : Int) := by rw [IntWalk.i64_in _ (by omega)]; omega
      have jG : IntKind.i64.wrap ((Q : Int) + fr) = (G : Int) := by rw [IntWalk.i64_in _ (by omega)]; omega
      have hqE : (q : Int) < (E : Int) := by omega
      have hqQ : q < Q := by omega
      have z1 := hW.ac
      have z2 := hW.sz
      have z3 := hW.bt
      simp only at z1 z2 z3
      have hMM : WhM w0 D s t pl tt A a1 b1 K wr := hM
      have HN := Lib.hid (And.intro hT (And.intro hTn (And.intro hEd (And.intro hr3 (And.intro hstep (And.intro hQ hG))))))
      have HW := Lib.hid hW
      have HX2 := Lib.hid (And.intro r1 (And.intro hw hv))
      have HM := Lib.hid hMM
      clear hT hTn hEd hr3 hstep hQ hG hM hMM hw hv hx hE0 hF0 hgE hmem hW r1 r2 r3
      go_wp2_with (fail)
      refine (cP _).mono ?_
      rintro e V2 ⟨rfl, hb2⟩
      have hq0 := (HM.out.below hb2).new #[.int .i64 q, .int .i64 w, .int .i32 (rn s q : Nat), .bool (bk s q)] 69
      have k2 := hq0.1.cells.2.1
      have HQ0 := Lib.hid hq0
      clear hb2 hq0 cP c1 c2 c3 c4 c5 c6
      go_wp2_with (fail)
      obtain ⟨W3, e3⟩ : ∃ Z, V2.alloc (.cells #[.int .i64 q, .int .i64 w, .int .i32 (rn s q : Nat), .bool (bk s q)] 69) = Z := ⟨_, rfl⟩
      obtain ⟨B1, hB1⟩ : ∃ B, V2.heap.size = B := ⟨_, rfl⟩
      rw [e3, hB1] at HQ0
      rw [e3, hB1]
      clear k2 e3 hB1
      refine (cQ _).mono ?_
      rintro e V4 ⟨rfl, hb4⟩
      have hq4 := HQ0.out.below (hb4.trans (((Below.refl V4.heap.size V4).alloc (Nat.le_refl _) (.cells #[.int .i64 g, .int .i64 v, .int .i32 (rn t g : Nat), .bool (bk t g)] 69)).mono hb4.size))
      obtain ⟨k1, k2, k3, k4, k5, k6⟩ := hq4.1.cells
      have y0 := hq4.blk.cell 0
      have y1 := hq4.blk.cell 1
      simp only [List.getElem?_toArray, List.getElem?_cons_zero, List.getElem?_cons_succ] at y0 y1
      have HQ4 := Lib.hid hq4
      clear hb4 hq4 cQ
      by_cases hc1 : E < Q
      · have d1 : decide ((E : Int) < (Q : Int)) = true := decide_eq_true (by omega)
        have d1' : decide (E < Q) = true := decide_eq_true hc1
        have htk := HN.out.2.1 (fun h => by omega)
        have hno := stepW_no (x := ⟨A, a1, b1⟩) htk
        have HZ := Lib.hid (HN.out.2.2.2.2.1.trans hno)
        clear htk hno
        go_wp2
        go_roundw
        case rel =>
          refine ⟨Q, rfl, by have := HN.out.2.2.2.2.2.1; have := HX2.out.1; omega, HN.out.2.2.1, HN.out.2.2.2.1, ?_⟩
          rw [HZ.out]
          exact HQ4.out.tail
        case measure => simp [intOf] <;> omega
      · have d1 : decide ((E : Int) < (Q : Int)) = false := decide_eq_false (by omega)
        have d1' : decide (E < Q) = false := decide_eq_false hc1
        by_cases hc2 : v = w
        · subst hc2
          have d2 : ((v : Int) == (v : Int)) = true := beq_self_eq_true _
          have d2' : (v == v) = true := beq_self_eq_true _
          obtain ⟨bo, hbo⟩ : ∃ b, SQ.isB t (g : Int) = b := ⟨_, rfl⟩
          have HBO := Lib.hid hbo
          have cB := SQ.Boundary_any t (g : Int) (by omega)
          rw [hbo] at cB
          clear hbo
          go_wp2_with (fail)
          refine (cB _).mono ?_
          rintro e V5 ⟨rfl, hb5⟩
          have hq5 := HQ4.out.below hb5
          have HQ5 := Lib.hid hq5
          obtain ⟨k1, k2, k3, k4, k5, k6⟩ := hq5.1.cells
          have y0 := hq5.blk.cell 0
          have y1 := hq5.blk.cell 1
          simp only [List.getElem?_toArray, List.getElem?_cons_zero, List.getElem?_cons_succ] at y0 y1
          have hmemg : bo = true ↔ g ∈ posns t := by
            rw [← HBO.out]
            unfold SQ.isB
            rw [decide_eq_true_iff, Int.toNat_natCast, mem_ends]
            constructor
            · rintro ⟨_, h | h⟩
              · exact h
              · omega
            · intro h
              exact ⟨by omega, .inl h⟩
          clear hb5 hq5 cB
          cases bo with
          | false =>
            have htk := HN.out.2.1 (fun h => absurd (hmemg.2 h.2.1) (by decide))
            have hno := stepW_no (x := ⟨A, a1, b1⟩) htk
            have HZ := Lib.hid (HN.out.2.2.2.2.1.trans hno)
            clear htk hno hmemg
            go_wp2
            go_roundw
            case rel =>
              refine ⟨Q, rfl, by have := HN.out.2.2.2.2.2.1; have := HX2.out.1; omega, HN.out.2.2.1, HN.out.2.2.2.1, ?_⟩
              rw [HZ.out]
              exact HQ5.out.tail
            case measure => simp [intOf] <;> omega
          | true =>
            have htk := HN.out.1.2 ⟨by omega, (by first | rfl | trivial), hmemg.1 rfl, (by first | rfl | trivial)⟩
            have hyes := stepW_yes (x := ⟨A, a1, b1⟩) htk
            have hb1g : b1 ≤ g := HW.out.nx q g (Nat.le_refl _) (by have := (tkW_some.1 htk).1 0 (wd_pos s q); simpa using this)
            rw [HX2.out.2.1] at hyes
            simp only at hyes
            rw [HN.out.2.2.2.2.2.1, HN.out.2.2.2.2.2.2] at hyes
            have HZ := Lib.hid (HN.out.2.2.2.2.1.trans hyes)
            have s1 : (0 : Int) ≤ (b1 : Int) := by omega
            have s2 : (b1 : Int) ≤ (g : Int) := by omega
            have s3 : (g : Int) ≤ (t.size : Int) := by omega
            have s4 : (0 : Int) ≤ (a1 : Int) := by omega
            have s5 : (a1 : Int) ≤ (q : Int) := by omega
            have s6 : (q : Int) ≤ (s.size : Int) := by omega
            have f1 : (t.extract b1 g).size ≤ 65536 := by rw [ByteArray.size_extract]; omega
            have f2 : (s.extract a1 q).size ≤ 65536 := by rw [ByteArray.size_extract]; omega
            clear htk hyes hmemg
            go_wp2_with (fail)
            refine (wm_puts HQ5.out HS.out.1 (by omega) _ (by omega)).mono ?_
            rintro e V6 ⟨rfl, hq6⟩
            have HQ6 := Lib.hid hq6
            obtain ⟨k1, k2, k3, k4, k5, k6⟩ := hq6.1.cells
            have y0 := hq6.blk.cell 0
            simp only [List.getElem?_toArray, List.getElem?_cons_zero, List.getElem?_cons_succ] at y0
            clear hq6
            go_wp2_with (fail)
            refine (wm_drops HQ6.out HS.out.1 (by simp only [List.length_append, List.length_map, bL_len]; omega) _ (by omega)).mono ?_
            rintro e V7 ⟨rfl, hq7⟩
            have HQ7 := Lib.hid hq7
            have y1 := hq7.blk.cell 1
            simp only [List.getElem?_toArray, List.getElem?_cons_zero, List.getElem?_cons_succ] at y1
            clear hq7
            go_wp2_with (fail)
            refine (wm_keep HQ7.out HS.out.1 (by simp only [List.length_append, List.length_map, bL_len]; omega) v (by omega)).mono ?_
            rintro e V8 ⟨rfl, hq8⟩
            have hm8 := hq8.tail
            obtain ⟨k1, k2, k3, k4, k5, k6⟩ := hm8.1.cells
            have fz := hm8.fro.1
            have hm9 := hm8.setA HS.out.1 Q
            have k7 := hm9.1.cells.2.2.2.2.2
            have fz2 := hm9.fro.2.1
            have H9 := Lib.hid (hm9.setB HS.out.1 G)
            clear hq8 hm8 hm9
            go_wp2
            go_roundw
            case rel =>
              refine ⟨Q, rfl, by have := HN.out.2.2.2.2.2.1; have := HX2.out.1; omega, HN.out.2.2.1, HN.out.2.2.2.1, ?_⟩
              rw [HZ.out]
              exact H9.out
            case measure => simp [intOf] <;> omega
        · have d2 : ((v : Int) == (w : Int)) = false := by rw [beq_eq_false_iff_ne]; omega
          have d2' : (v == w) = false := by rw [beq_eq_false_iff_ne]; exact hc2
          have htk := HN.out.2.1 (fun h => hc2 h.2.2)
          have hno := stepW_no (x := ⟨A, a1, b1⟩) htk
          have HZ := Lib.hid (HN.out.2.2.2.2.1.trans hno)
          clear htk hno
          have d3 : ¬ (v : Int) = (w : Int) := by omega
          go_wp2
          go_roundw
          case rel =>
            refine ⟨Q, rfl, by have := HN.out.2.2.2.2.2.1; have := HX2.out.1; omega, HN.out.2.2.1, HN.out.2.2.2.1, ?_⟩
            rw [HZ.out]
            exact HQ4.out.tail
          case measure => simp [intOf] <;> omega
    · obtain ⟨x, hx⟩ : ∃ x, upW s t gs q = x := ⟨_, rfl⟩
      have hee := upW_same (s := s) (t := t) (gs := gs) (show E ≤ q by omega) r3
      rw [hee] at hM
      have HM := Lib.hid hM
      have hqE : ¬ (q : Int) < (E : Int) := by omega
      clear hx hee hM
      go_wp2
      refine bodyPost_end (results_none rfl _ _ _) rfl ?_
      exact ⟨rfl, HM.out⟩
end Go.Proofs.Ytjccoiephdopkaa
