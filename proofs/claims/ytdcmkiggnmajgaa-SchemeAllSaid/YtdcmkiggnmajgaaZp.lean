/- Stage 16: the law SchemeAll. -/
import Derived.Test.YtdcmkiggnmajgaaZo
import Derived.Test.YtdcmkiggnmajgaaVq
import Derived.Test.YtdcmkiggnmajgaaV9
import Derived.Test.YtdcmkiggnmajgaaK1
namespace Go.Proofs.Ytdcmkiggnmajgaa
set_option linter.unusedVariables false
set_option linter.unusedSimpArgs false
open Go Go.RowKit Go.Shelf
set_option maxRecDepth 100000
attribute [local go_sem] Oper.semAt_some

theorem own_isCells {X : World} {b : Nat} {e : TypeId} {sz n : Nat} {v : Value} {xs : List Value} (h : X.ownsRow b e sz v n xs) : ∀ g, v.ownBlock = some g → ∃ o, X.heap[g]? = some o ∧ o.isCells = true := by
  intro g hg
  rcases h.2 with ⟨rfl, _⟩ | ⟨g', c', cur, rfl, _, hgh, _⟩
  · cases hg
  · cases hg
    exact ⟨_, hgh, rfl⟩
theorem gr2_kf {X Y : World} {r1 r2 : Option Nat} {B : Nat} (h : Gr2 X Y r1 r2) (h1 : ∀ g, r1 = some g → ∃ o, X.heap[g]? = some o ∧ o.isCells = true) (h2 : ∀ g, r2 = some g → ∃ o, X.heap[g]? = some o ∧ o.isCells = true) : KeepsFrom B X Y := by
  refine ⟨h.2.2.2.1, fun k o _ hk ho => ?_⟩
  have hlt := (Array.getElem?_eq_some_iff.1 hk).1
  refine (h.2.2.2.2 k hlt (fun e => ?_) (fun e => ?_)).trans hk
  · obtain ⟨o', h3, h4⟩ := h1 k e.symm
    rw [hk] at h3; cases h3
    rw [ho] at h4; cases h4
  · obtain ⟨o', h3, h4⟩ := h2 k e.symm
    rw [hk] at h3; cases h3
    rw [ho] at h4; cases h4
theorem gr2_kp {b B : Nat} {x : Value × Value} {X Y : World} (h : Gr2 X Y x.1.ownBlock x.2.ownBlock) : KpS b B x X Y :=
  ⟨h.2.2.2.1, fun r o _ ho _ h1 h2 => (h.2.2.2.2 r (Array.getElem?_eq_some_iff.1 ho).1 h1 h2).trans ho⟩
theorem gr2_below {m : Nat} {w X Y : World} {r1 r2 : Option Nat} (hk : Below m w X) (h : Gr2 X Y r1 r2) (hm : m ≤ X.heap.size) (h1 : ∀ g, r1 = some g → m ≤ g) (h2 : ∀ g, r2 = some g → m ≤ g) : Below m w Y :=
  ⟨h.1.trans hk.os, h.2.1.trans hk.tape, h.2.2.1.trans hk.output, Nat.le_trans hk.size h.2.2.2.1, fun k hkm => (h.2.2.2.2 k (by omega) (fun e => by have := h1 k e.symm; omega) (fun e => by have := h2 k e.symm; omega)).trans (hk.block k hkm)⟩
theorem kps_below {b B : Nat} {x : Value × Value} {X Y : World} (h : Below X.heap.size X Y) : KpS b B x X Y :=
  ⟨h.size, fun r o _ ho _ _ _ => (h.block r (Array.getElem?_eq_some_iff.1 ho).1).trans ho⟩
theorem kps_set {b B K : Nat} {x : Value × Value} {X : World} (h1 : K < b) (h2 : K ≠ B) (o : Nat) (v : Value) : KpS b B x X (X.setCell ⟨K, o, none⟩ v) :=
  ⟨by simp, fun r ob hr ho _ _ _ => (Below.heap_setCell _ _ _ _ (by dsimp only; rcases hr with h | h <;> omega)).trans ho⟩
theorem kps_put {b B D : Nat} {x : Value × Value} {X : World} {o : Obj} (ho : X.heap[D]? = some o) (hc : o.isCells = false) (o' : Obj) : KpS b B x X (X.putObj D o') := by
  refine ⟨by simp, fun r ob _ hob hcb _ _ => ?_⟩
  by_cases h : r = D
  · subst h
    rw [ho] at hob; cases hob
    rw [hc] at hcb; cases hcb
  · exact (World.putObj_heap_other h).trans hob
theorem schemeB {W : World} {q : Nat} {o1 o2 : Option Addr} {l1 l2 c1 c2 : Nat} (h : Blk W q #[.slice o1 l1 c1, .slice o2 l2 c2] 25) : W.cell? ⟨q, 0, none⟩ = some (.slice o1 l1 c1) ∧ W.cell? ⟨q, 1, none⟩ = some (.slice o2 l2 c2) := ⟨h.cell 0, h.cell 1⟩

/-- What stands between two schemes told. -/
def IA (wk : World) (pre : List (Value × Value)) (W : World) : Prop := pre.length < 300 ∧ Below wk.heap.size wk W ∧ Blk W wk.heap.size #[.int .i64 pre.length] 3
/-- What stands where the loop is left. -/
def IxA (wk : World) (c : Code) (pre : List (Value × Value)) (W : World) : Prop := c = .exit 2 ∧ pre.length = 300 ∧ Below wk.heap.size wk W ∧ Blk W wk.heap.size #[.int .i64 (300 : Nat)] 3
/-- What stands between two rounds. -/
def QaM (n z : Int) (w V : World) (BA : Nat) (m : Nat) (a : Act) (W : World) : Prop :=
  ∃ (Ds : List Nat) (j : Nat) (f : Nat → Value), j + m = 2 ∧ Ds.Pairwise (· > ·) ∧ (∀ D ∈ Ds, V.heap.size ≤ D ∧ W.heap[D]? = some (.deferred (some []))) ∧ Below V.heap.size V W ∧
    a = { tmps := #[(.int .i64 n), (.pointer (some ⟨w.heap.size, 0, none⟩)), (.pointer (some ⟨w.heap.size + 1, 0, none⟩)), (.func (.func 71) #[] #[.pointer (some ⟨BA, 0, none⟩)]), (.int .i64 (j : Nat)), f 5, f 6, f 7, f 8, f 9, f 10, f 11, f 12, f 13, f 14, f 15, f 16, f 17, f 18, f 19, f 20, f 21, f 22, f 23, f 24, f 25, f 26, f 27, f 28, f 29, f 30, f 31, f 32, f 33, f 34, f 35, f 36, f 37, f 38, f 39, f 40, f 41, f 42, f 43, f 44, f 45, f 46, f 47, f 48], defers := Ds.map mkD }
theorem QaM.mk {n z : Int} {w V : World} {BA m : Nat} {a : Act} {W : World} (Ds : List Nat) (j : Nat) (h1 : j + m = 2) (h2 : Ds.Pairwise (· > ·)) (h3 : ∀ D ∈ Ds, V.heap.size ≤ D ∧ W.heap[D]? = some (.deferred (some []))) (h4 : Below V.heap.size V W)
    (h5 : a = { tmps := #[(.int .i64 n), (.pointer (some ⟨w.heap.size, 0, none⟩)), (.pointer (some ⟨w.heap.size + 1, 0, none⟩)), (.func (.func 71) #[] #[.pointer (some ⟨BA, 0, none⟩)]), (.int .i64 (j : Nat)), (a.tmps.getD 5 undef), (a.tmps.getD 6 undef), (a.tmps.getD 7 undef), (a.tmps.getD 8 undef), (a.tmps.getD 9 undef), (a.tmps.getD 10 undef), (a.tmps.getD 11 undef), (a.tmps.getD 12 undef), (a.tmps.getD 13 undef), (a.tmps.getD 14 undef), (a.tmps.getD 15 undef), (a.tmps.getD 16 undef), (a.tmps.getD 17 undef), (a.tmps.getD 18 undef), (a.tmps.getD 19 undef), (a.tmps.getD 20 undef), (a.tmps.getD 21 undef), (a.tmps.getD 22 undef), (a.tmps.getD 23 undef), (a.tmps.getD 24 undef), (a.tmps.getD 25 undef), (a.tmps.getD 26 undef), (a.tmps.getD 27 undef), (a.tmps.getD 28 undef), (a.tmps.getD 29 undef), (a.tmps.getD 30 undef), (a.tmps.getD 31 undef), (a.tmps.getD 32 undef), (a.tmps.getD 33 undef), (a.tmps.getD 34 undef), (a.tmps.getD 35 undef), (a.tmps.getD 36 undef), (a.tmps.getD 37 undef), (a.tmps.getD 38 undef), (a.tmps.getD 39 undef), (a.tmps.getD 40 undef), (a.tmps.getD 41 undef), (a.tmps.getD 42 undef), (a.tmps.getD 43 undef), (a.tmps.getD 44 undef), (a.tmps.getD 45 undef), (a.tmps.getD 46 undef), (a.tmps.getD 47 undef), (a.tmps.getD 48 undef)], defers := Ds.map mkD }) : QaM n z w V BA m a W :=
  ⟨Ds, j, fun i => a.tmps.getD i undef, h1, h2, h3, h4, h5⟩
theorem all_end {w V W Z : World} {Ds : List Nat} {tmps : Array Value} (h1 : Ds.Pairwise (· > ·)) (h2 : ∀ D ∈ Ds, V.heap.size ≤ D ∧ W.heap[D]? = some (.deferred (some []))) (hB : Below V.heap.size V W) (hV : Below w.heap.size w V) (hZ : Below W.heap.size W Z) (hs : w.heap.size + 1 + 1 ≤ V.heap.size)
    (hc : (Z.setCell ⟨w.heap.size + 1, 0, none⟩ (.bool true)).cell? ⟨w.heap.size + 1, 0, none⟩ = some (.bool true)) (hp : tmps[2]?.getD undef = .pointer (some ⟨w.heap.size + 1, 0, none⟩)) :
    LeavesInM Fence.wide 11 Try.prog Try.f10 tmps (fun e w' => e = .returned (.bool true) ∧ Below w.heap.size w w') (Ds.map mkD) .returning (Z.setCell ⟨w.heap.size + 1, 0, none⟩ (.bool true)) := by
  refine leavesM_all (w := V) (p := w.heap.size + 1) (bv := .bool true) (by omega) (fun X hX => ?_) Ds _ h1 (fun D hD => ?_) hc (fun X hX => ⟨rfl, ?_⟩)
  · simp [results, Try.f10, go_sem, hp, hX]
  · obtain ⟨h3, h4⟩ := h2 D hD
    exact ⟨h3, (Below.heap_setCell _ _ _ _ (by dsimp only; omega)).trans ((hZ.block D (Array.getElem?_eq_some_iff.1 h4).1).trans h4)⟩
  · have h5 := hV.trans (hB.mono hV.size)
    have h6 := (h5.trans (hZ.mono h5.size)).setCell (p := ⟨w.heap.size + 1, 0, none⟩) (Nat.le_succ _) (.bool true)
    exact h6.trans (hX.mono hV.size)
theorem dueS_put {n b l : Nat} {pre : List (Value × Value)} {x : Value × Value} {W : World} {o : Obj} (h : DueS n b pre x W) (ho : W.heap[l]? = some o) (hc : o.isCells = false) (o' : Obj) : DueS n b pre x (W.putObj l o') := by
  have key : ∀ {e : TypeId} {sz k : Nat} {v : Value} {xs : List Value}, W.ownsRow b e sz v k xs → (W.putObj l o').ownsRow b e sz v k xs := by
    intro e sz k v xs hr
    refine own_same hr fun g hg => World.putObj_heap_other fun e' => ?_
    obtain ⟨o2, h2, h3⟩ := own_isCells hr g hg
    rw [e', ho] at h2; cases h2
    rw [hc] at h3; cases h3
  exact ⟨h.1, key h.2.1, key h.2.2⟩
theorem dueS_below {n b : Nat} {pre : List (Value × Value)} {x : Value × Value} {W Y : World} (h : DueS n b pre x W) (hb : Below W.heap.size W Y) : DueS n b pre x Y := ⟨h.1, own_below h.2.1 hb, own_below h.2.2 hb⟩
/-- The activation and the world where a scheme has been told. -/
def AAs (Tm : Nat → Value × Value → Array Value) (n b : Nat) (pre : List (Value × Value)) (x : Value × Value) (a : Act) (W : World) : Prop :=
  ∃ q, a = { tmps := Tm q x, defers := [] } ∧ b ≤ q ∧ Blk W q #[x.1, x.2] 25 ∧ DueS n b pre x W
theorem AAs.put {Tm : Nat → Value × Value → Array Value} {n b : Nat} {pre : List (Value × Value)} {x : Value × Value} {a : Act} {W : World} (h : AAs Tm n b pre x a W) (l : Nat) (o o' : Obj) (ho : W.heap[l]? = some o) (hc : o.isCells = false) : AAs Tm n b pre x a (W.putObj l o') := by
  obtain ⟨q, h1, h2, h3, h4⟩ := h
  refine ⟨q, h1, h2, (World.putObj_heap_other fun e => ?_).trans h3, dueS_put h4 ho hc o'⟩
  have h5 : W.heap[q]? = _ := h3
  rw [e, ho] at h5; cases h5
  cases hc
theorem iA_ab {wk : World} {B : Nat} (hB : wk.heap.size + 1 ≤ B) : AbX B FrT (IA wk) := by
  intro s X Y row hs hg hr
  exact ⟨hs.1, hs.2.1.grown hg (Nat.le_trans hs.2.1.size (Nat.le_refl _)) (fun r e => by have := (hr r e).1; omega), hs.2.2.kept hg (fun e => by have := (hr _ e.symm).1; omega)⟩
theorem ixA_ab {wk : World} {B : Nat} (hB : wk.heap.size + 1 ≤ B) (c : Code) : AbX B FrT (IxA wk c) := by
  intro s X Y row hs hg hr
  exact ⟨hs.1, hs.2.1, hs.2.2.1.grown hg (Nat.le_trans hs.2.2.1.size (Nat.le_refl _)) (fun r e => by have := (hr r e).1; omega), hs.2.2.2.kept hg (fun e => by have := (hr _ e.symm).1; omega)⟩
/-- What stands behind the loop. -/
def RA (wk : World) (n D : Nat) (W : World) : Prop := wk.heap.size + 1 ≤ D ∧ W.heap[D]? = some (.deferred (some [])) ∧ Below wk.heap.size wk W ∧ Blk W wk.heap.size #[.int .i64 (min 300 (tT n 0) : Nat)] 3
theorem range_cutP {P : Program} {c : Code} {Q : Exit → Act → World → Prop} {a : Act} {w : World} (id : Nat) (R : Nat → World → Prop)
    (h : c.wp P (fun e a' W => (e = .normal ∨ e = .exit id) ∧ ∃ D, R D W ∧ a' = { a with defers := mkD D :: a.defers }) a w)
    (hid : ∀ a W, Q .normal a W → Q (.exit id) a W) (h2 : ∀ D W, R D W → Q .normal { a with defers := mkD D :: a.defers } W) : c.wp P Q a w :=
  Code.wp_mono (fun e a' W ⟨he, D, hR, ha⟩ => by
    subst ha
    rcases he with rfl | rfl
    · exact h2 D W hR
    · exact hid _ _ (h2 D W hR)) h
end Go.Proofs.Ytdcmkiggnmajgaa
