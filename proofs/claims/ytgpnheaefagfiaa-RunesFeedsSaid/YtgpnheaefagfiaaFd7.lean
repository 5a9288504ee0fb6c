/- A round of RunesFeeds: what the two calls of either side leave, in whichever order they are made. -/
import Derived.Test.YtgpnheaefagfiaaFd5
namespace Go.Proofs.Ytgpnheaefagfiaa
set_option linter.unusedVariables false
set_option linter.unusedSimpArgs false
open Go Go.RowKit
set_option maxRecDepth 100000

/-- But for new blocks, b and G alone have changed. -/
structure Chg (X Y : World) (b G : Nat) : Prop where
  os : Y.os = X.os
  tape : Y.tape = X.tape
  output : Y.output = X.output
  size : X.heap.size ≤ Y.heap.size
  block : ∀ k, k < X.heap.size → k ≠ b → k ≠ G → Y.heap[k]? = X.heap[k]?
theorem Chg.of {X Y Z : World} {r1 r2 b G : Nat} (h1 : X.grownBy Y (some r1)) (h2 : Y.grownBy Z (some r2)) (hr1 : r1 = b ∨ r1 = G) (hr2 : r2 = b ∨ r2 = G) : Chg X Z b G :=
  ⟨h2.os.trans h1.os, h2.tape.trans h1.tape, h2.output.trans h1.output, Nat.le_trans h1.size h2.size, fun k hk n1 n2 => (h2.block k (Nat.lt_of_lt_of_le hk h1.size) (by simp; rcases hr2 with rfl | rfl <;> assumption)).trans (h1.block k hk (by simp; rcases hr1 with rfl | rfl <;> assumption))⟩
theorem Chg.blk {X Y : World} {b G B : Nat} {cs : Array Value} {t : TypeId} (h : Chg X Y b G) (hb : Blk X B cs t) (n1 : B ≠ b) (n2 : B ≠ G) : Blk Y B cs t := (h.block B hb.lt n1 n2).trans hb
theorem Chg.fd {X Y : World} {b G B t : Nat} {H : ByteArray} (h : Chg X Y b G) (hb : FdB X B H t) (n1 : B ≠ b) (n2 : B ≠ G) : FdB Y B H t := by
  obtain ⟨z, hz, hb⟩ := hb; exact ⟨z, hz, h.blk hb n1 n2⟩
theorem Chg.row {X Y : World} {b G S n sz : Nat} {e : TypeId} {v : Value} {xs : List Value} (h : Chg X Y b G) (hr : X.ownsRow S e sz v n xs) (h1 : b < S) (h2 : G < S) : Y.ownsRow S e sz v n xs := by
  rcases hr.2 with ⟨rfl, rfl⟩ | ⟨g, cap, cur, rfl, hg, hgb, r⟩
  · exact ⟨hr.1, .inl ⟨rfl, rfl⟩⟩
  · exact ⟨hr.1, .inr ⟨g, cap, cur, rfl, hg, (h.block g (Array.getElem?_eq_some_iff.1 hgb).1 (by omega) (by omega)).trans hgb, r⟩⟩
theorem Chg.twos {X Y : World} {b G S : Nat} {l : List Tw} (h : Chg X Y b G) (hr : Twos X S l) (h1 : b < S) (h2 : G < S) : Twos Y S l :=
  ⟨fun x hx => ⟨h.row (hr.1 x hx).1 h1 h2, h.row (hr.1 x hx).2.1 h1 h2, (hr.1 x hx).2.2⟩, hr.2⟩
theorem Chg.below {X Y w : World} {b G : Nat} (h : Chg X Y b G) (hB : Below w.heap.size w X) (h1 : w.heap.size ≤ b) (h2 : w.heap.size ≤ G) : Below w.heap.size w Y :=
  ⟨h.os.trans hB.os, h.tape.trans hB.tape, h.output.trans hB.output, Nat.le_trans hB.size h.size, fun k hk => (h.block k (Nat.lt_of_lt_of_le hk hB.size) (by omega) (by omega)).trans (hB.block k hk)⟩

/-- What two calls leave: the same pieces told by either. -/
def Mid (X Y : World) (b G : Nat) (cs : Array Value) (H : ByteArray) (t : Nat) (av bv : Value) : Prop :=
  ∃ q : List Qd, q.length ≤ 1048576 ∧ Y.ownsRow X.heap.size 24 4 av q.length (qc q) ∧ Y.ownsRow X.heap.size 24 4 bv q.length (qc q) ∧ FdB Y b H t ∧ Blk Y G cs 79 ∧ Chg X Y b G
theorem mid_A {X Y Z : World} {b G t nA nB : Nat} {cs : Array Value} {H : ByteArray} {av bv : Value} {xA xB : List Value} (q : List Qd) (hq : q.length ≤ 1048576) (hn : nB = nA) (hx : xB = xA) (hqn : q.length = nA) (hqx : qc q = xA)
    (hG : G < X.heap.size) (hne : b ≠ G)
    (rA : Y.ownsRow X.heap.size 24 4 av nA xA) (gA : X.grownBy Y (some b)) (fA : FdB Y b H t)
    (rB : Z.ownsRow Y.heap.size 24 4 bv nB xB) (gB : Y.grownBy Z (some G)) (fB : Blk Z G cs 79) : Mid X Z b G cs H t av bv := by
  subst hn hx hqn hqx
  exact ⟨q, hq, rA.kept gB (.inr (fun e => by have := (rA.lt _ e).1; omega)), rB.mono gA.size, fA.kept gB (by simpa using hne), fB, Chg.of gA gB (.inl rfl) (.inr rfl)⟩
theorem mid_B {X Y Z : World} {b G t nA nB : Nat} {cs : Array Value} {H : ByteArray} {av bv : Value} {xA xB : List Value} (q : List Qd) (hq : q.length ≤ 1048576) (hn : nB = nA) (hx : xB = xA) (hqn : q.length = nA) (hqx : qc q = xA)
    (hb : b < X.heap.size) (hne : b ≠ G)
    (rB : Y.ownsRow X.heap.size 24 4 bv nB xB) (gB : X.grownBy Y (some G)) (fB : Blk Y G cs 79)
    (rA : Z.ownsRow Y.heap.size 24 4 av nA xA) (gA : Y.grownBy Z (some b)) (fA : FdB Z b H t) : Mid X Z b G cs H t av bv := by
  subst hn hx hqn hqx
  exact ⟨q, hq, rA.mono gB.size, rB.kept gA (.inr (fun e => by have := (rB.lt _ e).1; omega)), fA, fB.kept gA (by simpa using hne.symm), Chg.of gB gA (.inr rfl) (.inl rfl)⟩

/-- What the program's Put is told at a state of the document's. -/
theorem put_args (X s : ByteArray) (a : Nat) (h : FedTo X X.size a) (S : ByteArray) (hS : X ++ s = S) (b : Nat) (hb : S.size - opN S = b) :
    X.extract a X.size ++ s = S.extract a S.size ∧ (S.extract a S.size).size - opN (S.extract a S.size) = b - a ∧ (S.extract a S.size).extract 0 (b - a) = S.extract a b ∧ (S.extract a S.size).extract (b - a) (S.extract a S.size).size = S.extract b S.size ∧ a + (b - a) = b ∧ FedTo S S.size b
      ∧ (tellL S a b).length = (posns (S.extract a b)).length ∧ pcs S (tellL S a b) = pcz a (S.extract a b) (posns (S.extract a b)) := by
  obtain ⟨h1, h2, h3, h4, h5, h6, h7, h8⟩ := put_same X s a h S hS b hb
  have hz := tl_size S a
  refine ⟨h1, by omega, ?_, ?_, by omega, h6, h7, h8⟩
  · rw [ext_tail S a 0 (b - a) (by omega), Nat.add_zero, show a + (b - a) = b by omega]
  · rw [hz, ext_tail S a (b - a) (S.size - a) (by omega), show a + (b - a) = b by omega, show a + (S.size - a) = S.size by omega]

/-- Between the calls and the round's end. -/
def FeMid (j S F G b0 b1 : Nat) (w : World) (told want : Value) (l : List Tw) (S1 : Nat) (av bv : Value) (Y : World) : Prop :=
  ∃ (q : List Qd) (X0 : ByteArray) (a0 : Nat) (X1 : ByteArray) (a1 : Nat), (q.length ≤ 1048576 ∧ Y.ownsRow S1 24 4 av q.length (qc q) ∧ Y.ownsRow S1 24 4 bv q.length (qc q)) ∧
    (Y.ownsRow S 29 1 told j (l.map (fun x => x.1)) ∧ Y.ownsRow S 29 1 want j (l.map (fun x => x.2.1)) ∧ Twos Y S l) ∧ Feeds Y F G b0 b1 X0 a0 X1 a1 ∧ (X0.size ≤ (j + 1) * 1024 ∧ X1.size ≤ (j + 1) * 1024) ∧ S1 ≤ Y.heap.size ∧ Below w.heap.size w Y

theorem fe_mid0 {j F b0 b1 S1 : Nat} {w X Y : World} {told want av bv : Value} {l : List Tw} {X0 X1 N0 : ByteArray} {a0 a1 c0 : Nat}
    (ht : X.ownsRow (F + 2) 29 1 told j (l.map (fun x => x.1))) (hw : X.ownsRow (F + 2) 29 1 want j (l.map (fun x => x.2.1))) (htw : Twos X (F + 2) l) (hfe : Feeds X F (F + 1) b0 b1 X0 a0 X1 a1)
    (hx1 : X1.size ≤ j * 1024) (hB : Below w.heap.size w X) (e0 : b0 < b1) (e1 : b1 < F) (ew : w.heap.size ≤ b0) (hS1 : S1 ≤ X.heap.size)
    (hm : Mid X Y b0 (F + 1) (rfC N0 c0 X1 a1) (N0.extract c0 N0.size) c0 av bv) (hN : FedTo N0 N0.size c0) (hNs : N0.size ≤ (j + 1) * 1024) : FeMid j (F + 2) F (F + 1) b0 b1 w told want l S1 av bv Y := by
  obtain ⟨q, hq, rA, rB, hf, hg, hc⟩ := hm
  exact ⟨q, N0, c0, X1, a1, ⟨hq, rA.mono hS1, rB.mono hS1⟩, ⟨hc.row ht (by omega) (by omega), hc.row hw (by omega) (by omega), hc.twos htw (by omega) (by omega)⟩, ⟨⟨hc.blk hfe.1.1 (by omega) (by omega), hg⟩, ⟨hf, hc.fd hfe.2.1.2 (by omega) (by omega)⟩, ⟨hN, hfe.2.2.2⟩⟩, ⟨hNs, by omega⟩, Nat.le_trans hS1 hc.size, hc.below hB ew (by omega)⟩
theorem fe_mid1 {j F b0 b1 S1 : Nat} {w X Y : World} {told want av bv : Value} {l : List Tw} {X0 X1 N1 : ByteArray} {a0 a1 c1 : Nat}
    (ht : X.ownsRow (F + 2) 29 1 told j (l.map (fun x => x.1))) (hw : X.ownsRow (F + 2) 29 1 want j (l.map (fun x => x.2.1))) (htw : Twos X (F + 2) l) (hfe : Feeds X F (F + 1) b0 b1 X0 a0 X1 a1)
    (hx0 : X0.size ≤ j * 1024) (hB : Below w.heap.size w X) (e0 : b0 < b1) (e1 : b1 < F) (ew : w.heap.size ≤ b0) (hS1 : S1 ≤ X.heap.size)
    (hm : Mid X Y b1 (F + 1) (rfC X0 a0 N1 c1) (N1.extract c1 N1.size) c1 av bv) (hN : FedTo N1 N1.size c1) (hNs : N1.size ≤ (j + 1) * 1024) : FeMid j (F + 2) F (F + 1) b0 b1 w told want l S1 av bv Y := by
  obtain ⟨q, hq, rA, rB, hf, hg, hc⟩ := hm
  exact ⟨q, X0, a0, N1, c1, ⟨hq, rA.mono hS1, rB.mono hS1⟩, ⟨hc.row ht (by omega) (by omega), hc.row hw (by omega) (by omega), hc.twos htw (by omega) (by omega)⟩, ⟨⟨hc.blk hfe.1.1 (by omega) (by omega), hg⟩, ⟨hc.fd hfe.2.1.1 (by omega) (by omega), hf⟩, ⟨hfe.2.2.1, hN⟩⟩, ⟨by omega, hNs⟩, Nat.le_trans hS1 hc.size, hc.below hB (by omega) (by omega)⟩

/-- An append to a row of slices leaves all else. -/
theorem keep24 {X Y : World} {o : Obj} {S n : Nat} {v : Value} {xs : List Value} (hr : X.ownsRow S 29 1 v n xs) (hg : (X.alloc o).grownBy Y v.ownBlock) :
    (∀ (base n' : Nat) (u : Value) (ys : List Value), X.ownsRow base 24 4 u n' ys → Y.ownsRow base 24 4 u n' ys) ∧ (∀ (S' : Nat) (l : List Tw), Twos X S' l → Twos Y S' l) ∧
      (∀ (F G b0 b1 : Nat) (X0 : ByteArray) (a0 : Nat) (X1 : ByteArray) (a1 : Nat), Feeds X F G b0 b1 X0 a0 X1 a1 → Feeds Y F G b0 b1 X0 a0 X1 a1) ∧
      (∀ w : World, Below w.heap.size w X → w.heap.size ≤ S → Below w.heap.size w Y) ∧ X.heap.size ≤ Y.heap.size := by
  have ha := hr.alloc o
  have hz := hg.size
  rw [World.size_alloc] at hz
  refine ⟨fun base n' u ys h => (h.alloc o).kept hg (rows_apart (h.alloc o) ha (by decide)), fun S' l h => ?_, fun F G b0 b1 X0 a0 X1 a1 h => ?_, fun w h hS => (h.alloc h.size o).grown hg (by have := h.size; simp; omega) (fun k hk => Nat.le_trans hS (ha.lt k hk).1), by omega⟩
  · exact ⟨fun x hx => ⟨((h.1 x hx).1.alloc o).kept hg (rows_apart ((h.1 x hx).1.alloc o) ha (by decide)), ((h.1 x hx).2.1.alloc o).kept hg (rows_apart ((h.1 x hx).2.1.alloc o) ha (by decide)), (h.1 x hx).2.2⟩, h.2⟩
  · have hb : Below X.heap.size X (X.alloc o) := (Below.refl _ X).alloc (Nat.le_refl _) o
    exact (h.below hb).row ha (.inr rfl) hg
theorem ap_new {u v : Value} {g H n c : Nat} (h : u.ownBlock = some g ∨ g = H) (hap : Ap u v) (hlt : ∀ k, v.ownBlock = some k → k < H) : Ap (.slice (some ⟨g, 0, none⟩) n c) v := by
  intro k hk
  obtain rfl : g = k := by simpa [Value.ownBlock] using hk
  rcases h with h | rfl
  · exact hap _ h
  · exact fun e => Nat.lt_irrefl _ (hlt _ e)
theorem ob_lt {g H n c : Nat} (h : g < H) : ∀ k, (Value.slice (some ⟨g, 0, none⟩) n c).ownBlock = some k → k < H := by
  intro k hk
  have e : g = k := by simpa [Value.ownBlock] using hk
  omega
end Go.Proofs.Ytgpnheaefagfiaa
