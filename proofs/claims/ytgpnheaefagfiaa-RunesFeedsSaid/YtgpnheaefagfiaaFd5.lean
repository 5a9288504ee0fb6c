/- What stands between two rounds of RunesFeeds. -/
import Derived.Test.YtgpnheaefagfiaaFd2
import Derived.Test.YtgpnheaefagfiaaFd4
import Derived.Deep.AppendLies
namespace Go.Proofs.Ytgpnheaefagfiaa
set_option linter.unusedVariables false
set_option linter.unusedSimpArgs false
open Go Go.RowKit
set_option maxRecDepth 100000

/-- Pieces as they lie. -/
abbrev Qd := Nat × Nat × Nat × Bool
def qc (l : List Qd) : List Value := l.flatMap fun x => [.int .i64 (x.1 : Nat), .int .i64 (x.2.1 : Nat), .int .i32 (x.2.2.1 : Nat), .bool x.2.2.2]
def qz (a : Nat) (s : ByteArray) (l : List Nat) : List Qd := l.map fun i => (a + i, wd s i, rn s i, bk s i)
theorem pcz_qc (a : Nat) (s : ByteArray) (l : List Nat) : pcz a s l = qc (qz a s l) := by simp [pcz, qc, qz, List.flatMap_map]
theorem qz_len (a : Nat) (s : ByteArray) (l : List Nat) : (qz a s l).length = l.length := by simp [qz]
theorem qc_len (l : List Qd) : (qc l).length = l.length * 4 := by
  induction l with
  | nil => rfl
  | cons x l ih => simp only [qc, List.flatMap_cons, List.length_append, List.length_cons, List.length_nil] at ih ⊢; omega
theorem nth_qc {l : List Qd} {base g cap n : Nat} {e : TypeId} {w : World} (h : w.ownsRow base e 4 (.slice (some ⟨g, 0, none⟩) n cap) n (qc l)) (hn : l.length = n) (k : Nat) (hk : k < n) (p : Qd) (hp : l[k]? = some p) :
    w.cell? ⟨g, k * 4, none⟩ = some (.int .i64 (p.1 : Nat)) ∧ w.cell? ⟨g, k * 4 + 1, none⟩ = some (.int .i64 (p.2.1 : Nat)) ∧
      w.cell? ⟨g, k * 4 + 2, none⟩ = some (.int .i32 (p.2.2.1 : Nat)) ∧ w.cell? ⟨g, k * 4 + 3, none⟩ = some (.bool p.2.2.2) := by
  have hc := fun j (hj : j < n * 4) => h.cellAt j hj
  have hs : l = l.take k ++ p :: l.drop (k + 1) := by
    have h1 : k < l.length := by omega
    rw [List.getElem?_eq_getElem h1] at hp
    rw [← Option.some.inj hp, List.getElem_cons_drop, List.take_append_drop]
  have hpcs : qc l = qc (l.take k) ++ ([.int .i64 (p.1 : Nat), .int .i64 (p.2.1 : Nat), .int .i32 (p.2.2.1 : Nat), .bool p.2.2.2] ++ qc (l.drop (k + 1))) := by
    conv => lhs; rw [hs]
    simp [qc]
  have hl : (qc (l.take k)).length = k * 4 := by rw [qc_len, List.length_take]; omega
  refine ⟨?_, ?_, ?_, ?_⟩
  · rw [hc _ (by omega), hpcs, List.getElem?_append_right (by omega), show k * 4 - (qc (l.take k)).length = 0 by omega]; rfl
  · rw [hc _ (by omega), hpcs, List.getElem?_append_right (by omega), show k * 4 + 1 - (qc (l.take k)).length = 1 by omega]; rfl
  · rw [hc _ (by omega), hpcs, List.getElem?_append_right (by omega), show k * 4 + 2 - (qc (l.take k)).length = 2 by omega]; rfl
  · rw [hc _ (by omega), hpcs, List.getElem?_append_right (by omega), show k * 4 + 3 - (qc (l.take k)).length = 3 by omega]; rfl

def InRelQ (n : Nat) (w : World) (i : Value) (wr : World) : Prop := ∃ k : Nat, i = .int .i64 k ∧ k ≤ n ∧ Below w.heap.size w wr

set_option maxHeartbeats 1000000 in
/-- The same pieces are told to be the same. -/
theorem same_pieces (L : List Qd) (v1 v2 : Value) (b1 b2 : Nat) (hL : L.length ≤ 281474976710656) (w : World) (h1 : w.ownsRow b1 24 4 v1 L.length (qc L)) (h2 : w.ownsRow b2 24 4 v2 L.length (qc L)) :
    Calls Try.prog 62 #[v1, v2] w fun e w' => e = .returned (.bool true) ∧ Below w.heap.size w w' := by
  obtain ⟨n, hn⟩ : ∃ n, L.length = n := ⟨_, rfl⟩
  obtain ⟨o1, c1, rfl, ho1⟩ := own_slice h1
  obtain ⟨o2, c2, rfl, ho2⟩ := own_slice h2
  rw [hn] at h1 h2 hL ho1 ho2 ⊢
  have HN := Lib.hid hn
  clear hn
  go_enter Try.func62, Try.ntmps62
  go_wp2
  go_loopw [13] (fun i wr => InRelQ n w i wr) (fun i _ => n - (intOf i).toNat)
  case atStart => exact ⟨0, rfl, Nat.zero_le _, Below.refl _ _⟩
  case round =>
    obtain ⟨k, rfl, hk, hB⟩ := hrel
    by_cases hlt : k < n
    · obtain ⟨g1, rfl⟩ := ho1 (by omega)
      obtain ⟨g2, rfl⟩ := ho2 (by omega)
      obtain ⟨p, hpk⟩ : ∃ p, L[k]? = some p := ⟨_, List.getElem?_eq_getElem (by rw [HN.out]; exact hlt)⟩
      obtain ⟨q0, q1, q2, q3⟩ := nth_qc (own_below h1 hB) HN.out k hlt p hpk
      obtain ⟨r0, r1, r2, r3⟩ := nth_qc (own_below h2 hB) HN.out k hlt p hpk
      have hlti : (k : Int) < (n : Int) := by omega
      go_wp2
      go_quiet (fail)
      go_wp2
      go_roundw
      case rel => exact ⟨k + 1, by go_num, by omega, hB.trans ⟨rfl, rfl, rfl, Nat.le_refl _, fun _ _ => rfl⟩⟩
      case measure => simp [intOf]; omega
    · have hkn : k = n := by omega
      subst hkn
      go_wp2
      go_ret
      exact ⟨rfl, hB⟩

/-- Texts that came in. -/
def RowS (w : World) (o : Option Addr) (ts : List ByteArray) : Prop := ∀ i, i < ts.length → ∃ b off, o = some ⟨b, off, none⟩ ∧ w.cell? ⟨b, off + i, none⟩ = some (.string (ts.getD i ByteArray.empty))
theorem rowS_kept {w w1 : World} {o : Option Addr} {ts : List ByteArray} (h : RowS w o ts) (hb : Below w.heap.size w w1) : RowS w1 o ts := by
  intro i hi
  obtain ⟨b, off, rfl, hc⟩ := h i hi
  exact ⟨b, off, rfl, by rw [hb.cell (lt_cell hc)]; exact hc⟩

/-- u lies apart from v. -/
def Ap (u v : Value) : Prop := ∀ k, u.ownBlock = some k → v.ownBlock ≠ some k
theorem Ap.symm {u v : Value} (h : Ap u v) : Ap v u := fun k hk e => h k e hk
theorem Ap.ne {u v : Value} (h : Ap u v) : v.ownBlock = none ∨ v.ownBlock ≠ u.ownBlock := by
  cases hv : v.ownBlock with
  | none => exact .inl rfl
  | some k => exact .inr (fun e => h k e.symm hv)
theorem ap_of_lt {u v : Value} {N : Nat} (h1 : ∀ k, u.ownBlock = some k → k < N) (h2 : ∀ k, v.ownBlock = some k → N ≤ k) : Ap u v := fun k hk e => by have := h1 k hk; have := h2 k e; omega

/-- What was told and what the document told, round by round; what comes later lies apart. -/
abbrev Tw := Value × Value × List Qd
def Twos (W : World) (S : Nat) (l : List Tw) : Prop :=
  (∀ x ∈ l, W.ownsRow S 24 4 x.1 x.2.2.length (qc x.2.2) ∧ W.ownsRow S 24 4 x.2.1 x.2.2.length (qc x.2.2) ∧ x.2.2.length ≤ 1048576) ∧
    l.Pairwise (fun x y => Ap x.1 y.1 ∧ Ap x.1 y.2.1)
theorem Twos.kept {W W' : World} {S : Nat} {l : List Tw} {row : Option Nat} (h : Twos W S l) (hg : W.grownBy W' row) (hr : ∀ x ∈ l, (x.1.ownBlock = none ∨ x.1.ownBlock ≠ row) ∧ (x.2.1.ownBlock = none ∨ x.2.1.ownBlock ≠ row)) : Twos W' S l :=
  ⟨fun x hx => ⟨(h.1 x hx).1.kept hg (hr x hx).1, (h.1 x hx).2.1.kept hg (hr x hx).2, (h.1 x hx).2.2⟩, h.2⟩
theorem Twos.below {W W' : World} {S : Nat} {l : List Tw} (h : Twos W S l) (hb : Below W.heap.size W W') : Twos W' S l :=
  ⟨fun x hx => ⟨own_below (h.1 x hx).1 hb, own_below (h.1 x hx).2.1 hb, (h.1 x hx).2.2⟩, h.2⟩
theorem Twos.snoc {W : World} {S S1 : Nat} {l : List Tw} {a b : Value} {q : List Qd} (h : Twos W S l) (h1 : S ≤ S1) (hl : ∀ x ∈ l, ∀ k, x.1.ownBlock = some k → k < S1)
    (ha : W.ownsRow S1 24 4 a q.length (qc q)) (hb : W.ownsRow S1 24 4 b q.length (qc q)) (hq : q.length ≤ 1048576) : Twos W S (l ++ [(a, b, q)]) := by
  refine ⟨fun x hx => ?_, List.pairwise_append.2 ⟨h.2, List.pairwise_singleton _ _, fun x hx y hy => ?_⟩⟩
  · rcases List.mem_append.1 hx with hx | hx
    · exact h.1 x hx
    · rw [List.mem_singleton.1 hx]; exact ⟨ha.mono h1, hb.mono h1, hq⟩
  · rw [List.mem_singleton.1 hy]
    exact ⟨ap_of_lt (hl x hx) (fun k hk => (ha.lt k hk).1), ap_of_lt (hl x hx) (fun k hk => (hb.lt k hk).1)⟩

/-- The two Feeds of either side. -/
def Feeds (W : World) (F G b0 b1 : Nat) (X0 : ByteArray) (a0 : Nat) (X1 : ByteArray) (a1 : Nat) : Prop :=
  (Blk W F #[.pointer (some ⟨b0, 0, none⟩), .pointer (some ⟨b1, 0, none⟩)] 76 ∧ Blk W G (rfC X0 a0 X1 a1) 79) ∧
    (FdB W b0 (X0.extract a0 X0.size) a0 ∧ FdB W b1 (X1.extract a1 X1.size) a1) ∧ (FedTo X0 X0.size a0 ∧ FedTo X1 X1.size a1)
theorem Feeds.below {W W' : World} {F G b0 b1 : Nat} {X0 X1 : ByteArray} {a0 a1 : Nat} (h : Feeds W F G b0 b1 X0 a0 X1 a1) (hb : Below W.heap.size W W') : Feeds W' F G b0 b1 X0 a0 X1 a1 :=
  ⟨⟨h.1.1.below' hb, h.1.2.below' hb⟩, ⟨h.2.1.1.below hb h.2.1.1.lt, h.2.1.2.below hb h.2.1.2.lt⟩, h.2.2⟩
theorem Feeds.kept {W W' : World} {F G b0 b1 : Nat} {X0 X1 : ByteArray} {a0 a1 : Nat} {row : Option Nat} (h : Feeds W F G b0 b1 X0 a0 X1 a1) (hg : W.grownBy W' row) (hF : some F ≠ row) (hG : some G ≠ row) (h0 : some b0 ≠ row) (h1 : some b1 ≠ row) : Feeds W' F G b0 b1 X0 a0 X1 a1 :=
  ⟨⟨h.1.1.kept hg hF, h.1.2.kept hg hG⟩, ⟨h.2.1.1.kept hg h0, h.2.1.2.kept hg h1⟩, h.2.2⟩
theorem Feeds.row {W W' : World} {F G b0 b1 : Nat} {X0 X1 : ByteArray} {a0 a1 : Nat} (h : Feeds W F G b0 b1 X0 a0 X1 a1) {base sz n : Nat} {e : TypeId} {v : Value} {xs : List Value} (hr : W.ownsRow base e sz v n xs) (he : e = 24 ∨ e = 29) (hg : W.grownBy W' v.ownBlock) : Feeds W' F G b0 b1 X0 a0 X1 a1 := by
  refine h.kept hg (h.1.1.not_row ?_ hr) (h.1.2.not_row ?_ hr) (h.2.1.1.not_row ?_ hr) (h.2.1.2.not_row ?_ hr) <;> rcases he with rfl | rfl <;> decide
theorem feeds_zero : FedTo ByteArray.empty ByteArray.empty.size 0 := by
  have := fed_all ByteArray.empty
  exact this
theorem infoR : (Try.prog.info? 29).map (fun i => (i.zero, i.size, i.bytes)) = some (some (.slice none 0 0), 1, 24) := by kernel_rfl
end Go.Proofs.Ytgpnheaefagfiaa
