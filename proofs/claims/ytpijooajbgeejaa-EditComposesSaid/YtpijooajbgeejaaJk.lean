/- Stage 27: two cursors and two makers, side by side. -/
import Derived.Test.YtpijooajbgeejaaJp
namespace Go.Proofs.Ytpijooajbgeejaa
set_option linter.unusedVariables false
set_option linter.unusedSimpArgs false
open Go Go.RowKit Go.Shelf
set_option maxRecDepth 100000

theorem own_keptQ {W X : World} {b : Nat} {e : TypeId} {sz n : Nat} {v : Value} {xs : List Value} (h : W.ownsRow b e sz v n xs) (hk : ∀ q, v.ownBlock = some q → X.heap[q]? = W.heap[q]?) : X.ownsRow b e sz v n xs := by
  refine ⟨h.1, h.2.imp id ?_⟩
  rintro ⟨g, cap, cur, rfl, hg, h1, rest⟩
  exact ⟨g, cap, cur, rfl, hg, (hk g rfl).trans h1, rest⟩
/-- No block is in both makers' rows. -/
def Ap (t s : Value × Value × Value) : Prop := ∀ q, N3 t q ∨ N3 s q
theorem Ap.symm {t s : Value × Value × Value} (h : Ap t s) : Ap s t := fun q => (h q).symm
theorem MkB.keptM {W X : World} {B B2 b : Nat} {vo vp vd vo2 vp2 vd2 : Value} {m m2 : Mk} {t : Value × Value × Value} (h2 : MkB W B2 b vo2 vp2 vd2 m2) (h : MkB W B b vo vp vd m) (hk : KpM B (vo, vp, vd) t W X) (hne : B ≠ B2) (hap : Ap (vo, vp, vd) (vo2, vp2, vd2)) :
    MkB X B2 b vo2 vp2 vd2 m2 ∧ Ap t (vo2, vp2, vd2) := by
  have hB := h.bb
  have kb : ∀ q, ¬ N3 (vo2, vp2, vd2) q → q < W.heap.size → b ≤ q → X.heap[q]? = W.heap[q]? ∧ N3 t q := fun q hn hq hb => hk.blk q hq (by omega) ((hap q).resolve_right hn)
  refine ⟨⟨(hk.low h h2.bb (fun e => hne e.symm)).trans h2.blk, own_keptQ h2.ro fun q e => ?_, own_keptQ h2.rp fun q e => ?_, own_keptQ h2.rd fun q e => ?_, h2.ap, h2.bb, Nat.le_trans h2.bw hk.size⟩, fun q => ?_⟩
  · have := h2.ro.lt q e
    exact (kb q (fun hn => hn.1 e.symm) this.2 this.1).1
  · have := h2.rp.lt q e
    exact (kb q (fun hn => hn.2.1 e.symm) this.2 this.1).1
  · have := h2.rd.lt q e
    exact (kb q (fun hn => hn.2.2 e.symm) this.2 this.1).1
  · by_cases hn : N3 (vo2, vp2, vd2) q
    · exact .inr hn
    · left
      have : q < W.heap.size ∧ b ≤ q := by
        by_cases e1 : some q = vo2.ownBlock
        · have := h2.ro.lt q e1.symm; omega
        · by_cases e2 : some q = vp2.ownBlock
          · have := h2.rp.lt q e2.symm; omega
          · by_cases e3 : some q = vd2.ownBlock
            · have := h2.rd.lt q e3.symm; omega
            · exact absurd ⟨e1, e2, e3⟩ hn
      exact (kb q hn this.1 this.2).2
/-- Two cursors, two makers with their rows. -/
def St2X (w0 : World) (C1 C2 B1 B2 b : Nat) (W : World) (l1 : List Sp) (u1 : Nat) (l2 : List Sp) (u2 : Nat) (m1 m2 : Mk) (t1 t2 : Value × Value × Value) : Prop :=
  (∃ o1 c1, CuB w0 W C1 o1 c1 l1 u1) ∧ (∃ o2 c2, CuB w0 W C2 o2 c2 l2 u2) ∧ MkB W B1 b t1.1 t1.2.1 t1.2.2 m1 ∧ MkB W B2 b t2.1 t2.2.1 t2.2.2 m2 ∧ Ap t1 t2 ∧ C1 < B1 ∧ C2 < B1 ∧ C1 ≠ C2 ∧ B1 < B2
def St2 (w0 : World) (C1 C2 B1 B2 b : Nat) (W : World) (l1 : List Sp) (u1 : Nat) (l2 : List Sp) (u2 : Nat) (m1 m2 : Mk) : Prop := ∃ t1 t2, St2X w0 C1 C2 B1 B2 b W l1 u1 l2 u2 m1 m2 t1 t2
section
variable {w0 : World} {C1 C2 B1 B2 b : Nat} {W : World} {l1 l2 : List Sp} {u1 u2 : Nat} {m1 m2 : Mk}
theorem St2.below {X : World} (h : St2 w0 C1 C2 B1 B2 b W l1 u1 l2 u2 m1 m2) (hb : Below W.heap.size W X) : St2 w0 C1 C2 B1 B2 b X l1 u1 l2 u2 m1 m2 := by
  obtain ⟨t1, t2, ⟨o1, c1, h1⟩, ⟨o2, c2, h2⟩, h3, h4, h5⟩ := h
  exact ⟨t1, t2, ⟨o1, c1, h1.below hb⟩, ⟨o2, c2, h2.below hb⟩, h3.below hb, h4.below hb, h5⟩
theorem s2_low (h : St2 w0 C1 C2 B1 B2 b W l1 u1 l2 u2 m1 m2) : Below w0.heap.size w0 W := by
  obtain ⟨t1, t2, ⟨o1, c1, h1⟩, _⟩ := h
  exact h1.2.2.1
theorem s2_mu (h : St2 w0 C1 C2 B1 B2 b W l1 u1 l2 u2 m1 m2) : muC W C1 + muC W C2 = (l1.length * 1000000 - u1) + (l2.length * 1000000 - u2) := by
  obtain ⟨t1, t2, ⟨o1, c1, h1⟩, ⟨o2, c2, h2⟩, _⟩ := h
  rw [mu_of h1, mu_of h2]
theorem s2_kind1 (h : St2 w0 C1 C2 B1 B2 b W l1 u1 l2 u2 m1 m2) : Calls Try.prog 19 #[.pointer (some ⟨C1, 0, none⟩)] W fun e W' => e = .returned (.int .i64 (kindC l1)) ∧ St2 w0 C1 C2 B1 B2 b W' l1 u1 l2 u2 m1 m2 := by
  have H := h
  obtain ⟨t1, t2, ⟨o1, c1, h1⟩, ⟨o2, c2, h2⟩, h3, h4, h5⟩ := h
  exact (cu_kind h1).mono (by rintro e W' ⟨rfl, hb⟩; exact ⟨rfl, H.below hb⟩)
theorem s2_kind2 (h : St2 w0 C1 C2 B1 B2 b W l1 u1 l2 u2 m1 m2) : Calls Try.prog 19 #[.pointer (some ⟨C2, 0, none⟩)] W fun e W' => e = .returned (.int .i64 (kindC l2)) ∧ St2 w0 C1 C2 B1 B2 b W' l1 u1 l2 u2 m1 m2 := by
  have H := h
  obtain ⟨t1, t2, ⟨o1, c1, h1⟩, ⟨o2, c2, h2⟩, h3, h4, h5⟩ := h
  exact (cu_kind h2).mono (by rintro e W' ⟨rfl, hb⟩; exact ⟨rfl, H.below hb⟩)
theorem s2_left1 (h : St2 w0 C1 C2 B1 B2 b W l1 u1 l2 u2 m1 m2) (hv : CuV l1 u1) : Calls Try.prog 22 #[.pointer (some ⟨C1, 0, none⟩)] W fun e W' => e = .returned (.int .i64 (leftC u1 l1)) ∧ St2 w0 C1 C2 B1 B2 b W' l1 u1 l2 u2 m1 m2 := by
  have H := h
  obtain ⟨t1, t2, ⟨o1, c1, h1⟩, ⟨o2, c2, h2⟩, h3, h4, h5⟩ := h
  obtain ⟨k1, k2, k3, _⟩ := left_ok hv
  exact (cu_left h1 k1 k2 k3).mono (by rintro e W' ⟨rfl, hb⟩; exact ⟨rfl, H.below hb⟩)
theorem s2_left2 (h : St2 w0 C1 C2 B1 B2 b W l1 u1 l2 u2 m1 m2) (hv : CuV l2 u2) : Calls Try.prog 22 #[.pointer (some ⟨C2, 0, none⟩)] W fun e W' => e = .returned (.int .i64 (leftC u2 l2)) ∧ St2 w0 C1 C2 B1 B2 b W' l1 u1 l2 u2 m1 m2 := by
  have H := h
  obtain ⟨t1, t2, ⟨o1, c1, h1⟩, ⟨o2, c2, h2⟩, h3, h4, h5⟩ := h
  obtain ⟨k1, k2, k3, _⟩ := left_ok hv
  exact (cu_left h2 k1 k2 k3).mono (by rintro e W' ⟨rfl, hb⟩; exact ⟨rfl, H.below hb⟩)
theorem s2_take1 (h : St2 w0 C1 C2 B1 B2 b W l1 u1 l2 u2 m1 m2) (hv : CuV l1 u1) {n : Nat} (hne : l1 ≠ []) (hn : n ≤ leftC u1 l1) :
    Calls Try.prog 21 #[.pointer (some ⟨C1, 0, none⟩), .int .i64 n] W fun e W' => ∃ s l' u', e = .returned (.string s) ∧ St2 w0 C1 C2 B1 B2 b W' l' u' l2 u2 m1 m2 ∧ TkR l1 u1 n s l' u' := by
  obtain ⟨t1, t2, ⟨o1, c1, h1⟩, ⟨o2, c2, h2⟩, h3, h4, h5, k1, k2, k3, k4⟩ := h
  refine (cu_takeA h1 hv hne hn).mono ?_
  rintro e W' ⟨s, rfl, hK, o', c', l', u', g1, g2, g3, g4⟩
  exact ⟨s, l', u', rfl, ⟨t1, t2, ⟨_, _, g1⟩, ⟨_, _, h2.keptC hK h1.2.2.2.1 (fun e => k3 e.symm)⟩, h3.keptC hK k1, h4.keptC hK (by omega), h5, k1, k2, k3, k4⟩, g2, g3, g4⟩
theorem s2_take2 (h : St2 w0 C1 C2 B1 B2 b W l1 u1 l2 u2 m1 m2) (hv : CuV l2 u2) {n : Nat} (hne : l2 ≠ []) (hn : n ≤ leftC u2 l2) :
    Calls Try.prog 21 #[.pointer (some ⟨C2, 0, none⟩), .int .i64 n] W fun e W' => ∃ s l' u', e = .returned (.string s) ∧ St2 w0 C1 C2 B1 B2 b W' l1 u1 l' u' m1 m2 ∧ TkR l2 u2 n s l' u' := by
  obtain ⟨t1, t2, ⟨o1, c1, h1⟩, ⟨o2, c2, h2⟩, h3, h4, h5, k1, k2, k3, k4⟩ := h
  refine (cu_takeA h2 hv hne hn).mono ?_
  rintro e W' ⟨s, rfl, hK, o', c', l', u', g1, g2, g3, g4⟩
  exact ⟨s, l', u', rfl, ⟨t1, t2, ⟨_, _, h1.keptC hK h2.2.2.2.1 k3⟩, ⟨_, _, g1⟩, h3.keptC hK k2, h4.keptC hK (by omega), h5, k1, k2, k3, k4⟩, g2, g3, g4⟩
/-- The first maker has worked. -/
theorem St2X.wk1 {t1 t2 t : Value × Value × Value} {m : Mk} {X : World} (h : St2X w0 C1 C2 B1 B2 b W l1 u1 l2 u2 m1 m2 t1 t2) (hM : MkB X B1 b t.1 t.2.1 t.2.2 m) (hk : KpM B1 t1 t W X) : St2X w0 C1 C2 B1 B2 b X l1 u1 l2 u2 m m2 t t2 := by
  obtain ⟨⟨o1, c1, h1⟩, ⟨o2, c2, h2⟩, h3, h4, h5, k1, k2, k3, k4⟩ := h
  obtain ⟨g1, g2⟩ := h4.keptM h3 hk (by omega) h5
  exact ⟨⟨_, _, h1.keptM h3 hk k1⟩, ⟨_, _, h2.keptM h3 hk k2⟩, hM, g1, g2, k1, k2, k3, k4⟩
/-- The second maker has worked. -/
theorem St2X.wk2 {t1 t2 t : Value × Value × Value} {m : Mk} {X : World} (h : St2X w0 C1 C2 B1 B2 b W l1 u1 l2 u2 m1 m2 t1 t2) (hM : MkB X B2 b t.1 t.2.1 t.2.2 m) (hk : KpM B2 t2 t W X) : St2X w0 C1 C2 B1 B2 b X l1 u1 l2 u2 m1 m t1 t := by
  obtain ⟨⟨o1, c1, h1⟩, ⟨o2, c2, h2⟩, h3, h4, h5, k1, k2, k3, k4⟩ := h
  obtain ⟨g1, g2⟩ := h3.keptM h4 hk (by omega) h5.symm
  exact ⟨⟨_, _, h1.keptM h4 hk (by omega)⟩, ⟨_, _, h2.keptM h4 hk (by omega)⟩, g1, hM, g2.symm, k1, k2, k3, k4⟩
theorem s2_keep1 {U V : List Atm} (h : St2 w0 C1 C2 B1 B2 b W l1 u1 l2 u2 (fdL U mk0) (fdL V mk0)) (hA : U.length ≤ 1000000) (n : Nat) (hn : n ≤ 65536) :
    Calls Try.prog 24 #[.pointer (some ⟨B1, 0, none⟩), .int .i64 n] W fun e W' => e = .returned (.tuple #[]) ∧ St2 w0 C1 C2 B1 B2 b W' l1 u1 l2 u2 (fdL (U ++ List.replicate n .K) mk0) (fdL V mk0) := by
  obtain ⟨⟨vo1, vp1, vd1⟩, ⟨vo2, vp2, vd2⟩, h⟩ := h
  have H := h
  obtain ⟨_, _, h3, h4, _⟩ := h
  have hbd := fd_bd U
  refine (keep_any h3 n hn (by omega) (by omega) (by omega) (by omega)).mono ?_
  rintro e W' ⟨rfl, vo', vp', vd', g1, g2⟩
  rw [keep_fd, ← fdL_app] at g1
  exact ⟨rfl, (vo', vp', vd'), (vo2, vp2, vd2), H.wk1 g1 g2⟩
theorem s2_puts1 {U V : List Atm} (h : St2 w0 C1 C2 B1 B2 b W l1 u1 l2 u2 (fdL U mk0) (fdL V mk0)) (hA : U.length ≤ 1000000) (s : ByteArray) (hs : s.size ≤ 1000000) :
    Calls Try.prog 23 #[.pointer (some ⟨B1, 0, none⟩), .string s] W fun e W' => e = .returned (.tuple #[]) ∧ St2 w0 C1 C2 B1 B2 b W' l1 u1 l2 u2 (fdL (U ++ (bL s).map .P) mk0) (fdL V mk0) := by
  obtain ⟨⟨vo1, vp1, vd1⟩, ⟨vo2, vp2, vd2⟩, h⟩ := h
  have H := h
  obtain ⟨_, _, h3, h4, _⟩ := h
  have hbd := fd_bd U
  refine (puts_any h3 s hs (by omega) (by omega)).mono ?_
  rintro e W' ⟨rfl, vo', vp', vd', g1, g2⟩
  rw [puts_fd, ← fdL_app] at g1
  exact ⟨rfl, (vo', vp', vd'), (vo2, vp2, vd2), H.wk1 g1 g2⟩
theorem s2_drops1 {U V : List Atm} (h : St2 w0 C1 C2 B1 B2 b W l1 u1 l2 u2 (fdL U mk0) (fdL V mk0)) (hA : U.length ≤ 1000000) (s : ByteArray) (hs : s.size ≤ 1000000) :
    Calls Try.prog 20 #[.pointer (some ⟨B1, 0, none⟩), .string s] W fun e W' => e = .returned (.tuple #[]) ∧ St2 w0 C1 C2 B1 B2 b W' l1 u1 l2 u2 (fdL (U ++ (bL s).map .D) mk0) (fdL V mk0) := by
  obtain ⟨⟨vo1, vp1, vd1⟩, ⟨vo2, vp2, vd2⟩, h⟩ := h
  have H := h
  obtain ⟨_, _, h3, h4, _⟩ := h
  have hbd := fd_bd U
  refine (drops_any h3 s hs (by omega) (by omega)).mono ?_
  rintro e W' ⟨rfl, vo', vp', vd', g1, g2⟩
  rw [drops_fd, ← fdL_app] at g1
  exact ⟨rfl, (vo', vp', vd'), (vo2, vp2, vd2), H.wk1 g1 g2⟩
theorem s2_keep2 {U V : List Atm} (h : St2 w0 C1 C2 B1 B2 b W l1 u1 l2 u2 (fdL U mk0) (fdL V mk0)) (hA : V.length ≤ 1000000) (n : Nat) (hn : n ≤ 65536) :
    Calls Try.prog 24 #[.pointer (some ⟨B2, 0, none⟩), .int .i64 n] W fun e W' => e = .returned (.tuple #[]) ∧ St2 w0 C1 C2 B1 B2 b W' l1 u1 l2 u2 (fdL U mk0) (fdL (V ++ List.replicate n .K) mk0) := by
  obtain ⟨⟨vo1, vp1, vd1⟩, ⟨vo2, vp2, vd2⟩, h⟩ := h
  have H := h
  obtain ⟨_, _, h3, h4, _⟩ := h
  have hbd := fd_bd V
  refine (keep_any h4 n hn (by omega) (by omega) (by omega) (by omega)).mono ?_
  rintro e W' ⟨rfl, vo', vp', vd', g1, g2⟩
  rw [keep_fd, ← fdL_app] at g1
  exact ⟨rfl, (vo1, vp1, vd1), (vo', vp', vd'), H.wk2 g1 g2⟩
theorem s2_puts2 {U V : List Atm} (h : St2 w0 C1 C2 B1 B2 b W l1 u1 l2 u2 (fdL U mk0) (fdL V mk0)) (hA : V.length ≤ 1000000) (s : ByteArray) (hs : s.size ≤ 1000000) :
    Calls Try.prog 23 #[.pointer (some ⟨B2, 0, none⟩), .string s] W fun e W' => e = .returned (.tuple #[]) ∧ St2 w0 C1 C2 B1 B2 b W' l1 u1 l2 u2 (fdL U mk0) (fdL (V ++ (bL s).map .P) mk0) := by
  obtain ⟨⟨vo1, vp1, vd1⟩, ⟨vo2, vp2, vd2⟩, h⟩ := h
  have H := h
  obtain ⟨_, _, h3, h4, _⟩ := h
  have hbd := fd_bd V
  refine (puts_any h4 s hs (by omega) (by omega)).mono ?_
  rintro e W' ⟨rfl, vo', vp', vd', g1, g2⟩
  rw [puts_fd, ← fdL_app] at g1
  exact ⟨rfl, (vo1, vp1, vd1), (vo', vp', vd'), H.wk2 g1 g2⟩
theorem s2_drops2 {U V : List Atm} (h : St2 w0 C1 C2 B1 B2 b W l1 u1 l2 u2 (fdL U mk0) (fdL V mk0)) (hA : V.length ≤ 1000000) (s : ByteArray) (hs : s.size ≤ 1000000) :
    Calls Try.prog 20 #[.pointer (some ⟨B2, 0, none⟩), .string s] W fun e W' => e = .returned (.tuple #[]) ∧ St2 w0 C1 C2 B1 B2 b W' l1 u1 l2 u2 (fdL U mk0) (fdL (V ++ (bL s).map .D) mk0) := by
  obtain ⟨⟨vo1, vp1, vd1⟩, ⟨vo2, vp2, vd2⟩, h⟩ := h
  have H := h
  obtain ⟨_, _, h3, h4, _⟩ := h
  have hbd := fd_bd V
  refine (drops_any h4 s hs (by omega) (by omega)).mono ?_
  rintro e W' ⟨rfl, vo', vp', vd', g1, g2⟩
  rw [drops_fd, ← fdL_app] at g1
  exact ⟨rfl, (vo1, vp1, vd1), (vo', vp', vd'), H.wk2 g1 g2⟩
/-- Both ends. -/
theorem s2_end1 {U V : List Atm} (h : St2 w0 C1 C2 B1 B2 b W l1 u1 l2 u2 (fdL U mk0) (fdL V mk0)) (hA : U.length ≤ 1000000) :
    Calls Try.prog 25 #[.pointer (some ⟨B1, 0, none⟩)] W fun e W' => ∃ v t2, e = .returned v ∧ St2X w0 C1 C2 B1 B2 b W' l1 u1 l2 u2 (rowM (gapM (fdL U mk0))) (fdL V mk0) (v, .slice none 0 0, .slice none 0 0) t2 := by
  obtain ⟨⟨vo1, vp1, vd1⟩, ⟨vo2, vp2, vd2⟩, h⟩ := h
  have H := h
  obtain ⟨_, _, h3, h4, _⟩ := h
  have hbd := fd_bd U
  refine (end_any h3 (by omega) (by omega) (by omega)).mono ?_
  rintro e W' ⟨v, rfl, g1, g2⟩
  exact ⟨v, (vo2, vp2, vd2), rfl, H.wk1 (t := (v, .slice none 0 0, .slice none 0 0)) g1 g2⟩
theorem s2_end2 {U V : List Atm} {v1 : Value} {t2 : Value × Value × Value} (h : St2X w0 C1 C2 B1 B2 b W l1 u1 l2 u2 (rowM (gapM (fdL U mk0))) (fdL V mk0) (v1, .slice none 0 0, .slice none 0 0) t2) (hA : V.length ≤ 1000000) :
    Calls Try.prog 25 #[.pointer (some ⟨B2, 0, none⟩)] W fun e W' => ∃ v, e = .returned v ∧ W'.ownsRow b 45 3 v1 (nfA U).length ((nfA U).flatMap encS) ∧ W'.ownsRow b 45 3 v (nfA V).length ((nfA V).flatMap encS) ∧ (∀ q, v1.ownBlock = some q → v.ownBlock ≠ some q) ∧ Below w0.heap.size w0 W' := by
  obtain ⟨vo2, vp2, vd2⟩ := t2
  have H := h
  obtain ⟨_, _, h3, h4, _⟩ := h
  have hbd := fd_bd V
  refine (end_any h4 (by omega) (by omega) (by omega)).mono ?_
  rintro e W' ⟨v, rfl, g1, g2⟩
  have g := H.wk2 (t := (v, .slice none 0 0, .slice none 0 0)) g1 g2
  refine ⟨v, rfl, g.2.2.1.ro, g.2.2.2.1.ro, fun q e1 e2 => ?_, s2_low ⟨_, _, g⟩⟩
  rcases g.2.2.2.2.1 q with n | n
  · exact n.1 e1.symm
  · exact n.1 e2.symm
end
end Go.Proofs.Ytpijooajbgeejaa
