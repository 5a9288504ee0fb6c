/- Stage 27: two cursors and a maker, side by side. -/
import Derived.Test.YtjccoiephdopkaaDoorJe
import Derived.Test.YtjccoiephdopkaaDoorJf
namespace Go.Proofs.YtjccoiephdopkaaDoor
set_option linter.unusedVariables false
set_option linter.unusedSimpArgs false
open Go Go.RowKit Go.Shelf
set_option maxRecDepth 100000

theorem KpC.grown {C : Nat} {W X : World} (h : KpC C W X) : W.grownBy X (some C) :=
  ⟨h.os, h.tape, h.output, h.size, fun q hq hn => h.blk q hq (fun e => hn (by rw [e]))⟩
theorem MkB.keptC {W X : World} {B b C : Nat} {vo vp vd : Value} {m : Mk} (h : MkB W B b vo vp vd m) (hk : KpC C W X) (hC : C < B) : MkB X B b vo vp vd m := by
  have hb := h.bb
  have hn := h.n3 (q := C) (by omega)
  have hg := hk.grown
  exact ⟨(hk.blk B h.blk.lt (by omega)).trans h.blk, h.ro.kept hg (.inr (fun e => hn.1 e.symm)), h.rp.kept hg (.inr (fun e => hn.2.1 e.symm)), h.rd.kept hg (.inr (fun e => hn.2.2 e.symm)), h.ap, hb, Nat.le_trans h.bw hk.size⟩
theorem CuB.keptC {w0 W X : World} {C D : Nat} {o : Option Addr} {c : Nat} {l : List Sp} {u : Nat} (h : CuB w0 W C o c l u) (hk : KpC D W X) (hD : w0.heap.size ≤ D) (hne : C ≠ D) : CuB w0 X C o c l u :=
  h.same ⟨hk.os.trans h.2.2.1.os, hk.tape.trans h.2.2.1.tape, hk.output.trans h.2.2.1.output, Nat.le_trans h.2.2.1.size hk.size, fun i hi => (hk.blk i (Nat.lt_of_lt_of_le hi h.2.2.1.size) (by omega)).trans (h.2.2.1.block i hi)⟩ (hk.blk C h.1.lt hne)
theorem CuB.keptM {w0 W X : World} {C B b : Nat} {o : Option Addr} {c : Nat} {l : List Sp} {u : Nat} {vo vp vd : Value} {m : Mk} {t : Value × Value × Value} (h : CuB w0 W C o c l u) (hM : MkB W B b vo vp vd m) (hk : KpM B (vo, vp, vd) t W X) (hB : C < B) : CuB w0 X C o c l u :=
  h.same (hk.below hM (by have := h.2.2.2.1; omega) h.2.2.1) (hk.low hM (by have := hM.bb; omega) (by omega))
theorem fd_bd (A : List Atm) : (fdL A mk0).out.length + (fdL A mk0).kept + (fdL A mk0).put.size + (fdL A mk0).drop.size ≤ A.length := by
  obtain ⟨h1, h2⟩ := den_fdL A OkM.new
  have h3 := h2.len
  have e : denM mk0 = [] := rfl
  rw [e, List.nil_append] at h3
  have key : ∀ l : List Sp, (∀ x ∈ l, kindN x ≠ 0) → l.length ≤ (atL l).length := by
    intro l
    induction l with
    | nil => intro _; simp
    | cons x l ih =>
      intro hx
      have e : atL (x :: l) = atS x ++ atL l := rfl
      have h5 := kind_one (hx x (by simp))
      have h6 := ih (fun y hy => hx y (by simp [hy]))
      rw [e, List.length_append, atS_len, List.length_cons]
      unfold szS; omega
  have h4 := key _ h1.nz
  unfold denM at h3
  simp only [List.length_append, List.length_replicate, List.length_map, bL_len] at h3
  omega
/-- Two cursors, one maker. -/
def St1 (w0 : World) (C1 C2 B b : Nat) (W : World) (l1 : List Sp) (u1 : Nat) (l2 : List Sp) (u2 : Nat) (m : Mk) : Prop :=
  ∃ o1 c1 o2 c2 vo vp vd, CuB w0 W C1 o1 c1 l1 u1 ∧ CuB w0 W C2 o2 c2 l2 u2 ∧ MkB W B b vo vp vd m ∧ C1 < B ∧ C2 < B ∧ C1 ≠ C2
section
variable {w0 : World} {C1 C2 B b : Nat} {W : World} {l1 l2 : List Sp} {u1 u2 : Nat} {m : Mk}
theorem St1.below {X : World} (h : St1 w0 C1 C2 B b W l1 u1 l2 u2 m) (hb : Below W.heap.size W X) : St1 w0 C1 C2 B b X l1 u1 l2 u2 m := by
  obtain ⟨o1, c1, o2, c2, vo, vp, vd, h1, h2, h3, h4⟩ := h
  exact ⟨_, _, _, _, _, _, _, h1.below hb, h2.below hb, h3.below hb, h4⟩
theorem left_ok {l : List Sp} {u : Nat} (h : CuV l u) : (∀ x ∈ l, 0 ≤ x.k ∧ x.k ≤ 65536 ∧ x.d.size ≤ 65536 ∧ x.p.size ≤ 65536) ∧ u ≤ leftC 0 l ∧ u ≤ 1000000 ∧ leftC u l ≤ 196608 := by
  refine ⟨fun x hx => (h.ok x hx).2, ?_⟩
  cases l with
  | nil => rw [h.nil rfl]; exact ⟨Nat.zero_le _, Nat.zero_le _, Nat.zero_le _⟩
  | cons x l =>
    have h1 := h.lt x l rfl
    have h2 : szS x ≤ 196608 := by unfold szS; obtain ⟨_, _, _, _, _⟩ := h.ok x (by simp); omega
    exact ⟨by show u ≤ szS x - 0; omega, by omega, by show szS x - u ≤ _; omega⟩
theorem st_kind1 (h : St1 w0 C1 C2 B b W l1 u1 l2 u2 m) : Calls Tryd.prog 67 #[.pointer (some ⟨C1, 0, none⟩)] W fun e W' => e = .returned (.int .i64 (kindC l1)) ∧ St1 w0 C1 C2 B b W' l1 u1 l2 u2 m := by
  have H := h
  obtain ⟨o1, c1, o2, c2, vo, vp, vd, h1, h2, h3, h4⟩ := h
  exact (cu_kind h1).mono (by rintro e W' ⟨rfl, hb⟩; exact ⟨rfl, H.below hb⟩)
theorem st_kind2 (h : St1 w0 C1 C2 B b W l1 u1 l2 u2 m) : Calls Tryd.prog 67 #[.pointer (some ⟨C2, 0, none⟩)] W fun e W' => e = .returned (.int .i64 (kindC l2)) ∧ St1 w0 C1 C2 B b W' l1 u1 l2 u2 m := by
  have H := h
  obtain ⟨o1, c1, o2, c2, vo, vp, vd, h1, h2, h3, h4⟩ := h
  exact (cu_kind h2).mono (by rintro e W' ⟨rfl, hb⟩; exact ⟨rfl, H.below hb⟩)
theorem st_left1 (h : St1 w0 C1 C2 B b W l1 u1 l2 u2 m) (hv : CuV l1 u1) : Calls Tryd.prog 69 #[.pointer (some ⟨C1, 0, none⟩)] W fun e W' => e = .returned (.int .i64 (leftC u1 l1)) ∧ St1 w0 C1 C2 B b W' l1 u1 l2 u2 m := by
  have H := h
  obtain ⟨o1, c1, o2, c2, vo, vp, vd, h1, h2, h3, h4⟩ := h
  obtain ⟨k1, k2, k3, _⟩ := left_ok hv
  exact (cu_left h1 k1 k2 k3).mono (by rintro e W' ⟨rfl, hb⟩; exact ⟨rfl, H.below hb⟩)
theorem st_left2 (h : St1 w0 C1 C2 B b W l1 u1 l2 u2 m) (hv : CuV l2 u2) : Calls Tryd.prog 69 #[.pointer (some ⟨C2, 0, none⟩)] W fun e W' => e = .returned (.int .i64 (leftC u2 l2)) ∧ St1 w0 C1 C2 B b W' l1 u1 l2 u2 m := by
  have H := h
  obtain ⟨o1, c1, o2, c2, vo, vp, vd, h1, h2, h3, h4⟩ := h
  obtain ⟨k1, k2, k3, _⟩ := left_ok hv
  exact (cu_left h2 k1 k2 k3).mono (by rintro e W' ⟨rfl, hb⟩; exact ⟨rfl, H.below hb⟩)
/-- What a take does to what is left. -/
def TkR (l : List Sp) (u n : Nat) (s : ByteArray) (l' : List Sp) (u' : Nat) : Prop :=
  CuV l' u' ∧ Chk (kindC l) s n (restC l u) (restC l' u') ∧ (0 < n → l'.length * 1000000 - u' < l.length * 1000000 - u)
theorem st_take1 (h : St1 w0 C1 C2 B b W l1 u1 l2 u2 m) (hv : CuV l1 u1) {n : Nat} (hne : l1 ≠ []) (hn : n ≤ leftC u1 l1) :
    Calls Tryd.prog 68 #[.pointer (some ⟨C1, 0, none⟩), .int .i64 n] W fun e W' => ∃ s l' u', e = .returned (.string s) ∧ St1 w0 C1 C2 B b W' l' u' l2 u2 m ∧ TkR l1 u1 n s l' u' := by
  obtain ⟨o1, c1, o2, c2, vo, vp, vd, h1, h2, h3, h4, h5, h6⟩ := h
  refine (cu_takeA h1 hv hne hn).mono ?_
  rintro e W' ⟨s, rfl, hK, o', c', l', u', g1, g2, g3, g4⟩
  exact ⟨s, l', u', rfl, ⟨_, _, _, _, _, _, _, g1, h2.keptC hK h1.2.2.2.1 (fun e => h6 e.symm), h3.keptC hK h4, h4, h5, h6⟩, g2, g3, g4⟩
theorem st_take2 (h : St1 w0 C1 C2 B b W l1 u1 l2 u2 m) (hv : CuV l2 u2) {n : Nat} (hne : l2 ≠ []) (hn : n ≤ leftC u2 l2) :
    Calls Tryd.prog 68 #[.pointer (some ⟨C2, 0, none⟩), .int .i64 n] W fun e W' => ∃ s l' u', e = .returned (.string s) ∧ St1 w0 C1 C2 B b W' l1 u1 l' u' m ∧ TkR l2 u2 n s l' u' := by
  obtain ⟨o1, c1, o2, c2, vo, vp, vd, h1, h2, h3, h4, h5, h6⟩ := h
  refine (cu_takeA h2 hv hne hn).mono ?_
  rintro e W' ⟨s, rfl, hK, o', c', l', u', g1, g2, g3, g4⟩
  exact ⟨s, l', u', rfl, ⟨_, _, _, _, _, _, _, h1.keptC hK h2.2.2.2.1 h6, g1, h3.keptC hK h5, h4, h5, h6⟩, g2, g3, g4⟩
theorem st_keep {A : List Atm} (h : St1 w0 C1 C2 B b W l1 u1 l2 u2 (fdL A mk0)) (hA : A.length ≤ 1000000) (n : Nat) (hn : n ≤ 65536) :
    Calls Tryd.prog 47 #[.pointer (some ⟨B, 0, none⟩), .int .i64 n] W fun e W' => e = .returned (.tuple #[]) ∧ St1 w0 C1 C2 B b W' l1 u1 l2 u2 (fdL (A ++ List.replicate n .K) mk0) := by
  obtain ⟨o1, c1, o2, c2, vo, vp, vd, h1, h2, h3, h4, h5, h6⟩ := h
  have hbd := fd_bd A
  refine (keep_any h3 n hn (by omega) (by omega) (by omega) (by omega)).mono ?_
  rintro e W' ⟨rfl, vo', vp', vd', g1, g2⟩
  rw [keep_fd, ← fdL_app] at g1
  exact ⟨rfl, _, _, _, _, _, _, _, h1.keptM h3 g2 h4, h2.keptM h3 g2 h5, g1, h4, h5, h6⟩
theorem st_puts {A : List Atm} (h : St1 w0 C1 C2 B b W l1 u1 l2 u2 (fdL A mk0)) (hA : A.length ≤ 1000000) (s : ByteArray) (hs : s.size ≤ 1000000) :
    Calls Tryd.prog 49 #[.pointer (some ⟨B, 0, none⟩), .string s] W fun e W' => e = .returned (.tuple #[]) ∧ St1 w0 C1 C2 B b W' l1 u1 l2 u2 (fdL (A ++ (bL s).map .P) mk0) := by
  obtain ⟨o1, c1, o2, c2, vo, vp, vd, h1, h2, h3, h4, h5, h6⟩ := h
  have hbd := fd_bd A
  refine (puts_any h3 s hs (by omega) (by omega)).mono ?_
  rintro e W' ⟨rfl, vo', vp', vd', g1, g2⟩
  rw [puts_fd, ← fdL_app] at g1
  exact ⟨rfl, _, _, _, _, _, _, _, h1.keptM h3 g2 h4, h2.keptM h3 g2 h5, g1, h4, h5, h6⟩
theorem st_drops {A : List Atm} (h : St1 w0 C1 C2 B b W l1 u1 l2 u2 (fdL A mk0)) (hA : A.length ≤ 1000000) (s : ByteArray) (hs : s.size ≤ 1000000) :
    Calls Tryd.prog 50 #[.pointer (some ⟨B, 0, none⟩), .string s] W fun e W' => e = .returned (.tuple #[]) ∧ St1 w0 C1 C2 B b W' l1 u1 l2 u2 (fdL (A ++ (bL s).map .D) mk0) := by
  obtain ⟨o1, c1, o2, c2, vo, vp, vd, h1, h2, h3, h4, h5, h6⟩ := h
  have hbd := fd_bd A
  refine (drops_any h3 s hs (by omega) (by omega)).mono ?_
  rintro e W' ⟨rfl, vo', vp', vd', g1, g2⟩
  rw [drops_fd, ← fdL_app] at g1
  exact ⟨rfl, _, _, _, _, _, _, _, h1.keptM h3 g2 h4, h2.keptM h3 g2 h5, g1, h4, h5, h6⟩
theorem st_end {A : List Atm} (h : St1 w0 C1 C2 B b W l1 u1 l2 u2 (fdL A mk0)) (hA : A.length ≤ 1000000) :
    Calls Tryd.prog 51 #[.pointer (some ⟨B, 0, none⟩)] W fun e W' => ∃ v, e = .returned v ∧ W'.ownsRow b 39 3 v (nfA A).length ((nfA A).flatMap encS) ∧ Below w0.heap.size w0 W' := by
  obtain ⟨o1, c1, o2, c2, vo, vp, vd, h1, h2, h3, h4, h5, h6⟩ := h
  have hbd := fd_bd A
  refine (end_any h3 (by omega) (by omega) (by omega)).mono ?_
  rintro e W' ⟨v, rfl, g1, g2⟩
  exact ⟨v, rfl, g1.ro, (h1.keptM h3 g2 h4).2.2.1⟩
end
end Go.Proofs.YtjccoiephdopkaaDoor
