/- Stage 27: the document's maker, byte by byte; two of them side by side. -/
import Derived.Test.YtpijooajbgeejaaJ3
import Derived.Test.YtpijooajbgeejaaJ1
import Derived.Test.YtpijooajbgeejaaJq
namespace Go.Proofs.Ytpijooajbgeejaa
set_option linter.unusedVariables false
set_option linter.unusedSimpArgs false
open Go Go.RowKit Go.Shelf
set_option maxRecDepth 100000

/-- A maker that holds nothing has made nothing. -/
def InvK (m : Mk) : Prop := m.kept = 0 → m.put.size = 0 → m.drop.size = 0 → m.out = []
theorem invK_fdL (A : List Atm) : InvK (fdL A mk0) := by
  rcases List.eq_nil_or_concat A with rfl | ⟨A, a, rfl⟩
  · exact fun _ _ _ => rfl
  · rw [List.concat_eq_append, fdL_app]
    show InvK (fd (fdL A mk0) a)
    generalize fdL A mk0 = m
    cases a with
    | K =>
      intro h1
      have : (keepM 1 m).kept = 0 := h1
      by_cases h : 0 < m.put.size + m.drop.size
      · rw [keepM_yes (by decide) h] at this; simp at this
      · rw [keepM_no h] at this; simp at this
    | P c =>
      intro _ h2
      have : (putsM ⟨#[c]⟩ m).put.size = 0 := h2
      rw [putsM_one] at this
      simp only [ByteArray.size_append] at this
      have h3 : (⟨#[c]⟩ : ByteArray).size = 1 := rfl
      omega
    | D c =>
      intro _ _ h2
      have : (dropsM ⟨#[c]⟩ m).drop.size = 0 := h2
      rw [dropsM_one] at this
      simp only [ByteArray.size_append] at this
      have h3 : (⟨#[c]⟩ : ByteArray).size = 1 := rfl
      omega
/-- The document's maker that has been told these bytes. -/
def DkA (W : World) (B b : Nat) (vL : Value) (A : List Atm) : Prop := DkB W B b vL (rowM (fdL A mk0)).out (fdL A mk0).put (fdL A mk0).drop
theorem row_put (s : ByteArray) (m : Mk) : (rowM (putsM s m)).out = (rowM m).out ∧ (putsM s m).put = m.put ++ s ∧ (putsM s m).drop = m.drop := by
  unfold putsM
  split
  · refine ⟨?_, rfl, rfl⟩
    show (rowM (⟨(rowM m).out, (rowM m).kept, _, _⟩ : Mk)).out = _
    rw [row_zero (m := ⟨(rowM m).out, (rowM m).kept, (rowM m).put ++ s, (rowM m).drop⟩) rfl]
  · exact ⟨rfl, rfl, rfl⟩
theorem row_drop (s : ByteArray) (m : Mk) : (rowM (dropsM s m)).out = (rowM m).out ∧ (dropsM s m).put = m.put ∧ (dropsM s m).drop = m.drop ++ s := by
  unfold dropsM
  split
  · refine ⟨?_, rfl, rfl⟩
    show (rowM (⟨(rowM m).out, (rowM m).kept, _, _⟩ : Mk)).out = _
    rw [row_zero (m := ⟨(rowM m).out, (rowM m).kept, (rowM m).put, (rowM m).drop ++ s⟩) rfl]
  · exact ⟨rfl, rfl, rfl⟩
theorem kpD_nil (n : Nat) : kpD n [] = [⟨n, .empty, .empty⟩] := rfl
theorem kpD_app (n : Nat) (L : List Sp) (x : Sp) : kpD n (L ++ [x]) = if 0 < x.k then L ++ [⟨x.k + n, x.d, x.p⟩] else L ++ [x] ++ [⟨n, .empty, .empty⟩] := by
  unfold kpD
  rw [List.getLast?_append, List.getLast?_singleton]
  simp only [Option.some_or]
  split
  · rw [List.dropLast_concat]
  · rfl
theorem row_keep {n : Nat} {m : Mk} (hn : 0 < n) (h : OkM m) (hi : InvK m) : kpD n ((rowM m).out ++ flD m.put m.drop) = (rowM (keepM n m)).out ∧ (keepM n m).put = .empty ∧ (keepM n m).drop = .empty := by
  have emp : ∀ s : ByteArray, s.size = 0 → s = .empty := fun s hs => (emp_or s).resolve_right (fun hh => hh.1 hs)
  by_cases h0 : 0 < m.put.size + m.drop.size
  · have hk : m.kept = 0 := by
      by_cases hk : 0 < m.kept
      · have := h.alt hk; omega
      · omega
    rw [keepM_yes hn h0, row_zero hk]
    refine ⟨?_, rfl, rfl⟩
    have e3 : (gapM m).kept = 0 := hk
    have e1 : (rowM ⟨(gapM m).out, (gapM m).kept + n, .empty, .empty⟩).out = m.out ++ flD m.put m.drop ++ [⟨n, .empty, .empty⟩] := by
      unfold rowM flD
      simp only [e3, Nat.zero_add]
      rw [if_pos hn]
      unfold gapM
      simp
    rw [e1]
    by_cases hd : 0 < m.drop.size
    · have e : m.out ++ flD m.put m.drop = (m.out ++ (if 0 < m.put.size then [⟨0, .empty, m.put⟩] else [])) ++ [⟨0, m.drop, .empty⟩] := by
        unfold flD; rw [if_pos hd, List.append_assoc]
      rw [e, kpD_app, if_neg (by simp)]
    · have e : m.out ++ flD m.put m.drop = m.out ++ [⟨0, .empty, m.put⟩] := by
        unfold flD; rw [if_pos (by omega), if_neg hd, List.append_nil]
      rw [e, kpD_app, if_neg (by simp)]
  · have e1 : m.put = .empty := emp _ (by omega)
    have e2 : m.drop = .empty := emp _ (by omega)
    have e3 : flD m.put m.drop = [] := by rw [e1, e2]; rfl
    rw [keepM_no h0, e3, List.append_nil]
    refine ⟨?_, e1, e2⟩
    by_cases hk : 0 < m.kept
    · have e4 : (rowM m).out = m.out ++ [⟨m.kept, .empty, .empty⟩] := by unfold rowM; rw [if_pos hk]
      rw [e4, kpD_app, if_pos (by simp only; omega)]
      unfold rowM
      rw [if_pos (by simp only; omega)]
      simp
    · have hk0 : m.kept = 0 := by omega
      have e5 := hi hk0 (by rw [e1]; rfl) (by rw [e2]; rfl)
      rw [row_zero hk0, e5, kpD_nil]
      unfold rowM
      simp only [hk0, Nat.zero_add]
      rw [if_pos hn]; rfl
theorem row_end {m : Mk} (h : OkM m) : (rowM m).out ++ flD m.put m.drop = endM m := by
  have emp : ∀ s : ByteArray, s.size = 0 → s = .empty := fun s hs => (emp_or s).resolve_right (fun hh => hh.1 hs)
  by_cases hk : 0 < m.kept
  · obtain ⟨h1, h2⟩ := h.alt hk
    rw [emp _ h1, emp _ h2]
    show (rowM m).out ++ [] = _
    rw [List.append_nil]
    unfold endM gapM rowM
    simp [h1, h2]
  · have hk0 : m.kept = 0 := by omega
    rw [row_zero hk0]
    unfold endM
    rw [row_zero (m := gapM m) hk0]
    unfold gapM flD
    simp
theorem dk_bd (A : List Atm) : (rowM (fdL A mk0)).out.length ≤ A.length + 1 ∧ (fdL A mk0).put.size ≤ A.length ∧ (fdL A mk0).drop.size ≤ A.length ∧ ∀ x ∈ (rowM (fdL A mk0)).out, 0 ≤ x.k ∧ x.k ≤ A.length := by
  have h1 := fd_bd A
  have h2 := row_len (fdL A mk0)
  obtain ⟨h3, h4⟩ := den_fdL A OkM.new
  have h5 := h4.len
  have e : denM mk0 = [] := rfl
  rw [e, List.nil_append, ← den_row] at h5
  unfold denM at h5
  simp only [List.length_append, List.length_replicate, List.length_map, bL_len] at h5
  refine ⟨by omega, by omega, by omega, fun x hx => ?_⟩
  have h6 := mem_bd hx
  have h7 := kind_pos (h3.row.nz x hx)
  have h8 : inA (atL (rowM (fdL A mk0)).out) ≤ (atL (rowM (fdL A mk0)).out).length := by
    generalize atL (rowM (fdL A mk0)).out = Z
    induction Z with
    | nil => exact Nat.le_refl _
    | cons a Z ih => cases a <;> simp only [inA, List.length_cons] <;> omega
  omega
section
variable {W X : World} {B b : Nat} {vL : Value} {A : List Atm}
theorem dka_keep (h : DkA W B b vL A) (n : Nat) (hn : n ≤ 1000000) (hA : A.length ≤ 900000) :
    Calls Try.prog 28 #[.pointer (some ⟨B, 0, none⟩), .int .i64 n] W fun e W' => e = .returned (.tuple #[]) ∧ ∃ v', DkA W' B b v' (A ++ List.replicate n .K) ∧ KpD B vL v' W W' := by
  have hb := dk_bd A
  refine (dkeep_any h n hn (by omega) (fun x hx => by have := hb.2.2.2 x hx; omega)).mono ?_
  rintro e W' ⟨rfl, h1⟩
  refine ⟨rfl, ?_⟩
  rcases h1 with ⟨rfl, g1, g2⟩ | ⟨h0, v', g1, g2⟩
  · exact ⟨vL, by rw [List.replicate_zero, List.append_nil]; exact g1, g2⟩
  · refine ⟨v', ?_, g2⟩
    obtain ⟨e1, e2, e3⟩ := row_keep h0 (den_fdL A OkM.new).1 (invK_fdL A)
    rw [e1, keep_fd, ← fdL_app] at g1
    rw [keep_fd, ← fdL_app] at e2 e3
    unfold DkA
    rw [e2, e3]
    exact g1
theorem dka_drop (h : DkA W B b vL A) (c : UInt8) (hA : A.length ≤ 900000) :
    Calls Try.prog 27 #[.pointer (some ⟨B, 0, none⟩), .int .u8 c.toNat] W fun e W' => e = .returned (.tuple #[]) ∧ ∃ v', DkA W' B b v' (A ++ [.D c]) ∧ KpD B vL v' W W' := by
  have hb := dk_bd A
  refine (ddrop_any h c (by omega)).mono ?_
  rintro e W' ⟨rfl, g1, g2⟩
  refine ⟨rfl, vL, ?_, g2⟩
  obtain ⟨e1, e2, e3⟩ := row_drop ⟨#[c]⟩ (fdL A mk0)
  rw [drops_fd, ← fdL_app] at e1 e2 e3
  unfold DkA
  have e4 : (bL ⟨#[c]⟩).map Atm.D = [.D c] := rfl
  rw [e4] at e1 e2 e3
  rw [e1, e2, e3]
  exact g1
theorem dka_end (h : DkA W B b vL A) (hA : A.length ≤ 900000) :
    Calls Try.prog 29 #[.pointer (some ⟨B, 0, none⟩)] W fun e W' => e = .returned (.tuple #[]) ∧ ∃ v', DkB W' B b v' (nfA A) .empty .empty ∧ KpD B vL v' W W' := by
  have hb := dk_bd A
  refine (dend_any h (by omega)).mono ?_
  rintro e W' ⟨rfl, v', g1, g2⟩
  rw [row_end (den_fdL A OkM.new).1] at g1
  exact ⟨rfl, v', g1, g2⟩
theorem DkA.below (h : DkA W B b vL A) (hb : Below W.heap.size W X) : DkA X B b vL A := DkB.below h hb
theorem DkA.put (h : DkA W B b vL A) (s : ByteArray) : DkA (W.setCell ⟨B, 1, none⟩ (.string ((fdL A mk0).put ++ s))) B b vL (A ++ (bL s).map .P) := by
  obtain ⟨e1, e2, e3⟩ := row_put s (fdL A mk0)
  rw [puts_fd, ← fdL_app] at e1 e2 e3
  unfold DkA
  rw [e1, e2, e3]
  exact DkB.setP h _
theorem KpD.low {vL' v' : Value} {L : List Sp} {pu dr : ByteArray} (k : KpD B vL v' W X) (h : DkB W B b vL L pu dr) {q : Nat} (hq : q < b) (hn : q ≠ B) : X.heap[q]? = W.heap[q]? :=
  (k.blk q (Nat.lt_of_lt_of_le hq h.bw) hn (fun e => by have := (h.ro.lt q e.symm).1; omega)).1
theorem KpD.belowK {v' : Value} {L : List Sp} {pu dr : ByteArray} (k : KpD B vL v' W X) (h : DkB W B b vL L pu dr) {c : Nat} {w0 : World} (hc : c ≤ B) (h0 : Below c w0 W) : Below c w0 X :=
  ⟨k.os.trans h0.os, k.tape.trans h0.tape, k.output.trans h0.output, Nat.le_trans h0.size k.size, fun i hi => (k.low (vL' := vL) h (by have := h.bb; omega) (by omega)).trans (h0.block i hi)⟩
end
/-- No block is in both rows. -/
def ApD (v s : Value) : Prop := ∀ q, some q ≠ v.ownBlock ∨ some q ≠ s.ownBlock
theorem ApD.symm {v s : Value} (h : ApD v s) : ApD s v := fun q => (h q).symm
theorem DkB.keptD {W X : World} {B B2 b : Nat} {v v2 v' : Value} {L L2 : List Sp} {pu dr pu2 dr2 : ByteArray} (h2 : DkB W B2 b v2 L2 pu2 dr2) (h : DkB W B b v L pu dr) (hk : KpD B v v' W X) (hne : B ≠ B2) (hap : ApD v v2) : DkB X B2 b v2 L2 pu2 dr2 ∧ ApD v' v2 := by
  have hB := h.bb
  have kb : ∀ q, some q = v2.ownBlock → X.heap[q]? = W.heap[q]? ∧ some q ≠ v'.ownBlock := fun q e => by
    have := h2.ro.lt q e.symm
    exact hk.blk q (by omega) (by omega) ((hap q).resolve_right (fun hn => hn e))
  refine ⟨⟨(hk.low (vL' := v) h h2.bb (fun e => hne e.symm)).trans h2.blk, own_keptQ h2.ro fun q e => (kb q e.symm).1, h2.bb, Nat.le_trans h2.bw hk.size⟩, fun q => ?_⟩
  by_cases e : some q = v2.ownBlock
  · exact .inl (kb q e).2
  · exact .inr e
/-- Two makers of the document's. -/
def D2 (w0 : World) (B1 B2 b : Nat) (W : World) (U V : List Atm) : Prop :=
  ∃ v1 v2, DkA W B1 b v1 U ∧ DkA W B2 b v2 V ∧ ApD v1 v2 ∧ B1 < B2 ∧ w0.heap.size ≤ B1 ∧ Below w0.heap.size w0 W
section
variable {w0 W X : World} {B1 B2 b : Nat} {U V : List Atm}
theorem D2.below (h : D2 w0 B1 B2 b W U V) (hb : Below W.heap.size W X) : D2 w0 B1 B2 b X U V := by
  obtain ⟨v1, v2, h1, h2, h3, h4, h5, h6⟩ := h
  exact ⟨v1, v2, h1.below hb, h2.below hb, h3, h4, h5, h6.trans (hb.mono h6.size)⟩
theorem D2.low (h : D2 w0 B1 B2 b W U V) : Below w0.heap.size w0 W := by
  obtain ⟨v1, v2, h1, h2, h3, h4, h5, h6⟩ := h
  exact h6
theorem d2_keep1 (h : D2 w0 B1 B2 b W U V) (n : Nat) (hn : n ≤ 1000000) (hU : U.length ≤ 900000) :
    Calls Try.prog 28 #[.pointer (some ⟨B1, 0, none⟩), .int .i64 n] W fun e W' => e = .returned (.tuple #[]) ∧ D2 w0 B1 B2 b W' (U ++ List.replicate n .K) V := by
  obtain ⟨v1, v2, h1, h2, h3, h4, h5, h6⟩ := h
  refine (dka_keep h1 n hn hU).mono ?_
  rintro e W' ⟨rfl, v', g1, g2⟩
  obtain ⟨k1, k2⟩ := DkB.keptD h2 h1 g2 (by omega) h3
  exact ⟨rfl, v', v2, g1, k1, k2, h4, h5, g2.belowK h1 h5 h6⟩
theorem d2_keep2 (h : D2 w0 B1 B2 b W U V) (n : Nat) (hn : n ≤ 1000000) (hV : V.length ≤ 900000) :
    Calls Try.prog 28 #[.pointer (some ⟨B2, 0, none⟩), .int .i64 n] W fun e W' => e = .returned (.tuple #[]) ∧ D2 w0 B1 B2 b W' U (V ++ List.replicate n .K) := by
  obtain ⟨v1, v2, h1, h2, h3, h4, h5, h6⟩ := h
  refine (dka_keep h2 n hn hV).mono ?_
  rintro e W' ⟨rfl, v', g1, g2⟩
  obtain ⟨k1, k2⟩ := DkB.keptD h1 h2 g2 (by omega) h3.symm
  exact ⟨rfl, v1, v', k1, g1, k2.symm, h4, h5, g2.belowK h2 (by omega) h6⟩
theorem d2_drop1 (h : D2 w0 B1 B2 b W U V) (c : UInt8) (hU : U.length ≤ 900000) :
    Calls Try.prog 27 #[.pointer (some ⟨B1, 0, none⟩), .int .u8 c.toNat] W fun e W' => e = .returned (.tuple #[]) ∧ D2 w0 B1 B2 b W' (U ++ [.D c]) V := by
  obtain ⟨v1, v2, h1, h2, h3, h4, h5, h6⟩ := h
  refine (dka_drop h1 c hU).mono ?_
  rintro e W' ⟨rfl, v', g1, g2⟩
  obtain ⟨k1, k2⟩ := DkB.keptD h2 h1 g2 (by omega) h3
  exact ⟨rfl, v', v2, g1, k1, k2, h4, h5, g2.belowK h1 h5 h6⟩
theorem d2_drop2 (h : D2 w0 B1 B2 b W U V) (c : UInt8) (hV : V.length ≤ 900000) :
    Calls Try.prog 27 #[.pointer (some ⟨B2, 0, none⟩), .int .u8 c.toNat] W fun e W' => e = .returned (.tuple #[]) ∧ D2 w0 B1 B2 b W' U (V ++ [.D c]) := by
  obtain ⟨v1, v2, h1, h2, h3, h4, h5, h6⟩ := h
  refine (dka_drop h2 c hV).mono ?_
  rintro e W' ⟨rfl, v', g1, g2⟩
  obtain ⟨k1, k2⟩ := DkB.keptD h1 h2 g2 (by omega) h3.symm
  exact ⟨rfl, v1, v', k1, g1, k2.symm, h4, h5, g2.belowK h2 (by omega) h6⟩
theorem D2.put1 (h : D2 w0 B1 B2 b W U V) (s : ByteArray) : D2 w0 B1 B2 b (W.setCell ⟨B1, 1, none⟩ (.string ((fdL U mk0).put ++ s))) (U ++ (bL s).map .P) V := by
  obtain ⟨v1, v2, h1, h2, h3, h4, h5, h6⟩ := h
  obtain ⟨k1, k2⟩ := DkB.keptD h2 h1 (KpD.set h1 1 (.string ((fdL U mk0).put ++ s))) (by omega) h3
  exact ⟨v1, v2, h1.put s, k1, k2, h4, h5, (KpD.set h1 1 (.string ((fdL U mk0).put ++ s))).belowK h1 h5 h6⟩
theorem D2.put2 (h : D2 w0 B1 B2 b W U V) (s : ByteArray) : D2 w0 B1 B2 b (W.setCell ⟨B2, 1, none⟩ (.string ((fdL V mk0).put ++ s))) U (V ++ (bL s).map .P) := by
  obtain ⟨v1, v2, h1, h2, h3, h4, h5, h6⟩ := h
  obtain ⟨k1, k2⟩ := DkB.keptD h1 h2 (KpD.set h2 1 (.string ((fdL V mk0).put ++ s))) (by omega) h3.symm
  exact ⟨v1, v2, k1, h2.put s, k2.symm, h4, h5, (KpD.set h2 1 (.string ((fdL V mk0).put ++ s))).belowK h2 (by omega) h6⟩
theorem D2.cell1 (h : D2 w0 B1 B2 b W U V) : W.cell? ⟨B1, 1, none⟩ = some (.string (fdL U mk0).put) ∧ W.frozen? ⟨B1, 1, none⟩ = false := by
  obtain ⟨v1, v2, h1, h2, _⟩ := h
  exact ⟨(DkB.cells h1).2.1, DkB.blk h1 |>.frozen 1⟩
theorem D2.cell2 (h : D2 w0 B1 B2 b W U V) : W.cell? ⟨B2, 1, none⟩ = some (.string (fdL V mk0).put) ∧ W.frozen? ⟨B2, 1, none⟩ = false := by
  obtain ⟨v1, v2, h1, h2, _⟩ := h
  exact ⟨(DkB.cells h2).2.1, DkB.blk h2 |>.frozen 1⟩
/-- Both ends. -/
def D2E (w0 : World) (B1 B2 b : Nat) (W : World) (v1 v2 : Value) (L1 L2 : List Sp) (pu dr : ByteArray) : Prop :=
  DkB W B1 b v1 L1 .empty .empty ∧ DkB W B2 b v2 L2 pu dr ∧ ApD v1 v2 ∧ B1 < B2 ∧ w0.heap.size ≤ B1 ∧ Below w0.heap.size w0 W
theorem d2_end1 (h : D2 w0 B1 B2 b W U V) (hU : U.length ≤ 900000) :
    Calls Try.prog 29 #[.pointer (some ⟨B1, 0, none⟩)] W fun e W' => e = .returned (.tuple #[]) ∧ ∃ v1 v2, D2E w0 B1 B2 b W' v1 v2 (nfA U) (rowM (fdL V mk0)).out (fdL V mk0).put (fdL V mk0).drop := by
  obtain ⟨v1, v2, h1, h2, h3, h4, h5, h6⟩ := h
  refine (dka_end h1 hU).mono ?_
  rintro e W' ⟨rfl, v', g1, g2⟩
  obtain ⟨k1, k2⟩ := DkB.keptD h2 h1 g2 (by omega) h3
  exact ⟨rfl, v', v2, g1, k1, k2, h4, h5, g2.belowK h1 h5 h6⟩
theorem d2_end2 {v1 v2 : Value} {L1 : List Sp} (h : D2E w0 B1 B2 b W v1 v2 L1 (rowM (fdL V mk0)).out (fdL V mk0).put (fdL V mk0).drop) (hV : V.length ≤ 900000) :
    Calls Try.prog 29 #[.pointer (some ⟨B2, 0, none⟩)] W fun e W' => e = .returned (.tuple #[]) ∧ ∃ v2', D2E w0 B1 B2 b W' v1 v2' L1 (nfA V) .empty .empty := by
  obtain ⟨h1, h2, h3, h4, h5, h6⟩ := h
  refine (dka_end h2 hV).mono ?_
  rintro e W' ⟨rfl, v', g1, g2⟩
  obtain ⟨k1, k2⟩ := DkB.keptD h1 h2 g2 (by omega) h3.symm
  exact ⟨rfl, v', k1, g1, k2.symm, h4, h5, g2.belowK h2 (by omega) h6⟩
end
end Go.Proofs.Ytpijooajbgeejaa
