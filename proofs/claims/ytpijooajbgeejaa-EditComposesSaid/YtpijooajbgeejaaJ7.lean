/- Stage 27: same, own; Carry and Compose, whatever comes in. -/
import Derived.Test.YtpijooajbgeejaaJ6
import Derived.Test.YtpijooajbgeejaaJr
import Derived.Test.YtpijooajbgeejaaJi
namespace Go.Proofs.Ytpijooajbgeejaa
set_option linter.unusedVariables false
set_option linter.unusedSimpArgs false
open Go Go.RowKit Go.Shelf
set_option maxRecDepth 100000

set_option maxHeartbeats 8000000 in
theorem same_any (l : List Sp) (o1 o2 : Option Addr) (c1 c2 : Nat) (hn : l.length ≤ 9223372036854775807) (w : World) (h1 : RowAt w encS 3 o1 l) (h2 : RowAt w encS 3 o2 l) :
    Calls Try.prog 11 #[.slice o1 l.length c1, .slice o2 l.length c2] w fun e w' => e = .returned (.bool true) ∧ Below w.heap.size w w' := by
  have HR := Lib.hid (And.intro h1 h2)
  clear h1 h2
  have e0 : ((l.length : Int) == (l.length : Int)) = true := beq_self_eq_true _
  go_enter Try.func11, Try.ntmps11
  go_wp2
  go_loopw [5] (fun i W => ∃ (k : Nat), i = .int .i64 k ∧ k ≤ l.length ∧ Below w.heap.size w W) (fun i _ => l.length - (intOf i).toNat)
  case atStart => exact ⟨0, rfl, by omega, Below.refl _ _⟩
  case round =>
    obtain ⟨k, rfl, hk, hB⟩ := hrel
    by_cases hlt : k < l.length
    · obtain ⟨x, hx⟩ : ∃ x, l[k]? = some x := ⟨_, List.getElem?_eq_getElem hlt⟩
      obtain ⟨g, off, rfl, hc⟩ := HR.out.1.below encS_len (by decide) hB k x hx
      obtain ⟨q0, q1, q2⟩ := get3 (l := l) hc
      obtain ⟨g', off', rfl, hc'⟩ := HR.out.2.below encS_len (by decide) hB k x hx
      obtain ⟨r0, r1, r2⟩ := get3 (l := l) hc'
      obtain ⟨xk, xd, xp⟩ := x
      simp only at q0 q1 q2 r0 r1 r2
      have ek : (xk == xk) = true := beq_self_eq_true _
      have ed : (xd.toList == xd.toList) = true := beq_self_eq_true _
      have ep : (xp.toList == xp.toList) = true := beq_self_eq_true _
      have hkl : (k : Int) < (l.length : Int) := by omega
      have j5 : IntKind.i64.wrap ((k : Int) + 1) = ((k + 1 : Nat) : Int) := by rw [IntWalk.i64_in _ (by omega)]; omega
      have HB := Lib.hid hB
      clear hB hc hc' hx
      go_wp2
      go_quiet (fail)
      generalize hU : World.drewN wr _ = U
      have HU := Lib.hid (HB.out.trans ((hU ▸ below_drewN _ _ : Below wr.heap.size wr U).mono HB.out.size))
      clear hU q0 q1 q2 r0 r1 r2
      go_wp2
      go_roundw
      case rel => exact ⟨k + 1, by go_num, by omega, HU.out⟩
      case measure => simp [intOf] <;> omega
    · obtain rfl : k = l.length := by omega
      have HB := Lib.hid hB
      clear hB
      go_wp2
      go_ret
      exact ⟨rfl, HB.out⟩
/-- All but one row is as it was. -/
structure KpV (v : Value) (W W' : World) : Prop where
  os : W'.os = W.os
  tape : W'.tape = W.tape
  output : W'.output = W.output
  size : W.heap.size ≤ W'.heap.size
  blk : ∀ q, q < W.heap.size → some q ≠ v.ownBlock → W'.heap[q]? = W.heap[q]?
theorem KpV.refl (v : Value) (W : World) : KpV v W W := ⟨rfl, rfl, rfl, Nat.le_refl _, fun _ _ _ => rfl⟩
theorem KpV.set {v : Value} {W X : World} (h : KpV v W X) {g : Nat} (hg : v.ownBlock = some g) (o : Nat) (u : Value) : KpV v W (X.setCell ⟨g, o, none⟩ u) :=
  ⟨h.os, h.tape, h.output, by simpa using h.size, fun q hq hn => (Below.heap_setCell _ _ _ _ (fun e => hn (by rw [hg]; exact congrArg some e))).trans (h.blk q hq hn)⟩
theorem own_full {W : World} {b n c : Nat} {e : TypeId} {sz : Nat} {o : Option Addr} {xs : List Value} (h : W.ownsRow b e sz (.slice o n c) n xs) : ∃ ys, W.ownsRow b e sz (.slice o c c) c ys := by
  rcases h.2 with ⟨e1, h0⟩ | ⟨g', c', cur, e1, hb, hg, h1, h2, h3, h4⟩
  · simp only [Value.slice.injEq] at e1
    obtain ⟨rfl, _, rfl⟩ := e1
    exact ⟨[], World.ownsRow_nil _ _ _ _⟩
  · simp only [Value.slice.injEq] at e1
    obtain ⟨rfl, _, rfl⟩ := e1
    exact ⟨cur.toList, by rw [Array.length_toList, h3], .inr ⟨g', c, cur, rfl, hb, hg, Nat.le_refl _, h2, h3, by rw [List.take_of_length_le (by rw [Array.length_toList, h3]; exact Nat.le_refl _)]⟩⟩
def spoiltB : ByteArray := ⟨#[115, 112, 111, 105, 108, 116]⟩
set_option maxHeartbeats 8000000 in
theorem own_any (o : Option Addr) (n c b : Nat) (xs : List Value) (w : World) (h : w.ownsRow b 45 3 (.slice o n c) n xs) :
    Calls Try.prog 14 #[.slice o n c] w fun e w' => e = .returned (.tuple #[]) ∧ KpV (.slice o n c) w w' := by
  obtain ⟨ys, h1⟩ := own_full h
  have hc := row_caps h
  obtain ⟨_, _, hoe, hgo⟩ := own_slice h1
  simp only [Value.slice.injEq, true_and] at hoe
  obtain ⟨rfl, rfl⟩ := hoe
  have e0 : (0 : Int) ≤ (c : Int) := by omega
  have H0 := Lib.hid (And.intro h1 hgo)
  have HN := Lib.hid (show (n : Nat) ≤ c from hc.1)
  have c6 : c ≤ 9223372036854775807 := hc.2
  clear h h1 hgo hc
  go_enter Try.func14, Try.ntmps14
  go_wp2
  go_loopw [2] (fun i W => ∃ (k : Nat) (zs : List Value), i = .int .i64 k ∧ k ≤ c ∧ W.ownsRow b 45 3 (.slice o c c) c zs ∧ KpV (.slice o n c) w W) (fun i _ => c - (intOf i).toNat)
  case atStart => exact ⟨0, ys, rfl, by omega, H0.out.1, KpV.refl _ _⟩
  case round =>
    obtain ⟨k, zs, rfl, hk, hrow, hK⟩ := hrel
    by_cases hlt : k < c
    · obtain ⟨g, rfl⟩ := H0.out.2 (by omega)
      obtain ⟨u0, hu0⟩ : ∃ u, wr.cell? ⟨g, k * 3, none⟩ = some u := ⟨_, (hrow.cellAt (k * 3) (by omega)).trans (List.getElem?_eq_getElem (by rw [hrow.1]; omega))⟩
      obtain ⟨u1, hu1⟩ : ∃ u, wr.cell? ⟨g, k * 3 + 1, none⟩ = some u := ⟨_, (hrow.cellAt (k * 3 + 1) (by omega)).trans (List.getElem?_eq_getElem (by rw [hrow.1]; omega))⟩
      obtain ⟨u2, hu2⟩ : ∃ u, wr.cell? ⟨g, k * 3 + 2, none⟩ = some u := ⟨_, (hrow.cellAt (k * 3 + 2) (by omega)).trans (List.getElem?_eq_getElem (by rw [hrow.1]; omega))⟩
      have f0 := own_freeK hrow (k * 3)
      have f1 := own_freeK hrow (k * 3 + 1)
      have f2 := own_freeK hrow (k * 3 + 2)
      have hkl : (k : Int) < (c : Int) := by omega
      have j5 : IntKind.i64.wrap ((k : Int) + 1) = ((k + 1 : Nat) : Int) := by rw [IntWalk.i64_in _ (by omega)]; omega
      have HX := Lib.hid (And.intro (own_setK (own_setK (own_setK hrow (o := k * 3) (by omega) (.int .i64 (-1))) (o := k * 3 + 1) (by omega) (.string spoiltB)) (o := k * 3 + 2) (by omega) (.string .empty)) (((hK.set (g := g) rfl (k * 3) (.int .i64 (-1))).set (g := g) rfl (k * 3 + 1) (.string spoiltB)).set (g := g) rfl (k * 3 + 2) (.string .empty)))
      clear hrow hK
      go_wp2
      go_roundw
      case rel => exact ⟨k + 1, _, by go_num, by omega, HX.out.1, HX.out.2⟩
      case measure => simp [intOf] <;> omega
    · obtain rfl : k = c := by omega
      have HX := Lib.hid hK
      clear hrow hK
      go_wp2
      refine bodyPost_end (results_none rfl _ _ _) rfl ?_
      exact ⟨rfl, HX.out⟩
end Go.Proofs.Ytpijooajbgeejaa
