/- Stage 27: the program's reader: number. -/
import Derived.Test.YtjccoiephdopkaaDoorRp2
namespace Go.Proofs.YtjccoiephdopkaaDoor
set_option linter.unusedVariables false
set_option linter.unusedSimpArgs false
open Go Go.RowKit Go.Shelf
set_option maxRecDepth 100000

def NumP (W : World) (B : Nat) (s : ByteArray) (p f t : Nat) (e : Ending) (W' : World) : Prop :=
  W.grownBy W' (some B) ∧ ((∃ q, numT s p f t = (none, q) ∧ e = .returned (.tuple #[.int .i64 0, .agg #[.int .i64 271, .int .i64 q]])) ∨
    (∃ (n q : Nat), numT s p f t = (some n, q) ∧ e = .returned (.tuple #[.int .i64 n, .agg #[.int .i64 0, .int .i64 0]]) ∧ RdK W W' B s q (f + n) (t + n)))
/-- What the loop has read. -/
def NumI (s : ByteArray) (p q v : Nat) : Prop := (v = 0 ∧ q = p) ∨ (0 < v ∧ (49 ≤ lkN s p ∧ lkN s p ≤ 57) ∧ figS s p 0 = figS s q v)
theorem NumI.go {s : ByteArray} {p q v c d : Nat} (h : NumI s p q v) (hc : lkN s q = c) (hd : c - 48 = d) (h1 : 48 ≤ c ∧ c ≤ 57) (h2 : c = 48 → 0 < v) : NumI s p (q + 1) (10 * v + d) := by
  subst hc hd
  rcases h with ⟨rfl, rfl⟩ | ⟨a, b, e⟩
  · have : lkN s q ≠ 48 := fun e => by have := h2 e; omega
    exact .inr ⟨by omega, ⟨by omega, by omega⟩, figS_go h1⟩
  · exact .inr ⟨by omega, b, by rw [e, figS_go h1]⟩
theorem NumI.done {s : ByteArray} {p q v c : Nat} (h : NumI s p q v) (hc : lkN s q = c) (h1 : ¬ (49 ≤ c ∧ c ≤ 57)) (h2 : ¬ (c = 48 ∧ 0 < v)) : (v = 0 ∧ numS s p = (none, p)) ∨ (0 < v ∧ numS s p = (some v, q)) := by
  subst hc
  rcases h with ⟨rfl, rfl⟩ | ⟨a, b, e⟩
  · exact .inl ⟨rfl, by unfold numS; rw [if_neg h1]⟩
  · refine .inr ⟨a, ?_⟩
    unfold numS
    rw [if_pos b, e, figS_end (by omega)]
theorem RdK.blk {W W' : World} {B p f t R : Nat} {s : ByteArray} {cs : Array Value} {ty : TypeId} (h : Blk W R cs ty) (k : RdK W W' B s p f t) (hne : R ≠ B) : Blk W' R cs ty := by
  have hl : R < W.heap.size := (Array.getElem?_eq_some_iff.1 h).1
  exact (k.2.block R hl (fun e => hne (Option.some.inj e))).trans h
def NumR (w : World) (B : Nat) (s : ByteArray) (p f t : Nat) (v q : Nat) (X : World) : Prop :=
  NumI s p q v ∧ q ≤ s.size ∧ RdK w X B s q f t ∧ Blk X w.heap.size #[.int .i64 0, .int .i64 0] 30
theorem NumR.next {w X : World} {B p f t v2 q y : Nat} {s : ByteArray} (hBw : B < w.heap.size) (hI : NumI s p (q + 1) v2) (hq : q < s.size) (hK : RdK w X B s q f t) (hR : Blk X w.heap.size #[.int .i64 0, .int .i64 0] 30) :
    NumR w B s p f t v2 (q + 1) ((X.setCell ⟨B, 1, none⟩ (.int .i64 ((q : Int) + 1))).drewN y) := by
  have h1 := (hK.to (q + 1)).drew y
  refine ⟨hI, hq, by simpa using h1, ?_⟩
  have h2 := Blk.other hR (show w.heap.size ≠ B by omega) 1 (.int .i64 ((q : Int) + 1))
  exact h2
theorem RdB.sums {w : World} {B p f t : Nat} {s : ByteArray} (h : RdB w B s p f t) (f2 t2 : Nat) : RdB ((w.setCell ⟨B, 2, none⟩ (.int .i64 f2)).setCell ⟨B, 3, none⟩ (.int .i64 t2)) B s p f2 t2 := Blk.set (Blk.set h 2 _) 3 _
theorem grown_new {W W' : World} {B R : Nat} (h : W.grownBy W' (some B)) (hR : W.heap.size ≤ R) (o : Nat) (v : Value) : W.grownBy (W'.setCell ⟨R, o, none⟩ v) (some B) := by
  refine ⟨h.os, h.tape, h.output, by simpa using h.size, fun k hk hn => ?_⟩
  exact (Below.heap_setCell _ _ _ _ (fun e => by simp at e; omega)).trans (h.block k hk hn)
theorem grown_below {W W1 W2 : World} {B : Nat} (h : W.grownBy W1 (some B)) (k : Below W1.heap.size W1 W2) : W.grownBy W2 (some B) := h.trans ((grown_none k).but _)
set_option maxHeartbeats 4000000 in
theorem number_any {B p f t : Nat} {s : ByteArray} {w : World} (h : RdB w B s p f t) (hp : p ≤ s.size) (hs : s.size ≤ 1048576) (hf : f ≤ 65536) (ht : t ≤ 65536) :
    Calls Tryd.prog 62 #[.pointer (some ⟨B, 0, none⟩)] w (NumP w B s p f t) := by
  have hBw : B < w.heap.size := (Array.getElem?_eq_some_iff.1 h).1
  have hal : RdK w (w.alloc (.cells #[.int .i64 0, .int .i64 0] 30)) B s p f t := (RdK.start h).below ((Below.refl _ _).alloc (Nat.le_refl _) _)
  have hR := Blk.new w #[.int .i64 0, .int .i64 0] 30
  have cL := look_any hal.1 hp (by omega)
  obtain ⟨c0, c1, c2, c3, cf⟩ := hal.cells
  have hpI : (p : Int) ≤ 1048576 := by omega
  have HH := Lib.hid (And.intro hp (And.intro hs (And.intro hf (And.intro ht hBw))))
  have HA := Lib.hid (And.intro hal hR)
  clear h hp hs hf ht hBw hal hR
  go_enter Tryd.func62, Tryd.ntmps62
  go_wp2_with (go_at_call 37; refine cL.mono ?_; rintro e w1 ⟨rfl, y, rfl⟩)
  go_loopw [5, 6] (fun vn vc wr => ∃ (v a c q : Nat), vn = .int .i64 a ∧ vc = .int .u8 c ∧ Hid (a = min v 65537 ∧ lkN s q = c ∧ NumR w B s p f t v q wr)) (fun _ vc wr => s.size - (match wr.cell? ⟨B, 1, none⟩ with | some v => (RowKit.intOf v).toNat | none => 0))
  case atStart => exact ⟨0, 0, lkN s p, p, rfl, rfl, rfl, rfl, .inl ⟨rfl, rfl⟩, HH.out.1, HA.out.1.drew y, HA.out.2⟩
  case round =>
    obtain ⟨v, a, c, q, rfl, rfl, HR⟩ := hrel
    rename World => X
    obtain ⟨ha, hc, hI, hq, hK, hR⟩ := HR.out
    obtain ⟨hp, hs, hf, ht, hBw⟩ := HH.out
    obtain ⟨k0, k1, k2, k3, kf⟩ := hK.cells
    have haI : (a : Int) ≤ 65537 := by omega
    have hqI : (q : Int) ≤ 1048576 := by omega
    have hc8 : c < 256 := hc ▸ lkN_256 s q
    have hcs : (49 ≤ c ∧ c ≤ 57) ∨ (c = 48 ∧ 0 < v) ∨ (c = 48 ∧ v = 0) ∨ (c < 48) ∨ (57 < c) := by omega
    clear HA cL c0 c1 c2 c3 cf
    rcases hcs with h1 | h1 | h1 | h1 | h1
    · obtain ⟨d, hd⟩ : ∃ d, c - 48 = d := ⟨_, rfl⟩
      have hlt := lkN_lt hc (by omega)
      have hn := hI.go hc hd (by omega) (by omega)
      have cL2 := fun (Y : World) (hY : RdB Y B s (q + 1) f t) => look_any hY (by omega) (by omega)
      obtain ⟨g, hg⟩ : ∃ g, lkN s (q + 1) = g := ⟨_, rfl⟩
      rw [hg] at cL2
      obtain ⟨m, hm⟩ : ∃ m, min (10 * v + d) 65537 = m := ⟨_, rfl⟩
      have e1 : IntKind.u8.wrap ((c : Int) - 48) = (d : Int) := by rw [IntKind.wrap_u8]; omega
      have hdI : (d : Int) ≤ 9 := by omega
      have hmI : min (10 * (a : Int) + (d : Int)) 65537 = (m : Int) := by omega
      have a1 : (49 : Int) ≤ (c : Int) := by omega
      have a2 : (c : Int) ≤ 57 := by omega
      have HN := Lib.hid (And.intro hm (And.intro hg (And.intro hn (And.intro hlt (And.intro hK hR)))))
      clear hm hg hn hlt hK hR hI hc hd ha hq hp hs hf ht hBw h1 HR hc8
      go_wp2_with (go_at_call 37; refine (cL2 _ (by have := (HN.out.2.2.2.2.1.to (q + 1)).1; simpa using this)).mono ?_; rintro e w1 ⟨rfl, y, rfl⟩)
      go_roundw
      case rel =>
        obtain ⟨hm, hg, hn, hlt, hK, hR⟩ := HN.out
        exact ⟨10 * v + d, m, g, q + 1, by first | rfl | (simp [hmI]; done), rfl, hm.symm, hg, NumR.next HH.out.2.2.2.2 hn hlt hK hR⟩
      case measure =>
        obtain ⟨hm, hg, hn, hlt, hK, hR⟩ := HN.out
        have e1 : (((X.setCell ⟨B, 1, none⟩ (.int .i64 ((q : Int) + 1))).drewN y).cell? ⟨B, 1, none⟩) = some (.int .i64 ((q : Int) + 1)) := by have := (hK.to (q + 1)).cells.2.1; simpa using this
        rw [e1, k1]
        simp [intOf]; omega
    · obtain ⟨h1, hv⟩ := h1
      subst h1
      have hlt := lkN_lt hc (by omega)
      have hn := hI.go hc rfl (by omega) (by omega)
      have cL2 := fun (Y : World) (hY : RdB Y B s (q + 1) f t) => look_any hY (by omega) (by omega)
      obtain ⟨g, hg⟩ : ∃ g, lkN s (q + 1) = g := ⟨_, rfl⟩
      rw [hg] at cL2
      obtain ⟨m, hm⟩ : ∃ m, min (10 * v + (48 - 48)) 65537 = m := ⟨_, rfl⟩
      have hmI : min (10 * (a : Int)) 65537 = (m : Int) := by omega
      have a1 : (0 : Int) < (a : Int) := by omega
      have a2 : 0 < a := by omega
      have HN := Lib.hid (And.intro hm (And.intro hg (And.intro hn (And.intro hlt (And.intro hK hR)))))
      clear hm hg hn hlt hK hR hI hc ha hq hp hs hf ht hBw hv HR hc8
      go_wp2_with (go_at_call 37; refine (cL2 _ (by have := (HN.out.2.2.2.2.1.to (q + 1)).1; simpa using this)).mono ?_; rintro e w1 ⟨rfl, y, rfl⟩)
      go_roundw
      case rel =>
        obtain ⟨hm, hg, hn, hlt, hK, hR⟩ := HN.out
        exact ⟨10 * v + (48 - 48), m, g, q + 1, by first | rfl | (simp [hmI]; done), rfl, hm.symm, hg, NumR.next HH.out.2.2.2.2 hn hlt hK hR⟩
      case measure =>
        obtain ⟨hm, hg, hn, hlt, hK, hR⟩ := HN.out
        have e1 : (((X.setCell ⟨B, 1, none⟩ (.int .i64 ((q : Int) + 1))).drewN y).cell? ⟨B, 1, none⟩) = some (.int .i64 ((q : Int) + 1)) := by have := (hK.to (q + 1)).cells.2.1; simpa using this
        rw [e1, k1]
        simp [intOf]; omega
    · obtain ⟨h1, hv0⟩ := h1
      subst h1
      rcases hI.done hc (by omega) (by omega) with ⟨hv, hN⟩ | ⟨hv, hN⟩
      · obtain rfl : a = 0 := by omega
        have hT : numT s p f t = (none, p) := by unfold numT; rw [hN]
        have cb := fun Y => bad_any p Y
        have r0 : X.cell? ⟨w.heap.size, 0, none⟩ = some (.int .i64 0) := hR.cell 0
        have r1 : X.cell? ⟨w.heap.size, 1, none⟩ = some (.int .i64 0) := hR.cell 1
        have rf := fun o => hR.frozen o
        have hne : w.heap.size ≠ B := by omega
        have hfI : (f : Int) ≤ 65536 := by omega
        have htI : (t : Int) ≤ 65536 := by omega
        clear hv hv0
        have HN := Lib.hid (And.intro hT (And.intro hK hR))
        clear hK hR hI hc ha hq hp hs hf ht hBw HR hc8 hT hN
        go_wp2_with (go_at_call 38; refine (cb _).mono ?_; rintro e w5 ⟨rfl, hb5⟩; have hR5 := Blk.below' (Blk.other (Blk.other HN.out.2.2 hne 2 _) hne 3 _) hb5; have z0 : w5.cell? ⟨w.heap.size, 0, none⟩ = some (.int .i64 0) := hR5.cell 0; have z1 : w5.cell? ⟨w.heap.size, 1, none⟩ = some (.int .i64 0) := hR5.cell 1; have zf := fun o => hR5.frozen o; have HG := Lib.hid (grown_below (grown_set (grown_set HN.out.2.1.2 2 _) 3 _) hb5))
        refine bodyPost_ret (v := .tuple #[.int .i64 0, .agg #[.int .i64 271, .int .i64 p]]) (by simp [results, Tryd.f62, go_sem, z0, z1, zf]) rfl ?_
        exact ⟨grown_new (grown_new HG.out (Nat.le_refl _) 0 _) (Nat.le_refl _) 1 _, .inl ⟨p, HN.out.1, rfl⟩⟩
      · omega
    · rcases hI.done hc (by omega) (by omega) with ⟨hv, hN⟩ | ⟨hv, hN⟩
      · obtain rfl : a = 0 := by omega
        have hT : numT s p f t = (none, p) := by unfold numT; rw [hN]
        have a1 : ¬ (49 : Int) ≤ (c : Int) := by omega
        have a3 : ¬ (c : Int) = 48 := by omega
        have a4 : ((c : Int) == 48) = false := by rw [beq_eq_false_iff_ne]; exact a3
        have cb := fun Y => bad_any p Y
        have r0 : X.cell? ⟨w.heap.size, 0, none⟩ = some (.int .i64 0) := hR.cell 0
        have r1 : X.cell? ⟨w.heap.size, 1, none⟩ = some (.int .i64 0) := hR.cell 1
        have rf := fun o => hR.frozen o
        have hne : w.heap.size ≠ B := by omega
        have hfI : (f : Int) ≤ 65536 := by omega
        have htI : (t : Int) ≤ 65536 := by omega
        clear hv h1
        have HN := Lib.hid (And.intro hT (And.intro hK hR))
        clear hK hR hI hc ha hq hp hs hf ht hBw HR hc8 hT hN
        go_wp2_with (go_at_call 38; refine (cb _).mono ?_; rintro e w5 ⟨rfl, hb5⟩; have hR5 := Blk.below' (Blk.other (Blk.other HN.out.2.2 hne 2 _) hne 3 _) hb5; have z0 : w5.cell? ⟨w.heap.size, 0, none⟩ = some (.int .i64 0) := hR5.cell 0; have z1 : w5.cell? ⟨w.heap.size, 1, none⟩ = some (.int .i64 0) := hR5.cell 1; have zf := fun o => hR5.frozen o; have HG := Lib.hid (grown_below (grown_set (grown_set HN.out.2.1.2 2 _) 3 _) hb5))
        refine bodyPost_ret (v := .tuple #[.int .i64 0, .agg #[.int .i64 271, .int .i64 p]]) (by simp [results, Tryd.f62, go_sem, z0, z1, zf]) rfl ?_
        exact ⟨grown_new (grown_new HG.out (Nat.le_refl _) 0 _) (Nat.le_refl _) 1 _, .inl ⟨p, HN.out.1, rfl⟩⟩
      · have b1 : ¬ (a : Int) = 0 := by omega
        have b2 : ((a : Int) == 0) = false := by rw [beq_eq_false_iff_ne]; exact b1
        have b3 : ¬ a = 0 := by omega
        have a1 : ¬ (49 : Int) ≤ (c : Int) := by omega
        have a3 : ¬ (c : Int) = 48 := by omega
        have a4 : ((c : Int) == 48) = false := by rw [beq_eq_false_iff_ne]; exact a3
        have cb := fun Y => bad_any p Y
        have r0 : X.cell? ⟨w.heap.size, 0, none⟩ = some (.int .i64 0) := hR.cell 0
        have r1 : X.cell? ⟨w.heap.size, 1, none⟩ = some (.int .i64 0) := hR.cell 1
        have rf := fun o => hR.frozen o
        have hne : w.heap.size ≠ B := by omega
        have hfI : (f : Int) ≤ 65536 := by omega
        have htI : (t : Int) ≤ 65536 := by omega
        by_cases hF : 65536 < f + a
        · have hT : numT s p f t = (none, p) := by unfold numT; rw [hN]; exact if_pos (.inl (by omega))
          have d1 : (65536 : Int) < (f : Int) + (a : Int) := by omega
          clear hv h1 hF
          have HN := Lib.hid (And.intro hT (And.intro hK hR))
          clear hK hR hI hc ha hq hp hs hf ht hBw HR hc8 hT hN
          go_wp2_with (go_at_call 38; refine (cb _).mono ?_; rintro e w5 ⟨rfl, hb5⟩; have hR5 := Blk.below' (Blk.other (Blk.other HN.out.2.2 hne 2 _) hne 3 _) hb5; have z0 : w5.cell? ⟨w.heap.size, 0, none⟩ = some (.int .i64 0) := hR5.cell 0; have z1 : w5.cell? ⟨w.heap.size, 1, none⟩ = some (.int .i64 0) := hR5.cell 1; have zf := fun o => hR5.frozen o; have HG := Lib.hid (grown_below (grown_set (grown_set HN.out.2.1.2 2 _) 3 _) hb5))
          refine bodyPost_ret (v := .tuple #[.int .i64 0, .agg #[.int .i64 271, .int .i64 p]]) (by simp [results, Tryd.f62, go_sem, z0, z1, zf]) rfl ?_
          exact ⟨grown_new (grown_new HG.out (Nat.le_refl _) 0 _) (Nat.le_refl _) 1 _, .inl ⟨p, HN.out.1, rfl⟩⟩
        by_cases hG : 65536 < t + a
        · have hT : numT s p f t = (none, p) := by unfold numT; rw [hN]; exact if_pos (.inr (by omega))
          have d1 : ¬ (65536 : Int) < (f : Int) + (a : Int) := by omega
          have d2 : (65536 : Int) < (t : Int) + (a : Int) := by omega
          clear hv h1 hF hG
          have HN := Lib.hid (And.intro hT (And.intro hK hR))
          clear hK hR hI hc ha hq hp hs hf ht hBw HR hc8 hT hN
          go_wp2_with (go_at_call 38; refine (cb _).mono ?_; rintro e w5 ⟨rfl, hb5⟩; have hR5 := Blk.below' (Blk.other (Blk.other HN.out.2.2 hne 2 _) hne 3 _) hb5; have z0 : w5.cell? ⟨w.heap.size, 0, none⟩ = some (.int .i64 0) := hR5.cell 0; have z1 : w5.cell? ⟨w.heap.size, 1, none⟩ = some (.int .i64 0) := hR5.cell 1; have zf := fun o => hR5.frozen o; have HG := Lib.hid (grown_below (grown_set (grown_set HN.out.2.1.2 2 _) 3 _) hb5))
          refine bodyPost_ret (v := .tuple #[.int .i64 0, .agg #[.int .i64 271, .int .i64 p]]) (by simp [results, Tryd.f62, go_sem, z0, z1, zf]) rfl ?_
          exact ⟨grown_new (grown_new HG.out (Nat.le_refl _) 0 _) (Nat.le_refl _) 1 _, .inl ⟨p, HN.out.1, rfl⟩⟩
        · obtain rfl : a = v := by omega
          have hT : numT s p f t = (some a, q) := by unfold numT; rw [hN]; exact if_neg (by omega)
          have d1 : ¬ (65536 : Int) < (f : Int) + (a : Int) := by omega
          have d2 : ¬ (65536 : Int) < (t : Int) + (a : Int) := by omega
          clear hv h1 hF hG
          have HN := Lib.hid (And.intro hT (And.intro hK hR))
          clear hK hR hI hc ha hq hp hs hf ht hBw HR hc8 hT hN
          go_wp2
          refine bodyPost_ret (v := .tuple #[.int .i64 a, .agg #[.int .i64 0, .int .i64 0]]) (by simp [results, Tryd.f62, go_sem, r0, r1, rf, hne]) rfl ?_
          have hG := grown_new (grown_new (grown_set (grown_set HN.out.2.1.2 2 (.int .i64 ((f : Int) + (a : Int)))) 3 (.int .i64 ((t : Int) + (a : Int)))) (Nat.le_refl w.heap.size) 0 (.int .i64 0)) (Nat.le_refl _) 1 (.int .i64 0)
          refine ⟨hG, .inr ⟨a, q, HN.out.1, rfl, ?_, hG⟩⟩
          have h2 := (HN.out.2.1.1.sums (f + a) (t + a))
          exact Blk.other (Blk.other h2 (fun e => hne e.symm) 0 _) (fun e => hne e.symm) 1 _
    · rcases hI.done hc (by omega) (by omega) with ⟨hv, hN⟩ | ⟨hv, hN⟩
      · obtain rfl : a = 0 := by omega
        have hT : numT s p f t = (none, p) := by unfold numT; rw [hN]
        have a1 : (49 : Int) ≤ (c : Int) := by omega
        have a2 : ¬ (c : Int) ≤ 57 := by omega
        have a3 : ¬ (c : Int) = 48 := by omega
        have a4 : ((c : Int) == 48) = false := by rw [beq_eq_false_iff_ne]; exact a3
        have cb := fun Y => bad_any p Y
        have r0 : X.cell? ⟨w.heap.size, 0, none⟩ = some (.int .i64 0) := hR.cell 0
        have r1 : X.cell? ⟨w.heap.size, 1, none⟩ = some (.int .i64 0) := hR.cell 1
        have rf := fun o => hR.frozen o
        have hne : w.heap.size ≠ B := by omega
        have hfI : (f : Int) ≤ 65536 := by omega
        have htI : (t : Int) ≤ 65536 := by omega
        clear hv h1
        have HN := Lib.hid (And.intro hT (And.intro hK hR))
        clear hK hR hI hc ha hq hp hs hf ht hBw HR hc8 hT hN
        go_wp2_with (go_at_call 38; refine (cb _).mono ?_; rintro e w5 ⟨rfl, hb5⟩; have hR5 := Blk.below' (Blk.other (Blk.other HN.out.2.2 hne 2 _) hne 3 _) hb5; have z0 : w5.cell? ⟨w.heap.size, 0, none⟩ = some (.int .i64 0) := hR5.cell 0; have z1 : w5.cell? ⟨w.heap.size, 1, none⟩ = some (.int .i64 0) := hR5.cell 1; have zf := fun o => hR5.frozen o; have HG := Lib.hid (grown_below (grown_set (grown_set HN.out.2.1.2 2 _) 3 _) hb5))
        refine bodyPost_ret (v := .tuple #[.int .i64 0, .agg #[.int .i64 271, .int .i64 p]]) (by simp [results, Tryd.f62, go_sem, z0, z1, zf]) rfl ?_
        exact ⟨grown_new (grown_new HG.out (Nat.le_refl _) 0 _) (Nat.le_refl _) 1 _, .inl ⟨p, HN.out.1, rfl⟩⟩
      · have b1 : ¬ (a : Int) = 0 := by omega
        have b2 : ((a : Int) == 0) = false := by rw [beq_eq_false_iff_ne]; exact b1
        have b3 : ¬ a = 0 := by omega
        have a1 : (49 : Int) ≤ (c : Int) := by omega
        have a2 : ¬ (c : Int) ≤ 57 := by omega
        have a3 : ¬ (c : Int) = 48 := by omega
        have a4 : ((c : Int) == 48) = false := by rw [beq_eq_false_iff_ne]; exact a3
        have cb := fun Y => bad_any p Y
        have r0 : X.cell? ⟨w.heap.size, 0, none⟩ = some (.int .i64 0) := hR.cell 0
        have r1 : X.cell? ⟨w.heap.size, 1, none⟩ = some (.int .i64 0) := hR.cell 1
        have rf := fun o => hR.frozen o
        have hne : w.heap.size ≠ B := by omega
        have hfI : (f : Int) ≤ 65536 := by omega
        have htI : (t : Int) ≤ 65536 := by omega
        by_cases hF : 65536 < f + a
        · have hT : numT s p f t = (none, p) := by unfold numT; rw [hN]; exact if_pos (.inl (by omega))
          have d1 : (65536 : Int) < (f : Int) + (a : Int) := by omega
          clear hv h1 hF
          have HN := Lib.hid (And.intro hT (And.intro hK hR))
          clear hK hR hI hc ha hq hp hs hf ht hBw HR hc8 hT hN
          go_wp2_with (go_at_call 38; refine (cb _).mono ?_; rintro e w5 ⟨rfl, hb5⟩; have hR5 := Blk.below' (Blk.other (Blk.other HN.out.2.2 hne 2 _) hne 3 _) hb5; have z0 : w5.cell? ⟨w.heap.size, 0, none⟩ = some (.int .i64 0) := hR5.cell 0; have z1 : w5.cell? ⟨w.heap.size, 1, none⟩ = some (.int .i64 0) := hR5.cell 1; have zf := fun o => hR5.frozen o; have HG := Lib.hid (grown_below (grown_set (grown_set HN.out.2.1.2 2 _) 3 _) hb5))
          refine bodyPost_ret (v := .tuple #[.int .i64 0, .agg #[.int .i64 271, .int .i64 p]]) (by simp [results, Tryd.f62, go_sem, z0, z1, zf]) rfl ?_
          exact ⟨grown_new (grown_new HG.out (Nat.le_refl _) 0 _) (Nat.le_refl _) 1 _, .inl ⟨p, HN.out.1, rfl⟩⟩
        by_cases hG : 65536 < t + a
        · have hT : numT s p f t = (none, p) := by unfold numT; rw [hN]; exact if_pos (.inr (by omega))
          have d1 : ¬ (65536 : Int) < (f : Int) + (a : Int) := by omega
          have d2 : (65536 : Int) < (t : Int) + (a : Int) := by omega
          clear hv h1 hF hG
          have HN := Lib.hid (And.intro hT (And.intro hK hR))
          clear hK hR hI hc ha hq hp hs hf ht hBw HR hc8 hT hN
          go_wp2_with (go_at_call 38; refine (cb _).mono ?_; rintro e w5 ⟨rfl, hb5⟩; have hR5 := Blk.below' (Blk.other (Blk.other HN.out.2.2 hne 2 _) hne 3 _) hb5; have z0 : w5.cell? ⟨w.heap.size, 0, none⟩ = some (.int .i64 0) := hR5.cell 0; have z1 : w5.cell? ⟨w.heap.size, 1, none⟩ = some (.int .i64 0) := hR5.cell 1; have zf := fun o => hR5.frozen o; have HG := Lib.hid (grown_below (grown_set (grown_set HN.out.2.1.2 2 _) 3 _) hb5))
          refine bodyPost_ret (v := .tuple #[.int .i64 0, .agg #[.int .i64 271, .int .i64 p]]) (by simp [results, Tryd.f62, go_sem, z0, z1, zf]) rfl ?_
          exact ⟨grown_new (grown_new HG.out (Nat.le_refl _) 0 _) (Nat.le_refl _) 1 _, .inl ⟨p, HN.out.1, rfl⟩⟩
        · obtain rfl : a = v := by omega
          have hT : numT s p f t = (some a, q) := by unfold numT; rw [hN]; exact if_neg (by omega)
          have d1 : ¬ (65536 : Int) < (f : Int) + (a : Int) := by omega
          have d2 : ¬ (65536 : Int) < (t : Int) + (a : Int) := by omega
          clear hv h1 hF hG
          have HN := Lib.hid (And.intro hT (And.intro hK hR))
          clear hK hR hI hc ha hq hp hs hf ht hBw HR hc8 hT hN
          go_wp2
          refine bodyPost_ret (v := .tuple #[.int .i64 a, .agg #[.int .i64 0, .int .i64 0]]) (by simp [results, Tryd.f62, go_sem, r0, r1, rf, hne]) rfl ?_
          have hG := grown_new (grown_new (grown_set (grown_set HN.out.2.1.2 2 (.int .i64 ((f : Int) + (a : Int)))) 3 (.int .i64 ((t : Int) + (a : Int)))) (Nat.le_refl w.heap.size) 0 (.int .i64 0)) (Nat.le_refl _) 1 (.int .i64 0)
          refine ⟨hG, .inr ⟨a, q, HN.out.1, rfl, ?_, hG⟩⟩
          have h2 := (HN.out.2.1.1.sums (f + a) (t + a))
          exact Blk.other (Blk.other h2 (fun e => hne e.symm) 0 _) (fun e => hne e.symm) 1 _
end Go.Proofs.YtjccoiephdopkaaDoor
