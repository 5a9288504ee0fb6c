/- Stage 27: the document's reader: quoted. -/
import Derived.Test.YtjccoiephdopkaaDoorRe4
import Derived.Test.YtjccoiephdopkaaDoorRp4
namespace Go.Proofs.YtjccoiephdopkaaDoor
set_option linter.unusedVariables false
set_option linter.unusedSimpArgs false
open Go Go.RowKit Go.Shelf
set_option maxRecDepth 100000

theorem BehP.none {w w' : World} {B p q : Nat} {s : ByteArray} {e : Ending} (h : BehP w B s p e w') (hn : escS s p = (none, q)) : ∃ str p', e = .returned (.string str) ∧ str.size ≤ 4 ∧ p' ≤ s.size + 2 ∧ DdK w w' B s p' (q : Int) := by
  obtain ⟨str, rfl, h4, ⟨b', q', h', _⟩ | ⟨q', p', h', h5, hk⟩⟩ := h.h
  · rw [hn] at h'; cases h'
  · rw [hn] at h'; cases h'; exact ⟨str, p', rfl, h4, h5, hk⟩
theorem BehP.some {w w' : World} {B p q : Nat} {s : ByteArray} {b : List UInt8} {e : Ending} (h : BehP w B s p e w') (hn : escS s p = (some b, q)) : e = .returned (.string ⟨b.toArray⟩) ∧ DdK w w' B s q (-1) := by
  obtain ⟨str, rfl, h4, ⟨b', q', h', h5, hk⟩ | ⟨q', p', h', _⟩⟩ := h.h
  · rw [hn] at h'; cases h'
    exact ⟨by rw [← h5], hk⟩
  · rw [hn] at h'; cases h'
structure QdM (w : World) (B : Nat) (s : ByteArray) (vo : Value) (out : List UInt8) (q : Nat) (z : Int) (X : World) : Prop where
  k : DdK w X B s q z
  o : X.ownsRow w.heap.size 5 1 vo out.length (bC out)
  b : B < w.heap.size
theorem QdM.drew {w X : World} {B q : Nat} {z : Int} {s : ByteArray} {vo : Value} {out : List UInt8} (h : QdM w B s vo out q z X) (y : Nat) : QdM w B s vo out q z (X.drewN y) := ⟨h.k.drew y, h.o, h.b⟩
theorem QdM.grown {w X Y : World} {B q q2 : Nat} {z z2 : Int} {s : ByteArray} {vo : Value} {out : List UInt8} (h : QdM w B s vo out q z X) (k : DdK X Y B s q2 z2) : QdM w B s vo out q2 z2 Y := by
  have hb := h.b
  refine ⟨h.k.trans k, ?_, hb⟩
  refine h.o.kept k.2 ?_
  cases hv : vo.ownBlock with
  | none => exact .inl rfl
  | some g =>
    have := own_ge h.o hv
    exact .inr (fun e => by have := Option.some.inj e; omega)
theorem QdM.to {w X : World} {B q : Nat} {z : Int} {s : ByteArray} {vo : Value} {out : List UInt8} (h : QdM w B s vo out q z X) (q2 : Nat) : QdM w B s vo out q2 z (X.setCell ⟨B, 1, none⟩ (.int .i64 q2)) := h.grown ((DdK.start h.k.1).to q2)
theorem QdM.bad {w X : World} {B q : Nat} {z : Int} {s : ByteArray} {vo : Value} {out : List UInt8} (h : QdM w B s vo out q z X) (q2 : Int) : QdM w B s vo out q q2 (X.setCell ⟨B, 2, none⟩ (.int .i64 q2)) := h.grown ((DdK.start h.k.1).bad q2)
theorem QdM.below {w X Y : World} {B q : Nat} {z : Int} {s : ByteArray} {vo : Value} {out : List UInt8} (h : QdM w B s vo out q z X) (k : Below X.heap.size X Y) : QdM w B s vo out q z Y := h.grown ((DdK.start h.k.1).below k)
theorem QdM.app {w X X2 : World} {B q : Nat} {z : Int} {s : ByteArray} {vo vo2 : Value} {out b : List UInt8} (h : QdM w B s vo out q z X)
    (hown : X2.ownsRow w.heap.size 5 1 vo2 (out.length + b.length) (bC out ++ bC b)) (hgr : X.grownBy X2 vo.ownBlock) : QdM w B s vo2 (out ++ b) q z X2 := by
  have hX := h.k.2.size
  have hb := h.b
  have hne : ∀ k, k < w.heap.size → some k ≠ vo.ownBlock := fun k hk e => by
    have := own_ge h.o e.symm
    omega
  refine ⟨⟨(hgr.block B (by omega) (hne B hb)).trans h.k.1, hgr.os.trans h.k.2.os, hgr.tape.trans h.k.2.tape, hgr.output.trans h.k.2.output, Nat.le_trans h.k.2.size hgr.size, fun k hk hn => (hgr.block k (by omega) (hne k hk)).trans (h.k.2.block k hk hn)⟩, ?_, hb⟩
  rw [List.length_append, bC_app]; exact hown
structure QudP (w : World) (B : Nat) (s : ByteArray) (p : Nat) (e : Ending) (w' : World) : Prop where
  h : ∃ str : ByteArray, e = .returned (.string str) ∧ str.size ≤ 1048600 ∧ ((∃ out q, lkN s p = 34 ∧ bodyS s (p + 1) [] = (some out, q) ∧ str = ⟨out.toArray⟩ ∧ DdK w w' B s (q + 1) (-1)) ∨
    (∃ q p' : Nat, ((lkN s p ≠ 34 ∧ q = p) ∨ (lkN s p = 34 ∧ bodyS s (p + 1) [] = (none, q))) ∧ p' ≤ s.size + 3 ∧ DdK w w' B s p' (q : Int)))
def QdR (w : World) (B : Nat) (s : ByteArray) (p : Nat) (vo : Value) (out : List UInt8) (q : Nat) (z : Int) (X : World) : Prop :=
  QdM w B s vo out q z X ∧ out.length ≤ 1048590 ∧ ((z = -1 ∧ bodyS s (p + 1) [] = bodyS s q out ∧ q ≤ s.size ∧ out.length ≤ q) ∨ (∃ e : Nat, z = (e : Int) ∧ bodyS s (p + 1) [] = (none, e) ∧ q ≤ s.size + 2))
set_option maxHeartbeats 4000000 in
theorem quotedD_any {B p : Nat} {s : ByteArray} {w : World} (h : RdD w B s p (-1)) (hp : p ≤ s.size) (hs : s.size ≤ 1048576) :
    Calls Tryd.prog 35 #[.pointer (some ⟨B, 0, none⟩)] w (QudP w B s p) := by
  obtain ⟨i0, hi, hz0, hz1, hz2⟩ := info_parts infoZ8
  have hBw : B < w.heap.size := (Array.getElem?_eq_some_iff.1 h).1
  have cL := cD_ok h hp hs
  have HS := Lib.hid (DdK.start h)
  obtain ⟨k0, k1, k2, kf⟩ := HS.out.cells
  have hpI : (p : Int) ≤ 1048576 := by omega
  obtain ⟨g, hg⟩ : ∃ g, lkN s p = g := ⟨_, rfl⟩
  rw [hg] at cL
  have HP := Lib.hid (And.intro hp (And.intro hs (And.intro hg hBw)))
  have kd1 : ∀ N, (w.drewN N).cell? ⟨B, 1, none⟩ = some (.int .i64 p) := fun N => k1
  have kdf : ∀ N o, (w.drewN N).frozen? ⟨B, o, none⟩ = false := fun N o => kf o
  clear h hp hs hBw
  by_cases h34 : g = 34
  case neg =>
    have g1 : ¬ (g : Int) = 34 := by omega
    have g2 : ((g : Int) == 34) = false := by rw [beq_eq_false_iff_ne]; exact g1
    have HT := Lib.hid (show lkN s p ≠ 34 by rw [hg]; exact h34)
    clear h34 hg
    go_enter Tryd.func35, Tryd.ntmps35
    go_wp2_with (first
      | (go_at_call 32; refine cL.mono ?_; rintro e w1 ⟨rfl, y, rfl⟩)
      | (go_at_call 34; refine (badD_ok (HS.out.drew _).1 p).mono ?_; rintro e w5 ⟨rfl, rfl⟩))
    go_ret
    exact ⟨⟨_, rfl, Nat.zero_le _, .inr ⟨p, p, .inl ⟨HT.out, rfl⟩, by have := HP.out.1; omega, (HS.out.drew _).bad p⟩⟩⟩
  subst h34
  have hpl := lkN_lt hg (by decide)
  clear hg
  have H0 := Lib.hid (show ∀ N, QdR w B s p (.slice none 0 0) [] (p + 1) (-1) ((w.drewN N).setCell ⟨B, 1, none⟩ (.int .i64 ((p : Int) + 1))) from fun N => ⟨⟨by have := (HS.out.drew N).to (p + 1); simpa using this, World.ownsRow_nil _ _ _ _, HP.out.2.2.2⟩, by simp, .inl ⟨rfl, rfl, hpl, by simp⟩⟩)
  clear hpl
  go_enter Tryd.func35, Tryd.ntmps35
  go_wp2_with (go_at_call 32; refine cL.mono ?_; rintro e w1 ⟨rfl, y, rfl⟩)
  go_loopw [3] (fun vo wr => ∃ (out : List UInt8) (q : Nat) (z : Int), Hid (QdR w B s p vo out q z wr)) (fun _ wr => match wr.cell? ⟨B, 2, none⟩ with | some v => if 0 ≤ RowKit.intOf v then 0 else (s.size + 1 - (match wr.cell? ⟨B, 1, none⟩ with | some v => (RowKit.intOf v).toNat | none => 0)) | none => 0)
  case atStart => exact ⟨[], p + 1, -1, H0.out _⟩
  case round =>
    obtain ⟨out, q, z, HR⟩ := hrel
    rename World => X
    clear cL k0 k1 k2 kf kd1 kdf H0
    obtain ⟨hM, hol, hst⟩ := HR.out
    obtain ⟨hp, hs, hg, hBw⟩ := HP.out
    obtain ⟨k0, k1, k2, kf⟩ := hM.k.cells
    obtain ⟨oo, oc, rfl, _⟩ := own_slice hM.o
    have HX := Lib.hid hM
    have hoI : out.length ≤ 1048590 := hol
    have kd1 : ∀ N, (X.drewN N).cell? ⟨B, 1, none⟩ = some (.int .i64 q) := fun N => k1
    have kdf : ∀ N o, (X.drewN N).frozen? ⟨B, o, none⟩ = false := fun N o => kf o
    have hqI : (q : Int) ≤ 1048578 := by rcases hst with hst | ⟨_, hst⟩ <;> omega
    have H9 := Lib.hid (show ∀ N, QdM w B s (.slice oo out.length oc) out (q + 1) z ((X.drewN N).setCell ⟨B, 1, none⟩ (.int .i64 ((q : Int) + 1))) from fun N => by have := (HX.out.drew N).to (q + 1); simpa using this)
    have H9' := Lib.hid (show QdM w B s (.slice oo out.length oc) out (q + 1) z (X.setCell ⟨B, 1, none⟩ (.int .i64 ((q : Int) + 1))) from by have := HX.out.to (q + 1); simpa using this)
    have eS : Lib.strCells ⟨out.toArray⟩ = bC out := bC_str out
    have eZ : (⟨out.toArray⟩ : ByteArray).size = out.length := rfl
    rcases hst with ⟨rfl, hbo, hq, hlo⟩ | ⟨ee, rfl, hbo, hq⟩
    case inr =>
      have hcv := conv_own eZ (by rw [eS]; exact H9'.out.o)
      have HE := Lib.hid (And.intro hbo (And.intro (show q + 1 ≤ s.size + 3 by omega) hg))
      have hee : decide ((ee : Int) < 0) = false := decide_eq_false (by omega)
      clear hM hol hbo hq hp hs hg hBw HR
      go_wp2
      go_ret
      exact ⟨⟨_, rfl, by rw [eZ]; omega, .inr ⟨ee, q + 1, .inr ⟨HE.out.2.2, HE.out.1⟩, HE.out.2.1, H9'.out.k⟩⟩⟩
    obtain ⟨c, hc⟩ : ∃ c, lkN s q = c := ⟨_, rfl⟩
    have cG := fun (Y : World) (hY : RdD Y B s q (-1)) => cD_ok hY hq hs
    rw [hc] at cG
    have hc8 : c < 256 := hc ▸ lkN_256 s q
    by_cases h34 : c = 34
    · subst h34
      have hcv := fun N => conv_own eZ (by rw [eS]; exact (H9.out N).o)
      have HE := Lib.hid (And.intro (show bodyS s (p + 1) [] = (some out, q) by rw [hbo, bodyS_end hc]) hg)
      clear hM hol hbo hq hlo hp hs hg hBw hc hc8 HR
      go_wp2_with (first
        | (go_at_call 32; refine (cG _ HX.out.k.1).mono ?_; rintro e w1 ⟨rfl, y1, rfl⟩)
        | (go_at_call 32; refine (cG _ (HX.out.drew _).k.1).mono ?_; rintro e w1 ⟨rfl, y1, rfl⟩))
      go_ret
      exact ⟨⟨_, rfl, by rw [eZ]; omega, .inl ⟨out, q, HE.out.2, HE.out.1, rfl, (H9.out _).k⟩⟩⟩
    have a1 : ¬ (c : Int) = 34 := by omega
    have b1 : ((c : Int) == 34) = false := by rw [beq_eq_false_iff_ne]; exact a1
    by_cases h92 : c = 92
    · subst h92
      have hql := lkN_lt hc (by decide)
      have cB := fun (Y : World) (hY : RdD Y B s (q + 1) (-1)) => behind_any hY hql hs
      have hw2 : w.heap.size ≤ X.heap.size := hM.k.2.size
      rcases he : escS s (q + 1) with ⟨_ | b, q2⟩
      · have HE := Lib.hid (And.intro (show bodyS s (p + 1) [] = (none, q2) by rw [hbo, bodyS_bad hc he]) (And.intro he (And.intro hlo (And.intro (show q < 1048576 by omega) (And.intro k1 (show q < s.size from hql))))))
        clear hql h34 he
        clear hM hol hbo hq hlo hp hs hg hBw hc hc8 HR
        go_wp2_with (first
          | (go_at_call 32; refine (cG _ HX.out.k.1).mono ?_; rintro e w1 ⟨rfl, y1, rfl⟩)
          | (go_at_call 32; refine (cG _ (HX.out.drew _).k.1).mono ?_; rintro e w1 ⟨rfl, y1, rfl⟩)
          | (go_at_call 60; refine (cB _ (H9.out _).k.1).mono ?_; intro e w3 hP; obtain ⟨str, p', rfl, h4, h5, hk⟩ := hP.none HE.out.2.1; have HX3 := Lib.hid ((H9.out _).grown hk); have HS4 := Lib.hid (And.intro h4 h5); clear hk hP; have hw3 : w.heap.size ≤ w3.heap.size := HX3.out.k.2.size)
          | (at_builtin; refine Lib.wpList_append_own_string _ rfl _ _ 46 9 rfl w.heap.size 5 i0 Tryd.underlying46 Tryd.underlying9 hi hz0 hz1 hz2 (.slice oo out.length oc) _ _ rfl HX3.out.o str rfl (by unfold maxLen; omega) (by omega) hw3 ?_; intro v' w2 hown' hgrow _; have HX2 := Lib.hid (QdM.app (b := str.data.toList) HX3.out (by rw [show Lib.strCells str = bC str.data.toList from bC_str str.data.toList, show str.size = str.data.toList.length from rfl] at hown'; exact hown') hgrow); clear hown' hgrow))
        go_roundw
        case rel => exact ⟨_, p', q2, HX2.out, by rw [List.length_append]; have := HE.out.2.2.1; have := HE.out.2.2.2.1; have := HS4.out.1; have e : str.data.toList.length = str.size := rfl; omega, .inr ⟨q2, rfl, HE.out.1, HS4.out.2⟩⟩
        case measure =>
          rw [HX2.out.k.cells.2.2.1, k2, HE.out.2.2.2.2.1]
          have := HE.out.2.2.2.2.2
          simp [intOf]; omega
      · have hep := escS_pos hql he
        have hep2 := hep.2.2 b rfl
        have HE := Lib.hid (And.intro (show bodyS s (p + 1) [] = bodyS s q2 (out ++ b) by rw [hbo, bodyS_esc hc he]) (And.intro he (And.intro (show (out ++ b).length ≤ q2 by rw [List.length_append]; omega) (And.intro (show q2 ≤ 1048576 by omega) (And.intro k1 (And.intro (show q < q2 by omega) hep.2.1))))))
        have hbI : b.length ≤ 1048577 := by omega
        have eM3 : (⟨b.toArray⟩ : ByteArray).size = b.length := rfl
        clear hql h34 he hep hep2
        clear hM hol hbo hq hlo hp hs hg hBw hc hc8 HR
        go_wp2_with (first
          | (go_at_call 32; refine (cG _ HX.out.k.1).mono ?_; rintro e w1 ⟨rfl, y1, rfl⟩)
          | (go_at_call 32; refine (cG _ (HX.out.drew _).k.1).mono ?_; rintro e w1 ⟨rfl, y1, rfl⟩)
          | (go_at_call 60; refine (cB _ (H9.out _).k.1).mono ?_; intro e w3 hP; obtain ⟨rfl, hk⟩ := hP.some HE.out.2.1; have HX3 := Lib.hid ((H9.out _).grown hk); clear hk hP; have hw3 : w.heap.size ≤ w3.heap.size := HX3.out.k.2.size)
          | (at_builtin; refine Lib.wpList_append_own_string _ rfl _ _ 46 9 rfl w.heap.size 5 i0 Tryd.underlying46 Tryd.underlying9 hi hz0 hz1 hz2 (.slice oo out.length oc) _ _ rfl HX3.out.o ⟨b.toArray⟩ rfl (by rw [eM3]; unfold maxLen; omega) (by rw [eM3]; omega) hw3 ?_; intro v' w2 hown' hgrow _; have HX2 := Lib.hid (QdM.app (b := b) HX3.out (by rw [bC_str b, eM3] at hown'; exact hown') hgrow); clear hown' hgrow))
        go_roundw
        case rel => exact ⟨_, q2, -1, HX2.out, Nat.le_trans HE.out.2.2.1 (by have := HE.out.2.2.2.1; omega), .inl ⟨rfl, HE.out.1, HE.out.2.2.2.2.2.2, HE.out.2.2.1⟩⟩
        case measure =>
          rw [HX2.out.k.cells.2.2.1, HX2.out.k.cells.2.1, k2, HE.out.2.2.2.2.1]
          have := HE.out.2.2.2.2.2
          simp [intOf]; omega
    have a2 : ¬ (c : Int) = 92 := by omega
    have b2 : ((c : Int) == 92) = false := by rw [beq_eq_false_iff_ne]; exact a2
    by_cases h3 : 32 ≤ c ∧ c ≤ 126
    · have a3 : ¬ (c : Int) < 32 := by omega
      have a4 : ¬ (126 : Int) < (c : Int) := by omega
      have eM : bC [UInt8.ofNat c] = [.int .u8 (c : Int)] := by
        show [Value.int .u8 _] = _
        rw [u8_of (by omega)]
      have hql := lkN_lt hc (by omega)
      have HE := Lib.hid (And.intro (show bodyS s (p + 1) [] = bodyS s (q + 1) (out ++ [UInt8.ofNat c]) by rw [hbo, bodyS_one (by rw [hc]; exact h3) (by rw [hc]; exact h34) (by rw [hc]; exact h92), hc]) (And.intro hql (And.intro (show out.length + 1 ≤ q + 1 by omega) (And.intro (show q < 1048576 by omega) k1))))
      have hw2 : w.heap.size ≤ X.heap.size := hM.k.2.size
      clear hql h34 h92 h3
      clear hM hol hbo hq hlo hp hs hg hBw hc hc8 HR
      go_wp2_with (first
        | (go_at_call 32; refine (cG _ HX.out.k.1).mono ?_; rintro e w1 ⟨rfl, y1, rfl⟩)
        | (go_at_call 32; refine (cG _ (HX.out.drew _).k.1).mono ?_; rintro e w1 ⟨rfl, y1, rfl⟩)
        | (at_builtin; refine wpList_append_own _ rfl _ _ 46 rfl w.heap.size 5 i0 (.int .u8 0) 1 1 Tryd.underlying46 hi hz0 hz1 hz2 rfl (by decide) (.slice oo out.length oc) _ _ rfl ((HX.out.drew _).o.alloc _) ⟨X.heap.size, 0, none⟩ 1 1 [.int .u8 (c : Int)] rfl rfl (World.news_of_block (cs := #[.int .u8 (c : Int)]) (t := 5) (fr := (0, 0)) (World.alloc_heap_new _ _)) (fun x hx => by simp at hx; subst hx; rfl) (by unfold maxLen; omega) (by omega) (by simp; omega) ?_; intro v' w2 hown' hgrow _; have HX2 := Lib.hid (QdM.app (b := [UInt8.ofNat c]) ((HX.out.drew _).below ((Below.refl _ _).alloc (Nat.le_refl _) _)) (by rw [eM]; exact hown') hgrow); clear hown' hgrow; obtain ⟨m0, m1, m2, mf⟩ := HX2.out.k.cells))
      have H5 := Lib.hid (show QdM w B s _ _ (q + 1) (-1) (w2.setCell ⟨B, 1, none⟩ (.int .i64 ((q : Int) + 1))) from by have := HX2.out.to (q + 1); simpa using this)
      go_roundw
      case rel => exact ⟨_, q + 1, -1, H5.out, by rw [List.length_append]; have := HE.out; simp; omega, .inl ⟨rfl, HE.out.1, HE.out.2.1, by rw [List.length_append]; have := HE.out; simp; omega⟩⟩
      case measure =>
        rw [H5.out.k.cells.2.2.1, H5.out.k.cells.2.1, k2, HE.out.2.2.2.2]
        have := HE.out.2.1
        simp [intOf]; omega
    · have hcc : c < 32 ∨ 126 < c := by omega
      have HE := Lib.hid (And.intro (show bodyS s (p + 1) [] = (none, q) by rw [hbo, bodyS_no (by rw [hc]; exact h3)]) (And.intro hq (And.intro hol k1)))
      rcases hcc with h5 | h5
      · have a3 : (c : Int) < 32 := by omega
        clear hM hol hbo hq hlo hp hs hg hBw hc hc8 HR h34 h92 h3 h5
        go_wp2_with (first
          | (go_at_call 32; refine (cG _ HX.out.k.1).mono ?_; rintro e w1 ⟨rfl, y1, rfl⟩)
          | (go_at_call 32; refine (cG _ (HX.out.drew _).k.1).mono ?_; rintro e w1 ⟨rfl, y1, rfl⟩)
          | (go_at_call 34; refine (badD_ok (HX.out.drew _).k.1 q).mono ?_; rintro e w5 ⟨rfl, rfl⟩))
        go_roundw
        case rel => exact ⟨out, q, q, (HX.out.drew _).bad q, HE.out.2.2.1, .inr ⟨q, rfl, HE.out.1, by have := HE.out.2.1; omega⟩⟩
        case measure =>
          rw [((HX.out.drew _).bad q).k.cells.2.2.1, k2, HE.out.2.2.2]
          have := HE.out.2.1
          simp [intOf]; omega
      · have a3 : ¬ (c : Int) < 32 := by omega
        have a4 : (126 : Int) < (c : Int) := by omega
        clear hM hol hbo hq hlo hp hs hg hBw hc hc8 HR h34 h92 h3 h5
        go_wp2_with (first
          | (go_at_call 32; refine (cG _ HX.out.k.1).mono ?_; rintro e w1 ⟨rfl, y1, rfl⟩)
          | (go_at_call 32; refine (cG _ (HX.out.drew _).k.1).mono ?_; rintro e w1 ⟨rfl, y1, rfl⟩)
          | (go_at_call 34; refine (badD_ok (HX.out.drew _).k.1 q).mono ?_; rintro e w5 ⟨rfl, rfl⟩))
        go_roundw
        case rel => exact ⟨out, q, q, (HX.out.drew _).bad q, HE.out.2.2.1, .inr ⟨q, rfl, HE.out.1, by have := HE.out.2.1; omega⟩⟩
        case measure =>
          rw [((HX.out.drew _).bad q).k.cells.2.2.1, k2, HE.out.2.2.2]
          have := HE.out.2.1
          simp [intOf]; omega
end Go.Proofs.YtjccoiephdopkaaDoor
