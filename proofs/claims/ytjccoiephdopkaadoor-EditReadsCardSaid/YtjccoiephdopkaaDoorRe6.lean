/- Stage 27: the document's Read. -/
import Derived.Test.YtjccoiephdopkaaDoorRe5
import Derived.Test.YtjccoiephdopkaaDoorRp6
import Derived.Test.YtjccoiephdopkaaDoorQd
namespace Go.Proofs.YtjccoiephdopkaaDoor
set_option linter.unusedVariables false
set_option linter.unusedSimpArgs false
open Go Go.RowKit Go.Shelf
set_option maxRecDepth 100000

theorem infoStepD : (Tryd.prog.info? 71).map (fun i => (i.zero, i.size, i.bytes)) = some (some (.agg #[.int .i64 0, .string .empty, .string .empty]), 3, 40) := by kernel_rfl
theorem NubP.none {w w' : World} {B p q : Nat} {s : ByteArray} {e : Ending} (h : NubP w B s p e w') (hn : numS s p = (none, q)) : e = .returned (.int .i64 0) ∧ DdK w w' B s p (p : Int) := by
  obtain ⟨v, rfl, ⟨_, rfl, hk⟩ | ⟨n, q', h', _⟩⟩ := h.h
  · exact ⟨rfl, hk⟩
  · rw [hn] at h'; cases h'
theorem NubP.some {w w' : World} {B p q n : Nat} {s : ByteArray} {e : Ending} (h : NubP w B s p e w') (hn : numS s p = (some n, q)) : ∃ v : Nat, e = .returned (.int .i64 v) ∧ Cap v n ∧ DdK w w' B s q (-1) := by
  obtain ⟨v, rfl, ⟨h', _⟩ | ⟨n', q', h', hc, hk⟩⟩ := h.h
  · rw [hn] at h'; cases h'
  · rw [hn] at h'; cases h'; exact ⟨v, rfl, hc, hk⟩
structure DrM (w : World) (s : ByteArray) (vo : Value) (l : List Sp) (p : Nat) (z : Int) (X : World) : Prop where
  k : RdD X w.heap.size s p z
  o : X.ownsRow (w.heap.size + 1) 71 3 vo l.length (l.flatMap encS)
  b : Below w.heap.size w X
  n : w.heap.size + 1 ≤ X.heap.size
theorem DrM.drew {w X : World} {p : Nat} {z : Int} {s : ByteArray} {vo : Value} {l : List Sp} (h : DrM w s vo l p z X) (y : Nat) : DrM w s vo l p z (X.drewN y) := ⟨h.k, h.o, ⟨h.b.os, h.b.tape, h.b.output, h.b.size, h.b.block⟩, h.n⟩
theorem DrM.grown {w X Y : World} {p q : Nat} {z z2 : Int} {s : ByteArray} {vo : Value} {l : List Sp} (h : DrM w s vo l p z X) (k : DdK X Y w.heap.size s q z2) : DrM w s vo l q z2 Y := by
  have hn := h.n
  have hg := k.2
  refine ⟨k.1, ?_, ⟨hg.os.trans h.b.os, hg.tape.trans h.b.tape, hg.output.trans h.b.output, Nat.le_trans h.b.size hg.size, fun j hj => (hg.block j (by omega) (fun e => by have := Option.some.inj e; omega)).trans (h.b.block j hj)⟩, Nat.le_trans hn hg.size⟩
  refine h.o.kept hg ?_
  cases hv : vo.ownBlock with
  | none => exact .inl rfl
  | some g =>
    have := own_ge h.o hv
    exact .inr (fun e => by have := Option.some.inj e; omega)
theorem DrM.below {w X Y : World} {p : Nat} {z : Int} {s : ByteArray} {vo : Value} {l : List Sp} (h : DrM w s vo l p z X) (k : Below X.heap.size X Y) : DrM w s vo l p z Y := h.grown ((DdK.start h.k).below k)
theorem DrM.to {w X : World} {p : Nat} {z : Int} {s : ByteArray} {vo : Value} {l : List Sp} (h : DrM w s vo l p z X) (q : Nat) : DrM w s vo l q z (X.setCell ⟨w.heap.size, 1, none⟩ (.int .i64 q)) := h.grown ((DdK.start h.k).to q)
theorem DrM.bad {w X : World} {p : Nat} {z : Int} {s : ByteArray} {vo : Value} {l : List Sp} (h : DrM w s vo l p z X) (q : Int) : DrM w s vo l p q (X.setCell ⟨w.heap.size, 2, none⟩ (.int .i64 q)) := h.grown ((DdK.start h.k).bad q)
/-- A cell of a block that is not the row's is set. -/
theorem DrM.put {w X : World} {p G : Nat} {z : Int} {s : ByteArray} {vo : Value} {l : List Sp} {cs : Array Value} (h : DrM w s vo l p z X) (hG : w.heap.size < G) (hb : Blk X G cs 71) (hne : vo.ownBlock ≠ some G) (o : Nat) (v : Value) : DrM w s vo l p z (X.setCell ⟨G, o, none⟩ v) := by
  have hg : X.grownBy (X.setCell ⟨G, o, none⟩ v) (some G) := grown_set (World.grownBy.refl _ _) o v
  refine ⟨Blk.other h.k (by omega) o v, h.o.kept hg (.inr (fun e => hne e)), ?_, by simpa using h.n⟩
  exact h.b.setCell (Nat.le_of_lt hG) _
theorem DrM.app {w X Y : World} {p : Nat} {z : Int} {s : ByteArray} {vo vo2 : Value} {l : List Sp} {x : Sp} (h : DrM w s vo l p z X) (ho : Y.ownsRow (w.heap.size + 1) 71 3 vo2 (l.length + 1) (l.flatMap encS ++ encS x)) (hgr : X.grownBy Y vo.ownBlock) : DrM w s vo2 (l ++ [x]) p z Y := by
  have hn := h.n
  have hne : ∀ k, k ≤ w.heap.size → some k ≠ vo.ownBlock := fun k hk e => by
    have := own_ge h.o e.symm
    omega
  refine ⟨(hgr.block _ (by omega) (hne _ (Nat.le_refl _))).trans h.k, by rw [List.length_append, List.flatMap_append]; simpa using ho, ?_, Nat.le_trans hn hgr.size⟩
  exact ⟨hgr.os.trans h.b.os, hgr.tape.trans h.b.tape, hgr.output.trans h.b.output, Nat.le_trans h.b.size hgr.size, fun k hk => (hgr.block k (by omega) (hne _ (by omega))).trans (h.b.block k hk)⟩
def DrS (s : ByteArray) (l : List Sp) (p : Nat) (z : Int) (F T : Nat) : Prop :=
  (z = -1 ∧ readS s = rdS s p l F T ∧ p ≤ s.size ∧ l.length ≤ p ∧ F ≤ 65536 ∧ T ≤ 65536) ∨ (∃ e : Nat, z = (e : Int) ∧ readS s = (none, e) ∧ p ≤ s.size + 9)
structure DrP (s : ByteArray) (w : World) (e : Ending) (w' : World) : Prop where
  h : Below w.heap.size w w' ∧ ((∃ q : Nat, readS s = (none, q) ∧ e = .returned (.tuple #[.slice none 0 0, .int .i64 q])) ∨
    (∃ (l : List Sp) (q : Nat) (v : Value), readS s = (some l, q) ∧ e = .returned (.tuple #[v, .int .i64 (-1)]) ∧ w'.ownsRow (w.heap.size + 1) 71 3 v l.length (l.flatMap encS)))
set_option maxHeartbeats 40000000 in
theorem readD_any (s : ByteArray) (hs : s.size ≤ 1048576) (w : World) : Calls Tryd.prog 10 #[.string s] w (DrP s w) := by
  obtain ⟨j0, hj, hy0, hy1, hy2⟩ := info_parts infoStepD
  obtain ⟨w0, hw0⟩ : ∃ Z, w.alloc (.cells #[.string s, .int .i64 0, .int .i64 (-1)] 69) = Z := ⟨_, rfl⟩
  have HA := Lib.hid (show DrM w s (.slice none 0 0) [] 0 (-1) w0 from ⟨by rw [← hw0]; exact Blk.new w _ _, World.ownsRow_nil _ _ _ _, hw0 ▸ (Below.refl _ _).alloc (Nat.le_refl _) _, by rw [← hw0]; simp⟩)
  have HS := Lib.hid hs
  have HW := Lib.hid hw0
  clear hs hw0
  go_enter Tryd.func10, Tryd.ntmps10
  go_wp2
  rw [HW.out]
  go_loopw [5, 6, 7] (fun vo vF vT wr => ∃ (l : List Sp) (p : Nat) (z : Int) (F T : Nat), vF = .int .i64 F ∧ vT = .int .i64 T ∧ Hid (DrM w s vo l p z wr ∧ DrS s l p z F T)) (fun _ _ _ wr => match wr.cell? ⟨w.heap.size, 2, none⟩ with | some v => if 0 ≤ RowKit.intOf v then 0 else (s.size + 1 - (match wr.cell? ⟨w.heap.size, 1, none⟩ with | some v => (RowKit.intOf v).toNat | none => 0)) | none => 0)
  case atStart => exact ⟨[], 0, -1, 0, 0, rfl, rfl, HA.out, .inl ⟨rfl, rfl, Nat.zero_le _, Nat.le_refl _, by omega, by omega⟩⟩
  case round =>
    obtain ⟨l, p, z, F, T, rfl, rfl, HR⟩ := hrel
    rename World => X
    clear HA HW
    obtain ⟨hM, hst⟩ := HR.out
    have hs := HS.out
    obtain ⟨k0, k1, k2, kf⟩ := (DdK.start hM.k).cells
    obtain ⟨oo, oc, rfl, _⟩ := own_slice hM.o
    have HX := Lib.hid hM
    have kd1 : ∀ N, (X.drewN N).cell? ⟨w.heap.size, 1, none⟩ = some (.int .i64 p) := fun N => k1
    have kd2 : ∀ N, (X.drewN N).cell? ⟨w.heap.size, 2, none⟩ = some (.int .i64 z) := fun N => k2
    have kdf : ∀ N o, (X.drewN N).frozen? ⟨w.heap.size, o, none⟩ = false := fun N o => kf o
    rcases hst with ⟨rfl, hrd, hp, hlp, hF, hT⟩ | ⟨ee, rfl, hrd, hp⟩
    case inr =>
      have hee : decide ((ee : Int) < 0) = false := decide_eq_false (by omega)
      have hee2 : (0 : Int) ≤ (ee : Int) := by omega
      have HE := Lib.hid hrd
      clear hM HR hrd hp hs
      go_wp2
      go_quiet ((fail))
      go_wp2
      refine bodyPost_ret (results_tmp2 rfl _ _ _) rfl ?_
      exact ⟨⟨(HX.out.drew _).b, .inl ⟨ee, HE.out, rfl⟩⟩⟩
    by_cases hps : p < s.size
    case neg =>
      have hpe : ¬ (p : Int) < (s.size : Int) := by omega
      have HE := Lib.hid (show readS s = (some l, p) by rw [hrd, rdS_end hps])
      clear hps hM HR hrd hp hlp hF hT hs
      go_wp2
      refine bodyPost_ret (results_tmp2 rfl _ _ _) rfl ?_
      exact ⟨⟨HX.out.b, .inr ⟨l, p, _, HE.out, rfl, HX.out.o⟩⟩⟩
    have hpsI : (p : Int) < (s.size : Int) := by omega
    have hpI : (p : Int) ≤ 1048576 := by omega
    have hlI : l.length ≤ 1048576 := by omega
    have hFI : (F : Int) ≤ 65536 := by omega
    have hTI : (T : Int) ≤ 65536 := by omega
    have HB := Lib.hid (And.intro hF (And.intro hT (And.intro hlp (And.intro hs k1))))
    by_cases hsp : l ≠ [] ∧ lkN s p ≠ 32
    · obtain ⟨hl, h32⟩ := hsp
      have hll : 0 < l.length := List.length_pos_iff.2 hl
      have hllI : (0 : Int) < (l.length : Int) := by omega
      have cL := fun (Y : World) (hY : RdD Y w.heap.size s p (-1)) => cD_ok hY hp hs
      obtain ⟨g, hg⟩ : ∃ g, lkN s p = g := ⟨_, rfl⟩
      rw [hg] at cL h32
      have n1 : ¬ (g : Int) = 32 := by omega
      have n2 : ((g : Int) == 32) = false := by rw [beq_eq_false_iff_ne]; exact n1
      have n3 : ((g : Int) != 32) = true := by rw [bne, n2]; rfl
      have HE := Lib.hid (show readS s = (none, p) by rw [hrd]; exact rdS_space hps ⟨hl, by rw [hg]; exact h32⟩)
      clear hps hl h32 hg hM HR hrd hp hlp hF hT hs
      go_wp2_with (first
        | (go_at_call 32; refine (cL _ HX.out.k).mono ?_; rintro e w1 ⟨rfl, y1, rfl⟩))
      go_quiet ((fail))
      go_wp2
      refine bodyPost_ret (results_tmp2 rfl _ _ _) rfl ?_
      exact ⟨⟨((HX.out.drew _).drew _).b, .inl ⟨p, HE.out, rfl⟩⟩⟩
    by_cases hl : l = []
    case' pos =>
      clear hsp
      have HP1 := Lib.hid (show p ≤ s.size ∧ p ≤ p ∧ (∀ q, stS s p F T = (none, q) → readS s = (none, q)) ∧ (∀ x q, stS s p F T = (some x, q) → readS s = rdS s q (l ++ [x]) (F + x.k.toNat + x.d.size) (T + x.k.toNat + x.p.size)) from
        ⟨by omega, by omega, fun q hq => by rw [hrd]; exact rdS_bad hps (fun h => h.1 hl) (by rw [if_pos hl]; exact hq), fun x q hq => by rw [hrd]; exact rdS_go hps hF hT (fun h => h.1 hl) (by rw [if_pos hl]; exact hq)⟩)
      have hl0 : ¬ (0 : Int) < (l.length : Int) := by rw [hl]; decide
      have KX := Lib.hid (And.intro k2 k1)
      clear hps hl hM HR hrd hp hlp hF hT hs
      go_upto_region 9 with (fail)
      obtain ⟨Y, hYe⟩ : ∃ Z, X = Z := ⟨_, rfl⟩
      have HY := Lib.hid (show DrM w s (.slice oo l.length oc) l p (-1) Y by rw [← hYe]; exact HX.out)
      rw [hYe]
      obtain ⟨p1, hp1⟩ : ∃ p1, p = p1 := ⟨_, rfl⟩
      have HP1' := Lib.hid (show p1 ≤ s.size ∧ p ≤ p1 ∧ (∀ q, stS s p1 F T = (none, q) → readS s = (none, q)) ∧ (∀ x q, stS s p1 F T = (some x, q) → readS s = rdS s q (l ++ [x]) (F + x.k.toNat + x.d.size) (T + x.k.toNat + x.p.size)) by rw [← hp1]; exact HP1.out)
      have HY' := Lib.hid (show DrM w s (.slice oo l.length oc) l p1 (-1) Y by rw [← hp1]; exact HY.out)
      clear hYe hp1 hl0 HP1 HY
      have HP1 := HP1'
      have HY := HY'
      clear HP1' HY'
    case' neg =>
      have h32 : lkN s p = 32 := Decidable.byContradiction fun h => hsp ⟨hl, h⟩
      clear hsp
      have hll : 0 < l.length := List.length_pos_iff.2 hl
      have hllI : (0 : Int) < (l.length : Int) := by omega
      have cL := fun (Y : World) (hY : RdD Y w.heap.size s p (-1)) => cD_ok hY hp hs
      rw [h32] at cL
      have HP1 := Lib.hid (show p + 1 ≤ s.size ∧ p ≤ p + 1 ∧ (∀ q, stS s (p + 1) F T = (none, q) → readS s = (none, q)) ∧ (∀ x q, stS s (p + 1) F T = (some x, q) → readS s = rdS s q (l ++ [x]) (F + x.k.toNat + x.d.size) (T + x.k.toNat + x.p.size)) from
        ⟨by omega, by omega, fun q hq => by rw [hrd]; exact rdS_bad hps (fun h => h.2 h32) (by rw [if_neg hl]; exact hq), fun x q hq => by rw [hrd]; exact rdS_go hps hF hT (fun h => h.2 h32) (by rw [if_neg hl]; exact hq)⟩)
      have KX := Lib.hid (And.intro k2 k1)
      clear hps hl h32 hM HR hrd hp hlp hF hT hs
      go_upto_region 9 with (go_at_call 32; refine (cL _ HX.out.k).mono ?_; rintro e w1 ⟨rfl, y1, rfl⟩)
      obtain ⟨Y, hYe⟩ : ∃ Z, (X.drewN y1).setCell ⟨w.heap.size, 1, none⟩ (.int .i64 ((p : Int) + 1)) = Z := ⟨_, rfl⟩
      have hY : DrM w s (.slice oo l.length oc) l (p + 1) (-1) Y := by
        have := (HX.out.drew y1).to (p + 1)
        rw [← hYe]; simpa using this
      rw [hYe]
      have hpp : (p : Int) + 1 = ((p + 1 : Nat) : Int) := by omega
      rw [hpp]
      obtain ⟨p1, hp1⟩ : ∃ p1, p + 1 = p1 := ⟨_, rfl⟩
      rw [hp1] at HP1 hY ⊢
      have HY := Lib.hid hY
      clear hYe hY hp1 hpp cL hllI hll
    all_goals
      have cC := cD_ok HY.out.k HP1.out.1 HB.out.2.2.2.1
      obtain ⟨c, hc⟩ : ∃ c, lkN s p1 = c := ⟨_, rfl⟩
      rw [hc] at cC
      have HC := Lib.hid hc
      obtain ⟨G, hGe⟩ : ∃ G, Y.heap.size = G := ⟨_, rfl⟩
      have hwG : w.heap.size < G := by have := HY.out.n; omega
      obtain ⟨e0, e1, e2, ef⟩ := (DdK.start HY.out.k).cells
      have hp1I : (p1 : Int) ≤ 1048576 := by have := HP1.out.1; have := HB.out.2.2.2.1; omega
      clear hc
      go_upto_region 13 with (go_at_call 32; refine cC.mono ?_; rintro e w1 ⟨rfl, y9, rfl⟩)
      obtain ⟨Y2, hY2⟩ : ∃ Z, ((Y.drewN y9).setCell ⟨w.heap.size, 1, none⟩ (.int .i64 ((p1 : Int) + 1))).alloc (.cells #[.int .i64 0, .string ⟨#[]⟩, .string ⟨#[]⟩] 71) = Z := ⟨_, rfl⟩
      have hM2 : DrM w s (.slice oo l.length oc) l (p1 + 1) (-1) Y2 := by
        have h0 : DrM w s (.slice oo l.length oc) l (p1 + 1) (-1) ((Y.drewN y9).setCell ⟨w.heap.size, 1, none⟩ (.int .i64 ((p1 : Int) + 1))) := by
          have := (HY.out.drew y9).to (p1 + 1)
          simpa using this
        rw [← hY2]
        exact h0.below ((Below.refl _ _).alloc (Nat.le_refl _) _)
      have hG2 : Blk Y2 G #[.int .i64 0, .string .empty, .string .empty] 71 := by
        rw [← hY2, ← hGe]
        have h0 := Blk.new ((Y.drewN y9).setCell ⟨w.heap.size, 1, none⟩ (.int .i64 ((p1 : Int) + 1))) #[.int .i64 0, .string .empty, .string .empty] 71
        have e : ((Y.drewN y9).setCell ⟨w.heap.size, 1, none⟩ (.int .i64 ((p1 : Int) + 1))).heap.size = Y.heap.size := by simp
        rw [e] at h0
        exact h0
      have hne2 : (Value.slice oo l.length oc).ownBlock ≠ some G := fun e => by
        have := HY.out.o.lt G e
        omega
      rw [hY2]
      try rw [hGe]
      clear hY2 hGe e0 e1 e2 ef cC kd1 kd2 kdf k0 k1 k2 kf
      have HM2 := Lib.hid (And.intro hM2 (And.intro hG2 (And.intro hne2 hwG)))
      clear hM2 hG2 hne2
      by_cases h61 : c = 61
      · subst h61
        have cN0 := numberD_any HM2.out.1.k (show p1 + 1 ≤ s.size from lkN_lt HC.out (by decide)) HB.out.2.2.2.1
        rcases hn : numS s (p1 + 1) with ⟨_ | n, q⟩
        · have hq : q = p1 + 1 := by
            unfold numS at hn
            split at hn
            · cases hn
            · exact (Prod.mk.inj hn).2.symm
          subst hq
          have cN := cN0
          clear cN0
          as_aux_lemma =>
            have hbad : readS s = (none, p1 + 1) := HP1.out.2.2.1 _ (by unfold stS numT; rw [HC.out, if_pos rfl, hn])
            have HE := Lib.hid (And.intro hn hbad)
            have d1 : ¬ ((65536 : Int) - (F : Int) < 0) := by omega
            have d2 : ¬ ((65536 : Int) - (T : Int) < 0) := by omega
            clear hn hbad
            go_upto_region 25 with (go_at_call 33; go_must (refine cN.mono ?_; intro e w3 hP; obtain ⟨rfl, hk⟩ := hP.none HE.out.1; have HM3 := Lib.hid (HM2.out.1.grown hk); have HG3 := Lib.hid (show Blk w3 G #[.int .i64 0, .string .empty, .string .empty] 71 from (hk.2.block G (Array.getElem?_eq_some_iff.1 HM2.out.2.1).1 (fun e => by have := Option.some.inj e; omega)).trans HM2.out.2.1); clear hP hk; obtain ⟨q0, q1, q2, qf⟩ : w3.cell? ⟨G, 0, none⟩ = some (.int .i64 0) ∧ w3.cell? ⟨G, 1, none⟩ = some (.string .empty) ∧ w3.cell? ⟨G, 2, none⟩ = some (.string .empty) ∧ ∀ o, w3.frozen? ⟨G, o, none⟩ = false := ⟨HG3.out.cell 0, HG3.out.cell 1, HG3.out.cell 2, fun o => HG3.out.frozen o⟩; obtain ⟨x0, x1, x2, xf⟩ := (DdK.start HM3.out.k).cells))
            obtain ⟨W5, hW5⟩ : ∃ Z, w3.setCell ⟨G, 0, none⟩ (.int .i64 0) = Z := ⟨_, rfl⟩
            obtain ⟨k, d, pp, p5, z5, hM5, hG5, hST5, hBd, h56⟩ : ∃ (k : Nat) (d pp : ByteArray) (p5 : Nat) (z5 : Int), DrM w s (.slice oo l.length oc) l p5 z5 W5 ∧ Blk W5 G #[.int .i64 (k : Int), .string d, .string pp] 71 ∧ DrS s (l ++ [⟨(k : Int), d, pp⟩]) p5 z5 (F + k + d.size) (T + k + pp.size) ∧ (k < 10995116277780 ∧ d.size ≤ 1048600 ∧ pp.size ≤ 1048600) ∧ (z5 = -1 → p < p5) :=
              ⟨0, .empty, .empty, (p1 + 1), ((p1 + 1 : Nat) : Int), (by rw [← hW5]; exact HM3.out.put hwG HG3.out HM2.out.2.2.1 0 _), (by rw [← hW5]; exact Blk.set HG3.out 0 _), .inr ⟨p1 + 1, rfl, HE.out.2, by have := HP1.out.1; omega⟩, ⟨by omega, Nat.zero_le _, Nat.zero_le _⟩, fun h => by omega⟩
            rw [hW5]
            have HM5 := Lib.hid hM5
            have HG5 := Lib.hid hG5
            have HST5 := Lib.hid hST5
            have HBd := Lib.hid hBd
            have H56 := Lib.hid h56
            clear hW5 hM5 hG5 hST5 hBd h56
            obtain ⟨g0, g1, g2, gf⟩ : W5.cell? ⟨G, 0, none⟩ = some (.int .i64 (k : Int)) ∧ W5.cell? ⟨G, 1, none⟩ = some (.string d) ∧ W5.cell? ⟨G, 2, none⟩ = some (.string pp) ∧ ∀ o, W5.frozen? ⟨G, o, none⟩ = false := ⟨HG5.out.cell 0, HG5.out.cell 1, HG5.out.cell 2, fun o => HG5.out.frozen o⟩
            have hkI : (k : Int) ≤ 10995116277780 := by have := HBd.out.1; omega
            have hdI : (d.size : Int) ≤ 1048600 := by have := HBd.out.2.1; omega
            have hppI : (pp.size : Int) ≤ 1048600 := by have := HBd.out.2.2; omega
            have hwn : w.heap.size + 1 ≤ W5.heap.size := HM5.out.n
            go_wp2_with (at_builtin; refine wpList_append_own _ rfl _ _ 25 rfl (w.heap.size + 1) 71 j0 (.agg #[.int .i64 0, .string .empty, .string .empty]) 3 40 Tryd.underlying25 hj hy0 hy1 hy2 rfl (by decide) (.slice oo l.length oc) _ _ rfl (HM5.out.o.alloc _) ⟨W5.heap.size, 0, none⟩ 1 1 [.int .i64 (k : Int), .string d, .string pp] rfl rfl (World.news_of_block (cs := #[.int .i64 (k : Int), .string d, .string pp]) (t := 71) (fr := (0, 0)) (World.alloc_heap_new W5 _)) (fun u hu => by simp at hu; rcases hu with rfl | rfl | rfl <;> rfl) (by unfold maxLen; first | omega | (simp; done) | (simp; omega)) (by first | omega | (simp; done) | (simp; omega)) (by first | omega | (simp; done) | (simp; omega)) ?_; intro v' w7 hown' hgrow _; have H7 := Lib.hid (DrM.app (x := ⟨(k : Int), d, pp⟩) (HM5.out.below ((Below.refl _ _).alloc (Nat.le_refl _) _)) hown' hgrow); clear hown' hgrow)
            go_roundw
            case rel => exact ⟨_, p5, z5, F + k + d.size, T + k + pp.size, by go_num, by go_num, H7.out, HST5.out⟩
            case measure =>
              obtain ⟨x0, x1, x2, xf⟩ := (DdK.start H7.out.k).cells
              rw [x2, x1, KX.out.1, KX.out.2]
              have hst := HST5.out
              have hps := HB.out
              have hpl := HP1.out.2.1
              rcases hst with ⟨rfl, _, h5, h6, _⟩ | ⟨e5, rfl, _⟩
              · have := H56.out rfl
                simp [intOf]; omega
              · simp [intOf]; omega
        · have hq : q ≤ s.size := by
            unfold numS at hn
            split at hn
            · have := (figS_pos s _ (p1 + 1) 0 (Nat.le_refl _) (show p1 + 1 ≤ s.size from lkN_lt HC.out (by decide))).2.1
              rw [← (Prod.mk.inj hn).2]; exact this
            · cases hn
          have HQ := Lib.hid hq
          have HNn := Lib.hid hn
          clear hq
          go_upto_region 15 with (go_at_call 33; go_must (refine cN0.mono ?_; intro e w3 hP; obtain ⟨v, rfl, hcap, hk⟩ := hP.some HNn.out; have HM3 := Lib.hid (HM2.out.1.grown hk); have HG3 := Lib.hid (show Blk w3 G #[.int .i64 0, .string .empty, .string .empty] 71 from (hk.2.block G (Array.getElem?_eq_some_iff.1 HM2.out.2.1).1 (fun e => by have := Option.some.inj e; omega)).trans HM2.out.2.1); clear hP hk; obtain ⟨q0, q1, q2, qf⟩ : w3.cell? ⟨G, 0, none⟩ = some (.int .i64 0) ∧ w3.cell? ⟨G, 1, none⟩ = some (.string .empty) ∧ w3.cell? ⟨G, 2, none⟩ = some (.string .empty) ∧ ∀ o, w3.frozen? ⟨G, o, none⟩ = false := ⟨HG3.out.cell 0, HG3.out.cell 1, HG3.out.cell 2, fun o => HG3.out.frozen o⟩))
          have HV := Lib.hid hcap.2
          clear q0 q1 q2 qf
          by_cases hbF : 65536 < F + v
          · as_aux_lemma =>
              have hbad : readS s = (none, p1 + 1) := HP1.out.2.2.1 _ (by unfold stS numT; rw [HC.out, if_pos rfl, hn]; simp only []; rw [if_pos (by rcases hcap.1 with h | h <;> omega)])
              have HE := Lib.hid hbad
              have d1 : (65536 : Int) - (F : Int) < (v : Int) := by omega
              clear hn hcap cN0 hbad
              obtain ⟨x0, x1, x2, xf⟩ := (DdK.start HM3.out.k).cells
              obtain ⟨q0, q1, q2, qf⟩ : w3.cell? ⟨G, 0, none⟩ = some (.int .i64 0) ∧ w3.cell? ⟨G, 1, none⟩ = some (.string .empty) ∧ w3.cell? ⟨G, 2, none⟩ = some (.string .empty) ∧ ∀ o, w3.frozen? ⟨G, o, none⟩ = false := ⟨HG3.out.cell 0, HG3.out.cell 1, HG3.out.cell 2, fun o => HG3.out.frozen o⟩
              go_upto_region 25 with (first
                | (go_at_call 34; go_must (refine (badD_ok (HM3.out.put hwG HG3.out HM2.out.2.2.1 0 (.int .i64 (v : Int))).k (p1 + 1)).mono ?_; rintro e w5 ⟨rfl, rfl⟩)))
              obtain ⟨W5, hW5⟩ : ∃ Z, (w3.setCell ⟨G, 0, none⟩ (.int .i64 (v : Int))).setCell ⟨w.heap.size, 2, none⟩ (.int .i64 ((p1 : Int) + 1)) = Z := ⟨_, rfl⟩
              obtain ⟨k, d, pp, p5, z5, hM5, hG5, hST5, hBd, h56⟩ : ∃ (k : Nat) (d pp : ByteArray) (p5 : Nat) (z5 : Int), DrM w s (.slice oo l.length oc) l p5 z5 W5 ∧ Blk W5 G #[.int .i64 (k : Int), .string d, .string pp] 71 ∧ DrS s (l ++ [⟨(k : Int), d, pp⟩]) p5 z5 (F + k + d.size) (T + k + pp.size) ∧ (k < 10995116277780 ∧ d.size ≤ 1048600 ∧ pp.size ≤ 1048600) ∧ (z5 = -1 → p < p5) :=
                ⟨v, .empty, .empty, q, ((p1 + 1 : Nat) : Int), (by rw [← hW5]; exact (by have := (HM3.out.put hwG HG3.out HM2.out.2.2.1 0 (.int .i64 (v : Int))).bad ((p1 + 1 : Nat) : Int); simpa using this)), (by rw [← hW5]; exact Blk.other (Blk.set HG3.out 0 _) (by omega) 2 _), .inr ⟨p1 + 1, rfl, HE.out, by have := HQ.out; omega⟩, ⟨HV.out, Nat.zero_le _, Nat.zero_le _⟩, fun h => by omega⟩
              rw [hW5]
              have HM5 := Lib.hid hM5
              have HG5 := Lib.hid hG5
              have HST5 := Lib.hid hST5
              have HBd := Lib.hid hBd
              have H56 := Lib.hid h56
              clear hW5 hM5 hG5 hST5 hBd h56
              obtain ⟨g0, g1, g2, gf⟩ : W5.cell? ⟨G, 0, none⟩ = some (.int .i64 (k : Int)) ∧ W5.cell? ⟨G, 1, none⟩ = some (.string d) ∧ W5.cell? ⟨G, 2, none⟩ = some (.string pp) ∧ ∀ o, W5.frozen? ⟨G, o, none⟩ = false := ⟨HG5.out.cell 0, HG5.out.cell 1, HG5.out.cell 2, fun o => HG5.out.frozen o⟩
              have hkI : (k : Int) ≤ 10995116277780 := by have := HBd.out.1; omega
              have hdI : (d.size : Int) ≤ 1048600 := by have := HBd.out.2.1; omega
              have hppI : (pp.size : Int) ≤ 1048600 := by have := HBd.out.2.2; omega
              have hwn : w.heap.size + 1 ≤ W5.heap.size := HM5.out.n
              go_wp2_with (at_builtin; refine wpList_append_own _ rfl _ _ 25 rfl (w.heap.size + 1) 71 j0 (.agg #[.int .i64 0, .string .empty, .string .empty]) 3 40 Tryd.underlying25 hj hy0 hy1 hy2 rfl (by decide) (.slice oo l.length oc) _ _ rfl (HM5.out.o.alloc _) ⟨W5.heap.size, 0, none⟩ 1 1 [.int .i64 (k : Int), .string d, .string pp] rfl rfl (World.news_of_block (cs := #[.int .i64 (k : Int), .string d, .string pp]) (t := 71) (fr := (0, 0)) (World.alloc_heap_new W5 _)) (fun u hu => by simp at hu; rcases hu with rfl | rfl | rfl <;> rfl) (by unfold maxLen; first | omega | (simp; done) | (simp; omega)) (by first | omega | (simp; done) | (simp; omega)) (by first | omega | (simp; done) | (simp; omega)) ?_; intro v' w7 hown' hgrow _; have H7 := Lib.hid (DrM.app (x := ⟨(k : Int), d, pp⟩) (HM5.out.below ((Below.refl _ _).alloc (Nat.le_refl _) _)) hown' hgrow); clear hown' hgrow)
              go_roundw
              case rel => exact ⟨_, p5, z5, F + k + d.size, T + k + pp.size, by go_num, by go_num, H7.out, HST5.out⟩
              case measure =>
                obtain ⟨x0, x1, x2, xf⟩ := (DdK.start H7.out.k).cells
                rw [x2, x1, KX.out.1, KX.out.2]
                have hst := HST5.out
                have hps := HB.out
                have hpl := HP1.out.2.1
                rcases hst with ⟨rfl, _, h5, h6, _⟩ | ⟨e5, rfl, _⟩
                · have := H56.out rfl
                  simp [intOf]; omega
                · simp [intOf]; omega
          by_cases hbT : 65536 < T + v
          · as_aux_lemma =>
              have hbad : readS s = (none, p1 + 1) := HP1.out.2.2.1 _ (by unfold stS numT; rw [HC.out, if_pos rfl, hn]; simp only []; rw [if_pos (by rcases hcap.1 with h | h <;> omega)])
              have HE := Lib.hid hbad
              have d1 : ¬ (65536 : Int) - (F : Int) < (v : Int) := by omega
              have d2 : (65536 : Int) - (T : Int) < (v : Int) := by omega
              clear hn hcap cN0 hbad
              obtain ⟨x0, x1, x2, xf⟩ := (DdK.start HM3.out.k).cells
              obtain ⟨q0, q1, q2, qf⟩ : w3.cell? ⟨G, 0, none⟩ = some (.int .i64 0) ∧ w3.cell? ⟨G, 1, none⟩ = some (.string .empty) ∧ w3.cell? ⟨G, 2, none⟩ = some (.string .empty) ∧ ∀ o, w3.frozen? ⟨G, o, none⟩ = false := ⟨HG3.out.cell 0, HG3.out.cell 1, HG3.out.cell 2, fun o => HG3.out.frozen o⟩
              go_upto_region 25 with (first
                | (go_at_call 34; go_must (refine (badD_ok (HM3.out.put hwG HG3.out HM2.out.2.2.1 0 (.int .i64 (v : Int))).k (p1 + 1)).mono ?_; rintro e w5 ⟨rfl, rfl⟩)))
              obtain ⟨W5, hW5⟩ : ∃ Z, (w3.setCell ⟨G, 0, none⟩ (.int .i64 (v : Int))).setCell ⟨w.heap.size, 2, none⟩ (.int .i64 ((p1 : Int) + 1)) = Z := ⟨_, rfl⟩
              obtain ⟨k, d, pp, p5, z5, hM5, hG5, hST5, hBd, h56⟩ : ∃ (k : Nat) (d pp : ByteArray) (p5 : Nat) (z5 : Int), DrM w s (.slice oo l.length oc) l p5 z5 W5 ∧ Blk W5 G #[.int .i64 (k : Int), .string d, .string pp] 71 ∧ DrS s (l ++ [⟨(k : Int), d, pp⟩]) p5 z5 (F + k + d.size) (T + k + pp.size) ∧ (k < 10995116277780 ∧ d.size ≤ 1048600 ∧ pp.size ≤ 1048600) ∧ (z5 = -1 → p < p5) :=
                ⟨v, .empty, .empty, q, ((p1 + 1 : Nat) : Int), (by rw [← hW5]; exact (by have := (HM3.out.put hwG HG3.out HM2.out.2.2.1 0 (.int .i64 (v : Int))).bad ((p1 + 1 : Nat) : Int); simpa using this)), (by rw [← hW5]; exact Blk.other (Blk.set HG3.out 0 _) (by omega) 2 _), .inr ⟨p1 + 1, rfl, HE.out, by have := HQ.out; omega⟩, ⟨HV.out, Nat.zero_le _, Nat.zero_le _⟩, fun h => by omega⟩
              rw [hW5]
              have HM5 := Lib.hid hM5
              have HG5 := Lib.hid hG5
              have HST5 := Lib.hid hST5
              have HBd := Lib.hid hBd
              have H56 := Lib.hid h56
              clear hW5 hM5 hG5 hST5 hBd h56
              obtain ⟨g0, g1, g2, gf⟩ : W5.cell? ⟨G, 0, none⟩ = some (.int .i64 (k : Int)) ∧ W5.cell? ⟨G, 1, none⟩ = some (.string d) ∧ W5.cell? ⟨G, 2, none⟩ = some (.string pp) ∧ ∀ o, W5.frozen? ⟨G, o, none⟩ = false := ⟨HG5.out.cell 0, HG5.out.cell 1, HG5.out.cell 2, fun o => HG5.out.frozen o⟩
              have hkI : (k : Int) ≤ 10995116277780 := by have := HBd.out.1; omega
              have hdI : (d.size : Int) ≤ 1048600 := by have := HBd.out.2.1; omega
              have hppI : (pp.size : Int) ≤ 1048600 := by have := HBd.out.2.2; omega
              have hwn : w.heap.size + 1 ≤ W5.heap.size := HM5.out.n
              go_wp2_with (at_builtin; refine wpList_append_own _ rfl _ _ 25 rfl (w.heap.size + 1) 71 j0 (.agg #[.int .i64 0, .string .empty, .string .empty]) 3 40 Tryd.underlying25 hj hy0 hy1 hy2 rfl (by decide) (.slice oo l.length oc) _ _ rfl (HM5.out.o.alloc _) ⟨W5.heap.size, 0, none⟩ 1 1 [.int .i64 (k : Int), .string d, .string pp] rfl rfl (World.news_of_block (cs := #[.int .i64 (k : Int), .string d, .string pp]) (t := 71) (fr := (0, 0)) (World.alloc_heap_new W5 _)) (fun u hu => by simp at hu; rcases hu with rfl | rfl | rfl <;> rfl) (by unfold maxLen; first | omega | (simp; done) | (simp; omega)) (by first | omega | (simp; done) | (simp; omega)) (by first | omega | (simp; done) | (simp; omega)) ?_; intro v' w7 hown' hgrow _; have H7 := Lib.hid (DrM.app (x := ⟨(k : Int), d, pp⟩) (HM5.out.below ((Below.refl _ _).alloc (Nat.le_refl _) _)) hown' hgrow); clear hown' hgrow)
              go_roundw
              case rel => exact ⟨_, p5, z5, F + k + d.size, T + k + pp.size, by go_num, by go_num, H7.out, HST5.out⟩
              case measure =>
                obtain ⟨x0, x1, x2, xf⟩ := (DdK.start H7.out.k).cells
                rw [x2, x1, KX.out.1, KX.out.2]
                have hst := HST5.out
                have hps := HB.out
                have hpl := HP1.out.2.1
                rcases hst with ⟨rfl, _, h5, h6, _⟩ | ⟨e5, rfl, _⟩
                · have := H56.out rfl
                  simp [intOf]; omega
                · simp [intOf]; omega
          · as_aux_lemma =>
              have hvn : v = n := by rcases hcap.1 with h | h <;> omega
              subst hvn
              have hst : stS s p1 F T = (some ⟨(v : Int), .empty, .empty⟩, q) := by unfold stS numT; rw [HC.out, if_pos rfl, hn]; simp only []; rw [if_neg (by omega)]
              have hfit := stS_fits HP1.out.1 HB.out.1 HB.out.2.1 hst
              have hgo := HP1.out.2.2.2 _ _ hst
              have HE := Lib.hid (And.intro hgo (And.intro hfit HB.out.2.2.1))
              have d1 : ¬ (65536 : Int) - (F : Int) < (v : Int) := by omega
              have d2 : ¬ (65536 : Int) - (T : Int) < (v : Int) := by omega
              clear hn hcap cN0 hst hfit hgo
              obtain ⟨x0, x1, x2, xf⟩ := (DdK.start HM3.out.k).cells
              obtain ⟨q0, q1, q2, qf⟩ : w3.cell? ⟨G, 0, none⟩ = some (.int .i64 0) ∧ w3.cell? ⟨G, 1, none⟩ = some (.string .empty) ∧ w3.cell? ⟨G, 2, none⟩ = some (.string .empty) ∧ ∀ o, w3.frozen? ⟨G, o, none⟩ = false := ⟨HG3.out.cell 0, HG3.out.cell 1, HG3.out.cell 2, fun o => HG3.out.frozen o⟩
              go_upto_region 25 with (fail)
              obtain ⟨W5, hW5⟩ : ∃ Z, w3.setCell ⟨G, 0, none⟩ (.int .i64 (v : Int)) = Z := ⟨_, rfl⟩
              obtain ⟨k, d, pp, p5, z5, hM5, hG5, hST5, hBd, h56⟩ : ∃ (k : Nat) (d pp : ByteArray) (p5 : Nat) (z5 : Int), DrM w s (.slice oo l.length oc) l p5 z5 W5 ∧ Blk W5 G #[.int .i64 (k : Int), .string d, .string pp] 71 ∧ DrS s (l ++ [⟨(k : Int), d, pp⟩]) p5 z5 (F + k + d.size) (T + k + pp.size) ∧ (k < 10995116277780 ∧ d.size ≤ 1048600 ∧ pp.size ≤ 1048600) ∧ (z5 = -1 → p < p5) :=
                ⟨v, .empty, .empty, q, (-1), (by rw [← hW5]; exact HM3.out.put hwG HG3.out HM2.out.2.2.1 0 _), (by rw [← hW5]; exact Blk.set HG3.out 0 _), .inl ⟨rfl, HE.out.1, HE.out.2.1.2.2.2, by rw [List.length_append]; have := HE.out; have := HP1.out.2.1; simp; omega, HE.out.2.1.1, HE.out.2.1.2.1⟩, ⟨HV.out, Nat.zero_le _, Nat.zero_le _⟩, fun _ => by have := HE.out; have := HP1.out.2.1; omega⟩
              rw [hW5]
              have HM5 := Lib.hid hM5
              have HG5 := Lib.hid hG5
              have HST5 := Lib.hid hST5
              have HBd := Lib.hid hBd
              have H56 := Lib.hid h56
              clear hW5 hM5 hG5 hST5 hBd h56
              obtain ⟨g0, g1, g2, gf⟩ : W5.cell? ⟨G, 0, none⟩ = some (.int .i64 (k : Int)) ∧ W5.cell? ⟨G, 1, none⟩ = some (.string d) ∧ W5.cell? ⟨G, 2, none⟩ = some (.string pp) ∧ ∀ o, W5.frozen? ⟨G, o, none⟩ = false := ⟨HG5.out.cell 0, HG5.out.cell 1, HG5.out.cell 2, fun o => HG5.out.frozen o⟩
              have hkI : (k : Int) ≤ 10995116277780 := by have := HBd.out.1; omega
              have hdI : (d.size : Int) ≤ 1048600 := by have := HBd.out.2.1; omega
              have hppI : (pp.size : Int) ≤ 1048600 := by have := HBd.out.2.2; omega
              have hwn : w.heap.size + 1 ≤ W5.heap.size := HM5.out.n
              go_wp2_with (at_builtin; refine wpList_append_own _ rfl _ _ 25 rfl (w.heap.size + 1) 71 j0 (.agg #[.int .i64 0, .string .empty, .string .empty]) 3 40 Tryd.underlying25 hj hy0 hy1 hy2 rfl (by decide) (.slice oo l.length oc) _ _ rfl (HM5.out.o.alloc _) ⟨W5.heap.size, 0, none⟩ 1 1 [.int .i64 (k : Int), .string d, .string pp] rfl rfl (World.news_of_block (cs := #[.int .i64 (k : Int), .string d, .string pp]) (t := 71) (fr := (0, 0)) (World.alloc_heap_new W5 _)) (fun u hu => by simp at hu; rcases hu with rfl | rfl | rfl <;> rfl) (by unfold maxLen; first | omega | (simp; done) | (simp; omega)) (by first | omega | (simp; done) | (simp; omega)) (by first | omega | (simp; done) | (simp; omega)) ?_; intro v' w7 hown' hgrow _; have H7 := Lib.hid (DrM.app (x := ⟨(k : Int), d, pp⟩) (HM5.out.below ((Below.refl _ _).alloc (Nat.le_refl _) _)) hown' hgrow); clear hown' hgrow)
              go_roundw
              case rel => exact ⟨_, p5, z5, F + k + d.size, T + k + pp.size, by go_num, by go_num, H7.out, HST5.out⟩
              case measure =>
                obtain ⟨x0, x1, x2, xf⟩ := (DdK.start H7.out.k).cells
                rw [x2, x1, KX.out.1, KX.out.2]
                have hst := HST5.out
                have hps := HB.out
                have hpl := HP1.out.2.1
                rcases hst with ⟨rfl, _, h5, h6, _⟩ | ⟨e5, rfl, _⟩
                · have := H56.out rfl
                  simp [intOf]; omega
                · simp [intOf]; omega
      have a61 : ¬ (c : Int) = 61 := by omega
      have b61 : ((c : Int) == 61) = false := by rw [beq_eq_false_iff_ne]; exact a61
      by_cases h45 : c = 45
      · subst h45
        clear a61 b61 h61
        have cQ := quotedD_any HM2.out.1.k (show p1 + 1 ≤ s.size from lkN_lt HC.out (by decide)) HB.out.2.2.2.1
        go_upto_region 19 with (go_at_call 35; go_must (refine cQ.mono ?_; intro e w3 hP; obtain ⟨str, rfl, hsz, hor⟩ := hP.h; have HOR := Lib.hid hor; have HSZ := Lib.hid hsz; clear hP hor hsz))
        clear cQ
        rcases HOR.out with ⟨out, q, h34, hbo, rfl, hk⟩ | ⟨ee, p', hbd, hp', hk⟩
        case inr =>
          have hqn : quotedS s (p1 + 1) = (none, ee) := by
            unfold quotedS
            rcases hbd with ⟨h1, rfl⟩ | ⟨h1, h2⟩
            · rw [if_neg h1]
            · rw [if_pos h1, h2]
          have hbad : readS s = (none, ee) := HP1.out.2.2.1 _ (by unfold stS quoT; rw [HC.out, if_neg (by omega), if_pos rfl, hqn])
          have HE := Lib.hid (And.intro hbad (And.intro hp' HSZ.out))
          have hee : decide ((ee : Int) < 0) = false := decide_eq_false (by omega)
          have HM3 := Lib.hid (HM2.out.1.grown hk)
          have HG3 := Lib.hid (show Blk w3 G #[.int .i64 0, .string .empty, .string .empty] 71 from (hk.2.block G (Array.getElem?_eq_some_iff.1 HM2.out.2.1).1 (fun e => by have := Option.some.inj e; omega)).trans HM2.out.2.1)
          clear hqn hbad hbd hp' hk
          as_aux_lemma =>
            obtain ⟨v0, v1, v2, vf⟩ := (DdK.start HM3.out.k).cells
            go_quiet ((fail))
            generalize hU : World.drewN w3 _ = X0
            have U0 : Below w3.heap.size w3 X0 := hU ▸ below_drewN _ _
            have T0 := HM3.out.below U0
            have HG4 := Lib.hid (Blk.below' HG3.out U0)
            clear hU U0
            have HM6 := Lib.hid T0
            clear T0
            obtain ⟨q0, q1, q2, qf⟩ : X0.cell? ⟨G, 0, none⟩ = some (.int .i64 0) ∧ X0.cell? ⟨G, 1, none⟩ = some (.string .empty) ∧ X0.cell? ⟨G, 2, none⟩ = some (.string .empty) ∧ ∀ o, X0.frozen? ⟨G, o, none⟩ = false := ⟨HG4.out.cell 0, HG4.out.cell 1, HG4.out.cell 2, fun o => HG4.out.frozen o⟩
            go_upto_region 25 with (fail)
            obtain ⟨W5, hW5⟩ : ∃ Z, X0.setCell ⟨G, 1, none⟩ (.string str) = Z := ⟨_, rfl⟩
            obtain ⟨k, d, pp, p5, z5, hM5, hG5, hST5, hBd, h56⟩ : ∃ (k : Nat) (d pp : ByteArray) (p5 : Nat) (z5 : Int), DrM w s (.slice oo l.length oc) l p5 z5 W5 ∧ Blk W5 G #[.int .i64 (k : Int), .string d, .string pp] 71 ∧ DrS s (l ++ [⟨(k : Int), d, pp⟩]) p5 z5 (F + k + d.size) (T + k + pp.size) ∧ (k < 10995116277780 ∧ d.size ≤ 1048600 ∧ pp.size ≤ 1048600) ∧ (z5 = -1 → p < p5) :=
              ⟨0, str, .empty, p', (ee : Int), (by rw [← hW5]; exact HM6.out.put hwG HG4.out HM2.out.2.2.1 1 _), (by rw [← hW5]; exact Blk.set HG4.out 1 _), .inr ⟨ee, rfl, HE.out.1, by have := HE.out.2.1; omega⟩, ⟨by omega, HE.out.2.2, Nat.zero_le _⟩, fun h => by omega⟩
            rw [hW5]
            have HM5 := Lib.hid hM5
            have HG5 := Lib.hid hG5
            have HST5 := Lib.hid hST5
            have HBd := Lib.hid hBd
            have H56 := Lib.hid h56
            clear hW5 hM5 hG5 hST5 hBd h56
            obtain ⟨g0, g1, g2, gf⟩ : W5.cell? ⟨G, 0, none⟩ = some (.int .i64 (k : Int)) ∧ W5.cell? ⟨G, 1, none⟩ = some (.string d) ∧ W5.cell? ⟨G, 2, none⟩ = some (.string pp) ∧ ∀ o, W5.frozen? ⟨G, o, none⟩ = false := ⟨HG5.out.cell 0, HG5.out.cell 1, HG5.out.cell 2, fun o => HG5.out.frozen o⟩
            have hkI : (k : Int) ≤ 10995116277780 := by have := HBd.out.1; omega
            have hdI : (d.size : Int) ≤ 1048600 := by have := HBd.out.2.1; omega
            have hppI : (pp.size : Int) ≤ 1048600 := by have := HBd.out.2.2; omega
            have hwn : w.heap.size + 1 ≤ W5.heap.size := HM5.out.n
            go_wp2_with (at_builtin; refine wpList_append_own _ rfl _ _ 25 rfl (w.heap.size + 1) 71 j0 (.agg #[.int .i64 0, .string .empty, .string .empty]) 3 40 Tryd.underlying25 hj hy0 hy1 hy2 rfl (by decide) (.slice oo l.length oc) _ _ rfl (HM5.out.o.alloc _) ⟨W5.heap.size, 0, none⟩ 1 1 [.int .i64 (k : Int), .string d, .string pp] rfl rfl (World.news_of_block (cs := #[.int .i64 (k : Int), .string d, .string pp]) (t := 71) (fr := (0, 0)) (World.alloc_heap_new W5 _)) (fun u hu => by simp at hu; rcases hu with rfl | rfl | rfl <;> rfl) (by unfold maxLen; first | omega | (simp; done) | (simp; omega)) (by first | omega | (simp; done) | (simp; omega)) (by first | omega | (simp; done) | (simp; omega)) ?_; intro v' w7 hown' hgrow _; have H7 := Lib.hid (DrM.app (x := ⟨(k : Int), d, pp⟩) (HM5.out.below ((Below.refl _ _).alloc (Nat.le_refl _) _)) hown' hgrow); clear hown' hgrow)
            go_roundw
            case rel => exact ⟨_, p5, z5, F + k + d.size, T + k + pp.size, by go_num, by go_num, H7.out, HST5.out⟩
            case measure =>
              obtain ⟨x0, x1, x2, xf⟩ := (DdK.start H7.out.k).cells
              rw [x2, x1, KX.out.1, KX.out.2]
              have hst := HST5.out
              have hps := HB.out
              have hpl := HP1.out.2.1
              rcases hst with ⟨rfl, _, h5, h6, _⟩ | ⟨e5, rfl, _⟩
              · have := H56.out rfl
                simp [intOf]; omega
              · simp [intOf]; omega
        have HM3 := Lib.hid (HM2.out.1.grown hk)
        have HG3 := Lib.hid (show Blk w3 G #[.int .i64 0, .string .empty, .string .empty] 71 from (hk.2.block G (Array.getElem?_eq_some_iff.1 HM2.out.2.1).1 (fun e => by have := Option.some.inj e; omega)).trans HM2.out.2.1)
        have hqp := bodyS_pos s _ (p1 + 1 + 1) [] (Nat.le_refl _) (lkN_lt h34 (by decide)) out q hbo
        have hqs : quotedS s (p1 + 1) = if out = [] ∨ quoB ⟨out.toArray⟩ ≠ s.extract (p1 + 1) (q + 1) then (none, p1 + 1) else (some ⟨out.toArray⟩, q + 1) := by
          unfold quotedS; rw [if_pos h34, hbo]
        obtain ⟨b, hb⟩ : ∃ b : ByteArray, (⟨out.toArray⟩ : ByteArray) = b := ⟨_, rfl⟩
        rw [hb] at hqs ⊢
        have HBS := Lib.hid (show b.size ≤ 1048600 from hb ▸ HSZ.out)
        have hb0 : b.size = 0 ↔ out = [] := by rw [← hb]; exact List.length_eq_zero_iff
        have HQ := Lib.hid (And.intro hqs (And.intro (show q + 1 ≤ s.size from hqp.2.1) hb0))
        have hsl0 : ∀ W, (Instr.slice 9 (.string s) (some (.int .i64 ((p1 : Int) + 1))) (some (.int .i64 ((q : Int) + 1))) none).run Tryd.prog W = .ok (.string (s.extract (p1 + 1) (q + 1))) W := fun W => by
          have := sub_str Tryd.prog W 9 s (p1 + 1) (q + 1) ((q : Int) + 1) (by omega) (by omega) hqp.2.1 Tryd.underlying9
          simpa using this
        obtain ⟨u, hu⟩ : ∃ u, quoB b = u := ⟨_, rfl⟩
        obtain ⟨vv, hvv⟩ : ∃ v, s.extract (p1 + 1) (q + 1) = v := ⟨_, rfl⟩
        rw [hvv] at hsl0
        rw [hu, hvv] at hqs
        have HUV := Lib.hid (And.intro hu hvv)
        have cQt := fun W => quotedRef_any b HBS.out W
        have hqI : (q : Int) ≤ 1048576 := by have := hqp.2.1; have := HB.out.2.2.2.1; omega
        have hbI : (b.size : Int) ≤ 1048600 := by have := HBS.out; omega
        clear hk h34 hbo hqp hb hu hvv
        by_cases hE : out = []
        · have hbad : readS s = (none, p1 + 1) := HP1.out.2.2.1 _ (by unfold stS quoT; rw [HC.out, if_neg (by omega), if_pos rfl, hqs, if_pos (.inl hE)])
          have HBAD := Lib.hid hbad
          obtain rfl : b = .empty := (emp_or b).resolve_right (fun h => h.1 (hb0.2 hE))
          clear hbad hE hqs hb0 hsl0 cQt hbI
          as_aux_lemma =>
            have hEe : (ByteArray.empty.toList == ([] : List UInt8)) = true := by rw [str_e]; exact decide_eq_true rfl
            have hEe2 : ByteArray.empty.toList = ([] : List UInt8) := beq_iff_eq.1 hEe
            obtain ⟨v0, v1, v2, vf⟩ := (DdK.start HM3.out.k).cells
            go_quiet ((fail))
            generalize hU : World.drewN w3 _ = X0
            have U0 : Below w3.heap.size w3 X0 := hU ▸ below_drewN _ _
            have T0 := HM3.out.below U0
            have HG4 := Lib.hid (Blk.below' HG3.out U0)
            clear hU U0
            clear hEe hEe2
            have HM6 := Lib.hid T0
            clear T0
            obtain ⟨q0, q1, q2, qf⟩ : X0.cell? ⟨G, 0, none⟩ = some (.int .i64 0) ∧ X0.cell? ⟨G, 1, none⟩ = some (.string .empty) ∧ X0.cell? ⟨G, 2, none⟩ = some (.string .empty) ∧ ∀ o, X0.frozen? ⟨G, o, none⟩ = false := ⟨HG4.out.cell 0, HG4.out.cell 1, HG4.out.cell 2, fun o => HG4.out.frozen o⟩
            go_upto_region 25 with (go_at_call 34; go_must (refine (badD_ok HM6.out.k (p1 + 1)).mono ?_; rintro e w5 ⟨rfl, rfl⟩))
            obtain ⟨W5, hW5⟩ : ∃ Z, (X0.setCell ⟨w.heap.size, 2, none⟩ (.int .i64 ((p1 : Int) + 1))).setCell ⟨G, 1, none⟩ (.string .empty) = Z := ⟨_, rfl⟩
            obtain ⟨k, d, pp, p5, z5, hM5, hG5, hST5, hBd, h56⟩ : ∃ (k : Nat) (d pp : ByteArray) (p5 : Nat) (z5 : Int), DrM w s (.slice oo l.length oc) l p5 z5 W5 ∧ Blk W5 G #[.int .i64 (k : Int), .string d, .string pp] 71 ∧ DrS s (l ++ [⟨(k : Int), d, pp⟩]) p5 z5 (F + k + d.size) (T + k + pp.size) ∧ (k < 10995116277780 ∧ d.size ≤ 1048600 ∧ pp.size ≤ 1048600) ∧ (z5 = -1 → p < p5) :=
              ⟨0, .empty, .empty, (q + 1), ((p1 + 1 : Nat) : Int), (by rw [← hW5]; exact ((by have := HM6.out.bad ((p1 + 1 : Nat) : Int); simpa using this : DrM w s (.slice oo l.length oc) l (q + 1) ((p1 + 1 : Nat) : Int) (X0.setCell ⟨w.heap.size, 2, none⟩ (.int .i64 ((p1 : Int) + 1)))).put hwG (Blk.other HG4.out (by omega) 2 _) HM2.out.2.2.1 1 _)), (by rw [← hW5]; exact Blk.set (Blk.other HG4.out (by omega) 2 _) 1 _), .inr ⟨p1 + 1, rfl, HBAD.out, by have := HQ.out.2.1; omega⟩, ⟨by omega, Nat.zero_le _, Nat.zero_le _⟩, fun h => by omega⟩
            rw [hW5]
            have HM5 := Lib.hid hM5
            have HG5 := Lib.hid hG5
            have HST5 := Lib.hid hST5
            have HBd := Lib.hid hBd
            have H56 := Lib.hid h56
            clear hW5 hM5 hG5 hST5 hBd h56
            obtain ⟨g0, g1, g2, gf⟩ : W5.cell? ⟨G, 0, none⟩ = some (.int .i64 (k : Int)) ∧ W5.cell? ⟨G, 1, none⟩ = some (.string d) ∧ W5.cell? ⟨G, 2, none⟩ = some (.string pp) ∧ ∀ o, W5.frozen? ⟨G, o, none⟩ = false := ⟨HG5.out.cell 0, HG5.out.cell 1, HG5.out.cell 2, fun o => HG5.out.frozen o⟩
            have hkI : (k : Int) ≤ 10995116277780 := by have := HBd.out.1; omega
            have hdI : (d.size : Int) ≤ 1048600 := by have := HBd.out.2.1; omega
            have hppI : (pp.size : Int) ≤ 1048600 := by have := HBd.out.2.2; omega
            have hwn : w.heap.size + 1 ≤ W5.heap.size := HM5.out.n
            go_wp2_with (at_builtin; refine wpList_append_own _ rfl _ _ 25 rfl (w.heap.size + 1) 71 j0 (.agg #[.int .i64 0, .string .empty, .string .empty]) 3 40 Tryd.underlying25 hj hy0 hy1 hy2 rfl (by decide) (.slice oo l.length oc) _ _ rfl (HM5.out.o.alloc _) ⟨W5.heap.size, 0, none⟩ 1 1 [.int .i64 (k : Int), .string d, .string pp] rfl rfl (World.news_of_block (cs := #[.int .i64 (k : Int), .string d, .string pp]) (t := 71) (fr := (0, 0)) (World.alloc_heap_new W5 _)) (fun u hu => by simp at hu; rcases hu with rfl | rfl | rfl <;> rfl) (by unfold maxLen; first | omega | (simp; done) | (simp; omega)) (by first | omega | (simp; done) | (simp; omega)) (by first | omega | (simp; done) | (simp; omega)) ?_; intro v' w7 hown' hgrow _; have H7 := Lib.hid (DrM.app (x := ⟨(k : Int), d, pp⟩) (HM5.out.below ((Below.refl _ _).alloc (Nat.le_refl _) _)) hown' hgrow); clear hown' hgrow)
            go_roundw
            case rel => exact ⟨_, p5, z5, F + k + d.size, T + k + pp.size, by go_num, by go_num, H7.out, HST5.out⟩
            case measure =>
              obtain ⟨x0, x1, x2, xf⟩ := (DdK.start H7.out.k).cells
              rw [x2, x1, KX.out.1, KX.out.2]
              have hst := HST5.out
              have hps := HB.out
              have hpl := HP1.out.2.1
              rcases hst with ⟨rfl, _, h5, h6, _⟩ | ⟨e5, rfl, _⟩
              · have := H56.out rfl
                simp [intOf]; omega
              · simp [intOf]; omega
        obtain ⟨e0, e1, e2, e3⟩ := (emp_or b).resolve_left (fun h => hE (hb0.1 (by rw [h]; rfl)))
        by_cases hD : u = vv
        case neg =>
          have hbad : readS s = (none, p1 + 1) := HP1.out.2.2.1 _ (by unfold stS quoT; rw [HC.out, if_neg (by omega), if_pos rfl, hqs, if_pos (.inr hD)])
          have HBAD := Lib.hid hbad
          have n4 : ¬ u.toList = vv.toList := fun h => hD (by
            apply ByteArray.ext; apply Array.ext'
            rw [ByteArray.toList_eq, ByteArray.toList_eq] at h
            exact h)
          have n2 : (u.toList == vv.toList) = false := by rw [beq_eq_false_iff_ne]; exact n4
          clear hbad hqs hb0 hE
          as_aux_lemma =>
            refine wp_region_noPanic ?_
            refine wp_region_g (S := untilG [] (fun X => DrM w s (.slice oo l.length oc) l (q + 1) (-1) X)) (by kernel_rfl) ?_
            obtain ⟨X0, hX0⟩ : ∃ Z, w3.drew = Z := ⟨_, rfl⟩
            have U0 : Below w3.heap.size w3 X0 := hX0 ▸ (Below.refl w3.heap.size w3).drew
            have T0 := HM3.out.below U0
            have HG4 := Lib.hid (Blk.below' HG3.out U0)
            rw [hX0]
            clear hX0 U0
            refine wpAnyG_take [0, 1, 2, 3, 4, 5, 6, 7, 8, 9, 10, 11, 12, 13, 14, 15, 16, 17, 18, 19, 20, 21, 22, 23, 24, 25, 26, 27, 28, 29, 30, 31, 32, 33, 34, 35, 36, 37, 38] (i := 0) (v := (.pointer (some ⟨w.heap.size, 2, none⟩))) rfl (by kernel_rfl) (by kernel_rfl) (by kernel_rfl) (by kernel_rfl) (by kernel_rfl) (by kernel_rfl) (by kernel_rfl) (by kernel_rfl) (fun _ _ _ h => h) (Or.inl ⟨by rfl, ?hy⟩) T0 ?_
            case hy =>
              intro X hX
              go_simp
            try simp only [Act.put, List.getElem_toArray, List.getElem_cons_zero, List.getElem_cons_succ, List.setIfInBounds_toArray, List.set_cons_zero, List.set_cons_succ]
            refine wpAnyG_take [1, 2, 3, 4, 5, 6, 7, 8, 9, 10, 11, 12, 13, 14, 15, 16, 17, 18, 19, 20, 21, 22, 23, 24, 25, 26, 27, 28, 29, 30, 31, 32, 33, 34, 35, 36, 37, 38] (i := 1) (v := (.int .i64 (-1))) rfl (by kernel_rfl) (by kernel_rfl) (by kernel_rfl) (by kernel_rfl) (by kernel_rfl) (by kernel_rfl) (by kernel_rfl) (by kernel_rfl) (fun _ _ _ h => h) (Or.inl ⟨by rfl, ?hy⟩) T0 ?_
            case hy =>
              intro X hX
              obtain ⟨m0, m1, m2, mf⟩ := (DdK.start hX.k).cells
              go_simp
            try simp only [Act.put, List.getElem_toArray, List.getElem_cons_zero, List.getElem_cons_succ, List.setIfInBounds_toArray, List.set_cons_zero, List.set_cons_succ]
            refine wpAnyG_take [2, 3, 4, 5, 6, 7, 8, 9, 10, 11, 12, 13, 14, 15, 16, 17, 18, 19, 20, 21, 22, 23, 24, 25, 26, 27, 28, 29, 30, 31, 32, 33, 34, 35, 36, 37, 38] (i := 2) (v := (.bool true)) rfl (by kernel_rfl) (by kernel_rfl) (by kernel_rfl) (by kernel_rfl) (by kernel_rfl) (by kernel_rfl) (by kernel_rfl) (by kernel_rfl) (fun _ _ _ h => h) (Or.inl ⟨by rfl, ?hy⟩) T0 ?_
            case hy =>
              intro X hX
              go_simp
            try simp only [Act.put, List.getElem_toArray, List.getElem_cons_zero, List.getElem_cons_succ, List.setIfInBounds_toArray, List.set_cons_zero, List.set_cons_succ]
            refine wpAnyG_take [3, 4, 5, 6, 7, 8, 9, 10, 11, 12, 13, 14, 15, 16, 17, 18, 19, 20, 21, 22, 23, 24, 25, 26, 27, 28, 29, 30, 31, 32, 33, 34, 35, 36, 37, 38] (i := 3) (v := (.bool true)) rfl (by kernel_rfl) (by kernel_rfl) (by kernel_rfl) (by kernel_rfl) (by kernel_rfl) (by kernel_rfl) (by kernel_rfl) (by kernel_rfl) (fun _ _ _ h => h) (Or.inl ⟨by rfl, ?hy⟩) T0 ?_
            case hy =>
              intro X hX
              go_simp
            try simp only [Act.put, List.getElem_toArray, List.getElem_cons_zero, List.getElem_cons_succ, List.setIfInBounds_toArray, List.set_cons_zero, List.set_cons_succ]
            refine wpAnyG_take [4, 5, 6, 7, 8, 9, 10, 11, 12, 13, 14, 15, 16, 17, 18, 19, 20, 21, 22, 23, 24, 25, 26, 27, 28, 29, 30, 31, 32, 33, 34, 35, 36, 37, 38] (i := 4) (v := (.string b)) rfl (by kernel_rfl) (by kernel_rfl) (by kernel_rfl) (by kernel_rfl) (by kernel_rfl) (by kernel_rfl) (by kernel_rfl) (by kernel_rfl) (fun _ _ _ h => h) (Or.inl ⟨by rfl, ?hy⟩) T0 ?_
            case hy =>
              intro X hX
              go_simp
            try simp only [Act.put, List.getElem_toArray, List.getElem_cons_zero, List.getElem_cons_succ, List.setIfInBounds_toArray, List.set_cons_zero, List.set_cons_succ]
            refine wpAnyG_take [5, 6, 7, 8, 9, 10, 11, 12, 13, 14, 15, 16, 17, 18, 19, 20, 21, 22, 23, 24, 25, 26, 27, 28, 29, 30, 31, 32, 33, 34, 35, 36, 37, 38] (i := 5) (v := (.bool false)) rfl (by kernel_rfl) (by kernel_rfl) (by kernel_rfl) (by kernel_rfl) (by kernel_rfl) (by kernel_rfl) (by kernel_rfl) (by kernel_rfl) (fun _ _ _ h => h) (Or.inl ⟨by rfl, ?hy⟩) T0 ?_
            case hy =>
              intro X hX
              go_simp
            try simp only [Act.put, List.getElem_toArray, List.getElem_cons_zero, List.getElem_cons_succ, List.setIfInBounds_toArray, List.set_cons_zero, List.set_cons_succ]
            refine wpAnyG_take [6, 7, 8, 9, 10, 11, 12, 13, 14, 15, 16, 17, 18, 19, 20, 21, 22, 23, 24, 25, 26, 27, 28, 29, 30, 31, 32, 33, 34, 35, 36, 37, 38] (i := 6) (v := (.bool false)) rfl (by kernel_rfl) (by kernel_rfl) (by kernel_rfl) (by kernel_rfl) (by kernel_rfl) (by kernel_rfl) (by kernel_rfl) (by kernel_rfl) (fun _ _ _ h => h) (Or.inl ⟨by rfl, ?hy⟩) T0 ?_
            case hy =>
              intro X hX
              go_simp
            try simp only [Act.put, List.getElem_toArray, List.getElem_cons_zero, List.getElem_cons_succ, List.setIfInBounds_toArray, List.set_cons_zero, List.set_cons_succ]
            refine wpAnyG_take [7, 8, 14, 15, 16, 17, 18, 19, 20, 21, 22, 23, 24, 25, 26, 27, 28, 29, 30, 31, 32, 33, 34, 35, 36, 37, 38] (i := 7) (v := (.string b)) rfl (by kernel_rfl) (by kernel_rfl) (by kernel_rfl) (by kernel_rfl) (by kernel_rfl) (by kernel_rfl) (by kernel_rfl) (by kernel_rfl) (fun _ _ _ h => h) (Or.inl ⟨by rfl, ?hy⟩) T0 ?_
            case hy =>
              intro X hX
              go_simp
            try simp only [Act.put, List.getElem_toArray, List.getElem_cons_zero, List.getElem_cons_succ, List.setIfInBounds_toArray, List.set_cons_zero, List.set_cons_succ]
            refine wpAnyG_take [9, 13, 14, 15, 16, 17, 18, 19, 20, 21, 22, 23, 24, 25, 26, 27, 28, 29, 30, 31, 32, 33, 34, 35, 36, 37, 38] (i := 9) (v := (.string s)) rfl (by kernel_rfl) (by kernel_rfl) (by kernel_rfl) (by kernel_rfl) (by kernel_rfl) (by kernel_rfl) (by kernel_rfl) (by kernel_rfl) (fun _ _ _ h => h) (Or.inl ⟨by rfl, ?hy⟩) T0 ?_
            case hy =>
              intro X hX
              go_simp
            try simp only [Act.put, List.getElem_toArray, List.getElem_cons_zero, List.getElem_cons_succ, List.setIfInBounds_toArray, List.set_cons_zero, List.set_cons_succ]
            refine wpAnyG_take [10, 13, 14, 15, 16, 17, 18, 19, 20, 21, 22, 23, 24, 25, 26, 27, 28, 29, 30, 31, 32, 33, 34, 35, 36, 37, 38] (i := 10) (v := (.int .i64 ((p1 : Int) + 1))) rfl (by kernel_rfl) (by kernel_rfl) (by kernel_rfl) (by kernel_rfl) (by kernel_rfl) (by kernel_rfl) (by kernel_rfl) (by kernel_rfl) (fun _ _ _ h => h) (Or.inl ⟨by rfl, ?hy⟩) T0 ?_
            case hy =>
              intro X hX
              go_simp
            try simp only [Act.put, List.getElem_toArray, List.getElem_cons_zero, List.getElem_cons_succ, List.setIfInBounds_toArray, List.set_cons_zero, List.set_cons_succ]
            refine wpAnyG_take [11, 12, 13, 14, 15, 16, 17, 18, 19, 20, 21, 22, 23, 24, 25, 26, 27, 28, 29, 30, 31, 32, 33, 34, 35, 36, 37, 38] (i := 11) (v := (.pointer (some ⟨w.heap.size, 1, none⟩))) rfl (by kernel_rfl) (by kernel_rfl) (by kernel_rfl) (by kernel_rfl) (by kernel_rfl) (by kernel_rfl) (by kernel_rfl) (by kernel_rfl) (fun _ _ _ h => h) (Or.inl ⟨by rfl, ?hy⟩) T0 ?_
            case hy =>
              intro X hX
              go_simp
            try simp only [Act.put, List.getElem_toArray, List.getElem_cons_zero, List.getElem_cons_succ, List.setIfInBounds_toArray, List.set_cons_zero, List.set_cons_succ]
            refine wpAnyG_take [12, 13, 14, 15, 16, 17, 18, 19, 20, 21, 22, 23, 24, 25, 26, 27, 28, 29, 30, 31, 32, 33, 34, 35, 36, 37, 38] (i := 12) (v := (.int .i64 ((q : Int) + 1))) rfl (by kernel_rfl) (by kernel_rfl) (by kernel_rfl) (by kernel_rfl) (by kernel_rfl) (by kernel_rfl) (by kernel_rfl) (by kernel_rfl) (fun _ _ _ h => h) (Or.inl ⟨by rfl, ?hy⟩) T0 ?_
            case hy =>
              intro X hX
              obtain ⟨m0, m1, m2, mf⟩ := (DdK.start hX.k).cells
              simp only [Int.natCast_add, Int.cast_ofNat_Int] at m1
              go_simp
            try simp only [Act.put, List.getElem_toArray, List.getElem_cons_zero, List.getElem_cons_succ, List.setIfInBounds_toArray, List.set_cons_zero, List.set_cons_succ]
            refine wpAnyG_take [13, 14, 15, 16, 17, 18, 19, 20, 21, 22, 23, 24, 25, 26, 27, 28, 29, 30, 31, 32, 33, 34, 35, 36, 37, 38] (i := 13) (v := (.string vv)) rfl (by kernel_rfl) (by kernel_rfl) (by kernel_rfl) (by kernel_rfl) (by kernel_rfl) (by kernel_rfl) (by kernel_rfl) (by kernel_rfl) (fun _ _ _ h => h) (Or.inl ⟨by rfl, ?hy⟩) T0 ?_
            case hy =>
              intro X hX
              go_simp
            try simp only [Act.put, List.getElem_toArray, List.getElem_cons_zero, List.getElem_cons_succ, List.setIfInBounds_toArray, List.set_cons_zero, List.set_cons_succ]
            refine wpAnyG_all (rs := [8]) (by kernel_rfl) (by simp) ?_
            intro i hi
            simp only [List.mem_cons, List.not_mem_nil, or_false] at hi
            subst hi
            refine wpOp_open rfl (by rfl) ?_
            go_simp
            refine (cQt _).mono ?_
            intro e Y4 hQ4
            obtain ⟨rfl, hb4⟩ := hQ4.h
            rw [HUV.out.1]
            replace T0 := T0.below hb4
            have HG4 := Lib.hid (Blk.below' HG4.out hb4)
            clear hb4 hQ4
            refine ⟨fun _ => T0, ?_⟩
            try simp only [Act.put, List.getElem_toArray, List.getElem_cons_zero, List.getElem_cons_succ, List.setIfInBounds_toArray, List.set_cons_zero, List.set_cons_succ]
            refine wpAnyG_take [14, 15, 16, 17, 18, 19, 20, 21, 22, 23, 24, 25, 26, 27, 28, 29, 30, 31, 32, 33, 34, 35, 36, 37, 38] (i := 14) (v := (.bool true)) rfl (by kernel_rfl) (by kernel_rfl) (by kernel_rfl) (by kernel_rfl) (by kernel_rfl) (by kernel_rfl) (by kernel_rfl) (by kernel_rfl) (fun _ _ _ h => h) (Or.inl ⟨by rfl, ?hy⟩) T0 ?_
            case hy =>
              intro X hX
              go_simp
            try simp only [Act.put, List.getElem_toArray, List.getElem_cons_zero, List.getElem_cons_succ, List.setIfInBounds_toArray, List.set_cons_zero, List.set_cons_succ]
            refine wpAnyG_take [15, 16, 17, 18, 19, 20, 21, 22, 23, 24, 25, 26, 27, 28, 29, 30, 31, 32, 33, 34, 35, 36, 37, 38] (i := 15) (v := (.bool true)) rfl (by kernel_rfl) (by kernel_rfl) (by kernel_rfl) (by kernel_rfl) (by kernel_rfl) (by kernel_rfl) (by kernel_rfl) (by kernel_rfl) (fun _ _ _ h => h) (Or.inl ⟨by rfl, ?hy⟩) T0 ?_
            case hy =>
              intro X hX
              go_simp
            try simp only [Act.put, List.getElem_toArray, List.getElem_cons_zero, List.getElem_cons_succ, List.setIfInBounds_toArray, List.set_cons_zero, List.set_cons_succ]
            refine wpAnyG_take [16, 17, 18, 19, 20, 21, 22, 23, 24, 25, 26, 27, 28, 29, 30, 31, 32, 33, 34, 35, 36, 37, 38] (i := 16) (v := (.bool true)) rfl (by kernel_rfl) (by kernel_rfl) (by kernel_rfl) (by kernel_rfl) (by kernel_rfl) (by kernel_rfl) (by kernel_rfl) (by kernel_rfl) (fun _ _ _ h => h) (Or.inl ⟨by rfl, ?hy⟩) T0 ?_
            case hy =>
              intro X hX
              go_simp
            try simp only [Act.put, List.getElem_toArray, List.getElem_cons_zero, List.getElem_cons_succ, List.setIfInBounds_toArray, List.set_cons_zero, List.set_cons_succ]
            refine wpAnyG_take [17, 18, 19, 20, 21, 22, 23, 24, 25, 26, 27, 28, 29, 30, 31, 32, 33, 34, 35, 36, 37, 38] (i := 17) (v := undef) rfl (by kernel_rfl) (by kernel_rfl) (by kernel_rfl) (by kernel_rfl) (by kernel_rfl) (by kernel_rfl) (by kernel_rfl) (by kernel_rfl) (fun _ _ _ h => h) (Or.inr ⟨by rfl, rfl⟩) T0 ?_
            try simp only [Act.put, List.getElem_toArray, List.getElem_cons_zero, List.getElem_cons_succ, List.setIfInBounds_toArray, List.set_cons_zero, List.set_cons_succ]
            refine wpAnyG_take [18, 19, 20, 21, 22, 23, 24, 25, 26, 27, 28, 29, 30, 31, 32, 33, 34, 35, 36, 37, 38] (i := 18) (v := undef) rfl (by kernel_rfl) (by kernel_rfl) (by kernel_rfl) (by kernel_rfl) (by kernel_rfl) (by kernel_rfl) (by kernel_rfl) (by kernel_rfl) (fun _ _ _ h => h) (Or.inr ⟨by rfl, rfl⟩) T0 ?_
            try simp only [Act.put, List.getElem_toArray, List.getElem_cons_zero, List.getElem_cons_succ, List.setIfInBounds_toArray, List.set_cons_zero, List.set_cons_succ]
            refine wpAnyG_take [19, 20, 21, 22, 23, 24, 25, 26, 27, 28, 29, 30, 31, 32, 33, 34, 35, 36, 37, 38] (i := 19) (v := undef) rfl (by kernel_rfl) (by kernel_rfl) (by kernel_rfl) (by kernel_rfl) (by kernel_rfl) (by kernel_rfl) (by kernel_rfl) (by kernel_rfl) (fun _ _ _ h => h) (Or.inr ⟨by rfl, rfl⟩) T0 ?_
            try simp only [Act.put, List.getElem_toArray, List.getElem_cons_zero, List.getElem_cons_succ, List.setIfInBounds_toArray, List.set_cons_zero, List.set_cons_succ]
            refine wpAnyG_take [20, 21, 24, 25, 26, 27, 28, 29, 30, 31, 32, 33, 34, 35, 36, 37, 38] (i := 20) (v := undef) rfl (by kernel_rfl) (by kernel_rfl) (by kernel_rfl) (by kernel_rfl) (by kernel_rfl) (by kernel_rfl) (by kernel_rfl) (by kernel_rfl) (fun _ _ _ h => h) (Or.inr ⟨by rfl, rfl⟩) T0 ?_
            try simp only [Act.put, List.getElem_toArray, List.getElem_cons_zero, List.getElem_cons_succ, List.setIfInBounds_toArray, List.set_cons_zero, List.set_cons_succ]
            refine wpAnyG_take [21, 24, 25, 26, 27, 28, 29, 30, 31, 32, 33, 34, 35, 36, 37, 38] (i := 21) (v := undef) rfl (by kernel_rfl) (by kernel_rfl) (by kernel_rfl) (by kernel_rfl) (by kernel_rfl) (by kernel_rfl) (by kernel_rfl) (by kernel_rfl) (fun _ _ _ h => h) (Or.inr ⟨by rfl, rfl⟩) T0 ?_
            try simp only [Act.put, List.getElem_toArray, List.getElem_cons_zero, List.getElem_cons_succ, List.setIfInBounds_toArray, List.set_cons_zero, List.set_cons_succ]
            refine wpAnyG_take [22, 23, 24, 25, 26, 27, 28, 29, 30, 31, 32, 33, 34, 35, 36, 37, 38] (i := 22) (v := undef) rfl (by kernel_rfl) (by kernel_rfl) (by kernel_rfl) (by kernel_rfl) (by kernel_rfl) (by kernel_rfl) (by kernel_rfl) (by kernel_rfl) (fun _ _ _ h => h) (Or.inr ⟨by rfl, rfl⟩) T0 ?_
            try simp only [Act.put, List.getElem_toArray, List.getElem_cons_zero, List.getElem_cons_succ, List.setIfInBounds_toArray, List.set_cons_zero, List.set_cons_succ]
            refine wpAnyG_take [23, 24, 25, 26, 27, 28, 29, 30, 31, 32, 33, 34, 35, 36, 37, 38] (i := 23) (v := undef) rfl (by kernel_rfl) (by kernel_rfl) (by kernel_rfl) (by kernel_rfl) (by kernel_rfl) (by kernel_rfl) (by kernel_rfl) (by kernel_rfl) (fun _ _ _ h => h) (Or.inr ⟨by rfl, rfl⟩) T0 ?_
            try simp only [Act.put, List.getElem_toArray, List.getElem_cons_zero, List.getElem_cons_succ, List.setIfInBounds_toArray, List.set_cons_zero, List.set_cons_succ]
            refine wpAnyG_take [24, 25, 26, 27, 28, 29, 30, 31, 32, 33, 34, 35, 36, 37, 38] (i := 24) (v := undef) rfl (by kernel_rfl) (by kernel_rfl) (by kernel_rfl) (by kernel_rfl) (by kernel_rfl) (by kernel_rfl) (by kernel_rfl) (by kernel_rfl) (fun _ _ _ h => h) (Or.inr ⟨by rfl, rfl⟩) T0 ?_
            try simp only [Act.put, List.getElem_toArray, List.getElem_cons_zero, List.getElem_cons_succ, List.setIfInBounds_toArray, List.set_cons_zero, List.set_cons_succ]
            refine wpAnyG_take [25, 26, 27, 28, 29, 30, 31, 32, 33, 34, 35, 36, 37, 38] (i := 25) (v := undef) rfl (by kernel_rfl) (by kernel_rfl) (by kernel_rfl) (by kernel_rfl) (by kernel_rfl) (by kernel_rfl) (by kernel_rfl) (by kernel_rfl) (fun _ _ _ h => h) (Or.inr ⟨by rfl, rfl⟩) T0 ?_
            try simp only [Act.put, List.getElem_toArray, List.getElem_cons_zero, List.getElem_cons_succ, List.setIfInBounds_toArray, List.set_cons_zero, List.set_cons_succ]
            refine wpAnyG_take [26, 27, 28, 29, 30, 31, 32, 33, 34, 35, 36, 37, 38] (i := 26) (v := (.bool true)) rfl (by kernel_rfl) (by kernel_rfl) (by kernel_rfl) (by kernel_rfl) (by kernel_rfl) (by kernel_rfl) (by kernel_rfl) (by kernel_rfl) (fun _ _ _ h => h) (Or.inl ⟨by rfl, ?hy⟩) T0 ?_
            case hy =>
              intro X hX
              go_simp
            try simp only [Act.put, List.getElem_toArray, List.getElem_cons_zero, List.getElem_cons_succ, List.setIfInBounds_toArray, List.set_cons_zero, List.set_cons_succ]
            refine wpAnyG_take [27, 28, 29, 30, 31, 32, 33, 34, 35, 36, 37, 38] (i := 27) (v := (.bool true)) rfl (by kernel_rfl) (by kernel_rfl) (by kernel_rfl) (by kernel_rfl) (by kernel_rfl) (by kernel_rfl) (by kernel_rfl) (by kernel_rfl) (fun _ _ _ h => h) (Or.inl ⟨by rfl, ?hy⟩) T0 ?_
            case hy =>
              intro X hX
              go_simp
            try simp only [Act.put, List.getElem_toArray, List.getElem_cons_zero, List.getElem_cons_succ, List.setIfInBounds_toArray, List.set_cons_zero, List.set_cons_succ]
            refine wpAnyG_take [28, 29, 30, 31, 32, 33, 34, 35, 36, 37, 38] (i := 28) (v := undef) rfl (by kernel_rfl) (by kernel_rfl) (by kernel_rfl) (by kernel_rfl) (by kernel_rfl) (by kernel_rfl) (by kernel_rfl) (by kernel_rfl) (fun _ _ _ h => h) (Or.inr ⟨by rfl, rfl⟩) T0 ?_
            try simp only [Act.put, List.getElem_toArray, List.getElem_cons_zero, List.getElem_cons_succ, List.setIfInBounds_toArray, List.set_cons_zero, List.set_cons_succ]
            refine wpAnyG_take [29, 30, 31, 32, 33, 34, 35, 36, 37, 38] (i := 29) (v := undef) rfl (by kernel_rfl) (by kernel_rfl) (by kernel_rfl) (by kernel_rfl) (by kernel_rfl) (by kernel_rfl) (by kernel_rfl) (by kernel_rfl) (fun _ _ _ h => h) (Or.inr ⟨by rfl, rfl⟩) T0 ?_
            try simp only [Act.put, List.getElem_toArray, List.getElem_cons_zero, List.getElem_cons_succ, List.setIfInBounds_toArray, List.set_cons_zero, List.set_cons_succ]
            refine wpAnyG_take [30, 31, 32, 33, 34, 35, 36, 37, 38] (i := 30) (v := undef) rfl (by kernel_rfl) (by kernel_rfl) (by kernel_rfl) (by kernel_rfl) (by kernel_rfl) (by kernel_rfl) (by kernel_rfl) (by kernel_rfl) (fun _ _ _ h => h) (Or.inr ⟨by rfl, rfl⟩) T0 ?_
            try simp only [Act.put, List.getElem_toArray, List.getElem_cons_zero, List.getElem_cons_succ, List.setIfInBounds_toArray, List.set_cons_zero, List.set_cons_succ]
            refine wpAnyG_take [31, 32, 35, 36, 37, 38] (i := 31) (v := undef) rfl (by kernel_rfl) (by kernel_rfl) (by kernel_rfl) (by kernel_rfl) (by kernel_rfl) (by kernel_rfl) (by kernel_rfl) (by kernel_rfl) (fun _ _ _ h => h) (Or.inr ⟨by rfl, rfl⟩) T0 ?_
            try simp only [Act.put, List.getElem_toArray, List.getElem_cons_zero, List.getElem_cons_succ, List.setIfInBounds_toArray, List.set_cons_zero, List.set_cons_succ]
            refine wpAnyG_take [32, 35, 36, 37, 38] (i := 32) (v := undef) rfl (by kernel_rfl) (by kernel_rfl) (by kernel_rfl) (by kernel_rfl) (by kernel_rfl) (by kernel_rfl) (by kernel_rfl) (by kernel_rfl) (fun _ _ _ h => h) (Or.inr ⟨by rfl, rfl⟩) T0 ?_
            try simp only [Act.put, List.getElem_toArray, List.getElem_cons_zero, List.getElem_cons_succ, List.setIfInBounds_toArray, List.set_cons_zero, List.set_cons_succ]
            refine wpAnyG_take [33, 34, 35, 36, 37, 38] (i := 33) (v := undef) rfl (by kernel_rfl) (by kernel_rfl) (by kernel_rfl) (by kernel_rfl) (by kernel_rfl) (by kernel_rfl) (by kernel_rfl) (by kernel_rfl) (fun _ _ _ h => h) (Or.inr ⟨by rfl, rfl⟩) T0 ?_
            try simp only [Act.put, List.getElem_toArray, List.getElem_cons_zero, List.getElem_cons_succ, List.setIfInBounds_toArray, List.set_cons_zero, List.set_cons_succ]
            refine wpAnyG_take [34, 35, 36, 37, 38] (i := 34) (v := undef) rfl (by kernel_rfl) (by kernel_rfl) (by kernel_rfl) (by kernel_rfl) (by kernel_rfl) (by kernel_rfl) (by kernel_rfl) (by kernel_rfl) (fun _ _ _ h => h) (Or.inr ⟨by rfl, rfl⟩) T0 ?_
            try simp only [Act.put, List.getElem_toArray, List.getElem_cons_zero, List.getElem_cons_succ, List.setIfInBounds_toArray, List.set_cons_zero, List.set_cons_succ]
            refine wpAnyG_take [35, 36, 37, 38] (i := 35) (v := undef) rfl (by kernel_rfl) (by kernel_rfl) (by kernel_rfl) (by kernel_rfl) (by kernel_rfl) (by kernel_rfl) (by kernel_rfl) (by kernel_rfl) (fun _ _ _ h => h) (Or.inr ⟨by rfl, rfl⟩) T0 ?_
            try simp only [Act.put, List.getElem_toArray, List.getElem_cons_zero, List.getElem_cons_succ, List.setIfInBounds_toArray, List.set_cons_zero, List.set_cons_succ]
            refine wpAnyG_take [36, 37, 38] (i := 36) (v := undef) rfl (by kernel_rfl) (by kernel_rfl) (by kernel_rfl) (by kernel_rfl) (by kernel_rfl) (by kernel_rfl) (by kernel_rfl) (by kernel_rfl) (fun _ _ _ h => h) (Or.inr ⟨by rfl, rfl⟩) T0 ?_
            try simp only [Act.put, List.getElem_toArray, List.getElem_cons_zero, List.getElem_cons_succ, List.setIfInBounds_toArray, List.set_cons_zero, List.set_cons_succ]
            refine wpAnyG_take [37, 38] (i := 37) (v := (.bool true)) rfl (by kernel_rfl) (by kernel_rfl) (by kernel_rfl) (by kernel_rfl) (by kernel_rfl) (by kernel_rfl) (by kernel_rfl) (by kernel_rfl) (fun _ _ _ h => h) (Or.inl ⟨by rfl, ?hy⟩) T0 ?_
            case hy =>
              intro X hX
              go_simp
            try simp only [Act.put, List.getElem_toArray, List.getElem_cons_zero, List.getElem_cons_succ, List.setIfInBounds_toArray, List.set_cons_zero, List.set_cons_succ]
            refine wpAnyG_take [38] (i := 38) (v := (.bool true)) rfl (by kernel_rfl) (by kernel_rfl) (by kernel_rfl) (by kernel_rfl) (by kernel_rfl) (by kernel_rfl) (by kernel_rfl) (by kernel_rfl) (fun _ _ _ h => h) (Or.inl ⟨by rfl, ?hy⟩) T0 ?_
            case hy =>
              intro X hX
              go_simp
            try simp only [Act.put, List.getElem_toArray, List.getElem_cons_zero, List.getElem_cons_succ, List.setIfInBounds_toArray, List.set_cons_zero, List.set_cons_succ]
            refine wpAnyG_done (by kernel_rfl) ?_ _
            refine NoPanic.normal ?_
            have HM6 := Lib.hid T0
            clear T0
            obtain ⟨q0, q1, q2, qf⟩ : Y4.cell? ⟨G, 0, none⟩ = some (.int .i64 0) ∧ Y4.cell? ⟨G, 1, none⟩ = some (.string .empty) ∧ Y4.cell? ⟨G, 2, none⟩ = some (.string .empty) ∧ ∀ o, Y4.frozen? ⟨G, o, none⟩ = false := ⟨HG4.out.cell 0, HG4.out.cell 1, HG4.out.cell 2, fun o => HG4.out.frozen o⟩
            go_upto_region 25 with (go_at_call 34; go_must (refine (badD_ok HM6.out.k (p1 + 1)).mono ?_; rintro e w5 ⟨rfl, rfl⟩))
            obtain ⟨W5, hW5⟩ : ∃ Z, (Y4.setCell ⟨w.heap.size, 2, none⟩ (.int .i64 ((p1 : Int) + 1))).setCell ⟨G, 1, none⟩ (.string b) = Z := ⟨_, rfl⟩
            obtain ⟨k, d, pp, p5, z5, hM5, hG5, hST5, hBd, h56⟩ : ∃ (k : Nat) (d pp : ByteArray) (p5 : Nat) (z5 : Int), DrM w s (.slice oo l.length oc) l p5 z5 W5 ∧ Blk W5 G #[.int .i64 (k : Int), .string d, .string pp] 71 ∧ DrS s (l ++ [⟨(k : Int), d, pp⟩]) p5 z5 (F + k + d.size) (T + k + pp.size) ∧ (k < 10995116277780 ∧ d.size ≤ 1048600 ∧ pp.size ≤ 1048600) ∧ (z5 = -1 → p < p5) :=
              ⟨0, b, .empty, (q + 1), ((p1 + 1 : Nat) : Int), (by rw [← hW5]; exact ((by have := HM6.out.bad ((p1 + 1 : Nat) : Int); simpa using this : DrM w s (.slice oo l.length oc) l (q + 1) ((p1 + 1 : Nat) : Int) (Y4.setCell ⟨w.heap.size, 2, none⟩ (.int .i64 ((p1 : Int) + 1)))).put hwG (Blk.other HG4.out (by omega) 2 _) HM2.out.2.2.1 1 _)), (by rw [← hW5]; exact Blk.set (Blk.other HG4.out (by omega) 2 _) 1 _), .inr ⟨p1 + 1, rfl, HBAD.out, by have := HQ.out.2.1; omega⟩, ⟨by omega, HBS.out, Nat.zero_le _⟩, fun h => by omega⟩
            rw [hW5]
            have HM5 := Lib.hid hM5
            have HG5 := Lib.hid hG5
            have HST5 := Lib.hid hST5
            have HBd := Lib.hid hBd
            have H56 := Lib.hid h56
            clear hW5 hM5 hG5 hST5 hBd h56
            obtain ⟨g0, g1, g2, gf⟩ : W5.cell? ⟨G, 0, none⟩ = some (.int .i64 (k : Int)) ∧ W5.cell? ⟨G, 1, none⟩ = some (.string d) ∧ W5.cell? ⟨G, 2, none⟩ = some (.string pp) ∧ ∀ o, W5.frozen? ⟨G, o, none⟩ = false := ⟨HG5.out.cell 0, HG5.out.cell 1, HG5.out.cell 2, fun o => HG5.out.frozen o⟩
            have hkI : (k : Int) ≤ 10995116277780 := by have := HBd.out.1; omega
            have hdI : (d.size : Int) ≤ 1048600 := by have := HBd.out.2.1; omega
            have hppI : (pp.size : Int) ≤ 1048600 := by have := HBd.out.2.2; omega
            have hwn : w.heap.size + 1 ≤ W5.heap.size := HM5.out.n
            go_wp2_with (at_builtin; refine wpList_append_own _ rfl _ _ 25 rfl (w.heap.size + 1) 71 j0 (.agg #[.int .i64 0, .string .empty, .string .empty]) 3 40 Tryd.underlying25 hj hy0 hy1 hy2 rfl (by decide) (.slice oo l.length oc) _ _ rfl (HM5.out.o.alloc _) ⟨W5.heap.size, 0, none⟩ 1 1 [.int .i64 (k : Int), .string d, .string pp] rfl rfl (World.news_of_block (cs := #[.int .i64 (k : Int), .string d, .string pp]) (t := 71) (fr := (0, 0)) (World.alloc_heap_new W5 _)) (fun u hu => by simp at hu; rcases hu with rfl | rfl | rfl <;> rfl) (by unfold maxLen; first | omega | (simp; done) | (simp; omega)) (by first | omega | (simp; done) | (simp; omega)) (by first | omega | (simp; done) | (simp; omega)) ?_; intro v' w7 hown' hgrow _; have H7 := Lib.hid (DrM.app (x := ⟨(k : Int), d, pp⟩) (HM5.out.below ((Below.refl _ _).alloc (Nat.le_refl _) _)) hown' hgrow); clear hown' hgrow)
            go_roundw
            case rel => exact ⟨_, p5, z5, F + k + d.size, T + k + pp.size, by go_num, by go_num, H7.out, HST5.out⟩
            case measure =>
              obtain ⟨x0, x1, x2, xf⟩ := (DdK.start H7.out.k).cells
              rw [x2, x1, KX.out.1, KX.out.2]
              have hst := HST5.out
              have hps := HB.out
              have hpl := HP1.out.2.1
              rcases hst with ⟨rfl, _, h5, h6, _⟩ | ⟨e5, rfl, _⟩
              · have := H56.out rfl
                simp [intOf]; omega
              · simp [intOf]; omega
        subst hD
        have n2 : (u.toList == u.toList) = true := by rw [beq_iff_eq]
        have hq2 : quotedS s (p1 + 1) = (some b, q + 1) := by rw [hqs, if_neg (fun h => h.elim hE (fun h => h rfl))]
        clear hqs hb0 hE
        by_cases hbig : 65536 < F + b.size
        · have hT : quoT s (p1 + 1) F T true = (none, p1 + 1) := by unfold quoT; rw [hq2]; exact if_pos (by simp; omega)
          have hbad : readS s = (none, p1 + 1) := HP1.out.2.2.1 _ (by unfold stS; rw [HC.out, if_neg (by omega), if_pos rfl, hT])
          have HBAD := Lib.hid hbad
          have d1 : (65536 : Int) - (F : Int) < (b.size : Int) := by omega
          clear hbad hT hq2 hbig
          as_aux_lemma =>
            refine wp_region_noPanic ?_
            refine wp_region_g (S := untilG [] (fun X => DrM w s (.slice oo l.length oc) l (q + 1) (-1) X)) (by kernel_rfl) ?_
            obtain ⟨X0, hX0⟩ : ∃ Z, w3.drew = Z := ⟨_, rfl⟩
            have U0 : Below w3.heap.size w3 X0 := hX0 ▸ (Below.refl w3.heap.size w3).drew
            have T0 := HM3.out.below U0
            have HG4 := Lib.hid (Blk.below' HG3.out U0)
            rw [hX0]
            clear hX0 U0
            refine wpAnyG_take [0, 1, 2, 3, 4, 5, 6, 7, 8, 9, 10, 11, 12, 13, 14, 15, 16, 17, 18, 19, 20, 21, 22, 23, 24, 25, 26, 27, 28, 29, 30, 31, 32, 33, 34, 35, 36, 37, 38] (i := 0) (v := (.pointer (some ⟨w.heap.size, 2, none⟩))) rfl (by kernel_rfl) (by kernel_rfl) (by kernel_rfl) (by kernel_rfl) (by kernel_rfl) (by kernel_rfl) (by kernel_rfl) (by kernel_rfl) (fun _ _ _ h => h) (Or.inl ⟨by rfl, ?hy⟩) T0 ?_
            case hy =>
              intro X hX
              go_simp
            try simp only [Act.put, List.getElem_toArray, List.getElem_cons_zero, List.getElem_cons_succ, List.setIfInBounds_toArray, List.set_cons_zero, List.set_cons_succ]
            refine wpAnyG_take [1, 2, 3, 4, 5, 6, 7, 8, 9, 10, 11, 12, 13, 14, 15, 16, 17, 18, 19, 20, 21, 22, 23, 24, 25, 26, 27, 28, 29, 30, 31, 32, 33, 34, 35, 36, 37, 38] (i := 1) (v := (.int .i64 (-1))) rfl (by kernel_rfl) (by kernel_rfl) (by kernel_rfl) (by kernel_rfl) (by kernel_rfl) (by kernel_rfl) (by kernel_rfl) (by kernel_rfl) (fun _ _ _ h => h) (Or.inl ⟨by rfl, ?hy⟩) T0 ?_
            case hy =>
              intro X hX
              obtain ⟨m0, m1, m2, mf⟩ := (DdK.start hX.k).cells
              go_simp
            try simp only [Act.put, List.getElem_toArray, List.getElem_cons_zero, List.getElem_cons_succ, List.setIfInBounds_toArray, List.set_cons_zero, List.set_cons_succ]
            refine wpAnyG_take [2, 3, 4, 5, 6, 7, 8, 9, 10, 11, 12, 13, 14, 15, 16, 17, 18, 19, 20, 21, 22, 23, 24, 25, 26, 27, 28, 29, 30, 31, 32, 33, 34, 35, 36, 37, 38] (i := 2) (v := (.bool true)) rfl (by kernel_rfl) (by kernel_rfl) (by kernel_rfl) (by kernel_rfl) (by kernel_rfl) (by kernel_rfl) (by kernel_rfl) (by kernel_rfl) (fun _ _ _ h => h) (Or.inl ⟨by rfl, ?hy⟩) T0 ?_
            case hy =>
              intro X hX
              go_simp
            try simp only [Act.put, List.getElem_toArray, List.getElem_cons_zero, List.getElem_cons_succ, List.setIfInBounds_toArray, List.set_cons_zero, List.set_cons_succ]
            refine wpAnyG_take [3, 4, 5, 6, 7, 8, 9, 10, 11, 12, 13, 14, 15, 16, 17, 18, 19, 20, 21, 22, 23, 24, 25, 26, 27, 28, 29, 30, 31, 32, 33, 34, 35, 36, 37, 38] (i := 3) (v := (.bool true)) rfl (by kernel_rfl) (by kernel_rfl) (by kernel_rfl) (by kernel_rfl) (by kernel_rfl) (by kernel_rfl) (by kernel_rfl) (by kernel_rfl) (fun _ _ _ h => h) (Or.inl ⟨by rfl, ?hy⟩) T0 ?_
            case hy =>
              intro X hX
              go_simp
            try simp only [Act.put, List.getElem_toArray, List.getElem_cons_zero, List.getElem_cons_succ, List.setIfInBounds_toArray, List.set_cons_zero, List.set_cons_succ]
            refine wpAnyG_take [4, 5, 6, 7, 8, 9, 10, 11, 12, 13, 14, 15, 16, 17, 18, 19, 20, 21, 22, 23, 24, 25, 26, 27, 28, 29, 30, 31, 32, 33, 34, 35, 36, 37, 38] (i := 4) (v := (.string b)) rfl (by kernel_rfl) (by kernel_rfl) (by kernel_rfl) (by kernel_rfl) (by kernel_rfl) (by kernel_rfl) (by kernel_rfl) (by kernel_rfl) (fun _ _ _ h => h) (Or.inl ⟨by rfl, ?hy⟩) T0 ?_
            case hy =>
              intro X hX
              go_simp
            try simp only [Act.put, List.getElem_toArray, List.getElem_cons_zero, List.getElem_cons_succ, List.setIfInBounds_toArray, List.set_cons_zero, List.set_cons_succ]
            refine wpAnyG_take [5, 6, 7, 8, 9, 10, 11, 12, 13, 14, 15, 16, 17, 18, 19, 20, 21, 22, 23, 24, 25, 26, 27, 28, 29, 30, 31, 32, 33, 34, 35, 36, 37, 38] (i := 5) (v := (.bool false)) rfl (by kernel_rfl) (by kernel_rfl) (by kernel_rfl) (by kernel_rfl) (by kernel_rfl) (by kernel_rfl) (by kernel_rfl) (by kernel_rfl) (fun _ _ _ h => h) (Or.inl ⟨by rfl, ?hy⟩) T0 ?_
            case hy =>
              intro X hX
              go_simp
            try simp only [Act.put, List.getElem_toArray, List.getElem_cons_zero, List.getElem_cons_succ, List.setIfInBounds_toArray, List.set_cons_zero, List.set_cons_succ]
            refine wpAnyG_take [6, 7, 8, 9, 10, 11, 12, 13, 14, 15, 16, 17, 18, 19, 20, 21, 22, 23, 24, 25, 26, 27, 28, 29, 30, 31, 32, 33, 34, 35, 36, 37, 38] (i := 6) (v := (.bool false)) rfl (by kernel_rfl) (by kernel_rfl) (by kernel_rfl) (by kernel_rfl) (by kernel_rfl) (by kernel_rfl) (by kernel_rfl) (by kernel_rfl) (fun _ _ _ h => h) (Or.inl ⟨by rfl, ?hy⟩) T0 ?_
            case hy =>
              intro X hX
              go_simp
            try simp only [Act.put, List.getElem_toArray, List.getElem_cons_zero, List.getElem_cons_succ, List.setIfInBounds_toArray, List.set_cons_zero, List.set_cons_succ]
            refine wpAnyG_take [7, 8, 14, 15, 16, 17, 18, 19, 20, 21, 22, 23, 24, 25, 26, 27, 28, 29, 30, 31, 32, 33, 34, 35, 36, 37, 38] (i := 7) (v := (.string b)) rfl (by kernel_rfl) (by kernel_rfl) (by kernel_rfl) (by kernel_rfl) (by kernel_rfl) (by kernel_rfl) (by kernel_rfl) (by kernel_rfl) (fun _ _ _ h => h) (Or.inl ⟨by rfl, ?hy⟩) T0 ?_
            case hy =>
              intro X hX
              go_simp
            try simp only [Act.put, List.getElem_toArray, List.getElem_cons_zero, List.getElem_cons_succ, List.setIfInBounds_toArray, List.set_cons_zero, List.set_cons_succ]
            refine wpAnyG_take [9, 13, 14, 15, 16, 17, 18, 19, 20, 21, 22, 23, 24, 25, 26, 27, 28, 29, 30, 31, 32, 33, 34, 35, 36, 37, 38] (i := 9) (v := (.string s)) rfl (by kernel_rfl) (by kernel_rfl) (by kernel_rfl) (by kernel_rfl) (by kernel_rfl) (by kernel_rfl) (by kernel_rfl) (by kernel_rfl) (fun _ _ _ h => h) (Or.inl ⟨by rfl, ?hy⟩) T0 ?_
            case hy =>
              intro X hX
              go_simp
            try simp only [Act.put, List.getElem_toArray, List.getElem_cons_zero, List.getElem_cons_succ, List.setIfInBounds_toArray, List.set_cons_zero, List.set_cons_succ]
            refine wpAnyG_take [10, 13, 14, 15, 16, 17, 18, 19, 20, 21, 22, 23, 24, 25, 26, 27, 28, 29, 30, 31, 32, 33, 34, 35, 36, 37, 38] (i := 10) (v := (.int .i64 ((p1 : Int) + 1))) rfl (by kernel_rfl) (by kernel_rfl) (by kernel_rfl) (by kernel_rfl) (by kernel_rfl) (by kernel_rfl) (by kernel_rfl) (by kernel_rfl) (fun _ _ _ h => h) (Or.inl ⟨by rfl, ?hy⟩) T0 ?_
            case hy =>
              intro X hX
              go_simp
            try simp only [Act.put, List.getElem_toArray, List.getElem_cons_zero, List.getElem_cons_succ, List.setIfInBounds_toArray, List.set_cons_zero, List.set_cons_succ]
            refine wpAnyG_take [11, 12, 13, 14, 15, 16, 17, 18, 19, 20, 21, 22, 23, 24, 25, 26, 27, 28, 29, 30, 31, 32, 33, 34, 35, 36, 37, 38] (i := 11) (v := (.pointer (some ⟨w.heap.size, 1, none⟩))) rfl (by kernel_rfl) (by kernel_rfl) (by kernel_rfl) (by kernel_rfl) (by kernel_rfl) (by kernel_rfl) (by kernel_rfl) (by kernel_rfl) (fun _ _ _ h => h) (Or.inl ⟨by rfl, ?hy⟩) T0 ?_
            case hy =>
              intro X hX
              go_simp
            try simp only [Act.put, List.getElem_toArray, List.getElem_cons_zero, List.getElem_cons_succ, List.setIfInBounds_toArray, List.set_cons_zero, List.set_cons_succ]
            refine wpAnyG_take [12, 13, 14, 15, 16, 17, 18, 19, 20, 21, 22, 23, 24, 25, 26, 27, 28, 29, 30, 31, 32, 33, 34, 35, 36, 37, 38] (i := 12) (v := (.int .i64 ((q : Int) + 1))) rfl (by kernel_rfl) (by kernel_rfl) (by kernel_rfl) (by kernel_rfl) (by kernel_rfl) (by kernel_rfl) (by kernel_rfl) (by kernel_rfl) (fun _ _ _ h => h) (Or.inl ⟨by rfl, ?hy⟩) T0 ?_
            case hy =>
              intro X hX
              obtain ⟨m0, m1, m2, mf⟩ := (DdK.start hX.k).cells
              simp only [Int.natCast_add, Int.cast_ofNat_Int] at m1
              go_simp
            try simp only [Act.put, List.getElem_toArray, List.getElem_cons_zero, List.getElem_cons_succ, List.setIfInBounds_toArray, List.set_cons_zero, List.set_cons_succ]
            refine wpAnyG_take [13, 14, 15, 16, 17, 18, 19, 20, 21, 22, 23, 24, 25, 26, 27, 28, 29, 30, 31, 32, 33, 34, 35, 36, 37, 38] (i := 13) (v := (.string u)) rfl (by kernel_rfl) (by kernel_rfl) (by kernel_rfl) (by kernel_rfl) (by kernel_rfl) (by kernel_rfl) (by kernel_rfl) (by kernel_rfl) (fun _ _ _ h => h) (Or.inl ⟨by rfl, ?hy⟩) T0 ?_
            case hy =>
              intro X hX
              go_simp
            try simp only [Act.put, List.getElem_toArray, List.getElem_cons_zero, List.getElem_cons_succ, List.setIfInBounds_toArray, List.set_cons_zero, List.set_cons_succ]
            refine wpAnyG_all (rs := [8]) (by kernel_rfl) (by simp) ?_
            intro i hi
            simp only [List.mem_cons, List.not_mem_nil, or_false] at hi
            subst hi
            refine wpOp_open rfl (by rfl) ?_
            go_simp
            refine (cQt _).mono ?_
            intro e Y4 hQ4
            obtain ⟨rfl, hb4⟩ := hQ4.h
            rw [HUV.out.1]
            replace T0 := T0.below hb4
            have HG4 := Lib.hid (Blk.below' HG4.out hb4)
            clear hb4 hQ4
            refine ⟨fun _ => T0, ?_⟩
            try simp only [Act.put, List.getElem_toArray, List.getElem_cons_zero, List.getElem_cons_succ, List.setIfInBounds_toArray, List.set_cons_zero, List.set_cons_succ]
            refine wpAnyG_take [14, 15, 16, 17, 18, 19, 20, 21, 22, 23, 24, 25, 26, 27, 28, 29, 30, 31, 32, 33, 34, 35, 36, 37, 38] (i := 14) (v := (.bool false)) rfl (by kernel_rfl) (by kernel_rfl) (by kernel_rfl) (by kernel_rfl) (by kernel_rfl) (by kernel_rfl) (by kernel_rfl) (by kernel_rfl) (fun _ _ _ h => h) (Or.inl ⟨by rfl, ?hy⟩) T0 ?_
            case hy =>
              intro X hX
              go_simp
            try simp only [Act.put, List.getElem_toArray, List.getElem_cons_zero, List.getElem_cons_succ, List.setIfInBounds_toArray, List.set_cons_zero, List.set_cons_succ]
            refine wpAnyG_take [15, 16, 17, 18, 19, 20, 21, 22, 23, 24, 25, 26, 27, 28, 29, 30, 31, 32, 33, 34, 35, 36, 37, 38] (i := 15) (v := (.bool false)) rfl (by kernel_rfl) (by kernel_rfl) (by kernel_rfl) (by kernel_rfl) (by kernel_rfl) (by kernel_rfl) (by kernel_rfl) (by kernel_rfl) (fun _ _ _ h => h) (Or.inl ⟨by rfl, ?hy⟩) T0 ?_
            case hy =>
              intro X hX
              go_simp
            try simp only [Act.put, List.getElem_toArray, List.getElem_cons_zero, List.getElem_cons_succ, List.setIfInBounds_toArray, List.set_cons_zero, List.set_cons_succ]
            refine wpAnyG_take [16, 17, 18, 19, 20, 21, 22, 23, 24, 25, 26, 27, 28, 29, 30, 31, 32, 33, 34, 35, 36, 37, 38] (i := 16) (v := (.bool false)) rfl (by kernel_rfl) (by kernel_rfl) (by kernel_rfl) (by kernel_rfl) (by kernel_rfl) (by kernel_rfl) (by kernel_rfl) (by kernel_rfl) (fun _ _ _ h => h) (Or.inl ⟨by rfl, ?hy⟩) T0 ?_
            case hy =>
              intro X hX
              go_simp
            try simp only [Act.put, List.getElem_toArray, List.getElem_cons_zero, List.getElem_cons_succ, List.setIfInBounds_toArray, List.set_cons_zero, List.set_cons_succ]
            refine wpAnyG_take [17, 18, 19, 20, 21, 22, 23, 24, 25, 26, 27, 28, 29, 30, 31, 32, 33, 34, 35, 36, 37, 38] (i := 17) (v := (.int .u8 45)) rfl (by kernel_rfl) (by kernel_rfl) (by kernel_rfl) (by kernel_rfl) (by kernel_rfl) (by kernel_rfl) (by kernel_rfl) (by kernel_rfl) (fun _ _ _ h => h) (Or.inl ⟨by rfl, ?hy⟩) T0 ?_
            case hy =>
              intro X hX
              go_simp
            try simp only [Act.put, List.getElem_toArray, List.getElem_cons_zero, List.getElem_cons_succ, List.setIfInBounds_toArray, List.set_cons_zero, List.set_cons_succ]
            refine wpAnyG_take [18, 19, 20, 21, 22, 23, 24, 25, 26, 27, 28, 29, 30, 31, 32, 33, 34, 35, 36, 37, 38] (i := 18) (v := (.bool true)) rfl (by kernel_rfl) (by kernel_rfl) (by kernel_rfl) (by kernel_rfl) (by kernel_rfl) (by kernel_rfl) (by kernel_rfl) (by kernel_rfl) (fun _ _ _ h => h) (Or.inl ⟨by rfl, ?hy⟩) T0 ?_
            case hy =>
              intro X hX
              go_simp
            try simp only [Act.put, List.getElem_toArray, List.getElem_cons_zero, List.getElem_cons_succ, List.setIfInBounds_toArray, List.set_cons_zero, List.set_cons_succ]
            refine wpAnyG_take [19, 20, 21, 22, 23, 24, 25, 26, 27, 28, 29, 30, 31, 32, 33, 34, 35, 36, 37, 38] (i := 19) (v := (.bool true)) rfl (by kernel_rfl) (by kernel_rfl) (by kernel_rfl) (by kernel_rfl) (by kernel_rfl) (by kernel_rfl) (by kernel_rfl) (by kernel_rfl) (fun _ _ _ h => h) (Or.inl ⟨by rfl, ?hy⟩) T0 ?_
            case hy =>
              intro X hX
              go_simp
            try simp only [Act.put, List.getElem_toArray, List.getElem_cons_zero, List.getElem_cons_succ, List.setIfInBounds_toArray, List.set_cons_zero, List.set_cons_succ]
            refine wpAnyG_take [20, 21, 24, 25, 26, 27, 28, 29, 30, 31, 32, 33, 34, 35, 36, 37, 38] (i := 20) (v := (.string b)) rfl (by kernel_rfl) (by kernel_rfl) (by kernel_rfl) (by kernel_rfl) (by kernel_rfl) (by kernel_rfl) (by kernel_rfl) (by kernel_rfl) (fun _ _ _ h => h) (Or.inl ⟨by rfl, ?hy⟩) T0 ?_
            case hy =>
              intro X hX
              go_simp
            try simp only [Act.put, List.getElem_toArray, List.getElem_cons_zero, List.getElem_cons_succ, List.setIfInBounds_toArray, List.set_cons_zero, List.set_cons_succ]
            refine wpAnyG_take [21, 24, 25, 26, 27, 28, 29, 30, 31, 32, 33, 34, 35, 36, 37, 38] (i := 21) (v := (.int .i64 (b.size : Int))) rfl (by kernel_rfl) (by kernel_rfl) (by kernel_rfl) (by kernel_rfl) (by kernel_rfl) (by kernel_rfl) (by kernel_rfl) (by kernel_rfl) (fun _ _ _ h => h) (Or.inl ⟨by rfl, ?hy⟩) T0 ?_
            case hy =>
              intro X hX
              go_simp
            try simp only [Act.put, List.getElem_toArray, List.getElem_cons_zero, List.getElem_cons_succ, List.setIfInBounds_toArray, List.set_cons_zero, List.set_cons_succ]
            refine wpAnyG_take [22, 23, 24, 25, 26, 27, 28, 29, 30, 31, 32, 33, 34, 35, 36, 37, 38] (i := 22) (v := (.int .i64 (F : Int))) rfl (by kernel_rfl) (by kernel_rfl) (by kernel_rfl) (by kernel_rfl) (by kernel_rfl) (by kernel_rfl) (by kernel_rfl) (by kernel_rfl) (fun _ _ _ h => h) (Or.inl ⟨by rfl, ?hy⟩) T0 ?_
            case hy =>
              intro X hX
              go_simp
            try simp only [Act.put, List.getElem_toArray, List.getElem_cons_zero, List.getElem_cons_succ, List.setIfInBounds_toArray, List.set_cons_zero, List.set_cons_succ]
            refine wpAnyG_take [23, 24, 25, 26, 27, 28, 29, 30, 31, 32, 33, 34, 35, 36, 37, 38] (i := 23) (v := (.int .i64 ((65536 : Int) - (F : Int)))) rfl (by kernel_rfl) (by kernel_rfl) (by kernel_rfl) (by kernel_rfl) (by kernel_rfl) (by kernel_rfl) (by kernel_rfl) (by kernel_rfl) (fun _ _ _ h => h) (Or.inl ⟨by rfl, ?hy⟩) T0 ?_
            case hy =>
              intro X hX
              (go_simp; exact IntWalk.i64_in ((65536 : Int) - (F : Int)) (by omega))
            try simp only [Act.put, List.getElem_toArray, List.getElem_cons_zero, List.getElem_cons_succ, List.setIfInBounds_toArray, List.set_cons_zero, List.set_cons_succ]
            refine wpAnyG_take [24, 25, 26, 27, 28, 29, 30, 31, 32, 33, 34, 35, 36, 37, 38] (i := 24) (v := (.bool true)) rfl (by kernel_rfl) (by kernel_rfl) (by kernel_rfl) (by kernel_rfl) (by kernel_rfl) (by kernel_rfl) (by kernel_rfl) (by kernel_rfl) (fun _ _ _ h => h) (Or.inl ⟨by rfl, ?hy⟩) T0 ?_
            case hy =>
              intro X hX
              go_simp
            try simp only [Act.put, List.getElem_toArray, List.getElem_cons_zero, List.getElem_cons_succ, List.setIfInBounds_toArray, List.set_cons_zero, List.set_cons_succ]
            refine wpAnyG_take [25, 26, 27, 28, 29, 30, 31, 32, 33, 34, 35, 36, 37, 38] (i := 25) (v := (.bool true)) rfl (by kernel_rfl) (by kernel_rfl) (by kernel_rfl) (by kernel_rfl) (by kernel_rfl) (by kernel_rfl) (by kernel_rfl) (by kernel_rfl) (fun _ _ _ h => h) (Or.inl ⟨by rfl, ?hy⟩) T0 ?_
            case hy =>
              intro X hX
              go_simp
            try simp only [Act.put, List.getElem_toArray, List.getElem_cons_zero, List.getElem_cons_succ, List.setIfInBounds_toArray, List.set_cons_zero, List.set_cons_succ]
            refine wpAnyG_take [26, 27, 28, 29, 30, 31, 32, 33, 34, 35, 36, 37, 38] (i := 26) (v := (.bool true)) rfl (by kernel_rfl) (by kernel_rfl) (by kernel_rfl) (by kernel_rfl) (by kernel_rfl) (by kernel_rfl) (by kernel_rfl) (by kernel_rfl) (fun _ _ _ h => h) (Or.inl ⟨by rfl, ?hy⟩) T0 ?_
            case hy =>
              intro X hX
              go_simp
            try simp only [Act.put, List.getElem_toArray, List.getElem_cons_zero, List.getElem_cons_succ, List.setIfInBounds_toArray, List.set_cons_zero, List.set_cons_succ]
            refine wpAnyG_take [27, 28, 29, 30, 31, 32, 33, 34, 35, 36, 37, 38] (i := 27) (v := (.bool true)) rfl (by kernel_rfl) (by kernel_rfl) (by kernel_rfl) (by kernel_rfl) (by kernel_rfl) (by kernel_rfl) (by kernel_rfl) (by kernel_rfl) (fun _ _ _ h => h) (Or.inl ⟨by rfl, ?hy⟩) T0 ?_
            case hy =>
              intro X hX
              go_simp
            try simp only [Act.put, List.getElem_toArray, List.getElem_cons_zero, List.getElem_cons_succ, List.setIfInBounds_toArray, List.set_cons_zero, List.set_cons_succ]
            refine wpAnyG_take [28, 29, 30, 31, 32, 33, 34, 35, 36, 37, 38] (i := 28) (v := undef) rfl (by kernel_rfl) (by kernel_rfl) (by kernel_rfl) (by kernel_rfl) (by kernel_rfl) (by kernel_rfl) (by kernel_rfl) (by kernel_rfl) (fun _ _ _ h => h) (Or.inr ⟨by rfl, rfl⟩) T0 ?_
            try simp only [Act.put, List.getElem_toArray, List.getElem_cons_zero, List.getElem_cons_succ, List.setIfInBounds_toArray, List.set_cons_zero, List.set_cons_succ]
            refine wpAnyG_take [29, 30, 31, 32, 33, 34, 35, 36, 37, 38] (i := 29) (v := undef) rfl (by kernel_rfl) (by kernel_rfl) (by kernel_rfl) (by kernel_rfl) (by kernel_rfl) (by kernel_rfl) (by kernel_rfl) (by kernel_rfl) (fun _ _ _ h => h) (Or.inr ⟨by rfl, rfl⟩) T0 ?_
            try simp only [Act.put, List.getElem_toArray, List.getElem_cons_zero, List.getElem_cons_succ, List.setIfInBounds_toArray, List.set_cons_zero, List.set_cons_succ]
            refine wpAnyG_take [30, 31, 32, 33, 34, 35, 36, 37, 38] (i := 30) (v := undef) rfl (by kernel_rfl) (by kernel_rfl) (by kernel_rfl) (by kernel_rfl) (by kernel_rfl) (by kernel_rfl) (by kernel_rfl) (by kernel_rfl) (fun _ _ _ h => h) (Or.inr ⟨by rfl, rfl⟩) T0 ?_
            try simp only [Act.put, List.getElem_toArray, List.getElem_cons_zero, List.getElem_cons_succ, List.setIfInBounds_toArray, List.set_cons_zero, List.set_cons_succ]
            refine wpAnyG_take [31, 32, 35, 36, 37, 38] (i := 31) (v := undef) rfl (by kernel_rfl) (by kernel_rfl) (by kernel_rfl) (by kernel_rfl) (by kernel_rfl) (by kernel_rfl) (by kernel_rfl) (by kernel_rfl) (fun _ _ _ h => h) (Or.inr ⟨by rfl, rfl⟩) T0 ?_
            try simp only [Act.put, List.getElem_toArray, List.getElem_cons_zero, List.getElem_cons_succ, List.setIfInBounds_toArray, List.set_cons_zero, List.set_cons_succ]
            refine wpAnyG_take [32, 35, 36, 37, 38] (i := 32) (v := undef) rfl (by kernel_rfl) (by kernel_rfl) (by kernel_rfl) (by kernel_rfl) (by kernel_rfl) (by kernel_rfl) (by kernel_rfl) (by kernel_rfl) (fun _ _ _ h => h) (Or.inr ⟨by rfl, rfl⟩) T0 ?_
            try simp only [Act.put, List.getElem_toArray, List.getElem_cons_zero, List.getElem_cons_succ, List.setIfInBounds_toArray, List.set_cons_zero, List.set_cons_succ]
            refine wpAnyG_take [33, 34, 35, 36, 37, 38] (i := 33) (v := undef) rfl (by kernel_rfl) (by kernel_rfl) (by kernel_rfl) (by kernel_rfl) (by kernel_rfl) (by kernel_rfl) (by kernel_rfl) (by kernel_rfl) (fun _ _ _ h => h) (Or.inr ⟨by rfl, rfl⟩) T0 ?_
            try simp only [Act.put, List.getElem_toArray, List.getElem_cons_zero, List.getElem_cons_succ, List.setIfInBounds_toArray, List.set_cons_zero, List.set_cons_succ]
            refine wpAnyG_take [34, 35, 36, 37, 38] (i := 34) (v := undef) rfl (by kernel_rfl) (by kernel_rfl) (by kernel_rfl) (by kernel_rfl) (by kernel_rfl) (by kernel_rfl) (by kernel_rfl) (by kernel_rfl) (fun _ _ _ h => h) (Or.inr ⟨by rfl, rfl⟩) T0 ?_
            try simp only [Act.put, List.getElem_toArray, List.getElem_cons_zero, List.getElem_cons_succ, List.setIfInBounds_toArray, List.set_cons_zero, List.set_cons_succ]
            refine wpAnyG_take [35, 36, 37, 38] (i := 35) (v := undef) rfl (by kernel_rfl) (by kernel_rfl) (by kernel_rfl) (by kernel_rfl) (by kernel_rfl) (by kernel_rfl) (by kernel_rfl) (by kernel_rfl) (fun _ _ _ h => h) (Or.inr ⟨by rfl, rfl⟩) T0 ?_
            try simp only [Act.put, List.getElem_toArray, List.getElem_cons_zero, List.getElem_cons_succ, List.setIfInBounds_toArray, List.set_cons_zero, List.set_cons_succ]
            refine wpAnyG_take [36, 37, 38] (i := 36) (v := undef) rfl (by kernel_rfl) (by kernel_rfl) (by kernel_rfl) (by kernel_rfl) (by kernel_rfl) (by kernel_rfl) (by kernel_rfl) (by kernel_rfl) (fun _ _ _ h => h) (Or.inr ⟨by rfl, rfl⟩) T0 ?_
            try simp only [Act.put, List.getElem_toArray, List.getElem_cons_zero, List.getElem_cons_succ, List.setIfInBounds_toArray, List.set_cons_zero, List.set_cons_succ]
            refine wpAnyG_take [37, 38] (i := 37) (v := (.bool true)) rfl (by kernel_rfl) (by kernel_rfl) (by kernel_rfl) (by kernel_rfl) (by kernel_rfl) (by kernel_rfl) (by kernel_rfl) (by kernel_rfl) (fun _ _ _ h => h) (Or.inl ⟨by rfl, ?hy⟩) T0 ?_
            case hy =>
              intro X hX
              go_simp
            try simp only [Act.put, List.getElem_toArray, List.getElem_cons_zero, List.getElem_cons_succ, List.setIfInBounds_toArray, List.set_cons_zero, List.set_cons_succ]
            refine wpAnyG_take [38] (i := 38) (v := (.bool true)) rfl (by kernel_rfl) (by kernel_rfl) (by kernel_rfl) (by kernel_rfl) (by kernel_rfl) (by kernel_rfl) (by kernel_rfl) (by kernel_rfl) (fun _ _ _ h => h) (Or.inl ⟨by rfl, ?hy⟩) T0 ?_
            case hy =>
              intro X hX
              go_simp
            try simp only [Act.put, List.getElem_toArray, List.getElem_cons_zero, List.getElem_cons_succ, List.setIfInBounds_toArray, List.set_cons_zero, List.set_cons_succ]
            refine wpAnyG_done (by kernel_rfl) ?_ _
            refine NoPanic.normal ?_
            have HM6 := Lib.hid T0
            clear T0
            obtain ⟨q0, q1, q2, qf⟩ : Y4.cell? ⟨G, 0, none⟩ = some (.int .i64 0) ∧ Y4.cell? ⟨G, 1, none⟩ = some (.string .empty) ∧ Y4.cell? ⟨G, 2, none⟩ = some (.string .empty) ∧ ∀ o, Y4.frozen? ⟨G, o, none⟩ = false := ⟨HG4.out.cell 0, HG4.out.cell 1, HG4.out.cell 2, fun o => HG4.out.frozen o⟩
            go_upto_region 25 with (go_at_call 34; go_must (refine (badD_ok HM6.out.k (p1 + 1)).mono ?_; rintro e w5 ⟨rfl, rfl⟩))
            obtain ⟨W5, hW5⟩ : ∃ Z, (Y4.setCell ⟨w.heap.size, 2, none⟩ (.int .i64 ((p1 : Int) + 1))).setCell ⟨G, 1, none⟩ (.string b) = Z := ⟨_, rfl⟩
            obtain ⟨k, d, pp, p5, z5, hM5, hG5, hST5, hBd, h56⟩ : ∃ (k : Nat) (d pp : ByteArray) (p5 : Nat) (z5 : Int), DrM w s (.slice oo l.length oc) l p5 z5 W5 ∧ Blk W5 G #[.int .i64 (k : Int), .string d, .string pp] 71 ∧ DrS s (l ++ [⟨(k : Int), d, pp⟩]) p5 z5 (F + k + d.size) (T + k + pp.size) ∧ (k < 10995116277780 ∧ d.size ≤ 1048600 ∧ pp.size ≤ 1048600) ∧ (z5 = -1 → p < p5) :=
              ⟨0, b, .empty, (q + 1), ((p1 + 1 : Nat) : Int), (by rw [← hW5]; exact ((by have := HM6.out.bad ((p1 + 1 : Nat) : Int); simpa using this : DrM w s (.slice oo l.length oc) l (q + 1) ((p1 + 1 : Nat) : Int) (Y4.setCell ⟨w.heap.size, 2, none⟩ (.int .i64 ((p1 : Int) + 1)))).put hwG (Blk.other HG4.out (by omega) 2 _) HM2.out.2.2.1 1 _)), (by rw [← hW5]; exact Blk.set (Blk.other HG4.out (by omega) 2 _) 1 _), .inr ⟨p1 + 1, rfl, HBAD.out, by have := HQ.out.2.1; omega⟩, ⟨by omega, HBS.out, Nat.zero_le _⟩, fun h => by omega⟩
            rw [hW5]
            have HM5 := Lib.hid hM5
            have HG5 := Lib.hid hG5
            have HST5 := Lib.hid hST5
            have HBd := Lib.hid hBd
            have H56 := Lib.hid h56
            clear hW5 hM5 hG5 hST5 hBd h56
            obtain ⟨g0, g1, g2, gf⟩ : W5.cell? ⟨G, 0, none⟩ = some (.int .i64 (k : Int)) ∧ W5.cell? ⟨G, 1, none⟩ = some (.string d) ∧ W5.cell? ⟨G, 2, none⟩ = some (.string pp) ∧ ∀ o, W5.frozen? ⟨G, o, none⟩ = false := ⟨HG5.out.cell 0, HG5.out.cell 1, HG5.out.cell 2, fun o => HG5.out.frozen o⟩
            have hkI : (k : Int) ≤ 10995116277780 := by have := HBd.out.1; omega
            have hdI : (d.size : Int) ≤ 1048600 := by have := HBd.out.2.1; omega
            have hppI : (pp.size : Int) ≤ 1048600 := by have := HBd.out.2.2; omega
            have hwn : w.heap.size + 1 ≤ W5.heap.size := HM5.out.n
            go_wp2_with (at_builtin; refine wpList_append_own _ rfl _ _ 25 rfl (w.heap.size + 1) 71 j0 (.agg #[.int .i64 0, .string .empty, .string .empty]) 3 40 Tryd.underlying25 hj hy0 hy1 hy2 rfl (by decide) (.slice oo l.length oc) _ _ rfl (HM5.out.o.alloc _) ⟨W5.heap.size, 0, none⟩ 1 1 [.int .i64 (k : Int), .string d, .string pp] rfl rfl (World.news_of_block (cs := #[.int .i64 (k : Int), .string d, .string pp]) (t := 71) (fr := (0, 0)) (World.alloc_heap_new W5 _)) (fun u hu => by simp at hu; rcases hu with rfl | rfl | rfl <;> rfl) (by unfold maxLen; first | omega | (simp; done) | (simp; omega)) (by first | omega | (simp; done) | (simp; omega)) (by first | omega | (simp; done) | (simp; omega)) ?_; intro v' w7 hown' hgrow _; have H7 := Lib.hid (DrM.app (x := ⟨(k : Int), d, pp⟩) (HM5.out.below ((Below.refl _ _).alloc (Nat.le_refl _) _)) hown' hgrow); clear hown' hgrow)
            go_roundw
            case rel => exact ⟨_, p5, z5, F + k + d.size, T + k + pp.size, by go_num, by go_num, H7.out, HST5.out⟩
            case measure =>
              obtain ⟨x0, x1, x2, xf⟩ := (DdK.start H7.out.k).cells
              rw [x2, x1, KX.out.1, KX.out.2]
              have hst := HST5.out
              have hps := HB.out
              have hpl := HP1.out.2.1
              rcases hst with ⟨rfl, _, h5, h6, _⟩ | ⟨e5, rfl, _⟩
              · have := H56.out rfl
                simp [intOf]; omega
              · simp [intOf]; omega
        have hT : quoT s (p1 + 1) F T true = (some b, q + 1) := by unfold quoT; rw [hq2]; exact if_neg (by have := HB.out; simp; omega)
        have hst : stS s p1 F T = (some ⟨0, b, .empty⟩, q + 1) := by unfold stS; rw [HC.out, if_neg (by omega), if_pos rfl, hT]
        have HGO := Lib.hid (And.intro (HP1.out.2.2.2 _ _ hst) (And.intro (stS_fits HP1.out.1 HB.out.1 HB.out.2.1 hst) HB.out.2.2.1))
        have d1 : ¬ (65536 : Int) - (F : Int) < (b.size : Int) := by omega
        clear hT hst hq2 hbig
        as_aux_lemma =>
          refine wp_region_noPanic ?_
          refine wp_region_g (S := untilG [] (fun X => DrM w s (.slice oo l.length oc) l (q + 1) (-1) X)) (by kernel_rfl) ?_
          obtain ⟨X0, hX0⟩ : ∃ Z, w3.drew = Z := ⟨_, rfl⟩
          have U0 : Below w3.heap.size w3 X0 := hX0 ▸ (Below.refl w3.heap.size w3).drew
          have T0 := HM3.out.below U0
          have HG4 := Lib.hid (Blk.below' HG3.out U0)
          rw [hX0]
          clear hX0 U0
          refine wpAnyG_take [0, 1, 2, 3, 4, 5, 6, 7, 8, 9, 10, 11, 12, 13, 14, 15, 16, 17, 18, 19, 20, 21, 22, 23, 24, 25, 26, 27, 28, 29, 30, 31, 32, 33, 34, 35, 36, 37, 38] (i := 0) (v := (.pointer (some ⟨w.heap.size, 2, none⟩))) rfl (by kernel_rfl) (by kernel_rfl) (by kernel_rfl) (by kernel_rfl) (by kernel_rfl) (by kernel_rfl) (by kernel_rfl) (by kernel_rfl) (fun _ _ _ h => h) (Or.inl ⟨by rfl, ?hy⟩) T0 ?_
          case hy =>
            intro X hX
            go_simp
          try simp only [Act.put, List.getElem_toArray, List.getElem_cons_zero, List.getElem_cons_succ, List.setIfInBounds_toArray, List.set_cons_zero, List.set_cons_succ]
          refine wpAnyG_take [1, 2, 3, 4, 5, 6, 7, 8, 9, 10, 11, 12, 13, 14, 15, 16, 17, 18, 19, 20, 21, 22, 23, 24, 25, 26, 27, 28, 29, 30, 31, 32, 33, 34, 35, 36, 37, 38] (i := 1) (v := (.int .i64 (-1))) rfl (by kernel_rfl) (by kernel_rfl) (by kernel_rfl) (by kernel_rfl) (by kernel_rfl) (by kernel_rfl) (by kernel_rfl) (by kernel_rfl) (fun _ _ _ h => h) (Or.inl ⟨by rfl, ?hy⟩) T0 ?_
          case hy =>
            intro X hX
            obtain ⟨m0, m1, m2, mf⟩ := (DdK.start hX.k).cells
            go_simp
          try simp only [Act.put, List.getElem_toArray, List.getElem_cons_zero, List.getElem_cons_succ, List.setIfInBounds_toArray, List.set_cons_zero, List.set_cons_succ]
          refine wpAnyG_take [2, 3, 4, 5, 6, 7, 8, 9, 10, 11, 12, 13, 14, 15, 16, 17, 18, 19, 20, 21, 22, 23, 24, 25, 26, 27, 28, 29, 30, 31, 32, 33, 34, 35, 36, 37, 38] (i := 2) (v := (.bool true)) rfl (by kernel_rfl) (by kernel_rfl) (by kernel_rfl) (by kernel_rfl) (by kernel_rfl) (by kernel_rfl) (by kernel_rfl) (by kernel_rfl) (fun _ _ _ h => h) (Or.inl ⟨by rfl, ?hy⟩) T0 ?_
          case hy =>
            intro X hX
            go_simp
          try simp only [Act.put, List.getElem_toArray, List.getElem_cons_zero, List.getElem_cons_succ, List.setIfInBounds_toArray, List.set_cons_zero, List.set_cons_succ]
          refine wpAnyG_take [3, 4, 5, 6, 7, 8, 9, 10, 11, 12, 13, 14, 15, 16, 17, 18, 19, 20, 21, 22, 23, 24, 25, 26, 27, 28, 29, 30, 31, 32, 33, 34, 35, 36, 37, 38] (i := 3) (v := (.bool true)) rfl (by kernel_rfl) (by kernel_rfl) (by kernel_rfl) (by kernel_rfl) (by kernel_rfl) (by kernel_rfl) (by kernel_rfl) (by kernel_rfl) (fun _ _ _ h => h) (Or.inl ⟨by rfl, ?hy⟩) T0 ?_
          case hy =>
            intro X hX
            go_simp
          try simp only [Act.put, List.getElem_toArray, List.getElem_cons_zero, List.getElem_cons_succ, List.setIfInBounds_toArray, List.set_cons_zero, List.set_cons_succ]
          refine wpAnyG_take [4, 5, 6, 7, 8, 9, 10, 11, 12, 13, 14, 15, 16, 17, 18, 19, 20, 21, 22, 23, 24, 25, 26, 27, 28, 29, 30, 31, 32, 33, 34, 35, 36, 37, 38] (i := 4) (v := (.string b)) rfl (by kernel_rfl) (by kernel_rfl) (by kernel_rfl) (by kernel_rfl) (by kernel_rfl) (by kernel_rfl) (by kernel_rfl) (by kernel_rfl) (fun _ _ _ h => h) (Or.inl ⟨by rfl, ?hy⟩) T0 ?_
          case hy =>
            intro X hX
            go_simp
          try simp only [Act.put, List.getElem_toArray, List.getElem_cons_zero, List.getElem_cons_succ, List.setIfInBounds_toArray, List.set_cons_zero, List.set_cons_succ]
          refine wpAnyG_take [5, 6, 7, 8, 9, 10, 11, 12, 13, 14, 15, 16, 17, 18, 19, 20, 21, 22, 23, 24, 25, 26, 27, 28, 29, 30, 31, 32, 33, 34, 35, 36, 37, 38] (i := 5) (v := (.bool false)) rfl (by kernel_rfl) (by kernel_rfl) (by kernel_rfl) (by kernel_rfl) (by kernel_rfl) (by kernel_rfl) (by kernel_rfl) (by kernel_rfl) (fun _ _ _ h => h) (Or.inl ⟨by rfl, ?hy⟩) T0 ?_
          case hy =>
            intro X hX
            go_simp
          try simp only [Act.put, List.getElem_toArray, List.getElem_cons_zero, List.getElem_cons_succ, List.setIfInBounds_toArray, List.set_cons_zero, List.set_cons_succ]
          refine wpAnyG_take [6, 7, 8, 9, 10, 11, 12, 13, 14, 15, 16, 17, 18, 19, 20, 21, 22, 23, 24, 25, 26, 27, 28, 29, 30, 31, 32, 33, 34, 35, 36, 37, 38] (i := 6) (v := (.bool false)) rfl (by kernel_rfl) (by kernel_rfl) (by kernel_rfl) (by kernel_rfl) (by kernel_rfl) (by kernel_rfl) (by kernel_rfl) (by kernel_rfl) (fun _ _ _ h => h) (Or.inl ⟨by rfl, ?hy⟩) T0 ?_
          case hy =>
            intro X hX
            go_simp
          try simp only [Act.put, List.getElem_toArray, List.getElem_cons_zero, List.getElem_cons_succ, List.setIfInBounds_toArray, List.set_cons_zero, List.set_cons_succ]
          refine wpAnyG_take [7, 8, 14, 15, 16, 17, 18, 19, 20, 21, 22, 23, 24, 25, 26, 27, 28, 29, 30, 31, 32, 33, 34, 35, 36, 37, 38] (i := 7) (v := (.string b)) rfl (by kernel_rfl) (by kernel_rfl) (by kernel_rfl) (by kernel_rfl) (by kernel_rfl) (by kernel_rfl) (by kernel_rfl) (by kernel_rfl) (fun _ _ _ h => h) (Or.inl ⟨by rfl, ?hy⟩) T0 ?_
          case hy =>
            intro X hX
            go_simp
          try simp only [Act.put, List.getElem_toArray, List.getElem_cons_zero, List.getElem_cons_succ, List.setIfInBounds_toArray, List.set_cons_zero, List.set_cons_succ]
          refine wpAnyG_take [9, 13, 14, 15, 16, 17, 18, 19, 20, 21, 22, 23, 24, 25, 26, 27, 28, 29, 30, 31, 32, 33, 34, 35, 36, 37, 38] (i := 9) (v := (.string s)) rfl (by kernel_rfl) (by kernel_rfl) (by kernel_rfl) (by kernel_rfl) (by kernel_rfl) (by kernel_rfl) (by kernel_rfl) (by kernel_rfl) (fun _ _ _ h => h) (Or.inl ⟨by rfl, ?hy⟩) T0 ?_
          case hy =>
            intro X hX
            go_simp
          try simp only [Act.put, List.getElem_toArray, List.getElem_cons_zero, List.getElem_cons_succ, List.setIfInBounds_toArray, List.set_cons_zero, List.set_cons_succ]
          refine wpAnyG_take [10, 13, 14, 15, 16, 17, 18, 19, 20, 21, 22, 23, 24, 25, 26, 27, 28, 29, 30, 31, 32, 33, 34, 35, 36, 37, 38] (i := 10) (v := (.int .i64 ((p1 : Int) + 1))) rfl (by kernel_rfl) (by kernel_rfl) (by kernel_rfl) (by kernel_rfl) (by kernel_rfl) (by kernel_rfl) (by kernel_rfl) (by kernel_rfl) (fun _ _ _ h => h) (Or.inl ⟨by rfl, ?hy⟩) T0 ?_
          case hy =>
            intro X hX
            go_simp
          try simp only [Act.put, List.getElem_toArray, List.getElem_cons_zero, List.getElem_cons_succ, List.setIfInBounds_toArray, List.set_cons_zero, List.set_cons_succ]
          refine wpAnyG_take [11, 12, 13, 14, 15, 16, 17, 18, 19, 20, 21, 22, 23, 24, 25, 26, 27, 28, 29, 30, 31, 32, 33, 34, 35, 36, 37, 38] (i := 11) (v := (.pointer (some ⟨w.heap.size, 1, none⟩))) rfl (by kernel_rfl) (by kernel_rfl) (by kernel_rfl) (by kernel_rfl) (by kernel_rfl) (by kernel_rfl) (by kernel_rfl) (by kernel_rfl) (fun _ _ _ h => h) (Or.inl ⟨by rfl, ?hy⟩) T0 ?_
          case hy =>
            intro X hX
            go_simp
          try simp only [Act.put, List.getElem_toArray, List.getElem_cons_zero, List.getElem_cons_succ, List.setIfInBounds_toArray, List.set_cons_zero, List.set_cons_succ]
          refine wpAnyG_take [12, 13, 14, 15, 16, 17, 18, 19, 20, 21, 22, 23, 24, 25, 26, 27, 28, 29, 30, 31, 32, 33, 34, 35, 36, 37, 38] (i := 12) (v := (.int .i64 ((q : Int) + 1))) rfl (by kernel_rfl) (by kernel_rfl) (by kernel_rfl) (by kernel_rfl) (by kernel_rfl) (by kernel_rfl) (by kernel_rfl) (by kernel_rfl) (fun _ _ _ h => h) (Or.inl ⟨by rfl, ?hy⟩) T0 ?_
          case hy =>
            intro X hX
            obtain ⟨m0, m1, m2, mf⟩ := (DdK.start hX.k).cells
            simp only [Int.natCast_add, Int.cast_ofNat_Int] at m1
            go_simp
          try simp only [Act.put, List.getElem_toArray, List.getElem_cons_zero, List.getElem_cons_succ, List.setIfInBounds_toArray, List.set_cons_zero, List.set_cons_succ]
          refine wpAnyG_take [13, 14, 15, 16, 17, 18, 19, 20, 21, 22, 23, 24, 25, 26, 27, 28, 29, 30, 31, 32, 33, 34, 35, 36, 37, 38] (i := 13) (v := (.string u)) rfl (by kernel_rfl) (by kernel_rfl) (by kernel_rfl) (by kernel_rfl) (by kernel_rfl) (by kernel_rfl) (by kernel_rfl) (by kernel_rfl) (fun _ _ _ h => h) (Or.inl ⟨by rfl, ?hy⟩) T0 ?_
          case hy =>
            intro X hX
            go_simp
          try simp only [Act.put, List.getElem_toArray, List.getElem_cons_zero, List.getElem_cons_succ, List.setIfInBounds_toArray, List.set_cons_zero, List.set_cons_succ]
          refine wpAnyG_all (rs := [8]) (by kernel_rfl) (by simp) ?_
          intro i hi
          simp only [List.mem_cons, List.not_mem_nil, or_false] at hi
          subst hi
          refine wpOp_open rfl (by rfl) ?_
          go_simp
          refine (cQt _).mono ?_
          intro e Y4 hQ4
          obtain ⟨rfl, hb4⟩ := hQ4.h
          rw [HUV.out.1]
          replace T0 := T0.below hb4
          have HG4 := Lib.hid (Blk.below' HG4.out hb4)
          clear hb4 hQ4
          refine ⟨fun _ => T0, ?_⟩
          try simp only [Act.put, List.getElem_toArray, List.getElem_cons_zero, List.getElem_cons_succ, List.setIfInBounds_toArray, List.set_cons_zero, List.set_cons_succ]
          refine wpAnyG_take [14, 15, 16, 17, 18, 19, 20, 21, 22, 23, 24, 25, 26, 27, 28, 29, 30, 31, 32, 33, 34, 35, 36, 37, 38] (i := 14) (v := (.bool false)) rfl (by kernel_rfl) (by kernel_rfl) (by kernel_rfl) (by kernel_rfl) (by kernel_rfl) (by kernel_rfl) (by kernel_rfl) (by kernel_rfl) (fun _ _ _ h => h) (Or.inl ⟨by rfl, ?hy⟩) T0 ?_
          case hy =>
            intro X hX
            go_simp
          try simp only [Act.put, List.getElem_toArray, List.getElem_cons_zero, List.getElem_cons_succ, List.setIfInBounds_toArray, List.set_cons_zero, List.set_cons_succ]
          refine wpAnyG_take [15, 16, 17, 18, 19, 20, 21, 22, 23, 24, 25, 26, 27, 28, 29, 30, 31, 32, 33, 34, 35, 36, 37, 38] (i := 15) (v := (.bool false)) rfl (by kernel_rfl) (by kernel_rfl) (by kernel_rfl) (by kernel_rfl) (by kernel_rfl) (by kernel_rfl) (by kernel_rfl) (by kernel_rfl) (fun _ _ _ h => h) (Or.inl ⟨by rfl, ?hy⟩) T0 ?_
          case hy =>
            intro X hX
            go_simp
          try simp only [Act.put, List.getElem_toArray, List.getElem_cons_zero, List.getElem_cons_succ, List.setIfInBounds_toArray, List.set_cons_zero, List.set_cons_succ]
          refine wpAnyG_take [16, 17, 18, 19, 20, 21, 22, 23, 24, 25, 26, 27, 28, 29, 30, 31, 32, 33, 34, 35, 36, 37, 38] (i := 16) (v := (.bool false)) rfl (by kernel_rfl) (by kernel_rfl) (by kernel_rfl) (by kernel_rfl) (by kernel_rfl) (by kernel_rfl) (by kernel_rfl) (by kernel_rfl) (fun _ _ _ h => h) (Or.inl ⟨by rfl, ?hy⟩) T0 ?_
          case hy =>
            intro X hX
            go_simp
          try simp only [Act.put, List.getElem_toArray, List.getElem_cons_zero, List.getElem_cons_succ, List.setIfInBounds_toArray, List.set_cons_zero, List.set_cons_succ]
          refine wpAnyG_take [17, 18, 19, 20, 21, 22, 23, 24, 25, 26, 27, 28, 29, 30, 31, 32, 33, 34, 35, 36, 37, 38] (i := 17) (v := (.int .u8 45)) rfl (by kernel_rfl) (by kernel_rfl) (by kernel_rfl) (by kernel_rfl) (by kernel_rfl) (by kernel_rfl) (by kernel_rfl) (by kernel_rfl) (fun _ _ _ h => h) (Or.inl ⟨by rfl, ?hy⟩) T0 ?_
          case hy =>
            intro X hX
            go_simp
          try simp only [Act.put, List.getElem_toArray, List.getElem_cons_zero, List.getElem_cons_succ, List.setIfInBounds_toArray, List.set_cons_zero, List.set_cons_succ]
          refine wpAnyG_take [18, 19, 20, 21, 22, 23, 24, 25, 26, 27, 28, 29, 30, 31, 32, 33, 34, 35, 36, 37, 38] (i := 18) (v := (.bool true)) rfl (by kernel_rfl) (by kernel_rfl) (by kernel_rfl) (by kernel_rfl) (by kernel_rfl) (by kernel_rfl) (by kernel_rfl) (by kernel_rfl) (fun _ _ _ h => h) (Or.inl ⟨by rfl, ?hy⟩) T0 ?_
          case hy =>
            intro X hX
            go_simp
          try simp only [Act.put, List.getElem_toArray, List.getElem_cons_zero, List.getElem_cons_succ, List.setIfInBounds_toArray, List.set_cons_zero, List.set_cons_succ]
          refine wpAnyG_take [19, 20, 21, 22, 23, 24, 25, 26, 27, 28, 29, 30, 31, 32, 33, 34, 35, 36, 37, 38] (i := 19) (v := (.bool true)) rfl (by kernel_rfl) (by kernel_rfl) (by kernel_rfl) (by kernel_rfl) (by kernel_rfl) (by kernel_rfl) (by kernel_rfl) (by kernel_rfl) (fun _ _ _ h => h) (Or.inl ⟨by rfl, ?hy⟩) T0 ?_
          case hy =>
            intro X hX
            go_simp
          try simp only [Act.put, List.getElem_toArray, List.getElem_cons_zero, List.getElem_cons_succ, List.setIfInBounds_toArray, List.set_cons_zero, List.set_cons_succ]
          refine wpAnyG_take [20, 21, 24, 25, 26, 27, 28, 29, 30, 31, 32, 33, 34, 35, 36, 37, 38] (i := 20) (v := (.string b)) rfl (by kernel_rfl) (by kernel_rfl) (by kernel_rfl) (by kernel_rfl) (by kernel_rfl) (by kernel_rfl) (by kernel_rfl) (by kernel_rfl) (fun _ _ _ h => h) (Or.inl ⟨by rfl, ?hy⟩) T0 ?_
          case hy =>
            intro X hX
            go_simp
          try simp only [Act.put, List.getElem_toArray, List.getElem_cons_zero, List.getElem_cons_succ, List.setIfInBounds_toArray, List.set_cons_zero, List.set_cons_succ]
          refine wpAnyG_take [21, 24, 25, 26, 27, 28, 29, 30, 31, 32, 33, 34, 35, 36, 37, 38] (i := 21) (v := (.int .i64 (b.size : Int))) rfl (by kernel_rfl) (by kernel_rfl) (by kernel_rfl) (by kernel_rfl) (by kernel_rfl) (by kernel_rfl) (by kernel_rfl) (by kernel_rfl) (fun _ _ _ h => h) (Or.inl ⟨by rfl, ?hy⟩) T0 ?_
          case hy =>
            intro X hX
            go_simp
          try simp only [Act.put, List.getElem_toArray, List.getElem_cons_zero, List.getElem_cons_succ, List.setIfInBounds_toArray, List.set_cons_zero, List.set_cons_succ]
          refine wpAnyG_take [22, 23, 24, 25, 26, 27, 28, 29, 30, 31, 32, 33, 34, 35, 36, 37, 38] (i := 22) (v := (.int .i64 (F : Int))) rfl (by kernel_rfl) (by kernel_rfl) (by kernel_rfl) (by kernel_rfl) (by kernel_rfl) (by kernel_rfl) (by kernel_rfl) (by kernel_rfl) (fun _ _ _ h => h) (Or.inl ⟨by rfl, ?hy⟩) T0 ?_
          case hy =>
            intro X hX
            go_simp
          try simp only [Act.put, List.getElem_toArray, List.getElem_cons_zero, List.getElem_cons_succ, List.setIfInBounds_toArray, List.set_cons_zero, List.set_cons_succ]
          refine wpAnyG_take [23, 24, 25, 26, 27, 28, 29, 30, 31, 32, 33, 34, 35, 36, 37, 38] (i := 23) (v := (.int .i64 ((65536 : Int) - (F : Int)))) rfl (by kernel_rfl) (by kernel_rfl) (by kernel_rfl) (by kernel_rfl) (by kernel_rfl) (by kernel_rfl) (by kernel_rfl) (by kernel_rfl) (fun _ _ _ h => h) (Or.inl ⟨by rfl, ?hy⟩) T0 ?_
          case hy =>
            intro X hX
            (go_simp; exact IntWalk.i64_in ((65536 : Int) - (F : Int)) (by omega))
          try simp only [Act.put, List.getElem_toArray, List.getElem_cons_zero, List.getElem_cons_succ, List.setIfInBounds_toArray, List.set_cons_zero, List.set_cons_succ]
          refine wpAnyG_take [24, 25, 26, 27, 28, 29, 30, 31, 32, 33, 34, 35, 36, 37, 38] (i := 24) (v := (.bool false)) rfl (by kernel_rfl) (by kernel_rfl) (by kernel_rfl) (by kernel_rfl) (by kernel_rfl) (by kernel_rfl) (by kernel_rfl) (by kernel_rfl) (fun _ _ _ h => h) (Or.inl ⟨by rfl, ?hy⟩) T0 ?_
          case hy =>
            intro X hX
            go_simp
          try simp only [Act.put, List.getElem_toArray, List.getElem_cons_zero, List.getElem_cons_succ, List.setIfInBounds_toArray, List.set_cons_zero, List.set_cons_succ]
          refine wpAnyG_take [25, 26, 27, 28, 29, 30, 31, 32, 33, 34, 35, 36, 37, 38] (i := 25) (v := (.bool false)) rfl (by kernel_rfl) (by kernel_rfl) (by kernel_rfl) (by kernel_rfl) (by kernel_rfl) (by kernel_rfl) (by kernel_rfl) (by kernel_rfl) (fun _ _ _ h => h) (Or.inl ⟨by rfl, ?hy⟩) T0 ?_
          case hy =>
            intro X hX
            go_simp
          try simp only [Act.put, List.getElem_toArray, List.getElem_cons_zero, List.getElem_cons_succ, List.setIfInBounds_toArray, List.set_cons_zero, List.set_cons_succ]
          refine wpAnyG_take [26, 27, 28, 29, 30, 31, 32, 33, 34, 35, 36, 37, 38] (i := 26) (v := (.bool false)) rfl (by kernel_rfl) (by kernel_rfl) (by kernel_rfl) (by kernel_rfl) (by kernel_rfl) (by kernel_rfl) (by kernel_rfl) (by kernel_rfl) (fun _ _ _ h => h) (Or.inl ⟨by rfl, ?hy⟩) T0 ?_
          case hy =>
            intro X hX
            go_simp
          try simp only [Act.put, List.getElem_toArray, List.getElem_cons_zero, List.getElem_cons_succ, List.setIfInBounds_toArray, List.set_cons_zero, List.set_cons_succ]
          refine wpAnyG_take [27, 28, 29, 30, 31, 32, 33, 34, 35, 36, 37, 38] (i := 27) (v := (.bool false)) rfl (by kernel_rfl) (by kernel_rfl) (by kernel_rfl) (by kernel_rfl) (by kernel_rfl) (by kernel_rfl) (by kernel_rfl) (by kernel_rfl) (fun _ _ _ h => h) (Or.inl ⟨by rfl, ?hy⟩) T0 ?_
          case hy =>
            intro X hX
            go_simp
          try simp only [Act.put, List.getElem_toArray, List.getElem_cons_zero, List.getElem_cons_succ, List.setIfInBounds_toArray, List.set_cons_zero, List.set_cons_succ]
          refine wpAnyG_take [28, 29, 30, 31, 32, 33, 34, 35, 36, 37, 38] (i := 28) (v := (.int .u8 45)) rfl (by kernel_rfl) (by kernel_rfl) (by kernel_rfl) (by kernel_rfl) (by kernel_rfl) (by kernel_rfl) (by kernel_rfl) (by kernel_rfl) (fun _ _ _ h => h) (Or.inl ⟨by rfl, ?hy⟩) T0 ?_
          case hy =>
            intro X hX
            go_simp
          try simp only [Act.put, List.getElem_toArray, List.getElem_cons_zero, List.getElem_cons_succ, List.setIfInBounds_toArray, List.set_cons_zero, List.set_cons_succ]
          refine wpAnyG_take [29, 30, 31, 32, 33, 34, 35, 36, 37, 38] (i := 29) (v := (.bool false)) rfl (by kernel_rfl) (by kernel_rfl) (by kernel_rfl) (by kernel_rfl) (by kernel_rfl) (by kernel_rfl) (by kernel_rfl) (by kernel_rfl) (fun _ _ _ h => h) (Or.inl ⟨by rfl, ?hy⟩) T0 ?_
          case hy =>
            intro X hX
            go_simp
          try simp only [Act.put, List.getElem_toArray, List.getElem_cons_zero, List.getElem_cons_succ, List.setIfInBounds_toArray, List.set_cons_zero, List.set_cons_succ]
          refine wpAnyG_take [30, 31, 32, 33, 34, 35, 36, 37, 38] (i := 30) (v := (.bool false)) rfl (by kernel_rfl) (by kernel_rfl) (by kernel_rfl) (by kernel_rfl) (by kernel_rfl) (by kernel_rfl) (by kernel_rfl) (by kernel_rfl) (fun _ _ _ h => h) (Or.inl ⟨by rfl, ?hy⟩) T0 ?_
          case hy =>
            intro X hX
            go_simp
          try simp only [Act.put, List.getElem_toArray, List.getElem_cons_zero, List.getElem_cons_succ, List.setIfInBounds_toArray, List.set_cons_zero, List.set_cons_succ]
          refine wpAnyG_take [31, 32, 35, 36, 37, 38] (i := 31) (v := undef) rfl (by kernel_rfl) (by kernel_rfl) (by kernel_rfl) (by kernel_rfl) (by kernel_rfl) (by kernel_rfl) (by kernel_rfl) (by kernel_rfl) (fun _ _ _ h => h) (Or.inr ⟨by rfl, rfl⟩) T0 ?_
          try simp only [Act.put, List.getElem_toArray, List.getElem_cons_zero, List.getElem_cons_succ, List.setIfInBounds_toArray, List.set_cons_zero, List.set_cons_succ]
          refine wpAnyG_take [32, 35, 36, 37, 38] (i := 32) (v := undef) rfl (by kernel_rfl) (by kernel_rfl) (by kernel_rfl) (by kernel_rfl) (by kernel_rfl) (by kernel_rfl) (by kernel_rfl) (by kernel_rfl) (fun _ _ _ h => h) (Or.inr ⟨by rfl, rfl⟩) T0 ?_
          try simp only [Act.put, List.getElem_toArray, List.getElem_cons_zero, List.getElem_cons_succ, List.setIfInBounds_toArray, List.set_cons_zero, List.set_cons_succ]
          refine wpAnyG_take [33, 34, 35, 36, 37, 38] (i := 33) (v := undef) rfl (by kernel_rfl) (by kernel_rfl) (by kernel_rfl) (by kernel_rfl) (by kernel_rfl) (by kernel_rfl) (by kernel_rfl) (by kernel_rfl) (fun _ _ _ h => h) (Or.inr ⟨by rfl, rfl⟩) T0 ?_
          try simp only [Act.put, List.getElem_toArray, List.getElem_cons_zero, List.getElem_cons_succ, List.setIfInBounds_toArray, List.set_cons_zero, List.set_cons_succ]
          refine wpAnyG_take [34, 35, 36, 37, 38] (i := 34) (v := undef) rfl (by kernel_rfl) (by kernel_rfl) (by kernel_rfl) (by kernel_rfl) (by kernel_rfl) (by kernel_rfl) (by kernel_rfl) (by kernel_rfl) (fun _ _ _ h => h) (Or.inr ⟨by rfl, rfl⟩) T0 ?_
          try simp only [Act.put, List.getElem_toArray, List.getElem_cons_zero, List.getElem_cons_succ, List.setIfInBounds_toArray, List.set_cons_zero, List.set_cons_succ]
          refine wpAnyG_take [35, 36, 37, 38] (i := 35) (v := undef) rfl (by kernel_rfl) (by kernel_rfl) (by kernel_rfl) (by kernel_rfl) (by kernel_rfl) (by kernel_rfl) (by kernel_rfl) (by kernel_rfl) (fun _ _ _ h => h) (Or.inr ⟨by rfl, rfl⟩) T0 ?_
          try simp only [Act.put, List.getElem_toArray, List.getElem_cons_zero, List.getElem_cons_succ, List.setIfInBounds_toArray, List.set_cons_zero, List.set_cons_succ]
          refine wpAnyG_take [36, 37, 38] (i := 36) (v := (.bool false)) rfl (by kernel_rfl) (by kernel_rfl) (by kernel_rfl) (by kernel_rfl) (by kernel_rfl) (by kernel_rfl) (by kernel_rfl) (by kernel_rfl) (fun _ _ _ h => h) (Or.inl ⟨by rfl, ?hy⟩) T0 ?_
          case hy =>
            intro X hX
            go_simp
          try simp only [Act.put, List.getElem_toArray, List.getElem_cons_zero, List.getElem_cons_succ, List.setIfInBounds_toArray, List.set_cons_zero, List.set_cons_succ]
          refine wpAnyG_take [37, 38] (i := 37) (v := (.bool false)) rfl (by kernel_rfl) (by kernel_rfl) (by kernel_rfl) (by kernel_rfl) (by kernel_rfl) (by kernel_rfl) (by kernel_rfl) (by kernel_rfl) (fun _ _ _ h => h) (Or.inl ⟨by rfl, ?hy⟩) T0 ?_
          case hy =>
            intro X hX
            go_simp
          try simp only [Act.put, List.getElem_toArray, List.getElem_cons_zero, List.getElem_cons_succ, List.setIfInBounds_toArray, List.set_cons_zero, List.set_cons_succ]
          refine wpAnyG_take [38] (i := 38) (v := (.bool false)) rfl (by kernel_rfl) (by kernel_rfl) (by kernel_rfl) (by kernel_rfl) (by kernel_rfl) (by kernel_rfl) (by kernel_rfl) (by kernel_rfl) (fun _ _ _ h => h) (Or.inl ⟨by rfl, ?hy⟩) T0 ?_
          case hy =>
            intro X hX
            go_simp
          try simp only [Act.put, List.getElem_toArray, List.getElem_cons_zero, List.getElem_cons_succ, List.setIfInBounds_toArray, List.set_cons_zero, List.set_cons_succ]
          refine wpAnyG_done (by kernel_rfl) ?_ _
          refine NoPanic.normal ?_
          have HM6 := Lib.hid T0
          clear T0
          obtain ⟨q0, q1, q2, qf⟩ : Y4.cell? ⟨G, 0, none⟩ = some (.int .i64 0) ∧ Y4.cell? ⟨G, 1, none⟩ = some (.string .empty) ∧ Y4.cell? ⟨G, 2, none⟩ = some (.string .empty) ∧ ∀ o, Y4.frozen? ⟨G, o, none⟩ = false := ⟨HG4.out.cell 0, HG4.out.cell 1, HG4.out.cell 2, fun o => HG4.out.frozen o⟩
          go_upto_region 25 with (fail)
          obtain ⟨W5, hW5⟩ : ∃ Z, Y4.setCell ⟨G, 1, none⟩ (.string b) = Z := ⟨_, rfl⟩
          obtain ⟨k, d, pp, p5, z5, hM5, hG5, hST5, hBd, h56⟩ : ∃ (k : Nat) (d pp : ByteArray) (p5 : Nat) (z5 : Int), DrM w s (.slice oo l.length oc) l p5 z5 W5 ∧ Blk W5 G #[.int .i64 (k : Int), .string d, .string pp] 71 ∧ DrS s (l ++ [⟨(k : Int), d, pp⟩]) p5 z5 (F + k + d.size) (T + k + pp.size) ∧ (k < 10995116277780 ∧ d.size ≤ 1048600 ∧ pp.size ≤ 1048600) ∧ (z5 = -1 → p < p5) :=
            ⟨0, b, .empty, (q + 1), (-1), (by rw [← hW5]; exact HM6.out.put hwG HG4.out HM2.out.2.2.1 1 _), (by rw [← hW5]; exact Blk.set HG4.out 1 _), .inl ⟨rfl, HGO.out.1, HGO.out.2.1.2.2.2, by rw [List.length_append]; have := HGO.out; have := HP1.out.2.1; simp; omega, HGO.out.2.1.1, HGO.out.2.1.2.1⟩, ⟨by omega, HBS.out, Nat.zero_le _⟩, fun _ => by have := HGO.out; have := HP1.out.2.1; omega⟩
          rw [hW5]
          have HM5 := Lib.hid hM5
          have HG5 := Lib.hid hG5
          have HST5 := Lib.hid hST5
          have HBd := Lib.hid hBd
          have H56 := Lib.hid h56
          clear hW5 hM5 hG5 hST5 hBd h56
          obtain ⟨g0, g1, g2, gf⟩ : W5.cell? ⟨G, 0, none⟩ = some (.int .i64 (k : Int)) ∧ W5.cell? ⟨G, 1, none⟩ = some (.string d) ∧ W5.cell? ⟨G, 2, none⟩ = some (.string pp) ∧ ∀ o, W5.frozen? ⟨G, o, none⟩ = false := ⟨HG5.out.cell 0, HG5.out.cell 1, HG5.out.cell 2, fun o => HG5.out.frozen o⟩
          have hkI : (k : Int) ≤ 10995116277780 := by have := HBd.out.1; omega
          have hdI : (d.size : Int) ≤ 1048600 := by have := HBd.out.2.1; omega
          have hppI : (pp.size : Int) ≤ 1048600 := by have := HBd.out.2.2; omega
          have hwn : w.heap.size + 1 ≤ W5.heap.size := HM5.out.n
          go_wp2_with (at_builtin; refine wpList_append_own _ rfl _ _ 25 rfl (w.heap.size + 1) 71 j0 (.agg #[.int .i64 0, .string .empty, .string .empty]) 3 40 Tryd.underlying25 hj hy0 hy1 hy2 rfl (by decide) (.slice oo l.length oc) _ _ rfl (HM5.out.o.alloc _) ⟨W5.heap.size, 0, none⟩ 1 1 [.int .i64 (k : Int), .string d, .string pp] rfl rfl (World.news_of_block (cs := #[.int .i64 (k : Int), .string d, .string pp]) (t := 71) (fr := (0, 0)) (World.alloc_heap_new W5 _)) (fun u hu => by simp at hu; rcases hu with rfl | rfl | rfl <;> rfl) (by unfold maxLen; first | omega | (simp; done) | (simp; omega)) (by first | omega | (simp; done) | (simp; omega)) (by first | omega | (simp; done) | (simp; omega)) ?_; intro v' w7 hown' hgrow _; have H7 := Lib.hid (DrM.app (x := ⟨(k : Int), d, pp⟩) (HM5.out.below ((Below.refl _ _).alloc (Nat.le_refl _) _)) hown' hgrow); clear hown' hgrow)
          go_roundw
          case rel => exact ⟨_, p5, z5, F + k + d.size, T + k + pp.size, by go_num, by go_num, H7.out, HST5.out⟩
          case measure =>
            obtain ⟨x0, x1, x2, xf⟩ := (DdK.start H7.out.k).cells
            rw [x2, x1, KX.out.1, KX.out.2]
            have hst := HST5.out
            have hps := HB.out
            have hpl := HP1.out.2.1
            rcases hst with ⟨rfl, _, h5, h6, _⟩ | ⟨e5, rfl, _⟩
            · have := H56.out rfl
              simp [intOf]; omega
            · simp [intOf]; omega
      have a45 : ¬ (c : Int) = 45 := by omega
      have b45 : ((c : Int) == 45) = false := by rw [beq_eq_false_iff_ne]; exact a45
      by_cases h43 : c = 43
      · subst h43
        clear a61 b61 h61 a45 b45 h45
        have cQ := quotedD_any HM2.out.1.k (show p1 + 1 ≤ s.size from lkN_lt HC.out (by decide)) HB.out.2.2.2.1
        go_upto_region 19 with (go_at_call 35; go_must (refine cQ.mono ?_; intro e w3 hP; obtain ⟨str, rfl, hsz, hor⟩ := hP.h; have HOR := Lib.hid hor; have HSZ := Lib.hid hsz; clear hP hor hsz))
        clear cQ
        rcases HOR.out with ⟨out, q, h34, hbo, rfl, hk⟩ | ⟨ee, p', hbd, hp', hk⟩
        case inr =>
          have hqn : quotedS s (p1 + 1) = (none, ee) := by
            unfold quotedS
            rcases hbd with ⟨h1, rfl⟩ | ⟨h1, h2⟩
            · rw [if_neg h1]
            · rw [if_pos h1, h2]
          have hbad : readS s = (none, ee) := HP1.out.2.2.1 _ (by unfold stS quoT; rw [HC.out, if_neg (by omega), if_neg (by omega), if_pos rfl, hqn])
          have HE := Lib.hid (And.intro hbad (And.intro hp' HSZ.out))
          have hee : decide ((ee : Int) < 0) = false := decide_eq_false (by omega)
          have HM3 := Lib.hid (HM2.out.1.grown hk)
          have HG3 := Lib.hid (show Blk w3 G #[.int .i64 0, .string .empty, .string .empty] 71 from (hk.2.block G (Array.getElem?_eq_some_iff.1 HM2.out.2.1).1 (fun e => by have := Option.some.inj e; omega)).trans HM2.out.2.1)
          clear hqn hbad hbd hp' hk
          as_aux_lemma =>
            obtain ⟨v0, v1, v2, vf⟩ := (DdK.start HM3.out.k).cells
            go_quiet ((fail))
            generalize hU : World.drewN w3 _ = X0
            have U0 : Below w3.heap.size w3 X0 := hU ▸ below_drewN _ _
            have T0 := HM3.out.below U0
            have HG4 := Lib.hid (Blk.below' HG3.out U0)
            clear hU U0
            have HM6 := Lib.hid T0
            clear T0
            obtain ⟨q0, q1, q2, qf⟩ : X0.cell? ⟨G, 0, none⟩ = some (.int .i64 0) ∧ X0.cell? ⟨G, 1, none⟩ = some (.string .empty) ∧ X0.cell? ⟨G, 2, none⟩ = some (.string .empty) ∧ ∀ o, X0.frozen? ⟨G, o, none⟩ = false := ⟨HG4.out.cell 0, HG4.out.cell 1, HG4.out.cell 2, fun o => HG4.out.frozen o⟩
            go_upto_region 25 with (fail)
            obtain ⟨W5, hW5⟩ : ∃ Z, X0.setCell ⟨G, 2, none⟩ (.string str) = Z := ⟨_, rfl⟩
            obtain ⟨k, d, pp, p5, z5, hM5, hG5, hST5, hBd, h56⟩ : ∃ (k : Nat) (d pp : ByteArray) (p5 : Nat) (z5 : Int), DrM w s (.slice oo l.length oc) l p5 z5 W5 ∧ Blk W5 G #[.int .i64 (k : Int), .string d, .string pp] 71 ∧ DrS s (l ++ [⟨(k : Int), d, pp⟩]) p5 z5 (F + k + d.size) (T + k + pp.size) ∧ (k < 10995116277780 ∧ d.size ≤ 1048600 ∧ pp.size ≤ 1048600) ∧ (z5 = -1 → p < p5) :=
              ⟨0, .empty, str, p', (ee : Int), (by rw [← hW5]; exact HM6.out.put hwG HG4.out HM2.out.2.2.1 2 _), (by rw [← hW5]; exact Blk.set HG4.out 2 _), .inr ⟨ee, rfl, HE.out.1, by have := HE.out.2.1; omega⟩, ⟨by omega, Nat.zero_le _, HE.out.2.2⟩, fun h => by omega⟩
            rw [hW5]
            have HM5 := Lib.hid hM5
            have HG5 := Lib.hid hG5
            have HST5 := Lib.hid hST5
            have HBd := Lib.hid hBd
            have H56 := Lib.hid h56
            clear hW5 hM5 hG5 hST5 hBd h56
            obtain ⟨g0, g1, g2, gf⟩ : W5.cell? ⟨G, 0, none⟩ = some (.int .i64 (k : Int)) ∧ W5.cell? ⟨G, 1, none⟩ = some (.string d) ∧ W5.cell? ⟨G, 2, none⟩ = some (.string pp) ∧ ∀ o, W5.frozen? ⟨G, o, none⟩ = false := ⟨HG5.out.cell 0, HG5.out.cell 1, HG5.out.cell 2, fun o => HG5.out.frozen o⟩
            have hkI : (k : Int) ≤ 10995116277780 := by have := HBd.out.1; omega
            have hdI : (d.size : Int) ≤ 1048600 := by have := HBd.out.2.1; omega
            have hppI : (pp.size : Int) ≤ 1048600 := by have := HBd.out.2.2; omega
            have hwn : w.heap.size + 1 ≤ W5.heap.size := HM5.out.n
            go_wp2_with (at_builtin; refine wpList_append_own _ rfl _ _ 25 rfl (w.heap.size + 1) 71 j0 (.agg #[.int .i64 0, .string .empty, .string .empty]) 3 40 Tryd.underlying25 hj hy0 hy1 hy2 rfl (by decide) (.slice oo l.length oc) _ _ rfl (HM5.out.o.alloc _) ⟨W5.heap.size, 0, none⟩ 1 1 [.int .i64 (k : Int), .string d, .string pp] rfl rfl (World.news_of_block (cs := #[.int .i64 (k : Int), .string d, .string pp]) (t := 71) (fr := (0, 0)) (World.alloc_heap_new W5 _)) (fun u hu => by simp at hu; rcases hu with rfl | rfl | rfl <;> rfl) (by unfold maxLen; first | omega | (simp; done) | (simp; omega)) (by first | omega | (simp; done) | (simp; omega)) (by first | omega | (simp; done) | (simp; omega)) ?_; intro v' w7 hown' hgrow _; have H7 := Lib.hid (DrM.app (x := ⟨(k : Int), d, pp⟩) (HM5.out.below ((Below.refl _ _).alloc (Nat.le_refl _) _)) hown' hgrow); clear hown' hgrow)
            go_roundw
            case rel => exact ⟨_, p5, z5, F + k + d.size, T + k + pp.size, by go_num, by go_num, H7.out, HST5.out⟩
            case measure =>
              obtain ⟨x0, x1, x2, xf⟩ := (DdK.start H7.out.k).cells
              rw [x2, x1, KX.out.1, KX.out.2]
              have hst := HST5.out
              have hps := HB.out
              have hpl := HP1.out.2.1
              rcases hst with ⟨rfl, _, h5, h6, _⟩ | ⟨e5, rfl, _⟩
              · have := H56.out rfl
                simp [intOf]; omega
              · simp [intOf]; omega
        have HM3 := Lib.hid (HM2.out.1.grown hk)
        have HG3 := Lib.hid (show Blk w3 G #[.int .i64 0, .string .empty, .string .empty] 71 from (hk.2.block G (Array.getElem?_eq_some_iff.1 HM2.out.2.1).1 (fun e => by have := Option.some.inj e; omega)).trans HM2.out.2.1)
        have hqp := bodyS_pos s _ (p1 + 1 + 1) [] (Nat.le_refl _) (lkN_lt h34 (by decide)) out q hbo
        have hqs : quotedS s (p1 + 1) = if out = [] ∨ quoB ⟨out.toArray⟩ ≠ s.extract (p1 + 1) (q + 1) then (none, p1 + 1) else (some ⟨out.toArray⟩, q + 1) := by
          unfold quotedS; rw [if_pos h34, hbo]
        obtain ⟨b, hb⟩ : ∃ b : ByteArray, (⟨out.toArray⟩ : ByteArray) = b := ⟨_, rfl⟩
        rw [hb] at hqs ⊢
        have HBS := Lib.hid (show b.size ≤ 1048600 from hb ▸ HSZ.out)
        have hb0 : b.size = 0 ↔ out = [] := by rw [← hb]; exact List.length_eq_zero_iff
        have HQ := Lib.hid (And.intro hqs (And.intro (show q + 1 ≤ s.size from hqp.2.1) hb0))
        have hsl0 : ∀ W, (Instr.slice 9 (.string s) (some (.int .i64 ((p1 : Int) + 1))) (some (.int .i64 ((q : Int) + 1))) none).run Tryd.prog W = .ok (.string (s.extract (p1 + 1) (q + 1))) W := fun W => by
          have := sub_str Tryd.prog W 9 s (p1 + 1) (q + 1) ((q : Int) + 1) (by omega) (by omega) hqp.2.1 Tryd.underlying9
          simpa using this
        obtain ⟨u, hu⟩ : ∃ u, quoB b = u := ⟨_, rfl⟩
        obtain ⟨vv, hvv⟩ : ∃ v, s.extract (p1 + 1) (q + 1) = v := ⟨_, rfl⟩
        rw [hvv] at hsl0
        rw [hu, hvv] at hqs
        have HUV := Lib.hid (And.intro hu hvv)
        have cQt := fun W => quotedRef_any b HBS.out W
        have hqI : (q : Int) ≤ 1048576 := by have := hqp.2.1; have := HB.out.2.2.2.1; omega
        have hbI : (b.size : Int) ≤ 1048600 := by have := HBS.out; omega
        clear hk h34 hbo hqp hb hu hvv
        by_cases hE : out = []
        · have hbad : readS s = (none, p1 + 1) := HP1.out.2.2.1 _ (by unfold stS quoT; rw [HC.out, if_neg (by omega), if_neg (by omega), if_pos rfl, hqs, if_pos (.inl hE)])
          have HBAD := Lib.hid hbad
          obtain rfl : b = .empty := (emp_or b).resolve_right (fun h => h.1 (hb0.2 hE))
          clear hbad hE hqs hb0 hsl0 cQt hbI
          as_aux_lemma =>
            have hEe : (ByteArray.empty.toList == ([] : List UInt8)) = true := by rw [str_e]; exact decide_eq_true rfl
            have hEe2 : ByteArray.empty.toList = ([] : List UInt8) := beq_iff_eq.1 hEe
            obtain ⟨v0, v1, v2, vf⟩ := (DdK.start HM3.out.k).cells
            go_quiet ((fail))
            generalize hU : World.drewN w3 _ = X0
            have U0 : Below w3.heap.size w3 X0 := hU ▸ below_drewN _ _
            have T0 := HM3.out.below U0
            have HG4 := Lib.hid (Blk.below' HG3.out U0)
            clear hU U0
            clear hEe hEe2
            have HM6 := Lib.hid T0
            clear T0
            obtain ⟨q0, q1, q2, qf⟩ : X0.cell? ⟨G, 0, none⟩ = some (.int .i64 0) ∧ X0.cell? ⟨G, 1, none⟩ = some (.string .empty) ∧ X0.cell? ⟨G, 2, none⟩ = some (.string .empty) ∧ ∀ o, X0.frozen? ⟨G, o, none⟩ = false := ⟨HG4.out.cell 0, HG4.out.cell 1, HG4.out.cell 2, fun o => HG4.out.frozen o⟩
            go_upto_region 25 with (go_at_call 34; go_must (refine (badD_ok HM6.out.k (p1 + 1)).mono ?_; rintro e w5 ⟨rfl, rfl⟩))
            obtain ⟨W5, hW5⟩ : ∃ Z, (X0.setCell ⟨w.heap.size, 2, none⟩ (.int .i64 ((p1 : Int) + 1))).setCell ⟨G, 2, none⟩ (.string .empty) = Z := ⟨_, rfl⟩
            obtain ⟨k, d, pp, p5, z5, hM5, hG5, hST5, hBd, h56⟩ : ∃ (k : Nat) (d pp : ByteArray) (p5 : Nat) (z5 : Int), DrM w s (.slice oo l.length oc) l p5 z5 W5 ∧ Blk W5 G #[.int .i64 (k : Int), .string d, .string pp] 71 ∧ DrS s (l ++ [⟨(k : Int), d, pp⟩]) p5 z5 (F + k + d.size) (T + k + pp.size) ∧ (k < 10995116277780 ∧ d.size ≤ 1048600 ∧ pp.size ≤ 1048600) ∧ (z5 = -1 → p < p5) :=
              ⟨0, .empty, .empty, (q + 1), ((p1 + 1 : Nat) : Int), (by rw [← hW5]; exact ((by have := HM6.out.bad ((p1 + 1 : Nat) : Int); simpa using this : DrM w s (.slice oo l.length oc) l (q + 1) ((p1 + 1 : Nat) : Int) (X0.setCell ⟨w.heap.size, 2, none⟩ (.int .i64 ((p1 : Int) + 1)))).put hwG (Blk.other HG4.out (by omega) 2 _) HM2.out.2.2.1 2 _)), (by rw [← hW5]; exact Blk.set (Blk.other HG4.out (by omega) 2 _) 2 _), .inr ⟨p1 + 1, rfl, HBAD.out, by have := HQ.out.2.1; omega⟩, ⟨by omega, Nat.zero_le _, Nat.zero_le _⟩, fun h => by omega⟩
            rw [hW5]
            have HM5 := Lib.hid hM5
            have HG5 := Lib.hid hG5
            have HST5 := Lib.hid hST5
            have HBd := Lib.hid hBd
            have H56 := Lib.hid h56
            clear hW5 hM5 hG5 hST5 hBd h56
            obtain ⟨g0, g1, g2, gf⟩ : W5.cell? ⟨G, 0, none⟩ = some (.int .i64 (k : Int)) ∧ W5.cell? ⟨G, 1, none⟩ = some (.string d) ∧ W5.cell? ⟨G, 2, none⟩ = some (.string pp) ∧ ∀ o, W5.frozen? ⟨G, o, none⟩ = false := ⟨HG5.out.cell 0, HG5.out.cell 1, HG5.out.cell 2, fun o => HG5.out.frozen o⟩
            have hkI : (k : Int) ≤ 10995116277780 := by have := HBd.out.1; omega
            have hdI : (d.size : Int) ≤ 1048600 := by have := HBd.out.2.1; omega
            have hppI : (pp.size : Int) ≤ 1048600 := by have := HBd.out.2.2; omega
            have hwn : w.heap.size + 1 ≤ W5.heap.size := HM5.out.n
            go_wp2_with (at_builtin; refine wpList_append_own _ rfl _ _ 25 rfl (w.heap.size + 1) 71 j0 (.agg #[.int .i64 0, .string .empty, .string .empty]) 3 40 Tryd.underlying25 hj hy0 hy1 hy2 rfl (by decide) (.slice oo l.length oc) _ _ rfl (HM5.out.o.alloc _) ⟨W5.heap.size, 0, none⟩ 1 1 [.int .i64 (k : Int), .string d, .string pp] rfl rfl (World.news_of_block (cs := #[.int .i64 (k : Int), .string d, .string pp]) (t := 71) (fr := (0, 0)) (World.alloc_heap_new W5 _)) (fun u hu => by simp at hu; rcases hu with rfl | rfl | rfl <;> rfl) (by unfold maxLen; first | omega | (simp; done) | (simp; omega)) (by first | omega | (simp; done) | (simp; omega)) (by first | omega | (simp; done) | (simp; omega)) ?_; intro v' w7 hown' hgrow _; have H7 := Lib.hid (DrM.app (x := ⟨(k : Int), d, pp⟩) (HM5.out.below ((Below.refl _ _).alloc (Nat.le_refl _) _)) hown' hgrow); clear hown' hgrow)
            go_roundw
            case rel => exact ⟨_, p5, z5, F + k + d.size, T + k + pp.size, by go_num, by go_num, H7.out, HST5.out⟩
            case measure =>
              obtain ⟨x0, x1, x2, xf⟩ := (DdK.start H7.out.k).cells
              rw [x2, x1, KX.out.1, KX.out.2]
              have hst := HST5.out
              have hps := HB.out
              have hpl := HP1.out.2.1
              rcases hst with ⟨rfl, _, h5, h6, _⟩ | ⟨e5, rfl, _⟩
              · have := H56.out rfl
                simp [intOf]; omega
              · simp [intOf]; omega
        obtain ⟨e0, e1, e2, e3⟩ := (emp_or b).resolve_left (fun h => hE (hb0.1 (by rw [h]; rfl)))
        by_cases hD : u = vv
        case neg =>
          have hbad : readS s = (none, p1 + 1) := HP1.out.2.2.1 _ (by unfold stS quoT; rw [HC.out, if_neg (by omega), if_neg (by omega), if_pos rfl, hqs, if_pos (.inr hD)])
          have HBAD := Lib.hid hbad
          have n4 : ¬ u.toList = vv.toList := fun h => hD (by
            apply ByteArray.ext; apply Array.ext'
            rw [ByteArray.toList_eq, ByteArray.toList_eq] at h
            exact h)
          have n2 : (u.toList == vv.toList) = false := by rw [beq_eq_false_iff_ne]; exact n4
          clear hbad hqs hb0 hE
          as_aux_lemma =>
            refine wp_region_noPanic ?_
            refine wp_region_g (S := untilG [] (fun X => DrM w s (.slice oo l.length oc) l (q + 1) (-1) X)) (by kernel_rfl) ?_
            obtain ⟨X0, hX0⟩ : ∃ Z, w3.drew = Z := ⟨_, rfl⟩
            have U0 : Below w3.heap.size w3 X0 := hX0 ▸ (Below.refl w3.heap.size w3).drew
            have T0 := HM3.out.below U0
            have HG4 := Lib.hid (Blk.below' HG3.out U0)
            rw [hX0]
            clear hX0 U0
            refine wpAnyG_take [0, 1, 2, 3, 4, 5, 6, 7, 8, 9, 10, 11, 12, 13, 14, 15, 16, 17, 18, 19, 20, 21, 22, 23, 24, 25, 26, 27, 28, 29, 30, 31, 32, 33, 34, 35, 36, 37, 38] (i := 0) (v := (.pointer (some ⟨w.heap.size, 2, none⟩))) rfl (by kernel_rfl) (by kernel_rfl) (by kernel_rfl) (by kernel_rfl) (by kernel_rfl) (by kernel_rfl) (by kernel_rfl) (by kernel_rfl) (fun _ _ _ h => h) (Or.inl ⟨by rfl, ?hy⟩) T0 ?_
            case hy =>
              intro X hX
              go_simp
            try simp only [Act.put, List.getElem_toArray, List.getElem_cons_zero, List.getElem_cons_succ, List.setIfInBounds_toArray, List.set_cons_zero, List.set_cons_succ]
            refine wpAnyG_take [1, 2, 3, 4, 5, 6, 7, 8, 9, 10, 11, 12, 13, 14, 15, 16, 17, 18, 19, 20, 21, 22, 23, 24, 25, 26, 27, 28, 29, 30, 31, 32, 33, 34, 35, 36, 37, 38] (i := 1) (v := (.int .i64 (-1))) rfl (by kernel_rfl) (by kernel_rfl) (by kernel_rfl) (by kernel_rfl) (by kernel_rfl) (by kernel_rfl) (by kernel_rfl) (by kernel_rfl) (fun _ _ _ h => h) (Or.inl ⟨by rfl, ?hy⟩) T0 ?_
            case hy =>
              intro X hX
              obtain ⟨m0, m1, m2, mf⟩ := (DdK.start hX.k).cells
              go_simp
            try simp only [Act.put, List.getElem_toArray, List.getElem_cons_zero, List.getElem_cons_succ, List.setIfInBounds_toArray, List.set_cons_zero, List.set_cons_succ]
            refine wpAnyG_take [2, 3, 4, 5, 6, 7, 8, 9, 10, 11, 12, 13, 14, 15, 16, 17, 18, 19, 20, 21, 22, 23, 24, 25, 26, 27, 28, 29, 30, 31, 32, 33, 34, 35, 36, 37, 38] (i := 2) (v := (.bool true)) rfl (by kernel_rfl) (by kernel_rfl) (by kernel_rfl) (by kernel_rfl) (by kernel_rfl) (by kernel_rfl) (by kernel_rfl) (by kernel_rfl) (fun _ _ _ h => h) (Or.inl ⟨by rfl, ?hy⟩) T0 ?_
            case hy =>
              intro X hX
              go_simp
            try simp only [Act.put, List.getElem_toArray, List.getElem_cons_zero, List.getElem_cons_succ, List.setIfInBounds_toArray, List.set_cons_zero, List.set_cons_succ]
            refine wpAnyG_take [3, 4, 5, 6, 7, 8, 9, 10, 11, 12, 13, 14, 15, 16, 17, 18, 19, 20, 21, 22, 23, 24, 25, 26, 27, 28, 29, 30, 31, 32, 33, 34, 35, 36, 37, 38] (i := 3) (v := (.bool true)) rfl (by kernel_rfl) (by kernel_rfl) (by kernel_rfl) (by kernel_rfl) (by kernel_rfl) (by kernel_rfl) (by kernel_rfl) (by kernel_rfl) (fun _ _ _ h => h) (Or.inl ⟨by rfl, ?hy⟩) T0 ?_
            case hy =>
              intro X hX
              go_simp
            try simp only [Act.put, List.getElem_toArray, List.getElem_cons_zero, List.getElem_cons_succ, List.setIfInBounds_toArray, List.set_cons_zero, List.set_cons_succ]
            refine wpAnyG_take [4, 5, 6, 7, 8, 9, 10, 11, 12, 13, 14, 15, 16, 17, 18, 19, 20, 21, 22, 23, 24, 25, 26, 27, 28, 29, 30, 31, 32, 33, 34, 35, 36, 37, 38] (i := 4) (v := (.string b)) rfl (by kernel_rfl) (by kernel_rfl) (by kernel_rfl) (by kernel_rfl) (by kernel_rfl) (by kernel_rfl) (by kernel_rfl) (by kernel_rfl) (fun _ _ _ h => h) (Or.inl ⟨by rfl, ?hy⟩) T0 ?_
            case hy =>
              intro X hX
              go_simp
            try simp only [Act.put, List.getElem_toArray, List.getElem_cons_zero, List.getElem_cons_succ, List.setIfInBounds_toArray, List.set_cons_zero, List.set_cons_succ]
            refine wpAnyG_take [5, 6, 7, 8, 9, 10, 11, 12, 13, 14, 15, 16, 17, 18, 19, 20, 21, 22, 23, 24, 25, 26, 27, 28, 29, 30, 31, 32, 33, 34, 35, 36, 37, 38] (i := 5) (v := (.bool false)) rfl (by kernel_rfl) (by kernel_rfl) (by kernel_rfl) (by kernel_rfl) (by kernel_rfl) (by kernel_rfl) (by kernel_rfl) (by kernel_rfl) (fun _ _ _ h => h) (Or.inl ⟨by rfl, ?hy⟩) T0 ?_
            case hy =>
              intro X hX
              go_simp
            try simp only [Act.put, List.getElem_toArray, List.getElem_cons_zero, List.getElem_cons_succ, List.setIfInBounds_toArray, List.set_cons_zero, List.set_cons_succ]
            refine wpAnyG_take [6, 7, 8, 9, 10, 11, 12, 13, 14, 15, 16, 17, 18, 19, 20, 21, 22, 23, 24, 25, 26, 27, 28, 29, 30, 31, 32, 33, 34, 35, 36, 37, 38] (i := 6) (v := (.bool false)) rfl (by kernel_rfl) (by kernel_rfl) (by kernel_rfl) (by kernel_rfl) (by kernel_rfl) (by kernel_rfl) (by kernel_rfl) (by kernel_rfl) (fun _ _ _ h => h) (Or.inl ⟨by rfl, ?hy⟩) T0 ?_
            case hy =>
              intro X hX
              go_simp
            try simp only [Act.put, List.getElem_toArray, List.getElem_cons_zero, List.getElem_cons_succ, List.setIfInBounds_toArray, List.set_cons_zero, List.set_cons_succ]
            refine wpAnyG_take [7, 8, 14, 15, 16, 17, 18, 19, 20, 21, 22, 23, 24, 25, 26, 27, 28, 29, 30, 31, 32, 33, 34, 35, 36, 37, 38] (i := 7) (v := (.string b)) rfl (by kernel_rfl) (by kernel_rfl) (by kernel_rfl) (by kernel_rfl) (by kernel_rfl) (by kernel_rfl) (by kernel_rfl) (by kernel_rfl) (fun _ _ _ h => h) (Or.inl ⟨by rfl, ?hy⟩) T0 ?_
            case hy =>
              intro X hX
              go_simp
            try simp only [Act.put, List.getElem_toArray, List.getElem_cons_zero, List.getElem_cons_succ, List.setIfInBounds_toArray, List.set_cons_zero, List.set_cons_succ]
            refine wpAnyG_take [9, 13, 14, 15, 16, 17, 18, 19, 20, 21, 22, 23, 24, 25, 26, 27, 28, 29, 30, 31, 32, 33, 34, 35, 36, 37, 38] (i := 9) (v := (.string s)) rfl (by kernel_rfl) (by kernel_rfl) (by kernel_rfl) (by kernel_rfl) (by kernel_rfl) (by kernel_rfl) (by kernel_rfl) (by kernel_rfl) (fun _ _ _ h => h) (Or.inl ⟨by rfl, ?hy⟩) T0 ?_
            case hy =>
              intro X hX
              go_simp
            try simp only [Act.put, List.getElem_toArray, List.getElem_cons_zero, List.getElem_cons_succ, List.setIfInBounds_toArray, List.set_cons_zero, List.set_cons_succ]
            refine wpAnyG_take [10, 13, 14, 15, 16, 17, 18, 19, 20, 21, 22, 23, 24, 25, 26, 27, 28, 29, 30, 31, 32, 33, 34, 35, 36, 37, 38] (i := 10) (v := (.int .i64 ((p1 : Int) + 1))) rfl (by kernel_rfl) (by kernel_rfl) (by kernel_rfl) (by kernel_rfl) (by kernel_rfl) (by kernel_rfl) (by kernel_rfl) (by kernel_rfl) (fun _ _ _ h => h) (Or.inl ⟨by rfl, ?hy⟩) T0 ?_
            case hy =>
              intro X hX
              go_simp
            try simp only [Act.put, List.getElem_toArray, List.getElem_cons_zero, List.getElem_cons_succ, List.setIfInBounds_toArray, List.set_cons_zero, List.set_cons_succ]
            refine wpAnyG_take [11, 12, 13, 14, 15, 16, 17, 18, 19, 20, 21, 22, 23, 24, 25, 26, 27, 28, 29, 30, 31, 32, 33, 34, 35, 36, 37, 38] (i := 11) (v := (.pointer (some ⟨w.heap.size, 1, none⟩))) rfl (by kernel_rfl) (by kernel_rfl) (by kernel_rfl) (by kernel_rfl) (by kernel_rfl) (by kernel_rfl) (by kernel_rfl) (by kernel_rfl) (fun _ _ _ h => h) (Or.inl ⟨by rfl, ?hy⟩) T0 ?_
            case hy =>
              intro X hX
              go_simp
            try simp only [Act.put, List.getElem_toArray, List.getElem_cons_zero, List.getElem_cons_succ, List.setIfInBounds_toArray, List.set_cons_zero, List.set_cons_succ]
            refine wpAnyG_take [12, 13, 14, 15, 16, 17, 18, 19, 20, 21, 22, 23, 24, 25, 26, 27, 28, 29, 30, 31, 32, 33, 34, 35, 36, 37, 38] (i := 12) (v := (.int .i64 ((q : Int) + 1))) rfl (by kernel_rfl) (by kernel_rfl) (by kernel_rfl) (by kernel_rfl) (by kernel_rfl) (by kernel_rfl) (by kernel_rfl) (by kernel_rfl) (fun _ _ _ h => h) (Or.inl ⟨by rfl, ?hy⟩) T0 ?_
            case hy =>
              intro X hX
              obtain ⟨m0, m1, m2, mf⟩ := (DdK.start hX.k).cells
              simp only [Int.natCast_add, Int.cast_ofNat_Int] at m1
              go_simp
            try simp only [Act.put, List.getElem_toArray, List.getElem_cons_zero, List.getElem_cons_succ, List.setIfInBounds_toArray, List.set_cons_zero, List.set_cons_succ]
            refine wpAnyG_take [13, 14, 15, 16, 17, 18, 19, 20, 21, 22, 23, 24, 25, 26, 27, 28, 29, 30, 31, 32, 33, 34, 35, 36, 37, 38] (i := 13) (v := (.string vv)) rfl (by kernel_rfl) (by kernel_rfl) (by kernel_rfl) (by kernel_rfl) (by kernel_rfl) (by kernel_rfl) (by kernel_rfl) (by kernel_rfl) (fun _ _ _ h => h) (Or.inl ⟨by rfl, ?hy⟩) T0 ?_
            case hy =>
              intro X hX
              go_simp
            try simp only [Act.put, List.getElem_toArray, List.getElem_cons_zero, List.getElem_cons_succ, List.setIfInBounds_toArray, List.set_cons_zero, List.set_cons_succ]
            refine wpAnyG_all (rs := [8]) (by kernel_rfl) (by simp) ?_
            intro i hi
            simp only [List.mem_cons, List.not_mem_nil, or_false] at hi
            subst hi
            refine wpOp_open rfl (by rfl) ?_
            go_simp
            refine (cQt _).mono ?_
            intro e Y4 hQ4
            obtain ⟨rfl, hb4⟩ := hQ4.h
            rw [HUV.out.1]
            replace T0 := T0.below hb4
            have HG4 := Lib.hid (Blk.below' HG4.out hb4)
            clear hb4 hQ4
            refine ⟨fun _ => T0, ?_⟩
            try simp only [Act.put, List.getElem_toArray, List.getElem_cons_zero, List.getElem_cons_succ, List.setIfInBounds_toArray, List.set_cons_zero, List.set_cons_succ]
            refine wpAnyG_take [14, 15, 16, 17, 18, 19, 20, 21, 22, 23, 24, 25, 26, 27, 28, 29, 30, 31, 32, 33, 34, 35, 36, 37, 38] (i := 14) (v := (.bool true)) rfl (by kernel_rfl) (by kernel_rfl) (by kernel_rfl) (by kernel_rfl) (by kernel_rfl) (by kernel_rfl) (by kernel_rfl) (by kernel_rfl) (fun _ _ _ h => h) (Or.inl ⟨by rfl, ?hy⟩) T0 ?_
            case hy =>
              intro X hX
              go_simp
            try simp only [Act.put, List.getElem_toArray, List.getElem_cons_zero, List.getElem_cons_succ, List.setIfInBounds_toArray, List.set_cons_zero, List.set_cons_succ]
            refine wpAnyG_take [15, 16, 17, 18, 19, 20, 21, 22, 23, 24, 25, 26, 27, 28, 29, 30, 31, 32, 33, 34, 35, 36, 37, 38] (i := 15) (v := (.bool true)) rfl (by kernel_rfl) (by kernel_rfl) (by kernel_rfl) (by kernel_rfl) (by kernel_rfl) (by kernel_rfl) (by kernel_rfl) (by kernel_rfl) (fun _ _ _ h => h) (Or.inl ⟨by rfl, ?hy⟩) T0 ?_
            case hy =>
              intro X hX
              go_simp
            try simp only [Act.put, List.getElem_toArray, List.getElem_cons_zero, List.getElem_cons_succ, List.setIfInBounds_toArray, List.set_cons_zero, List.set_cons_succ]
            refine wpAnyG_take [16, 17, 18, 19, 20, 21, 22, 23, 24, 25, 26, 27, 28, 29, 30, 31, 32, 33, 34, 35, 36, 37, 38] (i := 16) (v := (.bool true)) rfl (by kernel_rfl) (by kernel_rfl) (by kernel_rfl) (by kernel_rfl) (by kernel_rfl) (by kernel_rfl) (by kernel_rfl) (by kernel_rfl) (fun _ _ _ h => h) (Or.inl ⟨by rfl, ?hy⟩) T0 ?_
            case hy =>
              intro X hX
              go_simp
            try simp only [Act.put, List.getElem_toArray, List.getElem_cons_zero, List.getElem_cons_succ, List.setIfInBounds_toArray, List.set_cons_zero, List.set_cons_succ]
            refine wpAnyG_take [17, 18, 19, 20, 21, 22, 23, 24, 25, 26, 27, 28, 29, 30, 31, 32, 33, 34, 35, 36, 37, 38] (i := 17) (v := undef) rfl (by kernel_rfl) (by kernel_rfl) (by kernel_rfl) (by kernel_rfl) (by kernel_rfl) (by kernel_rfl) (by kernel_rfl) (by kernel_rfl) (fun _ _ _ h => h) (Or.inr ⟨by rfl, rfl⟩) T0 ?_
            try simp only [Act.put, List.getElem_toArray, List.getElem_cons_zero, List.getElem_cons_succ, List.setIfInBounds_toArray, List.set_cons_zero, List.set_cons_succ]
            refine wpAnyG_take [18, 19, 20, 21, 22, 23, 24, 25, 26, 27, 28, 29, 30, 31, 32, 33, 34, 35, 36, 37, 38] (i := 18) (v := undef) rfl (by kernel_rfl) (by kernel_rfl) (by kernel_rfl) (by kernel_rfl) (by kernel_rfl) (by kernel_rfl) (by kernel_rfl) (by kernel_rfl) (fun _ _ _ h => h) (Or.inr ⟨by rfl, rfl⟩) T0 ?_
            try simp only [Act.put, List.getElem_toArray, List.getElem_cons_zero, List.getElem_cons_succ, List.setIfInBounds_toArray, List.set_cons_zero, List.set_cons_succ]
            refine wpAnyG_take [19, 20, 21, 22, 23, 24, 25, 26, 27, 28, 29, 30, 31, 32, 33, 34, 35, 36, 37, 38] (i := 19) (v := undef) rfl (by kernel_rfl) (by kernel_rfl) (by kernel_rfl) (by kernel_rfl) (by kernel_rfl) (by kernel_rfl) (by kernel_rfl) (by kernel_rfl) (fun _ _ _ h => h) (Or.inr ⟨by rfl, rfl⟩) T0 ?_
            try simp only [Act.put, List.getElem_toArray, List.getElem_cons_zero, List.getElem_cons_succ, List.setIfInBounds_toArray, List.set_cons_zero, List.set_cons_succ]
            refine wpAnyG_take [20, 21, 24, 25, 26, 27, 28, 29, 30, 31, 32, 33, 34, 35, 36, 37, 38] (i := 20) (v := undef) rfl (by kernel_rfl) (by kernel_rfl) (by kernel_rfl) (by kernel_rfl) (by kernel_rfl) (by kernel_rfl) (by kernel_rfl) (by kernel_rfl) (fun _ _ _ h => h) (Or.inr ⟨by rfl, rfl⟩) T0 ?_
            try simp only [Act.put, List.getElem_toArray, List.getElem_cons_zero, List.getElem_cons_succ, List.setIfInBounds_toArray, List.set_cons_zero, List.set_cons_succ]
            refine wpAnyG_take [21, 24, 25, 26, 27, 28, 29, 30, 31, 32, 33, 34, 35, 36, 37, 38] (i := 21) (v := undef) rfl (by kernel_rfl) (by kernel_rfl) (by kernel_rfl) (by kernel_rfl) (by kernel_rfl) (by kernel_rfl) (by kernel_rfl) (by kernel_rfl) (fun _ _ _ h => h) (Or.inr ⟨by rfl, rfl⟩) T0 ?_
            try simp only [Act.put, List.getElem_toArray, List.getElem_cons_zero, List.getElem_cons_succ, List.setIfInBounds_toArray, List.set_cons_zero, List.set_cons_succ]
            refine wpAnyG_take [22, 23, 24, 25, 26, 27, 28, 29, 30, 31, 32, 33, 34, 35, 36, 37, 38] (i := 22) (v := undef) rfl (by kernel_rfl) (by kernel_rfl) (by kernel_rfl) (by kernel_rfl) (by kernel_rfl) (by kernel_rfl) (by kernel_rfl) (by kernel_rfl) (fun _ _ _ h => h) (Or.inr ⟨by rfl, rfl⟩) T0 ?_
            try simp only [Act.put, List.getElem_toArray, List.getElem_cons_zero, List.getElem_cons_succ, List.setIfInBounds_toArray, List.set_cons_zero, List.set_cons_succ]
            refine wpAnyG_take [23, 24, 25, 26, 27, 28, 29, 30, 31, 32, 33, 34, 35, 36, 37, 38] (i := 23) (v := undef) rfl (by kernel_rfl) (by kernel_rfl) (by kernel_rfl) (by kernel_rfl) (by kernel_rfl) (by kernel_rfl) (by kernel_rfl) (by kernel_rfl) (fun _ _ _ h => h) (Or.inr ⟨by rfl, rfl⟩) T0 ?_
            try simp only [Act.put, List.getElem_toArray, List.getElem_cons_zero, List.getElem_cons_succ, List.setIfInBounds_toArray, List.set_cons_zero, List.set_cons_succ]
            refine wpAnyG_take [24, 25, 26, 27, 28, 29, 30, 31, 32, 33, 34, 35, 36, 37, 38] (i := 24) (v := undef) rfl (by kernel_rfl) (by kernel_rfl) (by kernel_rfl) (by kernel_rfl) (by kernel_rfl) (by kernel_rfl) (by kernel_rfl) (by kernel_rfl) (fun _ _ _ h => h) (Or.inr ⟨by rfl, rfl⟩) T0 ?_
            try simp only [Act.put, List.getElem_toArray, List.getElem_cons_zero, List.getElem_cons_succ, List.setIfInBounds_toArray, List.set_cons_zero, List.set_cons_succ]
            refine wpAnyG_take [25, 26, 27, 28, 29, 30, 31, 32, 33, 34, 35, 36, 37, 38] (i := 25) (v := undef) rfl (by kernel_rfl) (by kernel_rfl) (by kernel_rfl) (by kernel_rfl) (by kernel_rfl) (by kernel_rfl) (by kernel_rfl) (by kernel_rfl) (fun _ _ _ h => h) (Or.inr ⟨by rfl, rfl⟩) T0 ?_
            try simp only [Act.put, List.getElem_toArray, List.getElem_cons_zero, List.getElem_cons_succ, List.setIfInBounds_toArray, List.set_cons_zero, List.set_cons_succ]
            refine wpAnyG_take [26, 27, 28, 29, 30, 31, 32, 33, 34, 35, 36, 37, 38] (i := 26) (v := (.bool true)) rfl (by kernel_rfl) (by kernel_rfl) (by kernel_rfl) (by kernel_rfl) (by kernel_rfl) (by kernel_rfl) (by kernel_rfl) (by kernel_rfl) (fun _ _ _ h => h) (Or.inl ⟨by rfl, ?hy⟩) T0 ?_
            case hy =>
              intro X hX
              go_simp
            try simp only [Act.put, List.getElem_toArray, List.getElem_cons_zero, List.getElem_cons_succ, List.setIfInBounds_toArray, List.set_cons_zero, List.set_cons_succ]
            refine wpAnyG_take [27, 28, 29, 30, 31, 32, 33, 34, 35, 36, 37, 38] (i := 27) (v := (.bool true)) rfl (by kernel_rfl) (by kernel_rfl) (by kernel_rfl) (by kernel_rfl) (by kernel_rfl) (by kernel_rfl) (by kernel_rfl) (by kernel_rfl) (fun _ _ _ h => h) (Or.inl ⟨by rfl, ?hy⟩) T0 ?_
            case hy =>
              intro X hX
              go_simp
            try simp only [Act.put, List.getElem_toArray, List.getElem_cons_zero, List.getElem_cons_succ, List.setIfInBounds_toArray, List.set_cons_zero, List.set_cons_succ]
            refine wpAnyG_take [28, 29, 30, 31, 32, 33, 34, 35, 36, 37, 38] (i := 28) (v := undef) rfl (by kernel_rfl) (by kernel_rfl) (by kernel_rfl) (by kernel_rfl) (by kernel_rfl) (by kernel_rfl) (by kernel_rfl) (by kernel_rfl) (fun _ _ _ h => h) (Or.inr ⟨by rfl, rfl⟩) T0 ?_
            try simp only [Act.put, List.getElem_toArray, List.getElem_cons_zero, List.getElem_cons_succ, List.setIfInBounds_toArray, List.set_cons_zero, List.set_cons_succ]
            refine wpAnyG_take [29, 30, 31, 32, 33, 34, 35, 36, 37, 38] (i := 29) (v := undef) rfl (by kernel_rfl) (by kernel_rfl) (by kernel_rfl) (by kernel_rfl) (by kernel_rfl) (by kernel_rfl) (by kernel_rfl) (by kernel_rfl) (fun _ _ _ h => h) (Or.inr ⟨by rfl, rfl⟩) T0 ?_
            try simp only [Act.put, List.getElem_toArray, List.getElem_cons_zero, List.getElem_cons_succ, List.setIfInBounds_toArray, List.set_cons_zero, List.set_cons_succ]
            refine wpAnyG_take [30, 31, 32, 33, 34, 35, 36, 37, 38] (i := 30) (v := undef) rfl (by kernel_rfl) (by kernel_rfl) (by kernel_rfl) (by kernel_rfl) (by kernel_rfl) (by kernel_rfl) (by kernel_rfl) (by kernel_rfl) (fun _ _ _ h => h) (Or.inr ⟨by rfl, rfl⟩) T0 ?_
            try simp only [Act.put, List.getElem_toArray, List.getElem_cons_zero, List.getElem_cons_succ, List.setIfInBounds_toArray, List.set_cons_zero, List.set_cons_succ]
            refine wpAnyG_take [31, 32, 35, 36, 37, 38] (i := 31) (v := undef) rfl (by kernel_rfl) (by kernel_rfl) (by kernel_rfl) (by kernel_rfl) (by kernel_rfl) (by kernel_rfl) (by kernel_rfl) (by kernel_rfl) (fun _ _ _ h => h) (Or.inr ⟨by rfl, rfl⟩) T0 ?_
            try simp only [Act.put, List.getElem_toArray, List.getElem_cons_zero, List.getElem_cons_succ, List.setIfInBounds_toArray, List.set_cons_zero, List.set_cons_succ]
            refine wpAnyG_take [32, 35, 36, 37, 38] (i := 32) (v := undef) rfl (by kernel_rfl) (by kernel_rfl) (by kernel_rfl) (by kernel_rfl) (by kernel_rfl) (by kernel_rfl) (by kernel_rfl) (by kernel_rfl) (fun _ _ _ h => h) (Or.inr ⟨by rfl, rfl⟩) T0 ?_
            try simp only [Act.put, List.getElem_toArray, List.getElem_cons_zero, List.getElem_cons_succ, List.setIfInBounds_toArray, List.set_cons_zero, List.set_cons_succ]
            refine wpAnyG_take [33, 34, 35, 36, 37, 38] (i := 33) (v := undef) rfl (by kernel_rfl) (by kernel_rfl) (by kernel_rfl) (by kernel_rfl) (by kernel_rfl) (by kernel_rfl) (by kernel_rfl) (by kernel_rfl) (fun _ _ _ h => h) (Or.inr ⟨by rfl, rfl⟩) T0 ?_
            try simp only [Act.put, List.getElem_toArray, List.getElem_cons_zero, List.getElem_cons_succ, List.setIfInBounds_toArray, List.set_cons_zero, List.set_cons_succ]
            refine wpAnyG_take [34, 35, 36, 37, 38] (i := 34) (v := undef) rfl (by kernel_rfl) (by kernel_rfl) (by kernel_rfl) (by kernel_rfl) (by kernel_rfl) (by kernel_rfl) (by kernel_rfl) (by kernel_rfl) (fun _ _ _ h => h) (Or.inr ⟨by rfl, rfl⟩) T0 ?_
            try simp only [Act.put, List.getElem_toArray, List.getElem_cons_zero, List.getElem_cons_succ, List.setIfInBounds_toArray, List.set_cons_zero, List.set_cons_succ]
            refine wpAnyG_take [35, 36, 37, 38] (i := 35) (v := undef) rfl (by kernel_rfl) (by kernel_rfl) (by kernel_rfl) (by kernel_rfl) (by kernel_rfl) (by kernel_rfl) (by kernel_rfl) (by kernel_rfl) (fun _ _ _ h => h) (Or.inr ⟨by rfl, rfl⟩) T0 ?_
            try simp only [Act.put, List.getElem_toArray, List.getElem_cons_zero, List.getElem_cons_succ, List.setIfInBounds_toArray, List.set_cons_zero, List.set_cons_succ]
            refine wpAnyG_take [36, 37, 38] (i := 36) (v := undef) rfl (by kernel_rfl) (by kernel_rfl) (by kernel_rfl) (by kernel_rfl) (by kernel_rfl) (by kernel_rfl) (by kernel_rfl) (by kernel_rfl) (fun _ _ _ h => h) (Or.inr ⟨by rfl, rfl⟩) T0 ?_
            try simp only [Act.put, List.getElem_toArray, List.getElem_cons_zero, List.getElem_cons_succ, List.setIfInBounds_toArray, List.set_cons_zero, List.set_cons_succ]
            refine wpAnyG_take [37, 38] (i := 37) (v := (.bool true)) rfl (by kernel_rfl) (by kernel_rfl) (by kernel_rfl) (by kernel_rfl) (by kernel_rfl) (by kernel_rfl) (by kernel_rfl) (by kernel_rfl) (fun _ _ _ h => h) (Or.inl ⟨by rfl, ?hy⟩) T0 ?_
            case hy =>
              intro X hX
              go_simp
            try simp only [Act.put, List.getElem_toArray, List.getElem_cons_zero, List.getElem_cons_succ, List.setIfInBounds_toArray, List.set_cons_zero, List.set_cons_succ]
            refine wpAnyG_take [38] (i := 38) (v := (.bool true)) rfl (by kernel_rfl) (by kernel_rfl) (by kernel_rfl) (by kernel_rfl) (by kernel_rfl) (by kernel_rfl) (by kernel_rfl) (by kernel_rfl) (fun _ _ _ h => h) (Or.inl ⟨by rfl, ?hy⟩) T0 ?_
            case hy =>
              intro X hX
              go_simp
            try simp only [Act.put, List.getElem_toArray, List.getElem_cons_zero, List.getElem_cons_succ, List.setIfInBounds_toArray, List.set_cons_zero, List.set_cons_succ]
            refine wpAnyG_done (by kernel_rfl) ?_ _
            refine NoPanic.normal ?_
            have HM6 := Lib.hid T0
            clear T0
            obtain ⟨q0, q1, q2, qf⟩ : Y4.cell? ⟨G, 0, none⟩ = some (.int .i64 0) ∧ Y4.cell? ⟨G, 1, none⟩ = some (.string .empty) ∧ Y4.cell? ⟨G, 2, none⟩ = some (.string .empty) ∧ ∀ o, Y4.frozen? ⟨G, o, none⟩ = false := ⟨HG4.out.cell 0, HG4.out.cell 1, HG4.out.cell 2, fun o => HG4.out.frozen o⟩
            go_upto_region 25 with (go_at_call 34; go_must (refine (badD_ok HM6.out.k (p1 + 1)).mono ?_; rintro e w5 ⟨rfl, rfl⟩))
            obtain ⟨W5, hW5⟩ : ∃ Z, (Y4.setCell ⟨w.heap.size, 2, none⟩ (.int .i64 ((p1 : Int) + 1))).setCell ⟨G, 2, none⟩ (.string b) = Z := ⟨_, rfl⟩
            obtain ⟨k, d, pp, p5, z5, hM5, hG5, hST5, hBd, h56⟩ : ∃ (k : Nat) (d pp : ByteArray) (p5 : Nat) (z5 : Int), DrM w s (.slice oo l.length oc) l p5 z5 W5 ∧ Blk W5 G #[.int .i64 (k : Int), .string d, .string pp] 71 ∧ DrS s (l ++ [⟨(k : Int), d, pp⟩]) p5 z5 (F + k + d.size) (T + k + pp.size) ∧ (k < 10995116277780 ∧ d.size ≤ 1048600 ∧ pp.size ≤ 1048600) ∧ (z5 = -1 → p < p5) :=
              ⟨0, .empty, b, (q + 1), ((p1 + 1 : Nat) : Int), (by rw [← hW5]; exact ((by have := HM6.out.bad ((p1 + 1 : Nat) : Int); simpa using this : DrM w s (.slice oo l.length oc) l (q + 1) ((p1 + 1 : Nat) : Int) (Y4.setCell ⟨w.heap.size, 2, none⟩ (.int .i64 ((p1 : Int) + 1)))).put hwG (Blk.other HG4.out (by omega) 2 _) HM2.out.2.2.1 2 _)), (by rw [← hW5]; exact Blk.set (Blk.other HG4.out (by omega) 2 _) 2 _), .inr ⟨p1 + 1, rfl, HBAD.out, by have := HQ.out.2.1; omega⟩, ⟨by omega, Nat.zero_le _, HBS.out⟩, fun h => by omega⟩
            rw [hW5]
            have HM5 := Lib.hid hM5
            have HG5 := Lib.hid hG5
            have HST5 := Lib.hid hST5
            have HBd := Lib.hid hBd
            have H56 := Lib.hid h56
            clear hW5 hM5 hG5 hST5 hBd h56
            obtain ⟨g0, g1, g2, gf⟩ : W5.cell? ⟨G, 0, none⟩ = some (.int .i64 (k : Int)) ∧ W5.cell? ⟨G, 1, none⟩ = some (.string d) ∧ W5.cell? ⟨G, 2, none⟩ = some (.string pp) ∧ ∀ o, W5.frozen? ⟨G, o, none⟩ = false := ⟨HG5.out.cell 0, HG5.out.cell 1, HG5.out.cell 2, fun o => HG5.out.frozen o⟩
            have hkI : (k : Int) ≤ 10995116277780 := by have := HBd.out.1; omega
            have hdI : (d.size : Int) ≤ 1048600 := by have := HBd.out.2.1; omega
            have hppI : (pp.size : Int) ≤ 1048600 := by have := HBd.out.2.2; omega
            have hwn : w.heap.size + 1 ≤ W5.heap.size := HM5.out.n
            go_wp2_with (at_builtin; refine wpList_append_own _ rfl _ _ 25 rfl (w.heap.size + 1) 71 j0 (.agg #[.int .i64 0, .string .empty, .string .empty]) 3 40 Tryd.underlying25 hj hy0 hy1 hy2 rfl (by decide) (.slice oo l.length oc) _ _ rfl (HM5.out.o.alloc _) ⟨W5.heap.size, 0, none⟩ 1 1 [.int .i64 (k : Int), .string d, .string pp] rfl rfl (World.news_of_block (cs := #[.int .i64 (k : Int), .string d, .string pp]) (t := 71) (fr := (0, 0)) (World.alloc_heap_new W5 _)) (fun u hu => by simp at hu; rcases hu with rfl | rfl | rfl <;> rfl) (by unfold maxLen; first | omega | (simp; done) | (simp; omega)) (by first | omega | (simp; done) | (simp; omega)) (by first | omega | (simp; done) | (simp; omega)) ?_; intro v' w7 hown' hgrow _; have H7 := Lib.hid (DrM.app (x := ⟨(k : Int), d, pp⟩) (HM5.out.below ((Below.refl _ _).alloc (Nat.le_refl _) _)) hown' hgrow); clear hown' hgrow)
            go_roundw
            case rel => exact ⟨_, p5, z5, F + k + d.size, T + k + pp.size, by go_num, by go_num, H7.out, HST5.out⟩
            case measure =>
              obtain ⟨x0, x1, x2, xf⟩ := (DdK.start H7.out.k).cells
              rw [x2, x1, KX.out.1, KX.out.2]
              have hst := HST5.out
              have hps := HB.out
              have hpl := HP1.out.2.1
              rcases hst with ⟨rfl, _, h5, h6, _⟩ | ⟨e5, rfl, _⟩
              · have := H56.out rfl
                simp [intOf]; omega
              · simp [intOf]; omega
        subst hD
        have n2 : (u.toList == u.toList) = true := by rw [beq_iff_eq]
        have hq2 : quotedS s (p1 + 1) = (some b, q + 1) := by rw [hqs, if_neg (fun h => h.elim hE (fun h => h rfl))]
        clear hqs hb0 hE
        by_cases hbig : 65536 < T + b.size
        · have hT : quoT s (p1 + 1) F T false = (none, p1 + 1) := by unfold quoT; rw [hq2]; exact if_pos (by simp; omega)
          have hbad : readS s = (none, p1 + 1) := HP1.out.2.2.1 _ (by unfold stS; rw [HC.out, if_neg (by omega), if_neg (by omega), if_pos rfl, hT])
          have HBAD := Lib.hid hbad
          have d1 : (65536 : Int) - (T : Int) < (b.size : Int) := by omega
          clear hbad hT hq2 hbig
          as_aux_lemma =>
            refine wp_region_noPanic ?_
            refine wp_region_g (S := untilG [] (fun X => DrM w s (.slice oo l.length oc) l (q + 1) (-1) X)) (by kernel_rfl) ?_
            obtain ⟨X0, hX0⟩ : ∃ Z, w3.drew = Z := ⟨_, rfl⟩
            have U0 : Below w3.heap.size w3 X0 := hX0 ▸ (Below.refl w3.heap.size w3).drew
            have T0 := HM3.out.below U0
            have HG4 := Lib.hid (Blk.below' HG3.out U0)
            rw [hX0]
            clear hX0 U0
            refine wpAnyG_take [0, 1, 2, 3, 4, 5, 6, 7, 8, 9, 10, 11, 12, 13, 14, 15, 16, 17, 18, 19, 20, 21, 22, 23, 24, 25, 26, 27, 28, 29, 30, 31, 32, 33, 34, 35, 36, 37, 38] (i := 0) (v := (.pointer (some ⟨w.heap.size, 2, none⟩))) rfl (by kernel_rfl) (by kernel_rfl) (by kernel_rfl) (by kernel_rfl) (by kernel_rfl) (by kernel_rfl) (by kernel_rfl) (by kernel_rfl) (fun _ _ _ h => h) (Or.inl ⟨by rfl, ?hy⟩) T0 ?_
            case hy =>
              intro X hX
              go_simp
            try simp only [Act.put, List.getElem_toArray, List.getElem_cons_zero, List.getElem_cons_succ, List.setIfInBounds_toArray, List.set_cons_zero, List.set_cons_succ]
            refine wpAnyG_take [1, 2, 3, 4, 5, 6, 7, 8, 9, 10, 11, 12, 13, 14, 15, 16, 17, 18, 19, 20, 21, 22, 23, 24, 25, 26, 27, 28, 29, 30, 31, 32, 33, 34, 35, 36, 37, 38] (i := 1) (v := (.int .i64 (-1))) rfl (by kernel_rfl) (by kernel_rfl) (by kernel_rfl) (by kernel_rfl) (by kernel_rfl) (by kernel_rfl) (by kernel_rfl) (by kernel_rfl) (fun _ _ _ h => h) (Or.inl ⟨by rfl, ?hy⟩) T0 ?_
            case hy =>
              intro X hX
              obtain ⟨m0, m1, m2, mf⟩ := (DdK.start hX.k).cells
              go_simp
            try simp only [Act.put, List.getElem_toArray, List.getElem_cons_zero, List.getElem_cons_succ, List.setIfInBounds_toArray, List.set_cons_zero, List.set_cons_succ]
            refine wpAnyG_take [2, 3, 4, 5, 6, 7, 8, 9, 10, 11, 12, 13, 14, 15, 16, 17, 18, 19, 20, 21, 22, 23, 24, 25, 26, 27, 28, 29, 30, 31, 32, 33, 34, 35, 36, 37, 38] (i := 2) (v := (.bool true)) rfl (by kernel_rfl) (by kernel_rfl) (by kernel_rfl) (by kernel_rfl) (by kernel_rfl) (by kernel_rfl) (by kernel_rfl) (by kernel_rfl) (fun _ _ _ h => h) (Or.inl ⟨by rfl, ?hy⟩) T0 ?_
            case hy =>
              intro X hX
              go_simp
            try simp only [Act.put, List.getElem_toArray, List.getElem_cons_zero, List.getElem_cons_succ, List.setIfInBounds_toArray, List.set_cons_zero, List.set_cons_succ]
            refine wpAnyG_take [3, 4, 5, 6, 7, 8, 9, 10, 11, 12, 13, 14, 15, 16, 17, 18, 19, 20, 21, 22, 23, 24, 25, 26, 27, 28, 29, 30, 31, 32, 33, 34, 35, 36, 37, 38] (i := 3) (v := (.bool true)) rfl (by kernel_rfl) (by kernel_rfl) (by kernel_rfl) (by kernel_rfl) (by kernel_rfl) (by kernel_rfl) (by kernel_rfl) (by kernel_rfl) (fun _ _ _ h => h) (Or.inl ⟨by rfl, ?hy⟩) T0 ?_
            case hy =>
              intro X hX
              go_simp
            try simp only [Act.put, List.getElem_toArray, List.getElem_cons_zero, List.getElem_cons_succ, List.setIfInBounds_toArray, List.set_cons_zero, List.set_cons_succ]
            refine wpAnyG_take [4, 5, 6, 7, 8, 9, 10, 11, 12, 13, 14, 15, 16, 17, 18, 19, 20, 21, 22, 23, 24, 25, 26, 27, 28, 29, 30, 31, 32, 33, 34, 35, 36, 37, 38] (i := 4) (v := (.string b)) rfl (by kernel_rfl) (by kernel_rfl) (by kernel_rfl) (by kernel_rfl) (by kernel_rfl) (by kernel_rfl) (by kernel_rfl) (by kernel_rfl) (fun _ _ _ h => h) (Or.inl ⟨by rfl, ?hy⟩) T0 ?_
            case hy =>
              intro X hX
              go_simp
            try simp only [Act.put, List.getElem_toArray, List.getElem_cons_zero, List.getElem_cons_succ, List.setIfInBounds_toArray, List.set_cons_zero, List.set_cons_succ]
            refine wpAnyG_take [5, 6, 7, 8, 9, 10, 11, 12, 13, 14, 15, 16, 17, 18, 19, 20, 21, 22, 23, 24, 25, 26, 27, 28, 29, 30, 31, 32, 33, 34, 35, 36, 37, 38] (i := 5) (v := (.bool false)) rfl (by kernel_rfl) (by kernel_rfl) (by kernel_rfl) (by kernel_rfl) (by kernel_rfl) (by kernel_rfl) (by kernel_rfl) (by kernel_rfl) (fun _ _ _ h => h) (Or.inl ⟨by rfl, ?hy⟩) T0 ?_
            case hy =>
              intro X hX
              go_simp
            try simp only [Act.put, List.getElem_toArray, List.getElem_cons_zero, List.getElem_cons_succ, List.setIfInBounds_toArray, List.set_cons_zero, List.set_cons_succ]
            refine wpAnyG_take [6, 7, 8, 9, 10, 11, 12, 13, 14, 15, 16, 17, 18, 19, 20, 21, 22, 23, 24, 25, 26, 27, 28, 29, 30, 31, 32, 33, 34, 35, 36, 37, 38] (i := 6) (v := (.bool false)) rfl (by kernel_rfl) (by kernel_rfl) (by kernel_rfl) (by kernel_rfl) (by kernel_rfl) (by kernel_rfl) (by kernel_rfl) (by kernel_rfl) (fun _ _ _ h => h) (Or.inl ⟨by rfl, ?hy⟩) T0 ?_
            case hy =>
              intro X hX
              go_simp
            try simp only [Act.put, List.getElem_toArray, List.getElem_cons_zero, List.getElem_cons_succ, List.setIfInBounds_toArray, List.set_cons_zero, List.set_cons_succ]
            refine wpAnyG_take [7, 8, 14, 15, 16, 17, 18, 19, 20, 21, 22, 23, 24, 25, 26, 27, 28, 29, 30, 31, 32, 33, 34, 35, 36, 37, 38] (i := 7) (v := (.string b)) rfl (by kernel_rfl) (by kernel_rfl) (by kernel_rfl) (by kernel_rfl) (by kernel_rfl) (by kernel_rfl) (by kernel_rfl) (by kernel_rfl) (fun _ _ _ h => h) (Or.inl ⟨by rfl, ?hy⟩) T0 ?_
            case hy =>
              intro X hX
              go_simp
            try simp only [Act.put, List.getElem_toArray, List.getElem_cons_zero, List.getElem_cons_succ, List.setIfInBounds_toArray, List.set_cons_zero, List.set_cons_succ]
            refine wpAnyG_take [9, 13, 14, 15, 16, 17, 18, 19, 20, 21, 22, 23, 24, 25, 26, 27, 28, 29, 30, 31, 32, 33, 34, 35, 36, 37, 38] (i := 9) (v := (.string s)) rfl (by kernel_rfl) (by kernel_rfl) (by kernel_rfl) (by kernel_rfl) (by kernel_rfl) (by kernel_rfl) (by kernel_rfl) (by kernel_rfl) (fun _ _ _ h => h) (Or.inl ⟨by rfl, ?hy⟩) T0 ?_
            case hy =>
              intro X hX
              go_simp
            try simp only [Act.put, List.getElem_toArray, List.getElem_cons_zero, List.getElem_cons_succ, List.setIfInBounds_toArray, List.set_cons_zero, List.set_cons_succ]
            refine wpAnyG_take [10, 13, 14, 15, 16, 17, 18, 19, 20, 21, 22, 23, 24, 25, 26, 27, 28, 29, 30, 31, 32, 33, 34, 35, 36, 37, 38] (i := 10) (v := (.int .i64 ((p1 : Int) + 1))) rfl (by kernel_rfl) (by kernel_rfl) (by kernel_rfl) (by kernel_rfl) (by kernel_rfl) (by kernel_rfl) (by kernel_rfl) (by kernel_rfl) (fun _ _ _ h => h) (Or.inl ⟨by rfl, ?hy⟩) T0 ?_
            case hy =>
              intro X hX
              go_simp
            try simp only [Act.put, List.getElem_toArray, List.getElem_cons_zero, List.getElem_cons_succ, List.setIfInBounds_toArray, List.set_cons_zero, List.set_cons_succ]
            refine wpAnyG_take [11, 12, 13, 14, 15, 16, 17, 18, 19, 20, 21, 22, 23, 24, 25, 26, 27, 28, 29, 30, 31, 32, 33, 34, 35, 36, 37, 38] (i := 11) (v := (.pointer (some ⟨w.heap.size, 1, none⟩))) rfl (by kernel_rfl) (by kernel_rfl) (by kernel_rfl) (by kernel_rfl) (by kernel_rfl) (by kernel_rfl) (by kernel_rfl) (by kernel_rfl) (fun _ _ _ h => h) (Or.inl ⟨by rfl, ?hy⟩) T0 ?_
            case hy =>
              intro X hX
              go_simp
            try simp only [Act.put, List.getElem_toArray, List.getElem_cons_zero, List.getElem_cons_succ, List.setIfInBounds_toArray, List.set_cons_zero, List.set_cons_succ]
            refine wpAnyG_take [12, 13, 14, 15, 16, 17, 18, 19, 20, 21, 22, 23, 24, 25, 26, 27, 28, 29, 30, 31, 32, 33, 34, 35, 36, 37, 38] (i := 12) (v := (.int .i64 ((q : Int) + 1))) rfl (by kernel_rfl) (by kernel_rfl) (by kernel_rfl) (by kernel_rfl) (by kernel_rfl) (by kernel_rfl) (by kernel_rfl) (by kernel_rfl) (fun _ _ _ h => h) (Or.inl ⟨by rfl, ?hy⟩) T0 ?_
            case hy =>
              intro X hX
              obtain ⟨m0, m1, m2, mf⟩ := (DdK.start hX.k).cells
              simp only [Int.natCast_add, Int.cast_ofNat_Int] at m1
              go_simp
            try simp only [Act.put, List.getElem_toArray, List.getElem_cons_zero, List.getElem_cons_succ, List.setIfInBounds_toArray, List.set_cons_zero, List.set_cons_succ]
            refine wpAnyG_take [13, 14, 15, 16, 17, 18, 19, 20, 21, 22, 23, 24, 25, 26, 27, 28, 29, 30, 31, 32, 33, 34, 35, 36, 37, 38] (i := 13) (v := (.string u)) rfl (by kernel_rfl) (by kernel_rfl) (by kernel_rfl) (by kernel_rfl) (by kernel_rfl) (by kernel_rfl) (by kernel_rfl) (by kernel_rfl) (fun _ _ _ h => h) (Or.inl ⟨by rfl, ?hy⟩) T0 ?_
            case hy =>
              intro X hX
              go_simp
            try simp only [Act.put, List.getElem_toArray, List.getElem_cons_zero, List.getElem_cons_succ, List.setIfInBounds_toArray, List.set_cons_zero, List.set_cons_succ]
            refine wpAnyG_all (rs := [8]) (by kernel_rfl) (by simp) ?_
            intro i hi
            simp only [List.mem_cons, List.not_mem_nil, or_false] at hi
            subst hi
            refine wpOp_open rfl (by rfl) ?_
            go_simp
            refine (cQt _).mono ?_
            intro e Y4 hQ4
            obtain ⟨rfl, hb4⟩ := hQ4.h
            rw [HUV.out.1]
            replace T0 := T0.below hb4
            have HG4 := Lib.hid (Blk.below' HG4.out hb4)
            clear hb4 hQ4
            refine ⟨fun _ => T0, ?_⟩
            try simp only [Act.put, List.getElem_toArray, List.getElem_cons_zero, List.getElem_cons_succ, List.setIfInBounds_toArray, List.set_cons_zero, List.set_cons_succ]
            refine wpAnyG_take [14, 15, 16, 17, 18, 19, 20, 21, 22, 23, 24, 25, 26, 27, 28, 29, 30, 31, 32, 33, 34, 35, 36, 37, 38] (i := 14) (v := (.bool false)) rfl (by kernel_rfl) (by kernel_rfl) (by kernel_rfl) (by kernel_rfl) (by kernel_rfl) (by kernel_rfl) (by kernel_rfl) (by kernel_rfl) (fun _ _ _ h => h) (Or.inl ⟨by rfl, ?hy⟩) T0 ?_
            case hy =>
              intro X hX
              go_simp
            try simp only [Act.put, List.getElem_toArray, List.getElem_cons_zero, List.getElem_cons_succ, List.setIfInBounds_toArray, List.set_cons_zero, List.set_cons_succ]
            refine wpAnyG_take [15, 16, 17, 18, 19, 20, 21, 22, 23, 24, 25, 26, 27, 28, 29, 30, 31, 32, 33, 34, 35, 36, 37, 38] (i := 15) (v := (.bool false)) rfl (by kernel_rfl) (by kernel_rfl) (by kernel_rfl) (by kernel_rfl) (by kernel_rfl) (by kernel_rfl) (by kernel_rfl) (by kernel_rfl) (fun _ _ _ h => h) (Or.inl ⟨by rfl, ?hy⟩) T0 ?_
            case hy =>
              intro X hX
              go_simp
            try simp only [Act.put, List.getElem_toArray, List.getElem_cons_zero, List.getElem_cons_succ, List.setIfInBounds_toArray, List.set_cons_zero, List.set_cons_succ]
            refine wpAnyG_take [16, 17, 18, 19, 20, 21, 22, 23, 24, 25, 26, 27, 28, 29, 30, 31, 32, 33, 34, 35, 36, 37, 38] (i := 16) (v := (.bool false)) rfl (by kernel_rfl) (by kernel_rfl) (by kernel_rfl) (by kernel_rfl) (by kernel_rfl) (by kernel_rfl) (by kernel_rfl) (by kernel_rfl) (fun _ _ _ h => h) (Or.inl ⟨by rfl, ?hy⟩) T0 ?_
            case hy =>
              intro X hX
              go_simp
            try simp only [Act.put, List.getElem_toArray, List.getElem_cons_zero, List.getElem_cons_succ, List.setIfInBounds_toArray, List.set_cons_zero, List.set_cons_succ]
            refine wpAnyG_take [17, 18, 19, 20, 21, 22, 23, 24, 25, 26, 27, 28, 29, 30, 31, 32, 33, 34, 35, 36, 37, 38] (i := 17) (v := (.int .u8 43)) rfl (by kernel_rfl) (by kernel_rfl) (by kernel_rfl) (by kernel_rfl) (by kernel_rfl) (by kernel_rfl) (by kernel_rfl) (by kernel_rfl) (fun _ _ _ h => h) (Or.inl ⟨by rfl, ?hy⟩) T0 ?_
            case hy =>
              intro X hX
              go_simp
            try simp only [Act.put, List.getElem_toArray, List.getElem_cons_zero, List.getElem_cons_succ, List.setIfInBounds_toArray, List.set_cons_zero, List.set_cons_succ]
            refine wpAnyG_take [18, 19, 20, 21, 22, 23, 24, 25, 26, 27, 28, 29, 30, 31, 32, 33, 34, 35, 36, 37, 38] (i := 18) (v := (.bool false)) rfl (by kernel_rfl) (by kernel_rfl) (by kernel_rfl) (by kernel_rfl) (by kernel_rfl) (by kernel_rfl) (by kernel_rfl) (by kernel_rfl) (fun _ _ _ h => h) (Or.inl ⟨by rfl, ?hy⟩) T0 ?_
            case hy =>
              intro X hX
              go_simp
            try simp only [Act.put, List.getElem_toArray, List.getElem_cons_zero, List.getElem_cons_succ, List.setIfInBounds_toArray, List.set_cons_zero, List.set_cons_succ]
            refine wpAnyG_take [19, 20, 21, 22, 23, 24, 25, 26, 27, 28, 29, 30, 31, 32, 33, 34, 35, 36, 37, 38] (i := 19) (v := (.bool false)) rfl (by kernel_rfl) (by kernel_rfl) (by kernel_rfl) (by kernel_rfl) (by kernel_rfl) (by kernel_rfl) (by kernel_rfl) (by kernel_rfl) (fun _ _ _ h => h) (Or.inl ⟨by rfl, ?hy⟩) T0 ?_
            case hy =>
              intro X hX
              go_simp
            try simp only [Act.put, List.getElem_toArray, List.getElem_cons_zero, List.getElem_cons_succ, List.setIfInBounds_toArray, List.set_cons_zero, List.set_cons_succ]
            refine wpAnyG_take [20, 21, 24, 25, 26, 27, 28, 29, 30, 31, 32, 33, 34, 35, 36, 37, 38] (i := 20) (v := undef) rfl (by kernel_rfl) (by kernel_rfl) (by kernel_rfl) (by kernel_rfl) (by kernel_rfl) (by kernel_rfl) (by kernel_rfl) (by kernel_rfl) (fun _ _ _ h => h) (Or.inr ⟨by rfl, rfl⟩) T0 ?_
            try simp only [Act.put, List.getElem_toArray, List.getElem_cons_zero, List.getElem_cons_succ, List.setIfInBounds_toArray, List.set_cons_zero, List.set_cons_succ]
            refine wpAnyG_take [21, 24, 25, 26, 27, 28, 29, 30, 31, 32, 33, 34, 35, 36, 37, 38] (i := 21) (v := undef) rfl (by kernel_rfl) (by kernel_rfl) (by kernel_rfl) (by kernel_rfl) (by kernel_rfl) (by kernel_rfl) (by kernel_rfl) (by kernel_rfl) (fun _ _ _ h => h) (Or.inr ⟨by rfl, rfl⟩) T0 ?_
            try simp only [Act.put, List.getElem_toArray, List.getElem_cons_zero, List.getElem_cons_succ, List.setIfInBounds_toArray, List.set_cons_zero, List.set_cons_succ]
            refine wpAnyG_take [22, 23, 24, 25, 26, 27, 28, 29, 30, 31, 32, 33, 34, 35, 36, 37, 38] (i := 22) (v := undef) rfl (by kernel_rfl) (by kernel_rfl) (by kernel_rfl) (by kernel_rfl) (by kernel_rfl) (by kernel_rfl) (by kernel_rfl) (by kernel_rfl) (fun _ _ _ h => h) (Or.inr ⟨by rfl, rfl⟩) T0 ?_
            try simp only [Act.put, List.getElem_toArray, List.getElem_cons_zero, List.getElem_cons_succ, List.setIfInBounds_toArray, List.set_cons_zero, List.set_cons_succ]
            refine wpAnyG_take [23, 24, 25, 26, 27, 28, 29, 30, 31, 32, 33, 34, 35, 36, 37, 38] (i := 23) (v := undef) rfl (by kernel_rfl) (by kernel_rfl) (by kernel_rfl) (by kernel_rfl) (by kernel_rfl) (by kernel_rfl) (by kernel_rfl) (by kernel_rfl) (fun _ _ _ h => h) (Or.inr ⟨by rfl, rfl⟩) T0 ?_
            try simp only [Act.put, List.getElem_toArray, List.getElem_cons_zero, List.getElem_cons_succ, List.setIfInBounds_toArray, List.set_cons_zero, List.set_cons_succ]
            refine wpAnyG_take [24, 25, 26, 27, 28, 29, 30, 31, 32, 33, 34, 35, 36, 37, 38] (i := 24) (v := undef) rfl (by kernel_rfl) (by kernel_rfl) (by kernel_rfl) (by kernel_rfl) (by kernel_rfl) (by kernel_rfl) (by kernel_rfl) (by kernel_rfl) (fun _ _ _ h => h) (Or.inr ⟨by rfl, rfl⟩) T0 ?_
            try simp only [Act.put, List.getElem_toArray, List.getElem_cons_zero, List.getElem_cons_succ, List.setIfInBounds_toArray, List.set_cons_zero, List.set_cons_succ]
            refine wpAnyG_take [25, 26, 27, 28, 29, 30, 31, 32, 33, 34, 35, 36, 37, 38] (i := 25) (v := (.bool false)) rfl (by kernel_rfl) (by kernel_rfl) (by kernel_rfl) (by kernel_rfl) (by kernel_rfl) (by kernel_rfl) (by kernel_rfl) (by kernel_rfl) (fun _ _ _ h => h) (Or.inl ⟨by rfl, ?hy⟩) T0 ?_
            case hy =>
              intro X hX
              go_simp
            try simp only [Act.put, List.getElem_toArray, List.getElem_cons_zero, List.getElem_cons_succ, List.setIfInBounds_toArray, List.set_cons_zero, List.set_cons_succ]
            refine wpAnyG_take [26, 27, 28, 29, 30, 31, 32, 33, 34, 35, 36, 37, 38] (i := 26) (v := (.bool false)) rfl (by kernel_rfl) (by kernel_rfl) (by kernel_rfl) (by kernel_rfl) (by kernel_rfl) (by kernel_rfl) (by kernel_rfl) (by kernel_rfl) (fun _ _ _ h => h) (Or.inl ⟨by rfl, ?hy⟩) T0 ?_
            case hy =>
              intro X hX
              go_simp
            try simp only [Act.put, List.getElem_toArray, List.getElem_cons_zero, List.getElem_cons_succ, List.setIfInBounds_toArray, List.set_cons_zero, List.set_cons_succ]
            refine wpAnyG_take [27, 28, 29, 30, 31, 32, 33, 34, 35, 36, 37, 38] (i := 27) (v := (.bool false)) rfl (by kernel_rfl) (by kernel_rfl) (by kernel_rfl) (by kernel_rfl) (by kernel_rfl) (by kernel_rfl) (by kernel_rfl) (by kernel_rfl) (fun _ _ _ h => h) (Or.inl ⟨by rfl, ?hy⟩) T0 ?_
            case hy =>
              intro X hX
              go_simp
            try simp only [Act.put, List.getElem_toArray, List.getElem_cons_zero, List.getElem_cons_succ, List.setIfInBounds_toArray, List.set_cons_zero, List.set_cons_succ]
            refine wpAnyG_take [28, 29, 30, 31, 32, 33, 34, 35, 36, 37, 38] (i := 28) (v := (.int .u8 43)) rfl (by kernel_rfl) (by kernel_rfl) (by kernel_rfl) (by kernel_rfl) (by kernel_rfl) (by kernel_rfl) (by kernel_rfl) (by kernel_rfl) (fun _ _ _ h => h) (Or.inl ⟨by rfl, ?hy⟩) T0 ?_
            case hy =>
              intro X hX
              go_simp
            try simp only [Act.put, List.getElem_toArray, List.getElem_cons_zero, List.getElem_cons_succ, List.setIfInBounds_toArray, List.set_cons_zero, List.set_cons_succ]
            refine wpAnyG_take [29, 30, 31, 32, 33, 34, 35, 36, 37, 38] (i := 29) (v := (.bool true)) rfl (by kernel_rfl) (by kernel_rfl) (by kernel_rfl) (by kernel_rfl) (by kernel_rfl) (by kernel_rfl) (by kernel_rfl) (by kernel_rfl) (fun _ _ _ h => h) (Or.inl ⟨by rfl, ?hy⟩) T0 ?_
            case hy =>
              intro X hX
              go_simp
            try simp only [Act.put, List.getElem_toArray, List.getElem_cons_zero, List.getElem_cons_succ, List.setIfInBounds_toArray, List.set_cons_zero, List.set_cons_succ]
            refine wpAnyG_take [30, 31, 32, 33, 34, 35, 36, 37, 38] (i := 30) (v := (.bool true)) rfl (by kernel_rfl) (by kernel_rfl) (by kernel_rfl) (by kernel_rfl) (by kernel_rfl) (by kernel_rfl) (by kernel_rfl) (by kernel_rfl) (fun _ _ _ h => h) (Or.inl ⟨by rfl, ?hy⟩) T0 ?_
            case hy =>
              intro X hX
              go_simp
            try simp only [Act.put, List.getElem_toArray, List.getElem_cons_zero, List.getElem_cons_succ, List.setIfInBounds_toArray, List.set_cons_zero, List.set_cons_succ]
            refine wpAnyG_take [31, 32, 35, 36, 37, 38] (i := 31) (v := (.string b)) rfl (by kernel_rfl) (by kernel_rfl) (by kernel_rfl) (by kernel_rfl) (by kernel_rfl) (by kernel_rfl) (by kernel_rfl) (by kernel_rfl) (fun _ _ _ h => h) (Or.inl ⟨by rfl, ?hy⟩) T0 ?_
            case hy =>
              intro X hX
              go_simp
            try simp only [Act.put, List.getElem_toArray, List.getElem_cons_zero, List.getElem_cons_succ, List.setIfInBounds_toArray, List.set_cons_zero, List.set_cons_succ]
            refine wpAnyG_take [32, 35, 36, 37, 38] (i := 32) (v := (.int .i64 (b.size : Int))) rfl (by kernel_rfl) (by kernel_rfl) (by kernel_rfl) (by kernel_rfl) (by kernel_rfl) (by kernel_rfl) (by kernel_rfl) (by kernel_rfl) (fun _ _ _ h => h) (Or.inl ⟨by rfl, ?hy⟩) T0 ?_
            case hy =>
              intro X hX
              go_simp
            try simp only [Act.put, List.getElem_toArray, List.getElem_cons_zero, List.getElem_cons_succ, List.setIfInBounds_toArray, List.set_cons_zero, List.set_cons_succ]
            refine wpAnyG_take [33, 34, 35, 36, 37, 38] (i := 33) (v := (.int .i64 (T : Int))) rfl (by kernel_rfl) (by kernel_rfl) (by kernel_rfl) (by kernel_rfl) (by kernel_rfl) (by kernel_rfl) (by kernel_rfl) (by kernel_rfl) (fun _ _ _ h => h) (Or.inl ⟨by rfl, ?hy⟩) T0 ?_
            case hy =>
              intro X hX
              go_simp
            try simp only [Act.put, List.getElem_toArray, List.getElem_cons_zero, List.getElem_cons_succ, List.setIfInBounds_toArray, List.set_cons_zero, List.set_cons_succ]
            refine wpAnyG_take [34, 35, 36, 37, 38] (i := 34) (v := (.int .i64 ((65536 : Int) - (T : Int)))) rfl (by kernel_rfl) (by kernel_rfl) (by kernel_rfl) (by kernel_rfl) (by kernel_rfl) (by kernel_rfl) (by kernel_rfl) (by kernel_rfl) (fun _ _ _ h => h) (Or.inl ⟨by rfl, ?hy⟩) T0 ?_
            case hy =>
              intro X hX
              (go_simp; exact IntWalk.i64_in ((65536 : Int) - (T : Int)) (by omega))
            try simp only [Act.put, List.getElem_toArray, List.getElem_cons_zero, List.getElem_cons_succ, List.setIfInBounds_toArray, List.set_cons_zero, List.set_cons_succ]
            refine wpAnyG_take [35, 36, 37, 38] (i := 35) (v := (.bool true)) rfl (by kernel_rfl) (by kernel_rfl) (by kernel_rfl) (by kernel_rfl) (by kernel_rfl) (by kernel_rfl) (by kernel_rfl) (by kernel_rfl) (fun _ _ _ h => h) (Or.inl ⟨by rfl, ?hy⟩) T0 ?_
            case hy =>
              intro X hX
              go_simp
            try simp only [Act.put, List.getElem_toArray, List.getElem_cons_zero, List.getElem_cons_succ, List.setIfInBounds_toArray, List.set_cons_zero, List.set_cons_succ]
            refine wpAnyG_take [36, 37, 38] (i := 36) (v := (.bool true)) rfl (by kernel_rfl) (by kernel_rfl) (by kernel_rfl) (by kernel_rfl) (by kernel_rfl) (by kernel_rfl) (by kernel_rfl) (by kernel_rfl) (fun _ _ _ h => h) (Or.inl ⟨by rfl, ?hy⟩) T0 ?_
            case hy =>
              intro X hX
              go_simp
            try simp only [Act.put, List.getElem_toArray, List.getElem_cons_zero, List.getElem_cons_succ, List.setIfInBounds_toArray, List.set_cons_zero, List.set_cons_succ]
            refine wpAnyG_take [37, 38] (i := 37) (v := (.bool true)) rfl (by kernel_rfl) (by kernel_rfl) (by kernel_rfl) (by kernel_rfl) (by kernel_rfl) (by kernel_rfl) (by kernel_rfl) (by kernel_rfl) (fun _ _ _ h => h) (Or.inl ⟨by rfl, ?hy⟩) T0 ?_
            case hy =>
              intro X hX
              go_simp
            try simp only [Act.put, List.getElem_toArray, List.getElem_cons_zero, List.getElem_cons_succ, List.setIfInBounds_toArray, List.set_cons_zero, List.set_cons_succ]
            refine wpAnyG_take [38] (i := 38) (v := (.bool true)) rfl (by kernel_rfl) (by kernel_rfl) (by kernel_rfl) (by kernel_rfl) (by kernel_rfl) (by kernel_rfl) (by kernel_rfl) (by kernel_rfl) (fun _ _ _ h => h) (Or.inl ⟨by rfl, ?hy⟩) T0 ?_
            case hy =>
              intro X hX
              go_simp
            try simp only [Act.put, List.getElem_toArray, List.getElem_cons_zero, List.getElem_cons_succ, List.setIfInBounds_toArray, List.set_cons_zero, List.set_cons_succ]
            refine wpAnyG_done (by kernel_rfl) ?_ _
            refine NoPanic.normal ?_
            have HM6 := Lib.hid T0
            clear T0
            obtain ⟨q0, q1, q2, qf⟩ : Y4.cell? ⟨G, 0, none⟩ = some (.int .i64 0) ∧ Y4.cell? ⟨G, 1, none⟩ = some (.string .empty) ∧ Y4.cell? ⟨G, 2, none⟩ = some (.string .empty) ∧ ∀ o, Y4.frozen? ⟨G, o, none⟩ = false := ⟨HG4.out.cell 0, HG4.out.cell 1, HG4.out.cell 2, fun o => HG4.out.frozen o⟩
            go_upto_region 25 with (go_at_call 34; go_must (refine (badD_ok HM6.out.k (p1 + 1)).mono ?_; rintro e w5 ⟨rfl, rfl⟩))
            obtain ⟨W5, hW5⟩ : ∃ Z, (Y4.setCell ⟨w.heap.size, 2, none⟩ (.int .i64 ((p1 : Int) + 1))).setCell ⟨G, 2, none⟩ (.string b) = Z := ⟨_, rfl⟩
            obtain ⟨k, d, pp, p5, z5, hM5, hG5, hST5, hBd, h56⟩ : ∃ (k : Nat) (d pp : ByteArray) (p5 : Nat) (z5 : Int), DrM w s (.slice oo l.length oc) l p5 z5 W5 ∧ Blk W5 G #[.int .i64 (k : Int), .string d, .string pp] 71 ∧ DrS s (l ++ [⟨(k : Int), d, pp⟩]) p5 z5 (F + k + d.size) (T + k + pp.size) ∧ (k < 10995116277780 ∧ d.size ≤ 1048600 ∧ pp.size ≤ 1048600) ∧ (z5 = -1 → p < p5) :=
              ⟨0, .empty, b, (q + 1), ((p1 + 1 : Nat) : Int), (by rw [← hW5]; exact ((by have := HM6.out.bad ((p1 + 1 : Nat) : Int); simpa using this : DrM w s (.slice oo l.length oc) l (q + 1) ((p1 + 1 : Nat) : Int) (Y4.setCell ⟨w.heap.size, 2, none⟩ (.int .i64 ((p1 : Int) + 1)))).put hwG (Blk.other HG4.out (by omega) 2 _) HM2.out.2.2.1 2 _)), (by rw [← hW5]; exact Blk.set (Blk.other HG4.out (by omega) 2 _) 2 _), .inr ⟨p1 + 1, rfl, HBAD.out, by have := HQ.out.2.1; omega⟩, ⟨by omega, Nat.zero_le _, HBS.out⟩, fun h => by omega⟩
            rw [hW5]
            have HM5 := Lib.hid hM5
            have HG5 := Lib.hid hG5
            have HST5 := Lib.hid hST5
            have HBd := Lib.hid hBd
            have H56 := Lib.hid h56
            clear hW5 hM5 hG5 hST5 hBd h56
            obtain ⟨g0, g1, g2, gf⟩ : W5.cell? ⟨G, 0, none⟩ = some (.int .i64 (k : Int)) ∧ W5.cell? ⟨G, 1, none⟩ = some (.string d) ∧ W5.cell? ⟨G, 2, none⟩ = some (.string pp) ∧ ∀ o, W5.frozen? ⟨G, o, none⟩ = false := ⟨HG5.out.cell 0, HG5.out.cell 1, HG5.out.cell 2, fun o => HG5.out.frozen o⟩
            have hkI : (k : Int) ≤ 10995116277780 := by have := HBd.out.1; omega
            have hdI : (d.size : Int) ≤ 1048600 := by have := HBd.out.2.1; omega
            have hppI : (pp.size : Int) ≤ 1048600 := by have := HBd.out.2.2; omega
            have hwn : w.heap.size + 1 ≤ W5.heap.size := HM5.out.n
            go_wp2_with (at_builtin; refine wpList_append_own _ rfl _ _ 25 rfl (w.heap.size + 1) 71 j0 (.agg #[.int .i64 0, .string .empty, .string .empty]) 3 40 Tryd.underlying25 hj hy0 hy1 hy2 rfl (by decide) (.slice oo l.length oc) _ _ rfl (HM5.out.o.alloc _) ⟨W5.heap.size, 0, none⟩ 1 1 [.int .i64 (k : Int), .string d, .string pp] rfl rfl (World.news_of_block (cs := #[.int .i64 (k : Int), .string d, .string pp]) (t := 71) (fr := (0, 0)) (World.alloc_heap_new W5 _)) (fun u hu => by simp at hu; rcases hu with rfl | rfl | rfl <;> rfl) (by unfold maxLen; first | omega | (simp; done) | (simp; omega)) (by first | omega | (simp; done) | (simp; omega)) (by first | omega | (simp; done) | (simp; omega)) ?_; intro v' w7 hown' hgrow _; have H7 := Lib.hid (DrM.app (x := ⟨(k : Int), d, pp⟩) (HM5.out.below ((Below.refl _ _).alloc (Nat.le_refl _) _)) hown' hgrow); clear hown' hgrow)
            go_roundw
            case rel => exact ⟨_, p5, z5, F + k + d.size, T + k + pp.size, by go_num, by go_num, H7.out, HST5.out⟩
            case measure =>
              obtain ⟨x0, x1, x2, xf⟩ := (DdK.start H7.out.k).cells
              rw [x2, x1, KX.out.1, KX.out.2]
              have hst := HST5.out
              have hps := HB.out
              have hpl := HP1.out.2.1
              rcases hst with ⟨rfl, _, h5, h6, _⟩ | ⟨e5, rfl, _⟩
              · have := H56.out rfl
                simp [intOf]; omega
              · simp [intOf]; omega
        have hT : quoT s (p1 + 1) F T false = (some b, q + 1) := by unfold quoT; rw [hq2]; exact if_neg (by have := HB.out; simp; omega)
        have hst : stS s p1 F T = (some ⟨0, .empty, b⟩, q + 1) := by unfold stS; rw [HC.out, if_neg (by omega), if_neg (by omega), if_pos rfl, hT]
        have HGO := Lib.hid (And.intro (HP1.out.2.2.2 _ _ hst) (And.intro (stS_fits HP1.out.1 HB.out.1 HB.out.2.1 hst) HB.out.2.2.1))
        have d1 : ¬ (65536 : Int) - (T : Int) < (b.size : Int) := by omega
        clear hT hst hq2 hbig
        as_aux_lemma =>
          refine wp_region_noPanic ?_
          refine wp_region_g (S := untilG [] (fun X => DrM w s (.slice oo l.length oc) l (q + 1) (-1) X)) (by kernel_rfl) ?_
          obtain ⟨X0, hX0⟩ : ∃ Z, w3.drew = Z := ⟨_, rfl⟩
          have U0 : Below w3.heap.size w3 X0 := hX0 ▸ (Below.refl w3.heap.size w3).drew
          have T0 := HM3.out.below U0
          have HG4 := Lib.hid (Blk.below' HG3.out U0)
          rw [hX0]
          clear hX0 U0
          refine wpAnyG_take [0, 1, 2, 3, 4, 5, 6, 7, 8, 9, 10, 11, 12, 13, 14, 15, 16, 17, 18, 19, 20, 21, 22, 23, 24, 25, 26, 27, 28, 29, 30, 31, 32, 33, 34, 35, 36, 37, 38] (i := 0) (v := (.pointer (some ⟨w.heap.size, 2, none⟩))) rfl (by kernel_rfl) (by kernel_rfl) (by kernel_rfl) (by kernel_rfl) (by kernel_rfl) (by kernel_rfl) (by kernel_rfl) (by kernel_rfl) (fun _ _ _ h => h) (Or.inl ⟨by rfl, ?hy⟩) T0 ?_
          case hy =>
            intro X hX
            go_simp
          try simp only [Act.put, List.getElem_toArray, List.getElem_cons_zero, List.getElem_cons_succ, List.setIfInBounds_toArray, List.set_cons_zero, List.set_cons_succ]
          refine wpAnyG_take [1, 2, 3, 4, 5, 6, 7, 8, 9, 10, 11, 12, 13, 14, 15, 16, 17, 18, 19, 20, 21, 22, 23, 24, 25, 26, 27, 28, 29, 30, 31, 32, 33, 34, 35, 36, 37, 38] (i := 1) (v := (.int .i64 (-1))) rfl (by kernel_rfl) (by kernel_rfl) (by kernel_rfl) (by kernel_rfl) (by kernel_rfl) (by kernel_rfl) (by kernel_rfl) (by kernel_rfl) (fun _ _ _ h => h) (Or.inl ⟨by rfl, ?hy⟩) T0 ?_
          case hy =>
            intro X hX
            obtain ⟨m0, m1, m2, mf⟩ := (DdK.start hX.k).cells
            go_simp
          try simp only [Act.put, List.getElem_toArray, List.getElem_cons_zero, List.getElem_cons_succ, List.setIfInBounds_toArray, List.set_cons_zero, List.set_cons_succ]
          refine wpAnyG_take [2, 3, 4, 5, 6, 7, 8, 9, 10, 11, 12, 13, 14, 15, 16, 17, 18, 19, 20, 21, 22, 23, 24, 25, 26, 27, 28, 29, 30, 31, 32, 33, 34, 35, 36, 37, 38] (i := 2) (v := (.bool true)) rfl (by kernel_rfl) (by kernel_rfl) (by kernel_rfl) (by kernel_rfl) (by kernel_rfl) (by kernel_rfl) (by kernel_rfl) (by kernel_rfl) (fun _ _ _ h => h) (Or.inl ⟨by rfl, ?hy⟩) T0 ?_
          case hy =>
            intro X hX
            go_simp
          try simp only [Act.put, List.getElem_toArray, List.getElem_cons_zero, List.getElem_cons_succ, List.setIfInBounds_toArray, List.set_cons_zero, List.set_cons_succ]
          refine wpAnyG_take [3, 4, 5, 6, 7, 8, 9, 10, 11, 12, 13, 14, 15, 16, 17, 18, 19, 20, 21, 22, 23, 24, 25, 26, 27, 28, 29, 30, 31, 32, 33, 34, 35, 36, 37, 38] (i := 3) (v := (.bool true)) rfl (by kernel_rfl) (by kernel_rfl) (by kernel_rfl) (by kernel_rfl) (by kernel_rfl) (by kernel_rfl) (by kernel_rfl) (by kernel_rfl) (fun _ _ _ h => h) (Or.inl ⟨by rfl, ?hy⟩) T0 ?_
          case hy =>
            intro X hX
            go_simp
          try simp only [Act.put, List.getElem_toArray, List.getElem_cons_zero, List.getElem_cons_succ, List.setIfInBounds_toArray, List.set_cons_zero, List.set_cons_succ]
          refine wpAnyG_take [4, 5, 6, 7, 8, 9, 10, 11, 12, 13, 14, 15, 16, 17, 18, 19, 20, 21, 22, 23, 24, 25, 26, 27, 28, 29, 30, 31, 32, 33, 34, 35, 36, 37, 38] (i := 4) (v := (.string b)) rfl (by kernel_rfl) (by kernel_rfl) (by kernel_rfl) (by kernel_rfl) (by kernel_rfl) (by kernel_rfl) (by kernel_rfl) (by kernel_rfl) (fun _ _ _ h => h) (Or.inl ⟨by rfl, ?hy⟩) T0 ?_
          case hy =>
            intro X hX
            go_simp
          try simp only [Act.put, List.getElem_toArray, List.getElem_cons_zero, List.getElem_cons_succ, List.setIfInBounds_toArray, List.set_cons_zero, List.set_cons_succ]
          refine wpAnyG_take [5, 6, 7, 8, 9, 10, 11, 12, 13, 14, 15, 16, 17, 18, 19, 20, 21, 22, 23, 24, 25, 26, 27, 28, 29, 30, 31, 32, 33, 34, 35, 36, 37, 38] (i := 5) (v := (.bool false)) rfl (by kernel_rfl) (by kernel_rfl) (by kernel_rfl) (by kernel_rfl) (by kernel_rfl) (by kernel_rfl) (by kernel_rfl) (by kernel_rfl) (fun _ _ _ h => h) (Or.inl ⟨by rfl, ?hy⟩) T0 ?_
          case hy =>
            intro X hX
            go_simp
          try simp only [Act.put, List.getElem_toArray, List.getElem_cons_zero, List.getElem_cons_succ, List.setIfInBounds_toArray, List.set_cons_zero, List.set_cons_succ]
          refine wpAnyG_take [6, 7, 8, 9, 10, 11, 12, 13, 14, 15, 16, 17, 18, 19, 20, 21, 22, 23, 24, 25, 26, 27, 28, 29, 30, 31, 32, 33, 34, 35, 36, 37, 38] (i := 6) (v := (.bool false)) rfl (by kernel_rfl) (by kernel_rfl) (by kernel_rfl) (by kernel_rfl) (by kernel_rfl) (by kernel_rfl) (by kernel_rfl) (by kernel_rfl) (fun _ _ _ h => h) (Or.inl ⟨by rfl, ?hy⟩) T0 ?_
          case hy =>
            intro X hX
            go_simp
          try simp only [Act.put, List.getElem_toArray, List.getElem_cons_zero, List.getElem_cons_succ, List.setIfInBounds_toArray, List.set_cons_zero, List.set_cons_succ]
          refine wpAnyG_take [7, 8, 14, 15, 16, 17, 18, 19, 20, 21, 22, 23, 24, 25, 26, 27, 28, 29, 30, 31, 32, 33, 34, 35, 36, 37, 38] (i := 7) (v := (.string b)) rfl (by kernel_rfl) (by kernel_rfl) (by kernel_rfl) (by kernel_rfl) (by kernel_rfl) (by kernel_rfl) (by kernel_rfl) (by kernel_rfl) (fun _ _ _ h => h) (Or.inl ⟨by rfl, ?hy⟩) T0 ?_
          case hy =>
            intro X hX
            go_simp
          try simp only [Act.put, List.getElem_toArray, List.getElem_cons_zero, List.getElem_cons_succ, List.setIfInBounds_toArray, List.set_cons_zero, List.set_cons_succ]
          refine wpAnyG_take [9, 13, 14, 15, 16, 17, 18, 19, 20, 21, 22, 23, 24, 25, 26, 27, 28, 29, 30, 31, 32, 33, 34, 35, 36, 37, 38] (i := 9) (v := (.string s)) rfl (by kernel_rfl) (by kernel_rfl) (by kernel_rfl) (by kernel_rfl) (by kernel_rfl) (by kernel_rfl) (by kernel_rfl) (by kernel_rfl) (fun _ _ _ h => h) (Or.inl ⟨by rfl, ?hy⟩) T0 ?_
          case hy =>
            intro X hX
            go_simp
          try simp only [Act.put, List.getElem_toArray, List.getElem_cons_zero, List.getElem_cons_succ, List.setIfInBounds_toArray, List.set_cons_zero, List.set_cons_succ]
          refine wpAnyG_take [10, 13, 14, 15, 16, 17, 18, 19, 20, 21, 22, 23, 24, 25, 26, 27, 28, 29, 30, 31, 32, 33, 34, 35, 36, 37, 38] (i := 10) (v := (.int .i64 ((p1 : Int) + 1))) rfl (by kernel_rfl) (by kernel_rfl) (by kernel_rfl) (by kernel_rfl) (by kernel_rfl) (by kernel_rfl) (by kernel_rfl) (by kernel_rfl) (fun _ _ _ h => h) (Or.inl ⟨by rfl, ?hy⟩) T0 ?_
          case hy =>
            intro X hX
            go_simp
          try simp only [Act.put, List.getElem_toArray, List.getElem_cons_zero, List.getElem_cons_succ, List.setIfInBounds_toArray, List.set_cons_zero, List.set_cons_succ]
          refine wpAnyG_take [11, 12, 13, 14, 15, 16, 17, 18, 19, 20, 21, 22, 23, 24, 25, 26, 27, 28, 29, 30, 31, 32, 33, 34, 35, 36, 37, 38] (i := 11) (v := (.pointer (some ⟨w.heap.size, 1, none⟩))) rfl (by kernel_rfl) (by kernel_rfl) (by kernel_rfl) (by kernel_rfl) (by kernel_rfl) (by kernel_rfl) (by kernel_rfl) (by kernel_rfl) (fun _ _ _ h => h) (Or.inl ⟨by rfl, ?hy⟩) T0 ?_
          case hy =>
            intro X hX
            go_simp
          try simp only [Act.put, List.getElem_toArray, List.getElem_cons_zero, List.getElem_cons_succ, List.setIfInBounds_toArray, List.set_cons_zero, List.set_cons_succ]
          refine wpAnyG_take [12, 13, 14, 15, 16, 17, 18, 19, 20, 21, 22, 23, 24, 25, 26, 27, 28, 29, 30, 31, 32, 33, 34, 35, 36, 37, 38] (i := 12) (v := (.int .i64 ((q : Int) + 1))) rfl (by kernel_rfl) (by kernel_rfl) (by kernel_rfl) (by kernel_rfl) (by kernel_rfl) (by kernel_rfl) (by kernel_rfl) (by kernel_rfl) (fun _ _ _ h => h) (Or.inl ⟨by rfl, ?hy⟩) T0 ?_
          case hy =>
            intro X hX
            obtain ⟨m0, m1, m2, mf⟩ := (DdK.start hX.k).cells
            simp only [Int.natCast_add, Int.cast_ofNat_Int] at m1
            go_simp
          try simp only [Act.put, List.getElem_toArray, List.getElem_cons_zero, List.getElem_cons_succ, List.setIfInBounds_toArray, List.set_cons_zero, List.set_cons_succ]
          refine wpAnyG_take [13, 14, 15, 16, 17, 18, 19, 20, 21, 22, 23, 24, 25, 26, 27, 28, 29, 30, 31, 32, 33, 34, 35, 36, 37, 38] (i := 13) (v := (.string u)) rfl (by kernel_rfl) (by kernel_rfl) (by kernel_rfl) (by kernel_rfl) (by kernel_rfl) (by kernel_rfl) (by kernel_rfl) (by kernel_rfl) (fun _ _ _ h => h) (Or.inl ⟨by rfl, ?hy⟩) T0 ?_
          case hy =>
            intro X hX
            go_simp
          try simp only [Act.put, List.getElem_toArray, List.getElem_cons_zero, List.getElem_cons_succ, List.setIfInBounds_toArray, List.set_cons_zero, List.set_cons_succ]
          refine wpAnyG_all (rs := [8]) (by kernel_rfl) (by simp) ?_
          intro i hi
          simp only [List.mem_cons, List.not_mem_nil, or_false] at hi
          subst hi
          refine wpOp_open rfl (by rfl) ?_
          go_simp
          refine (cQt _).mono ?_
          intro e Y4 hQ4
          obtain ⟨rfl, hb4⟩ := hQ4.h
          rw [HUV.out.1]
          replace T0 := T0.below hb4
          have HG4 := Lib.hid (Blk.below' HG4.out hb4)
          clear hb4 hQ4
          refine ⟨fun _ => T0, ?_⟩
          try simp only [Act.put, List.getElem_toArray, List.getElem_cons_zero, List.getElem_cons_succ, List.setIfInBounds_toArray, List.set_cons_zero, List.set_cons_succ]
          refine wpAnyG_take [14, 15, 16, 17, 18, 19, 20, 21, 22, 23, 24, 25, 26, 27, 28, 29, 30, 31, 32, 33, 34, 35, 36, 37, 38] (i := 14) (v := (.bool false)) rfl (by kernel_rfl) (by kernel_rfl) (by kernel_rfl) (by kernel_rfl) (by kernel_rfl) (by kernel_rfl) (by kernel_rfl) (by kernel_rfl) (fun _ _ _ h => h) (Or.inl ⟨by rfl, ?hy⟩) T0 ?_
          case hy =>
            intro X hX
            go_simp
          try simp only [Act.put, List.getElem_toArray, List.getElem_cons_zero, List.getElem_cons_succ, List.setIfInBounds_toArray, List.set_cons_zero, List.set_cons_succ]
          refine wpAnyG_take [15, 16, 17, 18, 19, 20, 21, 22, 23, 24, 25, 26, 27, 28, 29, 30, 31, 32, 33, 34, 35, 36, 37, 38] (i := 15) (v := (.bool false)) rfl (by kernel_rfl) (by kernel_rfl) (by kernel_rfl) (by kernel_rfl) (by kernel_rfl) (by kernel_rfl) (by kernel_rfl) (by kernel_rfl) (fun _ _ _ h => h) (Or.inl ⟨by rfl, ?hy⟩) T0 ?_
          case hy =>
            intro X hX
            go_simp
          try simp only [Act.put, List.getElem_toArray, List.getElem_cons_zero, List.getElem_cons_succ, List.setIfInBounds_toArray, List.set_cons_zero, List.set_cons_succ]
          refine wpAnyG_take [16, 17, 18, 19, 20, 21, 22, 23, 24, 25, 26, 27, 28, 29, 30, 31, 32, 33, 34, 35, 36, 37, 38] (i := 16) (v := (.bool false)) rfl (by kernel_rfl) (by kernel_rfl) (by kernel_rfl) (by kernel_rfl) (by kernel_rfl) (by kernel_rfl) (by kernel_rfl) (by kernel_rfl) (fun _ _ _ h => h) (Or.inl ⟨by rfl, ?hy⟩) T0 ?_
          case hy =>
            intro X hX
            go_simp
          try simp only [Act.put, List.getElem_toArray, List.getElem_cons_zero, List.getElem_cons_succ, List.setIfInBounds_toArray, List.set_cons_zero, List.set_cons_succ]
          refine wpAnyG_take [17, 18, 19, 20, 21, 22, 23, 24, 25, 26, 27, 28, 29, 30, 31, 32, 33, 34, 35, 36, 37, 38] (i := 17) (v := (.int .u8 43)) rfl (by kernel_rfl) (by kernel_rfl) (by kernel_rfl) (by kernel_rfl) (by kernel_rfl) (by kernel_rfl) (by kernel_rfl) (by kernel_rfl) (fun _ _ _ h => h) (Or.inl ⟨by rfl, ?hy⟩) T0 ?_
          case hy =>
            intro X hX
            go_simp
          try simp only [Act.put, List.getElem_toArray, List.getElem_cons_zero, List.getElem_cons_succ, List.setIfInBounds_toArray, List.set_cons_zero, List.set_cons_succ]
          refine wpAnyG_take [18, 19, 20, 21, 22, 23, 24, 25, 26, 27, 28, 29, 30, 31, 32, 33, 34, 35, 36, 37, 38] (i := 18) (v := (.bool false)) rfl (by kernel_rfl) (by kernel_rfl) (by kernel_rfl) (by kernel_rfl) (by kernel_rfl) (by kernel_rfl) (by kernel_rfl) (by kernel_rfl) (fun _ _ _ h => h) (Or.inl ⟨by rfl, ?hy⟩) T0 ?_
          case hy =>
            intro X hX
            go_simp
          try simp only [Act.put, List.getElem_toArray, List.getElem_cons_zero, List.getElem_cons_succ, List.setIfInBounds_toArray, List.set_cons_zero, List.set_cons_succ]
          refine wpAnyG_take [19, 20, 21, 22, 23, 24, 25, 26, 27, 28, 29, 30, 31, 32, 33, 34, 35, 36, 37, 38] (i := 19) (v := (.bool false)) rfl (by kernel_rfl) (by kernel_rfl) (by kernel_rfl) (by kernel_rfl) (by kernel_rfl) (by kernel_rfl) (by kernel_rfl) (by kernel_rfl) (fun _ _ _ h => h) (Or.inl ⟨by rfl, ?hy⟩) T0 ?_
          case hy =>
            intro X hX
            go_simp
          try simp only [Act.put, List.getElem_toArray, List.getElem_cons_zero, List.getElem_cons_succ, List.setIfInBounds_toArray, List.set_cons_zero, List.set_cons_succ]
          refine wpAnyG_take [20, 21, 24, 25, 26, 27, 28, 29, 30, 31, 32, 33, 34, 35, 36, 37, 38] (i := 20) (v := undef) rfl (by kernel_rfl) (by kernel_rfl) (by kernel_rfl) (by kernel_rfl) (by kernel_rfl) (by kernel_rfl) (by kernel_rfl) (by kernel_rfl) (fun _ _ _ h => h) (Or.inr ⟨by rfl, rfl⟩) T0 ?_
          try simp only [Act.put, List.getElem_toArray, List.getElem_cons_zero, List.getElem_cons_succ, List.setIfInBounds_toArray, List.set_cons_zero, List.set_cons_succ]
          refine wpAnyG_take [21, 24, 25, 26, 27, 28, 29, 30, 31, 32, 33, 34, 35, 36, 37, 38] (i := 21) (v := undef) rfl (by kernel_rfl) (by kernel_rfl) (by kernel_rfl) (by kernel_rfl) (by kernel_rfl) (by kernel_rfl) (by kernel_rfl) (by kernel_rfl) (fun _ _ _ h => h) (Or.inr ⟨by rfl, rfl⟩) T0 ?_
          try simp only [Act.put, List.getElem_toArray, List.getElem_cons_zero, List.getElem_cons_succ, List.setIfInBounds_toArray, List.set_cons_zero, List.set_cons_succ]
          refine wpAnyG_take [22, 23, 24, 25, 26, 27, 28, 29, 30, 31, 32, 33, 34, 35, 36, 37, 38] (i := 22) (v := undef) rfl (by kernel_rfl) (by kernel_rfl) (by kernel_rfl) (by kernel_rfl) (by kernel_rfl) (by kernel_rfl) (by kernel_rfl) (by kernel_rfl) (fun _ _ _ h => h) (Or.inr ⟨by rfl, rfl⟩) T0 ?_
          try simp only [Act.put, List.getElem_toArray, List.getElem_cons_zero, List.getElem_cons_succ, List.setIfInBounds_toArray, List.set_cons_zero, List.set_cons_succ]
          refine wpAnyG_take [23, 24, 25, 26, 27, 28, 29, 30, 31, 32, 33, 34, 35, 36, 37, 38] (i := 23) (v := undef) rfl (by kernel_rfl) (by kernel_rfl) (by kernel_rfl) (by kernel_rfl) (by kernel_rfl) (by kernel_rfl) (by kernel_rfl) (by kernel_rfl) (fun _ _ _ h => h) (Or.inr ⟨by rfl, rfl⟩) T0 ?_
          try simp only [Act.put, List.getElem_toArray, List.getElem_cons_zero, List.getElem_cons_succ, List.setIfInBounds_toArray, List.set_cons_zero, List.set_cons_succ]
          refine wpAnyG_take [24, 25, 26, 27, 28, 29, 30, 31, 32, 33, 34, 35, 36, 37, 38] (i := 24) (v := undef) rfl (by kernel_rfl) (by kernel_rfl) (by kernel_rfl) (by kernel_rfl) (by kernel_rfl) (by kernel_rfl) (by kernel_rfl) (by kernel_rfl) (fun _ _ _ h => h) (Or.inr ⟨by rfl, rfl⟩) T0 ?_
          try simp only [Act.put, List.getElem_toArray, List.getElem_cons_zero, List.getElem_cons_succ, List.setIfInBounds_toArray, List.set_cons_zero, List.set_cons_succ]
          refine wpAnyG_take [25, 26, 27, 28, 29, 30, 31, 32, 33, 34, 35, 36, 37, 38] (i := 25) (v := (.bool false)) rfl (by kernel_rfl) (by kernel_rfl) (by kernel_rfl) (by kernel_rfl) (by kernel_rfl) (by kernel_rfl) (by kernel_rfl) (by kernel_rfl) (fun _ _ _ h => h) (Or.inl ⟨by rfl, ?hy⟩) T0 ?_
          case hy =>
            intro X hX
            go_simp
          try simp only [Act.put, List.getElem_toArray, List.getElem_cons_zero, List.getElem_cons_succ, List.setIfInBounds_toArray, List.set_cons_zero, List.set_cons_succ]
          refine wpAnyG_take [26, 27, 28, 29, 30, 31, 32, 33, 34, 35, 36, 37, 38] (i := 26) (v := (.bool false)) rfl (by kernel_rfl) (by kernel_rfl) (by kernel_rfl) (by kernel_rfl) (by kernel_rfl) (by kernel_rfl) (by kernel_rfl) (by kernel_rfl) (fun _ _ _ h => h) (Or.inl ⟨by rfl, ?hy⟩) T0 ?_
          case hy =>
            intro X hX
            go_simp
          try simp only [Act.put, List.getElem_toArray, List.getElem_cons_zero, List.getElem_cons_succ, List.setIfInBounds_toArray, List.set_cons_zero, List.set_cons_succ]
          refine wpAnyG_take [27, 28, 29, 30, 31, 32, 33, 34, 35, 36, 37, 38] (i := 27) (v := (.bool false)) rfl (by kernel_rfl) (by kernel_rfl) (by kernel_rfl) (by kernel_rfl) (by kernel_rfl) (by kernel_rfl) (by kernel_rfl) (by kernel_rfl) (fun _ _ _ h => h) (Or.inl ⟨by rfl, ?hy⟩) T0 ?_
          case hy =>
            intro X hX
            go_simp
          try simp only [Act.put, List.getElem_toArray, List.getElem_cons_zero, List.getElem_cons_succ, List.setIfInBounds_toArray, List.set_cons_zero, List.set_cons_succ]
          refine wpAnyG_take [28, 29, 30, 31, 32, 33, 34, 35, 36, 37, 38] (i := 28) (v := (.int .u8 43)) rfl (by kernel_rfl) (by kernel_rfl) (by kernel_rfl) (by kernel_rfl) (by kernel_rfl) (by kernel_rfl) (by kernel_rfl) (by kernel_rfl) (fun _ _ _ h => h) (Or.inl ⟨by rfl, ?hy⟩) T0 ?_
          case hy =>
            intro X hX
            go_simp
          try simp only [Act.put, List.getElem_toArray, List.getElem_cons_zero, List.getElem_cons_succ, List.setIfInBounds_toArray, List.set_cons_zero, List.set_cons_succ]
          refine wpAnyG_take [29, 30, 31, 32, 33, 34, 35, 36, 37, 38] (i := 29) (v := (.bool true)) rfl (by kernel_rfl) (by kernel_rfl) (by kernel_rfl) (by kernel_rfl) (by kernel_rfl) (by kernel_rfl) (by kernel_rfl) (by kernel_rfl) (fun _ _ _ h => h) (Or.inl ⟨by rfl, ?hy⟩) T0 ?_
          case hy =>
            intro X hX
            go_simp
          try simp only [Act.put, List.getElem_toArray, List.getElem_cons_zero, List.getElem_cons_succ, List.setIfInBounds_toArray, List.set_cons_zero, List.set_cons_succ]
          refine wpAnyG_take [30, 31, 32, 33, 34, 35, 36, 37, 38] (i := 30) (v := (.bool true)) rfl (by kernel_rfl) (by kernel_rfl) (by kernel_rfl) (by kernel_rfl) (by kernel_rfl) (by kernel_rfl) (by kernel_rfl) (by kernel_rfl) (fun _ _ _ h => h) (Or.inl ⟨by rfl, ?hy⟩) T0 ?_
          case hy =>
            intro X hX
            go_simp
          try simp only [Act.put, List.getElem_toArray, List.getElem_cons_zero, List.getElem_cons_succ, List.setIfInBounds_toArray, List.set_cons_zero, List.set_cons_succ]
          refine wpAnyG_take [31, 32, 35, 36, 37, 38] (i := 31) (v := (.string b)) rfl (by kernel_rfl) (by kernel_rfl) (by kernel_rfl) (by kernel_rfl) (by kernel_rfl) (by kernel_rfl) (by kernel_rfl) (by kernel_rfl) (fun _ _ _ h => h) (Or.inl ⟨by rfl, ?hy⟩) T0 ?_
          case hy =>
            intro X hX
            go_simp
          try simp only [Act.put, List.getElem_toArray, List.getElem_cons_zero, List.getElem_cons_succ, List.setIfInBounds_toArray, List.set_cons_zero, List.set_cons_succ]
          refine wpAnyG_take [32, 35, 36, 37, 38] (i := 32) (v := (.int .i64 (b.size : Int))) rfl (by kernel_rfl) (by kernel_rfl) (by kernel_rfl) (by kernel_rfl) (by kernel_rfl) (by kernel_rfl) (by kernel_rfl) (by kernel_rfl) (fun _ _ _ h => h) (Or.inl ⟨by rfl, ?hy⟩) T0 ?_
          case hy =>
            intro X hX
            go_simp
          try simp only [Act.put, List.getElem_toArray, List.getElem_cons_zero, List.getElem_cons_succ, List.setIfInBounds_toArray, List.set_cons_zero, List.set_cons_succ]
          refine wpAnyG_take [33, 34, 35, 36, 37, 38] (i := 33) (v := (.int .i64 (T : Int))) rfl (by kernel_rfl) (by kernel_rfl) (by kernel_rfl) (by kernel_rfl) (by kernel_rfl) (by kernel_rfl) (by kernel_rfl) (by kernel_rfl) (fun _ _ _ h => h) (Or.inl ⟨by rfl, ?hy⟩) T0 ?_
          case hy =>
            intro X hX
            go_simp
          try simp only [Act.put, List.getElem_toArray, List.getElem_cons_zero, List.getElem_cons_succ, List.setIfInBounds_toArray, List.set_cons_zero, List.set_cons_succ]
          refine wpAnyG_take [34, 35, 36, 37, 38] (i := 34) (v := (.int .i64 ((65536 : Int) - (T : Int)))) rfl (by kernel_rfl) (by kernel_rfl) (by kernel_rfl) (by kernel_rfl) (by kernel_rfl) (by kernel_rfl) (by kernel_rfl) (by kernel_rfl) (fun _ _ _ h => h) (Or.inl ⟨by rfl, ?hy⟩) T0 ?_
          case hy =>
            intro X hX
            (go_simp; exact IntWalk.i64_in ((65536 : Int) - (T : Int)) (by omega))
          try simp only [Act.put, List.getElem_toArray, List.getElem_cons_zero, List.getElem_cons_succ, List.setIfInBounds_toArray, List.set_cons_zero, List.set_cons_succ]
          refine wpAnyG_take [35, 36, 37, 38] (i := 35) (v := (.bool false)) rfl (by kernel_rfl) (by kernel_rfl) (by kernel_rfl) (by kernel_rfl) (by kernel_rfl) (by kernel_rfl) (by kernel_rfl) (by kernel_rfl) (fun _ _ _ h => h) (Or.inl ⟨by rfl, ?hy⟩) T0 ?_
          case hy =>
            intro X hX
            go_simp
          try simp only [Act.put, List.getElem_toArray, List.getElem_cons_zero, List.getElem_cons_succ, List.setIfInBounds_toArray, List.set_cons_zero, List.set_cons_succ]
          refine wpAnyG_take [36, 37, 38] (i := 36) (v := (.bool false)) rfl (by kernel_rfl) (by kernel_rfl) (by kernel_rfl) (by kernel_rfl) (by kernel_rfl) (by kernel_rfl) (by kernel_rfl) (by kernel_rfl) (fun _ _ _ h => h) (Or.inl ⟨by rfl, ?hy⟩) T0 ?_
          case hy =>
            intro X hX
            go_simp
          try simp only [Act.put, List.getElem_toArray, List.getElem_cons_zero, List.getElem_cons_succ, List.setIfInBounds_toArray, List.set_cons_zero, List.set_cons_succ]
          refine wpAnyG_take [37, 38] (i := 37) (v := (.bool false)) rfl (by kernel_rfl) (by kernel_rfl) (by kernel_rfl) (by kernel_rfl) (by kernel_rfl) (by kernel_rfl) (by kernel_rfl) (by kernel_rfl) (fun _ _ _ h => h) (Or.inl ⟨by rfl, ?hy⟩) T0 ?_
          case hy =>
            intro X hX
            go_simp
          try simp only [Act.put, List.getElem_toArray, List.getElem_cons_zero, List.getElem_cons_succ, List.setIfInBounds_toArray, List.set_cons_zero, List.set_cons_succ]
          refine wpAnyG_take [38] (i := 38) (v := (.bool false)) rfl (by kernel_rfl) (by kernel_rfl) (by kernel_rfl) (by kernel_rfl) (by kernel_rfl) (by kernel_rfl) (by kernel_rfl) (by kernel_rfl) (fun _ _ _ h => h) (Or.inl ⟨by rfl, ?hy⟩) T0 ?_
          case hy =>
            intro X hX
            go_simp
          try simp only [Act.put, List.getElem_toArray, List.getElem_cons_zero, List.getElem_cons_succ, List.setIfInBounds_toArray, List.set_cons_zero, List.set_cons_succ]
          refine wpAnyG_done (by kernel_rfl) ?_ _
          refine NoPanic.normal ?_
          have HM6 := Lib.hid T0
          clear T0
          obtain ⟨q0, q1, q2, qf⟩ : Y4.cell? ⟨G, 0, none⟩ = some (.int .i64 0) ∧ Y4.cell? ⟨G, 1, none⟩ = some (.string .empty) ∧ Y4.cell? ⟨G, 2, none⟩ = some (.string .empty) ∧ ∀ o, Y4.frozen? ⟨G, o, none⟩ = false := ⟨HG4.out.cell 0, HG4.out.cell 1, HG4.out.cell 2, fun o => HG4.out.frozen o⟩
          go_upto_region 25 with (fail)
          obtain ⟨W5, hW5⟩ : ∃ Z, Y4.setCell ⟨G, 2, none⟩ (.string b) = Z := ⟨_, rfl⟩
          obtain ⟨k, d, pp, p5, z5, hM5, hG5, hST5, hBd, h56⟩ : ∃ (k : Nat) (d pp : ByteArray) (p5 : Nat) (z5 : Int), DrM w s (.slice oo l.length oc) l p5 z5 W5 ∧ Blk W5 G #[.int .i64 (k : Int), .string d, .string pp] 71 ∧ DrS s (l ++ [⟨(k : Int), d, pp⟩]) p5 z5 (F + k + d.size) (T + k + pp.size) ∧ (k < 10995116277780 ∧ d.size ≤ 1048600 ∧ pp.size ≤ 1048600) ∧ (z5 = -1 → p < p5) :=
            ⟨0, .empty, b, (q + 1), (-1), (by rw [← hW5]; exact HM6.out.put hwG HG4.out HM2.out.2.2.1 2 _), (by rw [← hW5]; exact Blk.set HG4.out 2 _), .inl ⟨rfl, HGO.out.1, HGO.out.2.1.2.2.2, by rw [List.length_append]; have := HGO.out; have := HP1.out.2.1; simp; omega, HGO.out.2.1.1, HGO.out.2.1.2.1⟩, ⟨by omega, Nat.zero_le _, HBS.out⟩, fun _ => by have := HGO.out; have := HP1.out.2.1; omega⟩
          rw [hW5]
          have HM5 := Lib.hid hM5
          have HG5 := Lib.hid hG5
          have HST5 := Lib.hid hST5
          have HBd := Lib.hid hBd
          have H56 := Lib.hid h56
          clear hW5 hM5 hG5 hST5 hBd h56
          obtain ⟨g0, g1, g2, gf⟩ : W5.cell? ⟨G, 0, none⟩ = some (.int .i64 (k : Int)) ∧ W5.cell? ⟨G, 1, none⟩ = some (.string d) ∧ W5.cell? ⟨G, 2, none⟩ = some (.string pp) ∧ ∀ o, W5.frozen? ⟨G, o, none⟩ = false := ⟨HG5.out.cell 0, HG5.out.cell 1, HG5.out.cell 2, fun o => HG5.out.frozen o⟩
          have hkI : (k : Int) ≤ 10995116277780 := by have := HBd.out.1; omega
          have hdI : (d.size : Int) ≤ 1048600 := by have := HBd.out.2.1; omega
          have hppI : (pp.size : Int) ≤ 1048600 := by have := HBd.out.2.2; omega
          have hwn : w.heap.size + 1 ≤ W5.heap.size := HM5.out.n
          go_wp2_with (at_builtin; refine wpList_append_own _ rfl _ _ 25 rfl (w.heap.size + 1) 71 j0 (.agg #[.int .i64 0, .string .empty, .string .empty]) 3 40 Tryd.underlying25 hj hy0 hy1 hy2 rfl (by decide) (.slice oo l.length oc) _ _ rfl (HM5.out.o.alloc _) ⟨W5.heap.size, 0, none⟩ 1 1 [.int .i64 (k : Int), .string d, .string pp] rfl rfl (World.news_of_block (cs := #[.int .i64 (k : Int), .string d, .string pp]) (t := 71) (fr := (0, 0)) (World.alloc_heap_new W5 _)) (fun u hu => by simp at hu; rcases hu with rfl | rfl | rfl <;> rfl) (by unfold maxLen; first | omega | (simp; done) | (simp; omega)) (by first | omega | (simp; done) | (simp; omega)) (by first | omega | (simp; done) | (simp; omega)) ?_; intro v' w7 hown' hgrow _; have H7 := Lib.hid (DrM.app (x := ⟨(k : Int), d, pp⟩) (HM5.out.below ((Below.refl _ _).alloc (Nat.le_refl _) _)) hown' hgrow); clear hown' hgrow)
          go_roundw
          case rel => exact ⟨_, p5, z5, F + k + d.size, T + k + pp.size, by go_num, by go_num, H7.out, HST5.out⟩
          case measure =>
            obtain ⟨x0, x1, x2, xf⟩ := (DdK.start H7.out.k).cells
            rw [x2, x1, KX.out.1, KX.out.2]
            have hst := HST5.out
            have hps := HB.out
            have hpl := HP1.out.2.1
            rcases hst with ⟨rfl, _, h5, h6, _⟩ | ⟨e5, rfl, _⟩
            · have := H56.out rfl
              simp [intOf]; omega
            · simp [intOf]; omega
      · as_aux_lemma =>
          have hbad : readS s = (none, p1) := HP1.out.2.2.1 _ (by unfold stS; rw [HC.out, if_neg h61, if_neg h45, if_neg h43])
          have HE := Lib.hid hbad
          have a43 : ¬ (c : Int) = 43 := by omega
          have b43 : ((c : Int) == 43) = false := by rw [beq_eq_false_iff_ne]; exact a43
          have HG3 := Lib.hid HM2.out.2.1
          obtain ⟨q0, q1, q2, qf⟩ : Y2.cell? ⟨G, 0, none⟩ = some (.int .i64 0) ∧ Y2.cell? ⟨G, 1, none⟩ = some (.string .empty) ∧ Y2.cell? ⟨G, 2, none⟩ = some (.string .empty) ∧ ∀ o, Y2.frozen? ⟨G, o, none⟩ = false := ⟨HG3.out.cell 0, HG3.out.cell 1, HG3.out.cell 2, fun o => HG3.out.frozen o⟩
          clear hbad h61 h45 h43
          go_upto_region 25 with (go_at_call 34; go_must (refine (badD_ok HM2.out.1.k p1).mono ?_; rintro e w5 ⟨rfl, rfl⟩))
          obtain ⟨W5, hW5⟩ : ∃ Z, Y2.setCell ⟨w.heap.size, 2, none⟩ (.int .i64 (p1 : Int)) = Z := ⟨_, rfl⟩
          obtain ⟨k, d, pp, p5, z5, hM5, hG5, hST5, hBd, h56⟩ : ∃ (k : Nat) (d pp : ByteArray) (p5 : Nat) (z5 : Int), DrM w s (.slice oo l.length oc) l p5 z5 W5 ∧ Blk W5 G #[.int .i64 (k : Int), .string d, .string pp] 71 ∧ DrS s (l ++ [⟨(k : Int), d, pp⟩]) p5 z5 (F + k + d.size) (T + k + pp.size) ∧ (k < 10995116277780 ∧ d.size ≤ 1048600 ∧ pp.size ≤ 1048600) ∧ (z5 = -1 → p < p5) :=
            ⟨0, .empty, .empty, (p1 + 1), (p1 : Int), (by rw [← hW5]; exact HM2.out.1.bad (p1 : Int)), (by rw [← hW5]; exact Blk.other HG3.out (by omega) 2 _), .inr ⟨p1, rfl, HE.out, by have := HP1.out.1; omega⟩, ⟨by omega, Nat.zero_le _, Nat.zero_le _⟩, fun h => by omega⟩
          rw [hW5]
          have HM5 := Lib.hid hM5
          have HG5 := Lib.hid hG5
          have HST5 := Lib.hid hST5
          have HBd := Lib.hid hBd
          have H56 := Lib.hid h56
          clear hW5 hM5 hG5 hST5 hBd h56
          obtain ⟨g0, g1, g2, gf⟩ : W5.cell? ⟨G, 0, none⟩ = some (.int .i64 (k : Int)) ∧ W5.cell? ⟨G, 1, none⟩ = some (.string d) ∧ W5.cell? ⟨G, 2, none⟩ = some (.string pp) ∧ ∀ o, W5.frozen? ⟨G, o, none⟩ = false := ⟨HG5.out.cell 0, HG5.out.cell 1, HG5.out.cell 2, fun o => HG5.out.frozen o⟩
          have hkI : (k : Int) ≤ 10995116277780 := by have := HBd.out.1; omega
          have hdI : (d.size : Int) ≤ 1048600 := by have := HBd.out.2.1; omega
          have hppI : (pp.size : Int) ≤ 1048600 := by have := HBd.out.2.2; omega
          have hwn : w.heap.size + 1 ≤ W5.heap.size := HM5.out.n
          go_wp2_with (at_builtin; refine wpList_append_own _ rfl _ _ 25 rfl (w.heap.size + 1) 71 j0 (.agg #[.int .i64 0, .string .empty, .string .empty]) 3 40 Tryd.underlying25 hj hy0 hy1 hy2 rfl (by decide) (.slice oo l.length oc) _ _ rfl (HM5.out.o.alloc _) ⟨W5.heap.size, 0, none⟩ 1 1 [.int .i64 (k : Int), .string d, .string pp] rfl rfl (World.news_of_block (cs := #[.int .i64 (k : Int), .string d, .string pp]) (t := 71) (fr := (0, 0)) (World.alloc_heap_new W5 _)) (fun u hu => by simp at hu; rcases hu with rfl | rfl | rfl <;> rfl) (by unfold maxLen; first | omega | (simp; done) | (simp; omega)) (by first | omega | (simp; done) | (simp; omega)) (by first | omega | (simp; done) | (simp; omega)) ?_; intro v' w7 hown' hgrow _; have H7 := Lib.hid (DrM.app (x := ⟨(k : Int), d, pp⟩) (HM5.out.below ((Below.refl _ _).alloc (Nat.le_refl _) _)) hown' hgrow); clear hown' hgrow)
          go_roundw
          case rel => exact ⟨_, p5, z5, F + k + d.size, T + k + pp.size, by go_num, by go_num, H7.out, HST5.out⟩
          case measure =>
            obtain ⟨x0, x1, x2, xf⟩ := (DdK.start H7.out.k).cells
            rw [x2, x1, KX.out.1, KX.out.2]
            have hst := HST5.out
            have hps := HB.out
            have hpl := HP1.out.2.1
            rcases hst with ⟨rfl, _, h5, h6, _⟩ | ⟨e5, rfl, _⟩
            · have := H56.out rfl
              simp [intOf]; omega
            · simp [intOf]; omega
end Go.Proofs.YtjccoiephdopkaaDoor
