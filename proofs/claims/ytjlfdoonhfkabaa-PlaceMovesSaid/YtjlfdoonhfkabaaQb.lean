/- Places: what the iterator over all places tells its caller. -/
import Derived.Test.YtjlfdoonhfkabaaQa
import Derived.Test.YtjlfdoonhfkabaaQl
namespace Go.Proofs.Ytjlfdoonhfkabaa
set_option linter.unusedVariables false
set_option linter.unusedSimpArgs false
open Go Go.RowKit Go.Shelf
set_option maxRecDepth 100000
attribute [local go_sem] Oper.semAt_some

/-- What the caller of the iterator doesn't hold: what is no cells, and what isn't the row that its map names. -/
def FrP (m : Nat) (W : World) (r : Nat) : Prop := (∃ o : Obj, W.heap[r]? = some o ∧ o.isCells = false) ∨ ∀ v, W.cell? ⟨m, 1, none⟩ = some v → v.ownBlock ≠ some r
/-- What the body of a round keeps for the iterator. -/
def KpP (B m base : Nat) (X Y : World) : Prop := KpB B X Y ∧ ∀ k cs t, base ≤ k → X.heap[k]? = some (.cells cs t (0, 0)) → (∀ v, X.cell? ⟨m, 1, none⟩ = some v → v.ownBlock ≠ some k) →
  Y.heap[k]? = some (.cells cs t (0, 0)) ∧ ∀ v, Y.cell? ⟨m, 1, none⟩ = some v → v.ownBlock ≠ some k
theorem kpP_t {B m base : Nat} {X Y Z : World} (h : KpP B m base X Y) (g : KpP B m base Y Z) : KpP B m base X Z :=
  ⟨kpB_t h.1 g.1, fun k cs t hk hc hv => by obtain ⟨h1, h2⟩ := h.2 k cs t hk hc hv; exact g.2 k cs t hk h1 h2⟩
theorem kpP_b {B m base : Nat} {w : World} (hB : B < w.heap.size) (hm : m < w.heap.size) (W : World) (l : Nat) (o o' : Obj) (hl : w.heap.size ≤ l) (h : W.heap[l]? = some o) (ho : o.isCells = false) (hw : o.isWalk = false) : KpP B m base W (W.putObj l o') := by
  refine ⟨kpB_b hB W l o o' hl h ho hw, fun k cs t hk hc hv => ⟨?_, fun v hv' => hv v ?_⟩⟩
  · rw [World.putObj_heap_other (fun e => by rw [e, h] at hc; cases hc; cases ho)]; exact hc
  · rwa [World.cell?_of_block (w := W) (World.putObj_heap_other (by dsimp only; omega))] at hv'

def plA (p : Pl) : Array Value := #[.int .i64 p.b, .int .i64 p.k, .int .i64 p.u, .int .i64 p.l, .int .i64 p.c]
theorem plV_A (p : Pl) : plV p = .agg (plA p) := rfl

/-- What stands in a round of the iterator. -/
def QI (s : ByteArray) (B Bp it m pos : Nat) (J : World → Prop) (cs : Array Value) (X : World) : Prop :=
  X.heap[it]? = some (.stringIter s pos) ∧ Boxed X B 9 (.string s) ∧ Blk X Bp cs 28 ∧ (∀ v, X.cell? ⟨m, 1, none⟩ = some v → v.ownBlock ≠ some Bp) ∧ J X
theorem qi_set {s : ByteArray} {B Bp it m pos base : Nat} {J : World → Prop} {cs : Array Value} {X : World} (hJ : AbX base (FrP m) (fun (_ : Unit) W => J W)) (hb : base ≤ Bp) (hm : m < base) (h : QI s B Bp it m pos J cs X) (o : Nat) (v : Value) :
    QI s B Bp it m pos J (cs.setIfInBounds o v) (X.setCell ⟨Bp, o, none⟩ v) := by
  obtain ⟨h1, h2, h3, h4, h5⟩ := h
  have e1 : it ≠ Bp := fun e => by rw [e] at h1; rw [show X.heap[Bp]? = _ from h3] at h1; cases h1
  have e2 : B ≠ Bp := fun e => by
    have h9 : X.heap[B]? = some (.cells #[.string s] 9 (0, 0)) := h2
    rw [e, show X.heap[Bp]? = _ from h3] at h9
    injection h9 with h9; injection h9 with h9 h10; revert h10; decide
  refine ⟨(Below.heap_setCell _ _ _ _ (by dsimp only; exact fun e => e1 e)).trans h1, (show Blk _ _ _ _ from h2).other e2 o v, h3.set o v, fun u hu => h4 u ?_, hJ () _ _ (some Bp) h5 (grownBy_setCell X Bp o v) (fun r e => by cases e; exact ⟨hb, .inr h4⟩)⟩
  rwa [World.cell?_of_block (w := X) (Below.heap_setCell _ _ _ _ (by dsimp only; omega))] at hu
theorem qi_cast {s : ByteArray} {B Bp it m pos : Nat} {J : World → Prop} {cs cs' : Array Value} {X : World} (h : QI s B Bp it m pos J cs X) (e : cs = cs') : QI s B Bp it m pos J cs' X := e ▸ h

/-- Between two rounds of the iterator. -/
def RelQ (s : ByteArray) (B Bp it m : Nat) (J : List Nat → World → Prop) (wr : World) : Prop :=
  ∃ (k b0 : Nat), k ≤ nP s ∧ QI s B Bp it m (pK s k).b (J (List.range k)) #[.int .i64 b0, .int .i64 (pK s k).k, .int .i64 (pK s k).u, .int .i64 (pK s k).l, .int .i64 (pK s k).c] wr

theorem relQ_next {s : ByteArray} {B Bp it m k b0 : Nat} {J : List Nat → World → Prop} {wr X : World} {cs : Array Value} (hk : k < nP s) (HM : Hid (s.size - ((pK s k).b + wd s (pK s k).b) < s.size - wr.iterPos it))
    (hq : QI s B Bp it m ((pK s k).b + wd s (pK s k).b) (J (List.range (k + 1))) cs X)
    (e : cs = #[.int .i64 b0, .int .i64 (pK s (k + 1)).k, .int .i64 (pK s (k + 1)).u, .int .i64 (pK s (k + 1)).l, .int .i64 (pK s (k + 1)).c]) : RelQ s B Bp it m J X ∧ s.size - X.iterPos it < s.size - wr.iterPos it := by
  have hit := hq.1
  refine ⟨⟨k + 1, b0, by omega, e ▸ hq⟩, ?_⟩
  have h1 : X.iterPos it = (pK s k).b + wd s (pK s k).b := by simp only [World.iterPos, hit]
  rw [h1]
  exact HM.out

set_option maxHeartbeats 8000000 in
theorem places1 (l B m base : Nat) (s : ByteArray) (hs : s.size ≤ 65536) (J Jx : List Nat → World → Prop) (W : World) (hbase : base ≤ W.heap.size) (hm : m < base)
    (hJ : AbX W.heap.size (FrP m) J) (hJx : AbX W.heap.size (FrP m) Jx) (hBx : Boxed W B 9 (.string s)) (hm0 : W.cell? ⟨m, 1, none⟩ = some (.slice none 0 0))
    (hY : ∀ pre x X, J pre X → pre.length < nP s + 1 → YieldAt Fence.wide 9 Try.prog l #[plV (pK s x)] X fun e Y =>
      (e = .returned (.bool true) ∧ J (pre ++ [x]) Y ∧ KpP B m base X Y) ∨ (e = .returned (.bool false) ∧ Jx (pre ++ [x]) Y))
    (h0 : J [] W) :
    CallsIn Fence.wide 10 Try.prog 48 #[.func (.yield l) #[] #[], .pointer (some ⟨B, 0, none⟩)] W fun e Y => (∃ v, e = .returned v) ∧
      ((∃ xs, xs = List.range (nP s + 1) ∧ J xs Y) ∨ (∃ pre, pre <+: List.range (nP s + 1) ∧ Jx pre Y)) := by
  have hcA : ∀ o, (W.alloc o).cell? ⟨B, 0, none⟩ = some (.string s) := fun o => (hBx.alloc o).cell
  have hnP := nP_le s
  refine callsIn_of_wp Try.func48 rfl trivial ?_ rfl
  simp only [Try.ntmps48, List.size_toArray, List.length_cons, List.length_nil, Nat.reduceAdd, Nat.reduceSub, Array.replicate_succ, Array.replicate_zero, List.push_toArray, List.append_toArray, List.nil_append, List.cons_append]
  gi_wp2
  gi_loopw [] (fun wr => RelQ s B W.heap.size (W.heap.size + 1) m J wr) (fun wr => s.size - wr.iterPos (W.heap.size + 1))
  case atStart =>
    refine ⟨0, 0, Nat.zero_le _, ?_, (hBx.alloc _).alloc _, (Blk.new W _ _).alloc _, ?_, ?_⟩
    · have := World.iter_heap (W.alloc (.cells #[.int .i64 0, .int .i64 0, .int .i64 0, .int .i64 0, .int .i64 0] 28)) s 0
      rwa [World.size_alloc] at this
    · intro v hv
      have : v = .slice none 0 0 := by
        have h9 := ((at_below hm0 ((Below.refl _ W).alloc (Nat.le_refl _) (.cells #[.int .i64 0, .int .i64 0, .int .i64 0, .int .i64 0, .int .i64 0] 28))))
        have h10 := at_below h9 ((Below.refl _ _).alloc (Nat.le_refl _) (.stringIter s 0))
        rw [show ((W.alloc (.cells #[.int .i64 0, .int .i64 0, .int .i64 0, .int .i64 0, .int .i64 0] 28)).iter s 0).cell? ⟨m, 1, none⟩ = _ from h10] at hv
        exact (Option.some.inj hv).symm
      rw [this]; simp [Value.ownBlock]
    · exact hJ.alloc _ (hJ.alloc _ h0)
  case round =>
    clear h0 hm0 hBx hcA
    obtain ⟨k, b0, hk, hq⟩ := hrel
    have hF : ∀ f, Fence.wide.fn f := fun _ => trivial
    obtain ⟨hit, hbx, hbp, hfr, hj⟩ := hq
    by_cases hps : (pK s k).b < s.size
    · have hkn := nP_of_lt s k hk hps
      have hnx : ∀ ty, (Instr.next (.pointer (some ⟨W.heap.size + 1, 0, none⟩)) true ty).run Try.prog wr = _ := fun ty => Lib.run_next_any_at wr (W.heap.size + 1) s (pK s k).b ty hit hps
      rw [dec_eq s _ hps] at hnx
      have hq1 : QI s B W.heap.size (W.heap.size + 1) m ((pK s k).b + wd s (pK s k).b) (J (List.range k)) _ (wr.iterAt (W.heap.size + 1) s ((pK s k).b + wd s (pK s k).b)) :=
        ⟨Lib.iterAt_heap wr _ s _ _ hit, (show Blk _ _ _ _ from hbx).kept (grown_iterAt wr _ s _) (fun e => by cases e; rw [show wr.heap[_]? = _ from hbx] at hit; cases hit), hbp.kept (grown_iterAt wr _ s _) (fun e => by have := Option.some.inj e; omega),
          fun v hv => hfr v (by rwa [World.cell?_of_block (w := wr) (Lib.iterAt_other wr _ _ s _ (by dsimp only; omega))] at hv), hJ _ _ _ (some (W.heap.size + 1)) hj (grown_iterAt wr _ s _) (fun r e => by cases e; exact ⟨by omega, .inl ⟨_, hit, rfl⟩⟩)⟩
      have hmeas : s.size - ((pK s k).b + wd s (pK s k).b) < s.size - wr.iterPos (W.heap.size + 1) := by
        have := wd_pos s (pK s k).b
        simp only [World.iterPos, hit]; omega
      obtain ⟨P, hP⟩ : ∃ P, wr.iterAt (W.heap.size + 1) s ((pK s k).b + wd s (pK s k).b) = P := ⟨_, rfl⟩
      rw [hP] at hnx hq1
      clear hP hit hbx hbp hfr hj
      have hq2 := qi_set (base := W.heap.size) (fun _ X Y row h => hJ _ X Y row h) (Nat.le_refl _) (by omega) hq1 0 (.int .i64 (pK s k).b)
      have hy0 := hY (List.range k) k _ hq2.2.2.2.2 (by rw [List.length_range]; omega)
      have x1 := hq1.2.2.1.cell
      have x2 := hq1.2.2.1.frozen
      have HM := Lib.hid hmeas
      have hkk := pK_k s k
      have hul := pK_u_bound s k
      have hll := pK_l_bound s k
      have hcl := pK_c_bound s k
      have hz : W.heap.size < (P.setCell ⟨W.heap.size, 0, none⟩ (.int .i64 (pK s k).b)).heap.size := hq2.2.2.1.lt
      have hg := fun (cs : Array Value) (X : World) => relQ_next (cs := cs) (X := X) (s := s) (B := B) (Bp := W.heap.size) (it := W.heap.size + 1) (m := m) (k := k) (b0 := (pK s k).b) (J := J) (wr := wr) hkn HM
      simp only [pK, nxt, un] at hg
      clear hmeas
      obtain ⟨q, hq⟩ : ∃ q, pK s k = q := ⟨_, rfl⟩
      rw [hq] at hnx hq1 hq2 hy0 x1 HM hps hkk hul hll hcl hg hz
      clear hY hq
      obtain ⟨pb, pk, pu, pl, pc⟩ := q
      simp only at hnx hq1 hq2 hy0 x1 HM hps hkk hul hll hcl hg hz
      subst hkk
      have hbs := bt_get s pb hps
      have hbl := bt_lt s pb
      have hps2 : (pb : Int) < (s.size : Int) := by omega
      have hb0 : (0 : Int) ≤ (pb : Int) := by omega
      have cF := feeds_any s (pb + 1)
      obtain ⟨lf, hlf⟩ : ∃ lf, lfAt s (pb + 1) = lf := ⟨_, rfl⟩
      obtain ⟨wx, hwx⟩ : ∃ wx, wd s pb = wx := ⟨_, rfl⟩
      obtain ⟨rx, hrx⟩ : ∃ rx, rn s pb = rx := ⟨_, rfl⟩
      obtain ⟨bx, hbx⟩ : ∃ bx, bt s pb = bx := ⟨_, rfl⟩
      obtain ⟨nl, hnl⟩ : ∃ nl, nlAt s pb = nl := ⟨_, rfl⟩
      have hnl2 : nl = (bx == 10 || (bx == 13 && !lf)) := by rw [← hnl, nlAt, hbx, hlf]
      rw [hnl, hwx, hrx] at hg
      rw [hlf] at cF
      rw [hwx] at hq1 hq2 HM
      rw [hrx] at hnx
      rw [hbx] at hbs hbl
      clear hlf hwx hrx hbx hnl
      obtain ⟨fn, tmps, assign, body, hy, hR⟩ := hy0
      simp only [plV] at hy
      have hcase : ∃ g10 g13 gl : Bool, ((bx : Int) == 10) = g10 ∧ ((bx : Int) == 13) = g13 ∧ lf = gl ∧ nl = (g10 || (g13 && !gl)) ∧ (g10 = true → g13 = false) := by
        refine ⟨_, _, _, rfl, rfl, rfl, ?_, fun h => ?_⟩
        · rw [hnl2]
          have e1 : ((bx : Int) == 10) = (bx == 10) := by rw [Bool.eq_iff_iff, beq_iff_eq, beq_iff_eq]; omega
          have e2 : ((bx : Int) == 13) = (bx == 13) := by rw [Bool.eq_iff_iff, beq_iff_eq, beq_iff_eq]; omega
          rw [e1, e2]
        · rw [beq_iff_eq] at h; rw [beq_eq_false_iff_ne]; omega
      have hgt : ∃ G : Bool, decide ((65535 : Int) < (rx : Int)) = G ∧ (if 65535 < rx then 2 else 1) = (if G = true then 2 else 1 : Nat) := by
        refine ⟨_, rfl, ?_⟩
        by_cases h : 65535 < rx
        · rw [if_pos h, if_pos (decide_eq_true (by omega))]
        · rw [if_neg h, if_neg (by rw [decide_eq_false (by omega)]; decide)]
      obtain ⟨g10, g13, gl, E10, E13, rfl, rfl, HX⟩ := hcase
      obtain ⟨G, EG, hG⟩ := hgt
      rw [hG] at hg
      clear hnl2 hG
      have HG := Lib.hid hg
      clear hg
      have hqi := fun (cs : Array Value) (X : World) (h : QI s B W.heap.size (W.heap.size + 1) m (pb + wx) (J (List.range (pk + 1))) cs X) (o : Nat) (v : Value) => qi_set (base := W.heap.size) (fun _ X Y row h => hJ _ X Y row h) (Nat.le_refl _) (by omega) h o v
      have HQ := Lib.hid hqi
      have H2 := Lib.hid hq2
      have hpre : List.range pk ++ [pk] <+: List.range (nP s + 1) := by
        rw [← List.range_succ, List.range_eq_range', List.range_eq_range']
        exact ⟨List.range' (pk + 1) (nP s - pk), by rw [show nP s + 1 = (pk + 1) + (nP s - pk) by omega, ← List.range'_append_1]; simp⟩
      have HP := Lib.hid hpre
      clear hqi hq1 hq2 hpre
      gi_wp2
      refine hR.mono ?_
      rintro e Y (⟨rfl, hJ', hk'⟩ | ⟨rfl, hJx'⟩)
      · have hq3 : QI s B W.heap.size (W.heap.size + 1) m (pb + wx) (J (List.range (pk + 1))) #[.int .i64 pb, .int .i64 pk, .int .i64 pu, .int .i64 pl, .int .i64 pc] Y := by
          obtain ⟨n1, n2⟩ := hk'.2 W.heap.size _ _ hbase H2.out.2.2.1 H2.out.2.2.2.1
          exact ⟨hk'.1.1.same _ _ H2.out.1 rfl, hk'.1.2.trans H2.out.2.1, n1, n2, by rw [List.range_succ]; exact hJ'⟩
        have z1 := hq3.2.2.1.cell
        have z2 := hq3.2.2.1.frozen
        have z3 := hq3.2.1.cell
        have z4 := hq3.2.2.1.lt
        have hBW : B ≠ W.heap.size := fun e => by
          have h9 : Y.heap[B]? = some (.cells #[.string s] 9 (0, 0)) := hq3.2.1
          rw [e, show Y.heap[W.heap.size]? = _ from hq3.2.2.1] at h9
          injection h9 with h9; injection h9 with h9 h10; revert h10; decide
        have H3 := Lib.hid hq3
        clear hq3 hJ' hk' hy hR hnx
        cases G <;> cases g10 <;> cases g13 <;> (try (have := HX rfl; cases this)) <;> cases lf
        all_goals
          (gi_wp2_with (first | (gi_at_call 47; rw [show ((pb : Int) + 1) = ((pb + 1 : Nat) : Int) by omega]; refine (callsIn_wide.2 (cF _)).mono ?_; rintro e w' ⟨rfl, rfl⟩))
           all_goals first
             | (exfalso
                rename_i hu _
                cases hu
                done)
             | (exfalso
                rename_i hu
                cases hu
                done)
             | (apply HG.out
                · repeat (apply HQ.out)
                  exact H3.out
                · first | (simp; done) | (simp; omega)))
      · gi_wp2
        refine bodyPost_ret (results_none rfl _ _ _) rfl ?_
        exact ⟨⟨_, rfl⟩, .inr ⟨_, HP.out, hJx'⟩⟩
    · have hnx : ∀ ty, (Instr.next (.pointer (some ⟨W.heap.size + 1, 0, none⟩)) true ty).run Try.prog wr = _ := fun ty => Lib.run_next_end_at wr (W.heap.size + 1) s (pK s k).b ty hit hps
      have hkn : k = nP s := by
        rcases Nat.lt_or_ge k (nP s) with h | h
        · exact absurd (pK_lt s k h) hps
        · omega
      have hkk := pK_k s k
      have hbe : (pK s k).b = s.size := by rw [hkn]; exact pK_end s
      have hq2 := qi_set (base := W.heap.size) (fun _ X Y row h => hJ _ X Y row h) (Nat.le_refl _) (by omega) (⟨hit, hbx, hbp, hfr, hj⟩ : QI s B W.heap.size (W.heap.size + 1) m (pK s k).b (J (List.range k)) _ wr) 0 (.int .i64 s.size)
      have hy0 := hY (List.range k) k _ hq2.2.2.2.2 (by rw [List.length_range]; omega)
      have x1 := hbp.cell
      have x2 := hbp.frozen
      have x3 := hbx.cell
      have hz := hbp.lt
      have hBW : B ≠ W.heap.size := fun e => by
        have h9 : wr.heap[B]? = some (.cells #[.string s] 9 (0, 0)) := hbx
        rw [e, show wr.heap[W.heap.size]? = _ from hbp] at h9
        injection h9 with h9; injection h9 with h9 h10; revert h10; decide
      have hpre : List.range k ++ [k] = List.range (nP s + 1) := by rw [← List.range_succ, hkn]
      rw [hpre] at hy0
      have HP := Lib.hid hpre
      clear hpre hq2 hfr hj hkn hY hit
      obtain ⟨q, hq⟩ : ∃ q, pK s k = q := ⟨_, rfl⟩
      rw [hq] at hy0 x1 hbe hkk
      clear hq hps hbp
      obtain ⟨pb, pk, pu, pl, pc⟩ := q
      simp only at hy0 x1 hbe hkk
      subst hbe
      subst hkk
      obtain ⟨fn, tmps, assign, body, hy, hR⟩ := hy0
      simp only [plV] at hy
      gi_wp2
      refine hR.mono ?_
      rintro e Y (⟨rfl, hJ', hk'⟩ | ⟨rfl, hJx'⟩)
      · gi_wp2
        go_end0
        exact ⟨⟨_, rfl⟩, .inl ⟨_, rfl, hJ'⟩⟩
      · gi_wp2
        go_end0
        exact ⟨⟨_, rfl⟩, .inr ⟨_, List.prefix_refl _, hJx'⟩⟩
end Go.Proofs.Ytjlfdoonhfkabaa
