/- Several texts in one. -/
import Derived.Test.YtjccoiephdopkaaZ02
/- Stage 27: the maker, as it lies in memory. -/
namespace Go.Proofs.Ytjccoiephdopkaa
set_option linter.unusedVariables false
set_option linter.unusedSimpArgs false
open Go Go.RowKit Go.Shelf
set_option maxRecDepth 100000

/-- 'append' as one operation of a region; the row is the old one or a new one. -/
theorem opwp_append2 {P : Program} {o : Oper} {K : Act → World → Prop} {Q : Exit → Act → World → Prop} {a : Act} {w : World} (s x : Operand) (t : TypeId)
    (ho : o.op = .call { callee := .builtin .append, args := #[s, x], argTypes := #[t, t] })
    (base : Nat) (e : TypeId) (i : TypeInfo) (z : Value) (size bytes : Nat) (ht : P.underlying t = some (.slice e)) (hi : P.info? e = some i) (hz : i.zero = some z)
    (hsize : i.size = size) (hby : i.bytes = bytes) (hzs : z.cells.size = size) (hsz : 0 < size)
    (v : Value) (n : Nat) (xs : List Value) (hs : a.eval s = v) (hown : w.ownsRow base e size v n xs)
    (ad : Addr) (m c : Nat) (news : List Value) (hx : a.eval x = .slice (some ad) m c) (hl : news.length = m * size) (hnews : ∀ j u, news[j]? = some u → w.cell? (ad.add j) = some u) (h1 : ∀ u ∈ news, u.oneCell' = true)
    (h63 : n + m ≤ maxLen) (hbytes : (n + m) * bytes ≤ 140737488355328) (hbase : base ≤ w.heap.size)
    (h : ∀ v' w', w'.ownsRow base e size v' (n + m) (xs ++ news) → w.grownBy w' v.ownBlock → (v'.ownBlock = v.ownBlock ∨ v'.ownBlock = some w.heap.size) → K (a.put o.dst v') w') : o.wp P a w K Q := by
  obtain ⟨v', w', hr, h2, h3, _, h5⟩ := run_append_own_at (P := P) w base t o.type e i z size bytes ht hi hz hsize hby hzs hsz v n xs hown ad m c news hl hnews h1 h63 hbytes hbase
  unfold Oper.wp execOp
  simp only [ho, resolve, invoke, builtin, Sem.run_bind, Sem.run_pure, Result.andThen_ok, List.map_toArray, List.map_cons, List.map_nil, hs, hx, hr]
  exact h v' w' h2 h3 h5
/-- A maker and its rows. -/
structure MkB (W : World) (B b : Nat) (vo vp vd : Value) (m : Mk) : Prop where
  blk : Blk W B #[vo, .int .i64 m.kept, vp, vd] 61
  ro : W.ownsRow b 29 3 vo m.out.length (m.out.flatMap encS)
  rp : W.ownsRow b 5 1 vp m.put.size (Lib.strCells m.put)
  rd : W.ownsRow b 5 1 vd m.drop.size (Lib.strCells m.drop)
  ap : vp.ownBlock = none ∨ vp.ownBlock ≠ vd.ownBlock
  bb : B < b
  bw : b ≤ W.heap.size
/-- A block that is none of a maker's rows. -/
def N3 (t : Value × Value × Value) (q : Nat) : Prop := some q ≠ t.1.ownBlock ∧ some q ≠ t.2.1.ownBlock ∧ some q ≠ t.2.2.ownBlock
/-- What a maker's work leaves as it was. -/
structure KpM (B : Nat) (t t' : Value × Value × Value) (W W' : World) : Prop where
  os : W'.os = W.os
  tape : W'.tape = W.tape
  output : W'.output = W.output
  size : W.heap.size ≤ W'.heap.size
  blk : ∀ q, q < W.heap.size → q ≠ B → N3 t q → W'.heap[q]? = W.heap[q]? ∧ N3 t' q
theorem KpM.refl (B : Nat) (t : Value × Value × Value) (W : World) : KpM B t t W W := ⟨rfl, rfl, rfl, Nat.le_refl _, fun _ _ _ h => ⟨rfl, h⟩⟩
theorem KpM.trans {B : Nat} {v1 v2 v3 : Value × Value × Value} {X Y Z : World} (h : KpM B v1 v2 X Y) (g : KpM B v2 v3 Y Z) : KpM B v1 v3 X Z :=
  ⟨g.os.trans h.os, g.tape.trans h.tape, g.output.trans h.output, Nat.le_trans h.size g.size, fun q hq hB hn => by
    obtain ⟨h1, h2⟩ := h.blk q hq hB hn
    obtain ⟨h3, h4⟩ := g.blk q (Nat.lt_of_lt_of_le hq h.size) hB h2
    exact ⟨h3.trans h1, h4⟩⟩
section
variable {W X w3 : World} {B b : Nat} {vo vp vd : Value} {m : Mk}
theorem MkB.below (h : MkB W B b vo vp vd m) (hb : Below W.heap.size W X) : MkB X B b vo vp vd m :=
  ⟨h.blk.below' hb, own_below h.ro hb, own_below h.rp hb, own_below h.rd hb, h.ap, h.bb, Nat.le_trans h.bw hb.size⟩
theorem KpM.of_below (h : MkB W B b vo vp vd m) (hb : Below W.heap.size W X) : KpM B (vo, vp, vd) (vo, vp, vd) W X :=
  ⟨hb.os, hb.tape, hb.output, hb.size, fun q hq _ hn => ⟨hb.block q hq, hn⟩⟩
/-- A field of the maker is written. -/
theorem KpM.set (h : MkB W B b vo vp vd m) (o : Nat) (v : Value) : KpM B (vo, vp, vd) (vo, vp, vd) W (W.setCell ⟨B, o, none⟩ v) :=
  ⟨rfl, rfl, rfl, by simp, fun q hq hB hn => ⟨Below.heap_setCell _ _ _ _ (fun e => hB e), hn⟩⟩
/-- What lies below the rows is none of them. -/
theorem MkB.n3 (h : MkB W B b vo vp vd m) {q : Nat} (hq : q < b) : N3 (vo, vp, vd) q :=
  ⟨fun e => by have := (h.ro.lt q e.symm).1; omega, fun e => by have := (h.rp.lt q e.symm).1; omega, fun e => by have := (h.rd.lt q e.symm).1; omega⟩
/-- What did not lie there yet is none of them. -/
theorem MkB.n3_new (h : MkB W B b vo vp vd m) {q : Nat} (hq : W.heap.size ≤ q) : N3 (vo, vp, vd) q :=
  ⟨fun e => by have := (h.ro.lt q e.symm).2; omega, fun e => by have := (h.rp.lt q e.symm).2; omega, fun e => by have := (h.rd.lt q e.symm).2; omega⟩
theorem KpM.low {t : Value × Value × Value} (k : KpM B (vo, vp, vd) t W X) (h : MkB W B b vo vp vd m) {q : Nat} (hq : q < b) (hn : q ≠ B) : X.heap[q]? = W.heap[q]? :=
  (k.blk q (Nat.lt_of_lt_of_le hq h.bw) hn (h.n3 hq)).1
theorem KpM.below {t : Value × Value × Value} (k : KpM B (vo, vp, vd) t W X) (h : MkB W B b vo vp vd m) {c : Nat} {w0 : World} (hc : c ≤ B) (h0 : Below c w0 W) : Below c w0 X :=
  ⟨k.os.trans h0.os, k.tape.trans h0.tape, k.output.trans h0.output, Nat.le_trans h0.size k.size, fun i hi => (k.low h (by have := h.bb; omega) (by omega)).trans (h0.block i hi)⟩
/-- A step is put behind the others. -/
theorem MkB.add (h : MkB W B b vo vp vd m) {v3 : Value} {x : Sp} (hX : Below W.heap.size W X) (h3 : w3.ownsRow b 29 3 v3 (m.out.length + 1) (m.out.flatMap encS ++ encS x)) (hg : X.grownBy w3 vo.ownBlock)
    (hv : v3.ownBlock = vo.ownBlock ∨ v3.ownBlock = some X.heap.size) : MkB (w3.setCell ⟨B, 0, none⟩ v3) B b v3 vp vd ⟨m.out ++ [x], m.kept, m.put, m.drop⟩ ∧ KpM B (vo, vp, vd) (v3, vp, vd) W (w3.setCell ⟨B, 0, none⟩ v3) := by
  have hXm := h.below hX
  have b3 := Blk.kept hXm.blk hg (Blk.not_row hXm.blk (by decide) hXm.ro)
  have p3 := hXm.rp.kept hg (rows_apart hXm.rp hXm.ro (by decide))
  have d3 := hXm.rd.kept hg (rows_apart hXm.rd hXm.ro (by decide))
  have b4 := b3.set 0 v3
  simp only [List.setIfInBounds_toArray, List.set_cons_zero] at b4
  refine ⟨⟨b4, ?_, own_low p3 h.bb 0 v3, own_low d3 h.bb 0 v3, h.ap, h.bb, by simp; exact Nat.le_trans hXm.bw hg.size⟩, ?_⟩
  · have h4 := own_low h3 h.bb 0 v3
    simpa using h4
  · refine ⟨(hg.os.trans hX.os), (hg.tape.trans hX.tape), (hg.output.trans hX.output), by simp; exact Nat.le_trans hX.size hg.size, fun q hq hB hn => ⟨?_, ?_, hn.2.1, hn.2.2⟩⟩
    · exact (Below.heap_setCell _ _ _ _ (fun e => hB e)).trans ((hg.block q (Nat.lt_of_lt_of_le hq hX.size) (fun e => hn.1 e)).trans (hX.block q hq))
    · show some q ≠ v3.ownBlock
      rcases hv with hv | hv
      · rw [hv]; exact hn.1
      · rw [hv]; intro e; cases e; have := hX.size; omega
end
end Go.Proofs.Ytjccoiephdopkaa

/- Stage 27: ref, the law's copy of a change. -/
namespace Go.Proofs.Ytjccoiephdopkaa
set_option linter.unusedVariables false
set_option linter.unusedSimpArgs false
open Go Go.RowKit Go.Shelf
set_option maxRecDepth 100000

/-- Is a change small? -/
def refN : List Sp → Nat → Nat → Bool
  | [], _, _ => true
  | x :: l, n, i => if 5000 < n + x.d.size + x.p.size + (if 0 < x.k ∧ x.k ≤ 65536 then x.k.toNat / 8 else 0) ∨ 5000 < i then false else refN l (n + x.d.size + x.p.size + (if 0 < x.k ∧ x.k ≤ 65536 then x.k.toNat / 8 else 0)) (i + 1)
theorem refN_len : ∀ (l : List Sp) (n i : Nat), refN l n i = true → l.length + i ≤ 5001 ∨ l = []
  | [], _, _, _ => .inr rfl
  | x :: l, n, i, h => by
    unfold refN at h
    generalize (if 0 < x.k ∧ x.k ≤ 65536 then x.k.toNat / 8 else 0) = z at h
    by_cases h1 : 5000 < n + x.d.size + x.p.size + z ∨ 5000 < i
    · rw [if_pos h1] at h; cases h
    · rw [if_neg h1] at h
      rcases refN_len l _ _ h with h2 | rfl
      · left; simp only [List.length_cons]; omega
      · left; simp only [List.length_cons, List.length_nil]; omega
theorem infoStep : (Try.prog.info? 54).map (fun i => (i.zero, i.size, i.bytes)) = some (some (.agg #[.int .i64 0, .string .empty, .string .empty]), 3, 40) := by kernel_rfl
/-- What ref hands back. -/
def RefR (l : List Sp) (w : World) (e : Ending) (w' : World) : Prop :=
  (refN l 0 0 = false ∧ e = .returned (.tuple #[.slice none 0 0, .bool false]) ∧ Below w.heap.size w w') ∨
  (refN l 0 0 = true ∧ ∃ v, e = .returned (.tuple #[v, .bool true]) ∧ w'.ownsRow w.heap.size 54 3 v l.length (l.flatMap encS) ∧ Below w.heap.size w w')
set_option maxHeartbeats 8000000 in
theorem ref_any (l : List Sp) (o : Option Addr) (c : Nat) (hn : l.length ≤ 9223372036854775807) (ho : OkS l) (w : World) (hr : RowAt w encS 3 o l) :
    Calls Try.prog 9 #[.slice o l.length c] w (RefR l w) := by
  obtain ⟨j0, hj, hy0, hy1, hy2⟩ := info_parts infoStep
  go_enter Try.func9, Try.ntmps9
  have HR := Lib.hid (And.intro hr ho)
  clear hr ho
  go_wp2
  go_loopw [4, 5] (fun n i W => ∃ (m k : Nat), n = .int .i64 m ∧ i = .int .i64 k ∧ k ≤ l.length ∧ m ≤ 5000 ∧ k ≤ 5001 ∧ refN (l.drop k) m k = refN l 0 0 ∧ Below w.heap.size w W) (fun _ i _ => l.length - (intOf i).toNat)
  case atStart => exact ⟨0, 0, rfl, rfl, by omega, by omega, by omega, rfl, Below.refl _ _⟩
  case round =>
    obtain ⟨m, k, rfl, rfl, hk, hm, hk5, hrf, hB⟩ := hrel
    by_cases hlt : k < l.length
    · obtain ⟨x, hx⟩ : ∃ x, l[k]? = some x := ⟨_, List.getElem?_eq_getElem hlt⟩
      obtain ⟨g, off, rfl, hc⟩ := HR.out.1.below encS_len (by decide) hB k x hx
      obtain ⟨q0, q1, q2⟩ := get3 (l := l) hc
      obtain ⟨x1, x2, x3, x4⟩ := HR.out.2 x (List.mem_of_getElem? hx)
      have hd : l.drop k = x :: l.drop (k + 1) := (List.drop_eq_getElem_cons hlt).trans (by rw [(List.getElem?_eq_some_iff.1 hx).2])
      rw [hd, refN] at hrf
      obtain ⟨kk, d, p⟩ := x
      simp only at x1 x2 x3 x4 q0 q1 q2 hrf
      have hkl : (k : Int) < (l.length : Int) := by omega
      obtain ⟨E, hE⟩ : ∃ E, d.size + p.size = E := ⟨_, rfl⟩
      obtain ⟨M, hM⟩ : ∃ M, m + d.size + p.size = M := ⟨_, rfl⟩
      rw [hM] at hrf
      have j1 : IntKind.i64.wrap ((d.size : Int) + (p.size : Int)) = (E : Int) := by rw [IntWalk.i64_in _ (by omega)]; omega
      have j2 : IntKind.i64.wrap ((m : Int) + (E : Int)) = (M : Int) := by rw [IntWalk.i64_in _ (by omega)]; omega
      have j5 : IntKind.i64.wrap ((k : Int) + 1) = ((k + 1 : Nat) : Int) := by rw [IntWalk.i64_in _ (by omega)]; omega
      have hM6 : M ≤ 600000000000000 := by omega
      have HS := Lib.hid (And.intro hrf hB)
      clear hrf hB hx hc hd hE hM
      go_wp2
      go_quiet (fail)
      generalize hU : World.drewN wr _ = U
      have hbU : Below wr.heap.size wr U := hU ▸ below_drewN _ _
      have u0 : U.cell? ⟨g, off + k * 3, none⟩ = some (.int .i64 kk) := at_below q0 hbU
      have HU := Lib.hid (HS.out.2.trans (hbU.mono HS.out.2.size))
      clear hU hbU q0 q1 q2
      by_cases h0 : 0 < kk ∧ kk ≤ 65536
      · have hrf := HS.out.1
        rw [if_pos h0] at hrf
        have d1 : decide (0 < kk) = true := decide_eq_true h0.1
        have d2 : decide (kk ≤ 65536) = true := decide_eq_true h0.2
        obtain ⟨kn, rfl⟩ : ∃ kn : Nat, kk = kn := ⟨kk.toNat, by omega⟩
        rw [Int.toNat_natCast] at hrf
        obtain ⟨M2, hM2⟩ : ∃ M2, M + kn / 8 = M2 := ⟨_, rfl⟩
        rw [hM2] at hrf
        have j6 : ((kn : Int).tdiv 8) = ((kn / 8 : Nat) : Int) := by rw [Int.tdiv_eq_ediv_of_nonneg (by omega)]; omega
        have j7 : IntKind.i64.wrap ((M : Int) + ((kn / 8 : Nat) : Int)) = (M2 : Int) := by rw [IntWalk.i64_in _ (by omega)]; omega
        obtain ⟨K8, hK8⟩ : ∃ K8, kn / 8 = K8 := ⟨_, rfl⟩
        rw [hK8] at j6 j7
        have j8 : IntKind.i64.wrap (K8 : Int) = (K8 : Int) := IntWalk.i64_in _ (by omega)
        by_cases h5 : 5000 < M2
        · rw [if_pos (Or.inl h5)] at hrf
          have d3 : decide ((5000 : Int) < (M2 : Int)) = true := decide_eq_true (by omega)
          have HF := Lib.hid hrf
          clear hrf
          go_wp2
          refine bodyPost_ret (results_tmp2 rfl _ _ _) rfl ?_
          exact .inl ⟨HF.out.symm, rfl, HU.out⟩
        · have d3 : decide ((5000 : Int) < (M2 : Int)) = false := decide_eq_false (by omega)
          by_cases h6 : 5000 < k
          · rw [if_pos (Or.inr h6)] at hrf
            have d4 : decide ((5000 : Int) < (k : Int)) = true := decide_eq_true (by omega)
            have HF := Lib.hid hrf
            clear hrf
            go_wp2
            refine bodyPost_ret (results_tmp2 rfl _ _ _) rfl ?_
            exact .inl ⟨HF.out.symm, rfl, HU.out⟩
          · rw [if_neg (by omega)] at hrf
            have d4 : decide ((5000 : Int) < (k : Int)) = false := decide_eq_false (by omega)
            have HF := Lib.hid hrf
            clear hrf
            go_wp2
            go_roundw
            case rel => exact ⟨M2, k + 1, rfl, by go_num, by omega, by omega, by omega, HF.out, HU.out⟩
            case measure => simp [intOf] <;> omega
      · have hrf := HS.out.1
        rw [if_neg h0] at hrf
        rw [Nat.add_zero] at hrf
        by_cases h1 : 0 < kk
        · have d1 : decide (0 < kk) = true := decide_eq_true h1
          have d2 : decide (kk ≤ 65536) = false := decide_eq_false (by omega)
          by_cases h5 : 5000 < M
          · rw [if_pos (Or.inl h5)] at hrf
            have d3 : decide ((5000 : Int) < (M : Int)) = true := decide_eq_true (by omega)
            have HF := Lib.hid hrf
            clear hrf
            go_wp2
            refine bodyPost_ret (results_tmp2 rfl _ _ _) rfl ?_
            exact .inl ⟨HF.out.symm, rfl, HU.out⟩
          · have d3 : decide ((5000 : Int) < (M : Int)) = false := decide_eq_false (by omega)
            by_cases h6 : 5000 < k
            · rw [if_pos (Or.inr h6)] at hrf
              have d4 : decide ((5000 : Int) < (k : Int)) = true := decide_eq_true (by omega)
              have HF := Lib.hid hrf
              clear hrf
              go_wp2
              refine bodyPost_ret (results_tmp2 rfl _ _ _) rfl ?_
              exact .inl ⟨HF.out.symm, rfl, HU.out⟩
            · rw [if_neg (by omega)] at hrf
              have d4 : decide ((5000 : Int) < (k : Int)) = false := decide_eq_false (by omega)
              have HF := Lib.hid hrf
              clear hrf
              go_wp2
              go_roundw
              case rel => exact ⟨M, k + 1, rfl, by go_num, by omega, by omega, by omega, HF.out, HU.out⟩
              case measure => simp [intOf] <;> omega
        · have d1 : decide (0 < kk) = false := decide_eq_false h1
          by_cases h5 : 5000 < M
          · rw [if_pos (Or.inl h5)] at hrf
            have d3 : decide ((5000 : Int) < (M : Int)) = true := decide_eq_true (by omega)
            have HF := Lib.hid hrf
            clear hrf
            go_wp2
            refine bodyPost_ret (results_tmp2 rfl _ _ _) rfl ?_
            exact .inl ⟨HF.out.symm, rfl, HU.out⟩
          · have d3 : decide ((5000 : Int) < (M : Int)) = false := decide_eq_false (by omega)
            by_cases h6 : 5000 < k
            · rw [if_pos (Or.inr h6)] at hrf
              have d4 : decide ((5000 : Int) < (k : Int)) = true := decide_eq_true (by omega)
              have HF := Lib.hid hrf
              clear hrf
              go_wp2
              refine bodyPost_ret (results_tmp2 rfl _ _ _) rfl ?_
              exact .inl ⟨HF.out.symm, rfl, HU.out⟩
            · rw [if_neg (by omega)] at hrf
              have d4 : decide ((5000 : Int) < (k : Int)) = false := decide_eq_false (by omega)
              have HF := Lib.hid hrf
              clear hrf
              go_wp2
              go_roundw
              case rel => exact ⟨M, k + 1, rfl, by go_num, by omega, by omega, by omega, HF.out, HU.out⟩
              case measure => simp [intOf] <;> omega
    · obtain rfl : k = l.length := by omega
      rw [List.drop_length, refN] at hrf
      have HF := Lib.hid hrf.symm
      clear hrf
      have HB0 := Lib.hid hB
      clear hB
      go_wp2
      go_loopw [6, 7] (fun v i W => ∃ k : Nat, i = .int .i64 k ∧ k ≤ l.length ∧ W.ownsRow w.heap.size 54 3 v k ((l.take k).flatMap encS) ∧ Below w.heap.size w W) (fun _ i _ => l.length - (intOf i).toNat)
      case atStart => exact ⟨0, rfl, by omega, World.ownsRow_nil _ _ _ _, HB0.out⟩
      case round =>
        obtain ⟨k, rfl, hk, hown, hB⟩ := hrel
        by_cases hlt : k < l.length
        · obtain ⟨x, hx⟩ : ∃ x, l[k]? = some x := ⟨_, List.getElem?_eq_getElem hlt⟩
          obtain ⟨g, off, rfl, hc⟩ := HR.out.1.below encS_len (by decide) hB k x hx
          obtain ⟨q0, q1, q2⟩ := get3 (l := l) hc
          obtain ⟨kk, d, p⟩ := x
          simp only at q0 q1 q2
          have htk : (l.take (k + 1)).flatMap encS = (l.take k).flatMap encS ++ [.int .i64 kk, .string d, .string p] := by rw [List.take_add_one, hx]; simp [encS]
          have hkl : (k : Int) < (l.length : Int) := by omega
          have hk0 : (0 : Int) ≤ (k : Int) := by omega
          have j5 : IntKind.i64.wrap ((k : Int) + 1) = ((k + 1 : Nat) : Int) := by rw [IntWalk.i64_in _ (by omega)]; omega
          have HH := Lib.hid (And.intro hown (And.intro hB htk))
          obtain ⟨ov, cv, rfl, _⟩ := own_slice hown
          clear hown hB hx hc htk
          go_wp2
          refine wp_region_noPanic ?_
          refine wp_region_g (S := untilG [18] (fun X => Below wr.heap.size wr X)) (by kernel_rfl) ?_
          obtain ⟨X0, hX0⟩ : ∃ Z, wr.drew = Z := ⟨_, rfl⟩
          have T0 : Below wr.heap.size wr X0 := hX0 ▸ (Below.refl wr.heap.size wr).drew
          rw [hX0]
          clear hX0
          refine wpAnyG_take [0, 18, 19] (i := 0) (v := (.slice ov k cv)) rfl (by kernel_rfl) (by kernel_rfl) (by kernel_rfl) (by kernel_rfl) (by kernel_rfl) (by kernel_rfl) (by kernel_rfl) (by kernel_rfl) (fun _ _ _ h => h) (Or.inl ⟨by rfl, ?hy⟩) T0 ?_
          case hy =>
            intro X hX
            go_simp
          try simp only [Act.put, List.getElem_toArray, List.getElem_cons_zero, List.getElem_cons_succ, List.setIfInBounds_toArray, List.set_cons_zero, List.set_cons_succ]
          refine wpAnyG_take [1, 3, 4, 5, 16, 17, 18, 19] (i := 1) (v := (.slice (some ⟨g, off, none⟩) l.length c)) rfl (by kernel_rfl) (by kernel_rfl) (by kernel_rfl) (by kernel_rfl) (by kernel_rfl) (by kernel_rfl) (by kernel_rfl) (by kernel_rfl) (fun _ _ _ h => h) (Or.inl ⟨by rfl, ?hy⟩) T0 ?_
          case hy =>
            intro X hX
            go_simp
          try simp only [Act.put, List.getElem_toArray, List.getElem_cons_zero, List.getElem_cons_succ, List.setIfInBounds_toArray, List.set_cons_zero, List.set_cons_succ]
          refine wpAnyG_take [2, 3, 4, 5, 16, 17, 18, 19] (i := 2) (v := (.int .i64 k)) rfl (by kernel_rfl) (by kernel_rfl) (by kernel_rfl) (by kernel_rfl) (by kernel_rfl) (by kernel_rfl) (by kernel_rfl) (by kernel_rfl) (fun _ _ _ h => h) (Or.inl ⟨by rfl, ?hy⟩) T0 ?_
          case hy =>
            intro X hX
            go_simp
          try simp only [Act.put, List.getElem_toArray, List.getElem_cons_zero, List.getElem_cons_succ, List.setIfInBounds_toArray, List.set_cons_zero, List.set_cons_succ]
          refine wpAnyG_take [3, 4, 5, 16, 17, 18, 19] (i := 3) (v := (.pointer (some ⟨g, off + k * 3, none⟩))) rfl (by kernel_rfl) (by kernel_rfl) (by kernel_rfl) (by kernel_rfl) (by kernel_rfl) (by kernel_rfl) (by kernel_rfl) (by kernel_rfl) (fun _ _ _ h => h) (Or.inl ⟨by rfl, ?hy⟩) T0 ?_
          case hy =>
            intro X hX
            go_simp
          try simp only [Act.put, List.getElem_toArray, List.getElem_cons_zero, List.getElem_cons_succ, List.setIfInBounds_toArray, List.set_cons_zero, List.set_cons_succ]
          refine wpAnyG_take [4, 5, 16, 17, 18, 19] (i := 4) (v := (.pointer (some ⟨g, off + k * 3, none⟩))) rfl (by kernel_rfl) (by kernel_rfl) (by kernel_rfl) (by kernel_rfl) (by kernel_rfl) (by kernel_rfl) (by kernel_rfl) (by kernel_rfl) (fun _ _ _ h => h) (Or.inl ⟨by rfl, ?hy⟩) T0 ?_
          case hy =>
            intro X hX
            go_simp
          try simp only [Act.put, List.getElem_toArray, List.getElem_cons_zero, List.getElem_cons_succ, List.setIfInBounds_toArray, List.set_cons_zero, List.set_cons_succ]
          refine wpAnyG_take [5, 16, 17, 18, 19] (i := 5) (v := (.int .i64 kk)) rfl (by kernel_rfl) (by kernel_rfl) (by kernel_rfl) (by kernel_rfl) (by kernel_rfl) (by kernel_rfl) (by kernel_rfl) (by kernel_rfl) (fun _ _ _ h => h) (Or.inl ⟨by rfl, ?hy⟩) T0 ?_
          case hy =>
            intro X hX
            have e0 := at_below q0 hX
            go_simp
          try simp only [Act.put, List.getElem_toArray, List.getElem_cons_zero, List.getElem_cons_succ, List.setIfInBounds_toArray, List.set_cons_zero, List.set_cons_succ]
          refine wpAnyG_take [6, 8, 9, 10, 16, 17, 18, 19] (i := 6) (v := (.slice (some ⟨g, off, none⟩) l.length c)) rfl (by kernel_rfl) (by kernel_rfl) (by kernel_rfl) (by kernel_rfl) (by kernel_rfl) (by kernel_rfl) (by kernel_rfl) (by kernel_rfl) (fun _ _ _ h => h) (Or.inl ⟨by rfl, ?hy⟩) T0 ?_
          case hy =>
            intro X hX
            go_simp
          try simp only [Act.put, List.getElem_toArray, List.getElem_cons_zero, List.getElem_cons_succ, List.setIfInBounds_toArray, List.set_cons_zero, List.set_cons_succ]
          refine wpAnyG_take [7, 8, 9, 10, 16, 17, 18, 19] (i := 7) (v := (.int .i64 k)) rfl (by kernel_rfl) (by kernel_rfl) (by kernel_rfl) (by kernel_rfl) (by kernel_rfl) (by kernel_rfl) (by kernel_rfl) (by kernel_rfl) (fun _ _ _ h => h) (Or.inl ⟨by rfl, ?hy⟩) T0 ?_
          case hy =>
            intro X hX
            go_simp
          try simp only [Act.put, List.getElem_toArray, List.getElem_cons_zero, List.getElem_cons_succ, List.setIfInBounds_toArray, List.set_cons_zero, List.set_cons_succ]
          refine wpAnyG_take [8, 9, 10, 16, 17, 18, 19] (i := 8) (v := (.pointer (some ⟨g, off + k * 3, none⟩))) rfl (by kernel_rfl) (by kernel_rfl) (by kernel_rfl) (by kernel_rfl) (by kernel_rfl) (by kernel_rfl) (by kernel_rfl) (by kernel_rfl) (fun _ _ _ h => h) (Or.inl ⟨by rfl, ?hy⟩) T0 ?_
          case hy =>
            intro X hX
            go_simp
          try simp only [Act.put, List.getElem_toArray, List.getElem_cons_zero, List.getElem_cons_succ, List.setIfInBounds_toArray, List.set_cons_zero, List.set_cons_succ]
          refine wpAnyG_take [9, 10, 16, 17, 18, 19] (i := 9) (v := (.pointer (some ⟨g, off + k * 3 + 1, none⟩))) rfl (by kernel_rfl) (by kernel_rfl) (by kernel_rfl) (by kernel_rfl) (by kernel_rfl) (by kernel_rfl) (by kernel_rfl) (by kernel_rfl) (fun _ _ _ h => h) (Or.inl ⟨by rfl, ?hy⟩) T0 ?_
          case hy =>
            intro X hX
            go_simp
          try simp only [Act.put, List.getElem_toArray, List.getElem_cons_zero, List.getElem_cons_succ, List.setIfInBounds_toArray, List.set_cons_zero, List.set_cons_succ]
          refine wpAnyG_take [10, 16, 17, 18, 19] (i := 10) (v := (.string d)) rfl (by kernel_rfl) (by kernel_rfl) (by kernel_rfl) (by kernel_rfl) (by kernel_rfl) (by kernel_rfl) (by kernel_rfl) (by kernel_rfl) (fun _ _ _ h => h) (Or.inl ⟨by rfl, ?hy⟩) T0 ?_
          case hy =>
            intro X hX
            have e0 := at_below q1 hX
            go_simp
          try simp only [Act.put, List.getElem_toArray, List.getElem_cons_zero, List.getElem_cons_succ, List.setIfInBounds_toArray, List.set_cons_zero, List.set_cons_succ]
          refine wpAnyG_take [11, 13, 14, 15, 16, 17, 18, 19] (i := 11) (v := (.slice (some ⟨g, off, none⟩) l.length c)) rfl (by kernel_rfl) (by kernel_rfl) (by kernel_rfl) (by kernel_rfl) (by kernel_rfl) (by kernel_rfl) (by kernel_rfl) (by kernel_rfl) (fun _ _ _ h => h) (Or.inl ⟨by rfl, ?hy⟩) T0 ?_
          case hy =>
            intro X hX
            go_simp
          try simp only [Act.put, List.getElem_toArray, List.getElem_cons_zero, List.getElem_cons_succ, List.setIfInBounds_toArray, List.set_cons_zero, List.set_cons_succ]
          refine wpAnyG_take [12, 13, 14, 15, 16, 17, 18, 19] (i := 12) (v := (.int .i64 k)) rfl (by kernel_rfl) (by kernel_rfl) (by kernel_rfl) (by kernel_rfl) (by kernel_rfl) (by kernel_rfl) (by kernel_rfl) (by kernel_rfl) (fun _ _ _ h => h) (Or.inl ⟨by rfl, ?hy⟩) T0 ?_
          case hy =>
            intro X hX
            go_simp
          try simp only [Act.put, List.getElem_toArray, List.getElem_cons_zero, List.getElem_cons_succ, List.setIfInBounds_toArray, List.set_cons_zero, List.set_cons_succ]
          refine wpAnyG_take [13, 14, 15, 16, 17, 18, 19] (i := 13) (v := (.pointer (some ⟨g, off + k * 3, none⟩))) rfl (by kernel_rfl) (by kernel_rfl) (by kernel_rfl) (by kernel_rfl) (by kernel_rfl) (by kernel_rfl) (by kernel_rfl) (by kernel_rfl) (fun _ _ _ h => h) (Or.inl ⟨by rfl, ?hy⟩) T0 ?_
          case hy =>
            intro X hX
            go_simp
          try simp only [Act.put, List.getElem_toArray, List.getElem_cons_zero, List.getElem_cons_succ, List.setIfInBounds_toArray, List.set_cons_zero, List.set_cons_succ]
          refine wpAnyG_take [14, 15, 16, 17, 18, 19] (i := 14) (v := (.pointer (some ⟨g, off + k * 3 + 2, none⟩))) rfl (by kernel_rfl) (by kernel_rfl) (by kernel_rfl) (by kernel_rfl) (by kernel_rfl) (by kernel_rfl) (by kernel_rfl) (by kernel_rfl) (fun _ _ _ h => h) (Or.inl ⟨by rfl, ?hy⟩) T0 ?_
          case hy =>
            intro X hX
            go_simp
          try simp only [Act.put, List.getElem_toArray, List.getElem_cons_zero, List.getElem_cons_succ, List.setIfInBounds_toArray, List.set_cons_zero, List.set_cons_succ]
          refine wpAnyG_take [15, 16, 17, 18, 19] (i := 15) (v := (.string p)) rfl (by kernel_rfl) (by kernel_rfl) (by kernel_rfl) (by kernel_rfl) (by kernel_rfl) (by kernel_rfl) (by kernel_rfl) (by kernel_rfl) (fun _ _ _ h => h) (Or.inl ⟨by rfl, ?hy⟩) T0 ?_
          case hy =>
            intro X hX
            have e0 := at_below q2 hX
            go_simp
          try simp only [Act.put, List.getElem_toArray, List.getElem_cons_zero, List.getElem_cons_succ, List.setIfInBounds_toArray, List.set_cons_zero, List.set_cons_succ]
          refine wpAnyG_take [16, 17, 18, 19] (i := 16) (v := (.agg #[.int .i64 kk, .string d, .string p])) rfl (by kernel_rfl) (by kernel_rfl) (by kernel_rfl) (by kernel_rfl) (by kernel_rfl) (by kernel_rfl) (by kernel_rfl) (by kernel_rfl) (fun _ _ _ h => h) (Or.inl ⟨by rfl, ?hy⟩) T0 ?_
          case hy =>
            intro X hX
            go_simp
          try simp only [Act.put, List.getElem_toArray, List.getElem_cons_zero, List.getElem_cons_succ, List.setIfInBounds_toArray, List.set_cons_zero, List.set_cons_succ]
          refine wpAnyG_all (rs := [17]) (by kernel_rfl) (by simp) ?_
          intro i hi
          simp only [List.mem_cons, List.not_mem_nil, or_false] at hi
          subst hi
          refine wpOp_now rfl rfl ?_
          go_simp
          have hown0 := own_below HH.out.1 T0
          have T1 := T0.alloc T0.size (.cells #[.int .i64 kk, .string d, .string p] 54)
          have hown1 := hown0.alloc (.cells #[.int .i64 kk, .string d, .string p] 54)
          have hnew := World.alloc_heap_new X0 (.cells #[.int .i64 kk, .string d, .string p] 54)
          have hXw : w.heap.size ≤ X0.heap.size := Nat.le_trans HH.out.2.1.size T0.size
          refine ⟨fun _ => T1, ?_⟩
          try simp only [Act.put, List.getElem_toArray, List.getElem_cons_zero, List.getElem_cons_succ, List.setIfInBounds_toArray, List.set_cons_zero, List.set_cons_succ]
          refine wpAnyG_all (rs := [18]) (by kernel_rfl) (by simp) ?_
          intro i hi
          simp only [List.mem_cons, List.not_mem_nil, or_false] at hi
          subst hi
          refine wpOp_now rfl rfl ?_
          refine opwp_append _ _ 30 rfl w.heap.size 54 j0 (.agg #[.int .i64 0, .string .empty, .string .empty]) 3 40 Try.underlying30 hj hy0 hy1 hy2 rfl (by decide) _ _ _ rfl hown1 ⟨X0.heap.size, 0, none⟩ 1 1 [.int .i64 kk, .string d, .string p] rfl rfl (World.news_of_block (cs := #[.int .i64 kk, .string d, .string p]) (t := 54) (fr := (0, 0)) hnew) (fun x hx => by simp at hx; rcases hx with rfl | rfl | rfl <;> rfl) (by unfold maxLen; omega) (by omega) (by simp; omega) ?_
          intro v3 w3 hown3 hg3
          have hB3 : Below w.heap.size w w3 := (HH.out.2.1.trans (T1.mono HH.out.2.1.size)).grown hg3 (by simp; omega) (fun r e => (hown1.lt r e).1)
          rw [← HH.out.2.2] at hown3
          refine ⟨fun h => (nomatch (show (false : Bool) = true from h)), ?_⟩
          try simp only [Act.put, List.getElem_toArray, List.getElem_cons_zero, List.getElem_cons_succ, List.setIfInBounds_toArray, List.set_cons_zero, List.set_cons_succ]
          refine wpAnyG_all (rs := [19]) (by kernel_rfl) (by simp) ?_
          intro i hi
          simp only [List.mem_cons, List.not_mem_nil, or_false] at hi
          subst hi
          refine wpOp_now rfl rfl ?_
          go_simp
          refine ⟨fun h => (nomatch (show (false : Bool) = true from h)), ?_⟩
          refine wpAnyG_done (by kernel_rfl) ?_ _
          refine NoPanic.normal ?_
          have HE := Lib.hid (And.intro hown3 hB3)
          clear hown3 hB3 hg3 hown0 hown1 T0 T1 hnew
          go_wp2
          go_roundw
          case rel => exact ⟨k + 1, by go_num, by omega, HE.out.1, HE.out.2⟩
          case measure => simp [intOf] <;> omega
        · obtain rfl : k = l.length := by omega
          rw [List.take_length] at hown
          have HH := Lib.hid (And.intro hown hB)
          clear hown hB
          go_wp2
          refine bodyPost_ret (results_tmp2 rfl _ _ _) rfl ?_
          exact .inr ⟨HF.out, _, rfl, HH.out.1, HH.out.2⟩
end Go.Proofs.Ytjccoiephdopkaa
