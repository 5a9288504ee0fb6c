/- Several texts in one. -/
import Derived.Test.YtjccoiephdopkaaJu
import Derived.Test.YtjccoiephdopkaaZ02
/- Stage 27: the maker's keep, puts, drops, end. -/
namespace Go.Proofs.Ytjccoiephdopkaa
set_option linter.unusedVariables false
set_option linter.unusedSimpArgs false
open Go Go.RowKit Go.Shelf
set_option maxRecDepth 100000

theorem app_str_block {P : Program} (w : World) (base : Nat) (t u ty e : TypeId) (i : TypeInfo) (ht : P.underlying t = some (.slice e)) (hu : P.underlying u = some .string) (hi : P.info? e = some i) (hz : i.zero = some (.int .u8 0)) (hsize : i.size = 1) (hby : i.bytes = 1)
    (v : Value) (n : Nat) (xs : List Value) (hown : w.ownsRow base e 1 v n xs) (s : ByteArray) (hb : n + s.size ≤ 140737488355328) {v' : Value} {w' : World} (hr : (Builtin.append_ #[t, u] ty #[v, .string s]).run P w = .ok v' w') (hnil : v' = .slice none 0 0 ↔ v = .slice none 0 0 ∧ s.size = 0) :
    v'.ownBlock = v.ownBlock ∨ v'.ownBlock = some w.heap.size := by
  have hxl : xs.length = n := by simpa using hown.1
  rcases hown.2 with ⟨rfl, rfl⟩ | ⟨g, cap, cur, rfl, hbg, hg, hnc, hcm, hcs, htake⟩
  · by_cases hm : s.size = 0
    · left; rw [hnil.2 ⟨rfl, hm⟩]
    · have h := Go.run_append_nil_string (P := P) w t u ty e i (.int .u8 0) ht hu hi hz s (by omega) (by omega) (by rw [hby]; omega)
      rw [hr] at h
      cases h
      exact .inr rfl
  · by_cases hroom : n + s.size ≤ cap
    · have h := Lib.run_append_room_string (P := P) w t u ty e i ht hu hi hsize g n cap cur hg s hroom (by omega)
      rw [hr] at h
      cases h
      exact .inl rfl
    · have holds : ∀ j u, xs[j]? = some u → w.cell? ((⟨g, 0, none⟩ : Addr).add j) = some u := hown.cells (g := g) rfl
      have h := Lib.run_append_grow_string (P := P) w t u ty e i (.int .u8 0) ht hu hi hz ⟨g, 0, none⟩ n cap xs (by rw [hsize]; simpa using hxl) holds s (by omega) (by omega) (by rw [hby]; exact growslice_fits (by omega) (by omega))
      rw [hr] at h
      cases h
      exact .inr rfl
theorem wpList_app2 {P : Program} {w : World} {ops : Array Oper} {rest : List Oper} {o : Oper} {a : Act} {Q : Exit → Act → World → Prop} (hgd : o.guard = none) (sl x : Operand) (t u : TypeId)
    (ho : o.op = .call { callee := .builtin .append, args := #[sl, x], argTypes := #[t, u] })
    (base : Nat) (e : TypeId) (i : TypeInfo) (ht : P.underlying t = some (.slice e)) (hu : P.underlying u = some .string) (hi : P.info? e = some i) (hz : i.zero = some (.int .u8 0)) (hsize : i.size = 1) (hby : i.bytes = 1)
    (v : Value) (n : Nat) (xs : List Value) (hs : a.eval sl = v) (hown : w.ownsRow base e 1 v n xs) (s : ByteArray) (hx : a.eval x = .string s) (hbytes : n + s.size ≤ 140737488355328) (hbase : base ≤ w.heap.size)
    (h : ∀ v' w', w'.ownsRow base e 1 v' (n + s.size) (xs ++ Lib.strCells s) → w.grownBy w' v.ownBlock → (v'.ownBlock = v.ownBlock ∨ v'.ownBlock = some w.heap.size) → wpList P ops Q rest (a.put o.dst v') w') : wpList P ops Q (o :: rest) a w := by
  refine wpList_plain hgd fun K hK => ?_
  obtain ⟨v', w', hr, h2, h3, h4⟩ := Lib.run_append_own_string (P := P) w base t u o.type e i ht hu hi hz hsize hby v n xs hown s (by unfold maxLen; omega) hbytes hbase
  have h5 := app_str_block w base t u o.type e i ht hu hi hz hsize hby v n xs hown s hbytes hr h4
  unfold Oper.wp execOp
  simp only [ho, resolve, invoke, builtin, Sem.run_bind, Sem.run_pure, Result.andThen_ok, List.map_toArray, List.map_cons, List.map_nil, hs, hx, hr]
  exact hK _ _ (h v' w' h2 h3 h5)
theorem strCells_app (a c : ByteArray) : Lib.strCells (a ++ c) = Lib.strCells a ++ Lib.strCells c := by
  simp [Lib.strCells]
set_option maxHeartbeats 4000000 in
theorem keep_any {W : World} {B b : Nat} {vo vp vd : Value} {m : Mk} (h : MkB W B b vo vp vd m) (n : Nat) (hn : n ≤ 65536) (hl : m.out.length ≤ 1000000000) (hk6 : m.kept ≤ 1000000) (hp6 : m.put.size ≤ 1000000) (hd6 : m.drop.size ≤ 1000000) :
    Calls Try.prog 26 #[.pointer (some ⟨B, 0, none⟩), .int .i64 n] W fun e W' => e = .returned (.tuple #[]) ∧ ∃ vo' vp' vd', MkB W' B b vo' vp' vd' (keepM n m) ∧ KpM B (vo, vp, vd) (vo', vp', vd') W W' := by
  have cG := fun X (hX : MkB X B b vo vp vd m) => gap_any hX hl hp6 hd6
  obtain ⟨c0, c1, c2, c3⟩ := h.cells
  obtain ⟨op, cp, rfl, _⟩ := own_slice h.rp
  obtain ⟨od, cd, rfl, _⟩ := own_slice h.rd
  obtain ⟨S, hS⟩ : ∃ S, m.put.size + m.drop.size = S := ⟨_, rfl⟩
  have j1 : IntKind.i64.wrap ((m.put.size : Int) + (m.drop.size : Int)) = (S : Int) := by rw [IntWalk.i64_in _ (by omega)]; omega
  have j2 : IntKind.i64.wrap ((m.kept : Int) + (n : Int)) = ((m.kept + n : Nat) : Int) := by rw [IntWalk.i64_in _ (by omega)]; omega
  by_cases hn0 : 0 < n
  · have d1 : decide ((0 : Int) < (n : Int)) = true := decide_eq_true (by omega)
    by_cases hs0 : 0 < S
    · have d2 : decide ((0 : Int) < (S : Int)) = true := decide_eq_true (by omega)
      have hkeep : keepM n m = ⟨(gapM m).out, (gapM m).kept + n, (gapM m).put, (gapM m).drop⟩ := by unfold keepM; rw [if_pos ⟨hn0, by omega⟩]
      have HM := Lib.hid (And.intro h hkeep)
      clear h hkeep hS c1
      go_enter Try.func26, Try.ntmps26
      go_wp2
      go_quiet (fail)
      generalize hU : World.drewN W _ = U
      have hbU : Below W.heap.size W U := hU ▸ below_drewN _ _
      have HU := Lib.hid (HM.out.1.below hbU)
      have HKU := Lib.hid (KpM.of_below HM.out.1 hbU)
      clear hU hbU c0 c2 c3
      go_wp2_with (fail)
      refine (cG _ HU.out).mono ?_
      rintro e V ⟨rfl, vo', hV, hKV⟩
      obtain ⟨x0, x1, x2, x3⟩ := hV.cells
      have f1 := hV.blk.frozen 1
      have hgk : (gapM m).kept = m.kept := rfl
      rw [hgk] at x1
      have HV := Lib.hid (And.intro hV hKV)
      clear hV hKV cG
      go_wp2
      refine bodyPost_end (results_none rfl _ _ _) rfl ?_
      rw [HM.out.2]
      exact ⟨rfl, _, _, _, HV.out.1.setK _, (HKU.out.trans HV.out.2).trans (KpM.set HV.out.1 1 _)⟩
    · have d2 : decide ((0 : Int) < (S : Int)) = false := decide_eq_false (by omega)
      have hkeep : keepM n m = ⟨m.out, m.kept + n, m.put, m.drop⟩ := by unfold keepM; rw [if_neg (by omega)]
      have HM := Lib.hid (And.intro h hkeep)
      clear h hkeep hS cG
      go_enter Try.func26, Try.ntmps26
      go_wp2
      go_quiet (fail)
      generalize hU : World.drewN W _ = U
      have hbU : Below W.heap.size W U := hU ▸ below_drewN _ _
      have hu := HM.out.1.below hbU
      have HU := Lib.hid hu
      have HKU := Lib.hid (KpM.of_below HM.out.1 hbU)
      obtain ⟨x0, x1, x2, x3⟩ := hu.cells
      have f1 := hu.blk.frozen 1
      clear hU hbU c0 c1 c2 c3 hu
      go_wp2
      refine bodyPost_end (results_none rfl _ _ _) rfl ?_
      rw [HM.out.2]
      exact ⟨rfl, _, _, _, HU.out.setK _, HKU.out.trans (KpM.set HU.out 1 _)⟩
  · have d1 : decide ((0 : Int) < (n : Int)) = false := decide_eq_false (by omega)
    have hkeep : keepM n m = ⟨m.out, m.kept + n, m.put, m.drop⟩ := by unfold keepM; rw [if_neg (by omega)]
    have HM := Lib.hid (And.intro h hkeep)
    clear h hkeep hS cG
    go_enter Try.func26, Try.ntmps26
    go_wp2
    go_quiet (fail)
    generalize hU : World.drewN W _ = U
    have hbU : Below W.heap.size W U := hU ▸ below_drewN _ _
    have hu := HM.out.1.below hbU
    have HU := Lib.hid hu
    have HKU := Lib.hid (KpM.of_below HM.out.1 hbU)
    obtain ⟨x0, x1, x2, x3⟩ := hu.cells
    have f1 := hu.blk.frozen 1
    clear hU hbU c0 c1 c2 c3 hu
    go_wp2
    refine bodyPost_end (results_none rfl _ _ _) rfl ?_
    rw [HM.out.2]
    exact ⟨rfl, _, _, _, HU.out.setK _, HKU.out.trans (KpM.set HU.out 1 _)⟩
end Go.Proofs.Ytjccoiephdopkaa

/- Stage 27: the maker's puts and drops. -/
namespace Go.Proofs.Ytjccoiephdopkaa
set_option linter.unusedVariables false
set_option linter.unusedSimpArgs false
open Go Go.RowKit Go.Shelf
set_option maxRecDepth 100000

theorem MkB.putS {W w2 : World} {B b : Nat} {vo vp vd v2 : Value} {m : Mk} (h : MkB W B b vo vp vd m) (s : ByteArray) (hown : w2.ownsRow b 5 1 v2 (m.put.size + s.size) (Lib.strCells m.put ++ Lib.strCells s)) (hg : W.grownBy w2 vp.ownBlock)
    (hv : v2.ownBlock = vp.ownBlock ∨ v2.ownBlock = some W.heap.size) : MkB (w2.setCell ⟨B, 2, none⟩ v2) B b vo v2 vd ⟨m.out, m.kept, m.put ++ s, m.drop⟩ ∧ KpM B (vo, vp, vd) (vo, v2, vd) W (w2.setCell ⟨B, 2, none⟩ v2) := by
  have hne : vd.ownBlock = none ∨ vd.ownBlock ≠ vp.ownBlock := by
    rcases h.ap with e | e
    · by_cases e2 : vd.ownBlock = none
      · exact .inl e2
      · exact .inr (fun e3 => e2 (e3.trans e))
    · exact .inr (fun e3 => e e3.symm)
  have b3 := Blk.kept h.blk hg (Blk.not_row h.blk (by decide) h.rp)
  have b4 := b3.set 2 v2
  simp only [List.setIfInBounds_toArray, List.set_cons_zero, List.set_cons_succ] at b4
  have r0 := own_low (h.ro.kept hg (rows_apart h.ro h.rp (by decide))) h.bb 2 v2
  have r1 := own_low hown h.bb 2 v2
  have r2 := own_low (h.rd.kept hg hne) h.bb 2 v2
  have hbw : b ≤ (w2.setCell ⟨B, 2, none⟩ v2).heap.size := by simp; exact Nat.le_trans h.bw hg.size
  have hlo : ∀ g, vd.ownBlock = some g → g < W.heap.size := fun g e => (h.rd.lt g e).2
  have hap2 : v2.ownBlock = none ∨ v2.ownBlock ≠ vd.ownBlock := by
    rcases hv with e | e
    · rw [e]; exact h.ap
    · right; rw [e]; intro e3; have := hlo _ e3.symm; omega
  refine ⟨⟨b4, r0, by rw [ByteArray.size_append, strCells_app]; exact r1, r2, hap2, h.bb, hbw⟩, ⟨hg.os, hg.tape, hg.output, by simp; exact hg.size, fun q hq hB hn => ⟨?_, hn.1, ?_, hn.2.2⟩⟩⟩
  · exact (Below.heap_setCell _ _ _ _ (fun e => hB e)).trans (hg.block q hq (fun e => hn.2.1 e))
  · show some q ≠ v2.ownBlock
    rcases hv with hv | hv
    · rw [hv]; exact hn.2.1
    · rw [hv]; intro e; cases e; omega
set_option maxHeartbeats 4000000 in
theorem puts_any {W : World} {B b : Nat} {vo vp vd : Value} {m : Mk} (h : MkB W B b vo vp vd m) (s : ByteArray) (hs6 : s.size ≤ 1000000) (hl : m.out.length ≤ 1000000000) (hp6 : m.put.size ≤ 1000000) :
    Calls Try.prog 28 #[.pointer (some ⟨B, 0, none⟩), .string s] W fun e W' => e = .returned (.tuple #[]) ∧ ∃ vo' vp' vd', MkB W' B b vo' vp' vd' (putsM s m) ∧ KpM B (vo, vp, vd) (vo', vp', vd') W W' := by
  obtain ⟨i0, hi, hz0, hz1, hz2⟩ := info_parts infoU8
  have cR := row_any h hl
  rcases emp_or s with rfl | ⟨s0, s1, s2, s3⟩
  · have hput : putsM .empty m = ⟨m.out, m.kept, m.put ++ .empty, m.drop⟩ := by unfold putsM; rw [if_neg (by decide)]
    obtain ⟨c0, c1, c2, c3⟩ := h.cells
    have f2 := h.blk.frozen 2
    have HM := Lib.hid (And.intro h hput)
    clear h hput cR
    go_enter Try.func28, Try.ntmps28
    go_wp2_with (at_builtin; refine wpList_app2 rfl _ _ 41 9 rfl b 5 i0 Try.underlying41 Try.underlying9 hi hz0 hz1 hz2 _ _ _ rfl HM.out.1.rp .empty rfl (by omega) HM.out.1.bw ?_; intro v2 w2 r2 g2 b2; have b3 := Blk.kept HM.out.1.blk g2 (Blk.not_row HM.out.1.blk (by decide) HM.out.1.rp); have z0 := b3.cell 2; have z1 := b3.frozen 2; simp only [List.getElem?_toArray, List.getElem?_cons_succ, List.getElem?_cons_zero] at z0; obtain ⟨o2, q2, rfl, _⟩ := own_slice r2; have HA := Lib.hid (MkB.putS HM.out.1 .empty r2 g2 b2); clear r2 g2 b2 b3)
    refine bodyPost_end (results_none rfl _ _ _) rfl ?_
    rw [HM.out.2]
    exact ⟨rfl, _, _, _, HA.out.1, HA.out.2⟩
  · have hput : putsM s m = ⟨(rowM m).out, (rowM m).kept, (rowM m).put ++ s, (rowM m).drop⟩ := by unfold putsM; rw [if_pos (by omega)]
    have HM := Lib.hid (And.intro h hput)
    clear h hput
    go_enter Try.func28, Try.ntmps28
    go_wp2_with (fail)
    refine cR.mono ?_
    rintro e V ⟨rfl, vo', hV, hKV⟩
    obtain ⟨c0, c1, c2, c3⟩ := hV.cells
    have f2 := hV.blk.frozen 2
    have HV := Lib.hid (And.intro hV hKV)
    have hp7 : (rowM m).put.size ≤ 1000000 := hp6
    clear hV hKV cR
    go_wp2_with (at_builtin; refine wpList_app2 rfl _ _ 41 9 rfl b 5 i0 Try.underlying41 Try.underlying9 hi hz0 hz1 hz2 _ _ _ rfl HV.out.1.rp s rfl (by omega) HV.out.1.bw ?_; intro v2 w2 r2 g2 b2; have b3 := Blk.kept HV.out.1.blk g2 (Blk.not_row HV.out.1.blk (by decide) HV.out.1.rp); have z0 := b3.cell 2; have z1 := b3.frozen 2; simp only [List.getElem?_toArray, List.getElem?_cons_succ, List.getElem?_cons_zero] at z0; obtain ⟨o2, q2, rfl, _⟩ := own_slice r2; have HA := Lib.hid (MkB.putS HV.out.1 s r2 g2 b2); clear r2 g2 b2 b3)
    refine bodyPost_end (results_none rfl _ _ _) rfl ?_
    rw [HM.out.2]
    exact ⟨rfl, _, _, _, HA.out.1, HV.out.2.trans HA.out.2⟩
theorem MkB.dropS {W w2 : World} {B b : Nat} {vo vp vd v2 : Value} {m : Mk} (h : MkB W B b vo vp vd m) (s : ByteArray) (hown : w2.ownsRow b 5 1 v2 (m.drop.size + s.size) (Lib.strCells m.drop ++ Lib.strCells s)) (hg : W.grownBy w2 vd.ownBlock)
    (hv : v2.ownBlock = vd.ownBlock ∨ v2.ownBlock = some W.heap.size) : MkB (w2.setCell ⟨B, 3, none⟩ v2) B b vo vp v2 ⟨m.out, m.kept, m.put, m.drop ++ s⟩ ∧ KpM B (vo, vp, vd) (vo, vp, v2) W (w2.setCell ⟨B, 3, none⟩ v2) := by
  have hne : vp.ownBlock = none ∨ vp.ownBlock ≠ vd.ownBlock := by
    rcases h.ap with e | e
    · by_cases e2 : vp.ownBlock = none
      · exact .inl e2
      · exact .inr (fun e3 => e2 e)
    · exact .inr e
  have b3 := Blk.kept h.blk hg (Blk.not_row h.blk (by decide) h.rd)
  have b4 := b3.set 3 v2
  simp only [List.setIfInBounds_toArray, List.set_cons_zero, List.set_cons_succ] at b4
  have r0 := own_low (h.ro.kept hg (rows_apart h.ro h.rd (by decide))) h.bb 3 v2
  have r1 := own_low hown h.bb 3 v2
  have r2 := own_low (h.rp.kept hg hne) h.bb 3 v2
  have hbw : b ≤ (w2.setCell ⟨B, 3, none⟩ v2).heap.size := by simp; exact Nat.le_trans h.bw hg.size
  have hlo : ∀ g, vp.ownBlock = some g → g < W.heap.size := fun g e => (h.rp.lt g e).2
  have hap3 : vp.ownBlock = none ∨ vp.ownBlock ≠ v2.ownBlock := by
    rcases hv with e | e
    · rw [e]; exact h.ap
    · right; rw [e]; intro e3; have := hlo _ e3; omega
  refine ⟨⟨b4, r0, r2, by rw [ByteArray.size_append, strCells_app]; exact r1, hap3, h.bb, hbw⟩, ⟨hg.os, hg.tape, hg.output, by simp; exact hg.size, fun q hq hB hn => ⟨?_, hn.1, hn.2.1, ?_⟩⟩⟩
  · exact (Below.heap_setCell _ _ _ _ (fun e => hB e)).trans (hg.block q hq (fun e => hn.2.2 e))
  · show some q ≠ v2.ownBlock
    rcases hv with hv | hv
    · rw [hv]; exact hn.2.2
    · rw [hv]; intro e; cases e; omega
set_option maxHeartbeats 4000000 in
theorem drops_any {W : World} {B b : Nat} {vo vp vd : Value} {m : Mk} (h : MkB W B b vo vp vd m) (s : ByteArray) (hs6 : s.size ≤ 1000000) (hl : m.out.length ≤ 1000000000) (hp6 : m.drop.size ≤ 1000000) :
    Calls Try.prog 27 #[.pointer (some ⟨B, 0, none⟩), .string s] W fun e W' => e = .returned (.tuple #[]) ∧ ∃ vo' vp' vd', MkB W' B b vo' vp' vd' (dropsM s m) ∧ KpM B (vo, vp, vd) (vo', vp', vd') W W' := by
  obtain ⟨i0, hi, hz0, hz1, hz2⟩ := info_parts infoU8
  have cR := row_any h hl
  rcases emp_or s with rfl | ⟨s0, s1, s2, s3⟩
  · have hput : dropsM .empty m = ⟨m.out, m.kept, m.put, m.drop ++ .empty⟩ := by unfold dropsM; rw [if_neg (by decide)]
    obtain ⟨c0, c1, c2, c3⟩ := h.cells
    have f2 := h.blk.frozen 3
    have HM := Lib.hid (And.intro h hput)
    clear h hput cR
    go_enter Try.func27, Try.ntmps27
    go_wp2_with (at_builtin; refine wpList_app2 rfl _ _ 41 9 rfl b 5 i0 Try.underlying41 Try.underlying9 hi hz0 hz1 hz2 _ _ _ rfl HM.out.1.rd .empty rfl (by omega) HM.out.1.bw ?_; intro v2 w2 r2 g2 b2; have b3 := Blk.kept HM.out.1.blk g2 (Blk.not_row HM.out.1.blk (by decide) HM.out.1.rd); have z0 := b3.cell 3; have z1 := b3.frozen 3; simp only [List.getElem?_toArray, List.getElem?_cons_succ, List.getElem?_cons_zero] at z0; obtain ⟨o2, q2, rfl, _⟩ := own_slice r2; have HA := Lib.hid (MkB.dropS HM.out.1 .empty r2 g2 b2); clear r2 g2 b2 b3)
    refine bodyPost_end (results_none rfl _ _ _) rfl ?_
    rw [HM.out.2]
    exact ⟨rfl, _, _, _, HA.out.1, HA.out.2⟩
  · have hput : dropsM s m = ⟨(rowM m).out, (rowM m).kept, (rowM m).put, (rowM m).drop ++ s⟩ := by unfold dropsM; rw [if_pos (by omega)]
    have HM := Lib.hid (And.intro h hput)
    clear h hput
    go_enter Try.func27, Try.ntmps27
    go_wp2_with (fail)
    refine cR.mono ?_
    rintro e V ⟨rfl, vo', hV, hKV⟩
    obtain ⟨c0, c1, c2, c3⟩ := hV.cells
    have f2 := hV.blk.frozen 3
    have HV := Lib.hid (And.intro hV hKV)
    have hp7 : (rowM m).drop.size ≤ 1000000 := hp6
    clear hV hKV cR
    go_wp2_with (at_builtin; refine wpList_app2 rfl _ _ 41 9 rfl b 5 i0 Try.underlying41 Try.underlying9 hi hz0 hz1 hz2 _ _ _ rfl HV.out.1.rd s rfl (by omega) HV.out.1.bw ?_; intro v2 w2 r2 g2 b2; have b3 := Blk.kept HV.out.1.blk g2 (Blk.not_row HV.out.1.blk (by decide) HV.out.1.rd); have z0 := b3.cell 3; have z1 := b3.frozen 3; simp only [List.getElem?_toArray, List.getElem?_cons_succ, List.getElem?_cons_zero] at z0; obtain ⟨o2, q2, rfl, _⟩ := own_slice r2; have HA := Lib.hid (MkB.dropS HV.out.1 s r2 g2 b2); clear r2 g2 b2 b3)
    refine bodyPost_end (results_none rfl _ _ _) rfl ?_
    rw [HM.out.2]
    exact ⟨rfl, _, _, _, HA.out.1, HV.out.2.trans HA.out.2⟩
end Go.Proofs.Ytjccoiephdopkaa

/- Stage 27: Sizes. -/
namespace Go.Proofs.Ytjccoiephdopkaa
set_option linter.unusedVariables false
set_option linter.unusedSimpArgs false
open Go Go.RowKit Go.Shelf
set_option maxRecDepth 100000

set_option maxHeartbeats 4000000 in
theorem sizes_any (l : List Sp) (o : Option Addr) (c : Nat) (hn : l.length ≤ 9223372036854775807) (ho : OkS l) (w : World) (hr : RowAt w encS 3 o l) :
    Calls Try.prog 21 #[.slice o l.length c] w fun e w' => e = .returned (szV (sizeG l 0 0)) ∧ Below w.heap.size w w' := by
  go_enter Try.func21, Try.ntmps21
  go_wp2
  go_loopw [5, 6, 11] (fun a b i W => ∃ (f t k : Nat), a = .int .i64 f ∧ b = .int .i64 t ∧ i = .int .i64 k ∧ k ≤ l.length ∧ f ≤ 65536 ∧ t ≤ 65536 ∧ sizeG (l.drop k) f t = sizeG l 0 0 ∧ Below w.heap.size w W) (fun _ _ i _ => l.length - (intOf i).toNat)
  case atStart => exact ⟨0, 0, 0, rfl, rfl, rfl, by omega, by omega, by omega, rfl, Below.refl _ _⟩
  case round =>
    obtain ⟨f, t, k, rfl, rfl, rfl, hk, hf, ht, hsz, hB⟩ := hrel
    by_cases hlt : k < l.length
    · obtain ⟨x, hx⟩ : ∃ x, l[k]? = some x := ⟨_, List.getElem?_eq_getElem hlt⟩
      obtain ⟨g, off, rfl, hc⟩ := hr.below encS_len (by decide) hB k x hx
      obtain ⟨q0, q1, q2⟩ := get3 (l := l) hc
      obtain ⟨x1, x2, x3, x4⟩ := ho x (List.mem_of_getElem? hx)
      have hd : l.drop k = x :: l.drop (k + 1) := (List.drop_eq_getElem_cons hlt).trans (by rw [(List.getElem?_eq_some_iff.1 hx).2])
      rw [hd, sizeG] at hsz
      have HS := Lib.hid (And.intro hsz hB)
      have n := Blk.new wr #[.int .i64 x.k, .string x.d, .string x.p] 29
      have hb := (Below.refl wr.heap.size wr).alloc (Nat.le_refl _) (.cells #[.int .i64 x.k, .string x.d, .string x.p] 29)
      have hkl : (k : Int) < (l.length : Int) := by omega
      clear hsz hB hx hc hd hr
      go_wp2_with (fail)
      refine (kind_any x _).mono ?_
      rintro e W1 ⟨rfl, hb1⟩
      have hb2 : Below wr.heap.size wr W1 := hb.trans (hb1.mono (by simp))
      have n1 := n.below' hb1
      obtain ⟨bx, hbx⟩ : ∃ b, wr.heap.size = b := ⟨_, rfl⟩
      have m0 := n1.cell 0
      have m1 := n1.cell 1
      have m2 := n1.cell 2
      simp only [List.getElem?_toArray, List.getElem?_cons_succ, List.getElem?_cons_zero] at m0 m1 m2
      rw [hbx] at m0 m1 m2 ⊢
      obtain ⟨q, hq⟩ : ∃ q, kindN x = q := ⟨_, rfl⟩
      rw [hq]
      have HS2 := Lib.hid (And.intro HS.out.1 (And.intro (HS.out.2.trans (hb2.mono HS.out.2.size)) hq))
      clear HS hb hb1 hb2 n n1 hbx q0 q1 q2
      by_cases hq0 : q = 0
      · have e1 : ((q : Int) == 0) = true := by rw [beq_iff_eq]; omega
        have e2 : (q == 0) = true := by rw [beq_iff_eq]; omega
        have HQ := Lib.hid hq0
        clear hq0
        go_wp2
        refine bodyPost_ret (results_tmp3 rfl _ _ _) rfl ?_
        refine ⟨?_, HS2.out.2.1⟩
        rw [← HS2.out.1, if_pos (Or.inl (HS2.out.2.2.trans HQ.out))]
        rfl
      · have e1 : ((q : Int) == 0) = false := by rw [beq_eq_false_iff_ne]; omega
        have e2 : (q == 0) = false := by rw [beq_eq_false_iff_ne]; omega
        have hk0 := kind_pos (x := x) (by rw [hq]; exact hq0)
        by_cases h6 : 65536 < x.k
        · have e3 : decide (65536 < x.k) = true := decide_eq_true h6
          have HQ := Lib.hid h6
          clear hq0 h6
          go_wp2
          refine bodyPost_ret (results_tmp3 rfl _ _ _) rfl ?_
          refine ⟨?_, HS2.out.2.1⟩
          rw [← HS2.out.1, if_pos (Or.inr HQ.out)]
          rfl
        · have e3 : decide (65536 < x.k) = false := decide_eq_false h6
          obtain ⟨kn, hkn⟩ : ∃ kn : Nat, x.k = kn := ⟨x.k.toNat, by omega⟩
          have HQ := Lib.hid (And.intro hq0 h6)
          rw [hkn] at m0 e3
          have hkn6 : kn ≤ 65536 := by omega
          have htn : x.k.toNat = kn := by omega
          have HN := Lib.hid (And.intro hkn htn)
          obtain ⟨D, hD⟩ : ∃ D, kn + x.d.size = D := ⟨_, rfl⟩
          obtain ⟨F, hF⟩ : ∃ F, f + kn + x.d.size = F := ⟨_, rfl⟩
          obtain ⟨E, hE⟩ : ∃ E, kn + x.p.size = E := ⟨_, rfl⟩
          obtain ⟨T, hT⟩ : ∃ T, t + kn + x.p.size = T := ⟨_, rfl⟩
          have j1 : IntKind.i64.wrap ((kn : Int) + (x.d.size : Int)) = (D : Int) := by rw [IntWalk.i64_in _ (by omega)]; omega
          have j2 : IntKind.i64.wrap ((f : Int) + (D : Int)) = (F : Int) := by rw [IntWalk.i64_in _ (by omega)]; omega
          have j3 : IntKind.i64.wrap ((kn : Int) + (x.p.size : Int)) = (E : Int) := by rw [IntWalk.i64_in _ (by omega)]; omega
          have j4 : IntKind.i64.wrap ((t : Int) + (E : Int)) = (T : Int) := by rw [IntWalk.i64_in _ (by omega)]; omega
          have HE := Lib.hid (And.intro hF hT)
          have hk0' := HQ
          clear hq0 h6 hkn htn hk0 x1 x2 x3 x4 hD hF hE hT
          have hgo : sizeG (x :: l.drop (k + 1)) f t = if 65536 < F ∨ 65536 < T then none else sizeG (l.drop (k + 1)) F T := by
            rw [sizeG, if_neg (by rw [HS2.out.2.2]; intro h; rcases h with h | h; exact HQ.out.1 h; exact HQ.out.2 h), HN.out.2, HE.out.1, HE.out.2]
          have HG := Lib.hid hgo
          have hS1 := HS2.out.1
          rw [← sizeG, hgo] at hS1
          have HS3 := Lib.hid hS1
          clear hgo hS1
          by_cases hF6 : 65536 < F
          · have e4 : decide ((65536 : Int) < (F : Int)) = true := decide_eq_true (by omega)
            go_wp2
            refine bodyPost_ret (results_tmp3 rfl _ _ _) rfl ?_
            refine ⟨?_, HS2.out.2.1⟩
            rw [← HS3.out, if_pos (Or.inl hF6)]
            rfl
          · have e4 : decide ((65536 : Int) < (F : Int)) = false := decide_eq_false (by omega)
            by_cases hT6 : 65536 < T
            · have e5 : decide ((65536 : Int) < (T : Int)) = true := decide_eq_true (by omega)
              go_wp2
              refine bodyPost_ret (results_tmp3 rfl _ _ _) rfl ?_
              refine ⟨?_, HS2.out.2.1⟩
              rw [← HS3.out, if_pos (Or.inr hT6)]
              rfl
            · have e5 : decide ((65536 : Int) < (T : Int)) = false := decide_eq_false (by omega)
              have HFT : Hid (sizeG (l.drop (k + 1)) F T = sizeG l 0 0) := Lib.hid (by rw [← HS3.out, if_neg (by omega)])
              go_wp2
              go_roundw
              case rel => exact ⟨F, T, k + 1, rfl, rfl, by go_num, by omega, by omega, by omega, HFT.out, HS2.out.2.1⟩
              case measure => simp [intOf] <;> omega
    · obtain rfl : k = l.length := by omega
      rw [List.drop_length, sizeG] at hsz
      have HS := Lib.hid (And.intro hsz hB)
      clear hsz hB hr
      go_wp2
      refine bodyPost_ret (results_tmp3 rfl _ _ _) rfl ?_
      exact ⟨by rw [← HS.out.1]; rfl, HS.out.2⟩
end Go.Proofs.Ytjccoiephdopkaa

/- Stage 27: the maker's end; plain. -/
namespace Go.Proofs.Ytjccoiephdopkaa
set_option linter.unusedVariables false
set_option linter.unusedSimpArgs false
open Go Go.RowKit Go.Shelf
set_option maxRecDepth 100000

def PlainR (l : List Sp) (w : World) (e : Ending) (w' : World) : Prop :=
  ∃ v, e = .returned v ∧ w'.ownsRow w.heap.size 29 3 v (plainM l).length ((plainM l).flatMap encS) ∧ Below w.heap.size w w'
theorem gap_len (m : Mk) : (gapM m).out.length ≤ m.out.length + 2 := by
  unfold gapM
  simp only [List.length_append]
  split <;> split <;> simp
theorem row_len (m : Mk) : (rowM m).out.length ≤ m.out.length + 1 := by
  unfold rowM
  simp only [List.length_append]
  split <;> simp
theorem keep_bd (m : Mk) (n : Nat) : (keepM n m).out.length ≤ m.out.length + 2 ∧ (keepM n m).kept ≤ m.kept + n ∧ (keepM n m).put.size ≤ m.put.size ∧ (keepM n m).drop.size ≤ m.drop.size := by
  have h := gap_len m
  unfold keepM
  split
  · exact ⟨h, Nat.le_refl _, Nat.zero_le _, Nat.zero_le _⟩
  · exact ⟨by simp, Nat.le_refl _, Nat.le_refl _, Nat.le_refl _⟩
theorem puts_bd (m : Mk) (s : ByteArray) : (putsM s m).out.length ≤ m.out.length + 1 ∧ (putsM s m).kept ≤ m.kept ∧ (putsM s m).put.size ≤ m.put.size + s.size ∧ (putsM s m).drop.size ≤ m.drop.size := by
  have h := row_len m
  unfold putsM
  split
  · exact ⟨h, Nat.zero_le _, by simp [rowM], Nat.le_refl _⟩
  · exact ⟨by simp, Nat.le_refl _, by simp, Nat.le_refl _⟩
theorem drops_bd (m : Mk) (s : ByteArray) : (dropsM s m).out.length ≤ m.out.length + 1 ∧ (dropsM s m).kept ≤ m.kept ∧ (dropsM s m).put.size ≤ m.put.size ∧ (dropsM s m).drop.size ≤ m.drop.size + s.size := by
  have h := row_len m
  unfold dropsM
  split
  · exact ⟨h, Nat.zero_le _, Nat.le_refl _, by simp [rowM]⟩
  · exact ⟨by simp, Nat.le_refl _, Nat.le_refl _, by simp⟩
theorem kind_one {x : Sp} (h : kindN x ≠ 0) : 1 ≤ x.k.toNat + x.d.size + x.p.size := by
  unfold kindN at h
  split at h
  · omega
  · split at h
    · omega
    · split at h
      · omega
      · exact absurd rfl h
theorem end_any {W : World} {B b : Nat} {vo vp vd : Value} {m : Mk} (h : MkB W B b vo vp vd m) (hl : m.out.length ≤ 100000000) (hp6 : m.put.size ≤ 1000000) (hd6 : m.drop.size ≤ 1000000) :
    Calls Try.prog 29 #[.pointer (some ⟨B, 0, none⟩)] W fun e W' => ∃ v, e = .returned v ∧ MkB W' B b v (.slice none 0 0) (.slice none 0 0) (rowM (gapM m)) ∧ KpM B (vo, vp, vd) (v, .slice none 0 0, .slice none 0 0) W W' := by
  have cG := gap_any h (by omega) hp6 hd6
  have hgl := gap_len m
  have cR := fun X vo' (hX : MkB X B b vo' (.slice none 0 0) (.slice none 0 0) (gapM m)) => row_any hX (by omega)
  clear h
  go_enter Try.func29, Try.ntmps29
  go_wp2_with (fail)
  refine cG.mono ?_
  rintro e V ⟨rfl, vo', hV, hKV⟩
  have HV := Lib.hid (And.intro hV hKV)
  clear hV hKV cG
  go_wp2_with (fail)
  refine (cR _ _ HV.out.1).mono ?_
  rintro e U ⟨rfl, vo2, hU, hKU⟩
  obtain ⟨c0, c1, c2, c3⟩ := hU.cells
  have HU := Lib.hid (And.intro hU hKU)
  clear hU hKU cR
  go_wp2
  go_ret
  exact ⟨_, rfl, HU.out.1, HV.out.2.trans HU.out.2⟩
set_option maxHeartbeats 4000000 in
theorem plain_any (l : List Sp) (o : Option Addr) (c F T : Nat) (hn : l.length ≤ 9223372036854775807) (hok : sizeG l 0 0 = some (F, T)) (w : World) (hr : RowAt w encS 3 o l) :
    Calls Try.prog 34 #[.slice o l.length c] w (PlainR l w) := by
  have hM0 : MkB (w.alloc (.cells #[.slice none 0 0, .int .i64 0, .slice none 0 0, .slice none 0 0] 61)) w.heap.size (w.heap.size + 1) (.slice none 0 0) (.slice none 0 0) (.slice none 0 0) ⟨[], 0, .empty, .empty⟩ :=
    ⟨Blk.new w _ _, World.ownsRow_nil _ _ _ _, World.ownsRow_nil _ _ _ _, World.ownsRow_nil _ _ _ _, .inl rfl, by omega, by simp⟩
  have hB0 := (Below.refl w.heap.size w).alloc (Nat.le_refl _) (.cells #[.slice none 0 0, .int .i64 0, .slice none 0 0, .slice none 0 0] 61)
  have H0 := Lib.hid (And.intro hM0 (And.intro hB0 (And.intro hok hr)))
  clear hM0 hB0 hok hr
  go_enter Try.func34, Try.ntmps34
  go_wp2
  go_loopw [8] (fun i X => ∃ (k f t : Nat) (vo vp vd : Value) (m : Mk), i = .int .i64 k ∧ k ≤ l.length ∧ (l.take k).foldl stepM ⟨[], 0, .empty, .empty⟩ = m ∧ MkB X w.heap.size (w.heap.size + 1) vo vp vd m ∧ Below w.heap.size w X ∧ sizeG (l.drop k) f t = some (F, T) ∧ f ≤ 65536 ∧ t ≤ 65536 ∧ m.kept ≤ f ∧ m.drop.size ≤ f ∧ m.put.size ≤ t ∧ k ≤ f + t ∧ m.out.length ≤ 4 * k) (fun i _ => l.length - (intOf i).toNat)
  case atStart => exact ⟨0, 0, 0, _, _, _, _, rfl, by omega, rfl, H0.out.1, H0.out.2.1, H0.out.2.2.1, by omega, by omega, Nat.le_refl _, Nat.le_refl _, Nat.le_refl _, by omega, Nat.le_refl _⟩
  case round =>
    obtain ⟨k, f, t, vo, vp, vd, m, rfl, hk, hm, hMB, hB, hsz, hf, ht, b1, b2, b3, b4, b5⟩ := hrel
    by_cases hlt : k < l.length
    · obtain ⟨x, hx⟩ : ∃ x, l[k]? = some x := ⟨_, List.getElem?_eq_getElem hlt⟩
      obtain ⟨g, off, rfl, hc⟩ := H0.out.2.2.2.below encS_len (by decide) hB k x hx
      obtain ⟨q0, q1, q2⟩ := get3 (l := l) hc
      have hd : l.drop k = x :: l.drop (k + 1) := (List.drop_eq_getElem_cons hlt).trans (by rw [(List.getElem?_eq_some_iff.1 hx).2])
      have hstep : (l.take (k + 1)).foldl stepM ⟨[], 0, .empty, .empty⟩ = stepM m x := by rw [List.take_add_one, hx, List.foldl_append, hm]; rfl
      rw [hd, sizeG] at hsz
      by_cases hk0 : kindN x = 0 ∨ 65536 < x.k
      · rw [if_pos hk0] at hsz; cases hsz
      · rw [if_neg hk0] at hsz
        by_cases hs6 : 65536 < f + x.k.toNat + x.d.size ∨ 65536 < t + x.k.toNat + x.p.size
        · rw [if_pos hs6] at hsz; cases hsz
        · rw [if_neg hs6] at hsz
          have hkp := kind_pos (x := x) (fun e => hk0 (.inl e))
          have hk1 := kind_one (x := x) (fun e => hk0 (.inl e))
          obtain ⟨kk, d, p⟩ := x
          simp only at hkp hk1 hs6 hk0 hsz q0 q1 q2
          obtain ⟨kn, rfl⟩ : ∃ kn : Nat, kk = kn := ⟨kk.toNat, by omega⟩
          rw [Int.toNat_natCast] at hs6 hsz hk1
          have hst : stepM m ⟨kn, d, p⟩ = dropsM d (putsM p (keepM kn m)) := by unfold stepM; rw [Int.toNat_natCast]
          rw [hst] at hstep
          have e1 := keep_bd m kn
          have e2 := puts_bd (keepM kn m) p
          have e3 := drops_bd (putsM p (keepM kn m)) d
          have n := Blk.new wr #[.int .i64 kn, .string d, .string p] 29
          have hb := (Below.refl wr.heap.size wr).alloc (Nat.le_refl _) (.cells #[.int .i64 kn, .string d, .string p] 29)
          have hMB1 := hMB.below hb
          have hne : N3 (vo, vp, vd) wr.heap.size := hMB.n3_new (Nat.le_refl _)
          have hqB : wr.heap.size ≠ w.heap.size := by have := hMB1.bw; have := hMB.bb; have := hMB.bw; omega
          have hqs : wr.heap.size < (wr.alloc (.cells #[.int .i64 kn, .string d, .string p] 29)).heap.size := by simp
          have j5 : IntKind.i64.wrap ((k : Int) + 1) = ((k + 1 : Nat) : Int) := by rw [IntWalk.i64_in _ (by omega)]; omega
          have hkl : (k : Int) < (l.length : Int) := by omega
          have cK := keep_any hMB1 kn (by omega) (by omega) (by omega) (by omega) (by omega)
          obtain ⟨q, hq⟩ : ∃ q, wr.heap.size = q := ⟨_, rfl⟩
          have z0 := n.cell 0
          simp only [List.getElem?_toArray, List.getElem?_cons_zero] at z0
          rw [hq] at n hne z0 hqB hqs
          have HQB := Lib.hid (And.intro hqB hqs)
          clear hqB hqs
          have HX := Lib.hid (And.intro n (And.intro hne (And.intro hstep (And.intro hsz (And.intro (hB.trans (hb.mono hB.size)) hMB1)))))
          have HK := Lib.hid (And.intro e1 (And.intro e2 (And.intro e3 (And.intro hs6 (And.intro hk1 (And.intro b1 (And.intro b2 (And.intro b3 (And.intro b4 b5)))))))))
          have HQ := Lib.hid hq
          clear hsz hstep hst hm hMB hB hb n hne e1 e2 e3 hs6 hk1 b1 b2 b3 b4 b5 hd hx hc hMB1 hq hk0 hkp z0
          go_wp2_with (fail)
          refine cK.mono ?_
          rintro e V1 ⟨rfl, vo1, vp1, vd1, hM1, hK1⟩
          rw [HQ.out]
          have nb1 := hK1.blk q HQB.out.2 HQB.out.1 HX.out.2.1
          have n1 : Blk V1 q #[.int .i64 kn, .string d, .string p] 29 := nb1.1.trans HX.out.1
          have y2 : V1.cell? ⟨q, 2, none⟩ = some (.string p) := n1.cell 2
          have cP := puts_any hM1 p (by have := HK.out; omega) (by have := HK.out; omega) (by have := HK.out; omega)
          have H1 := Lib.hid (And.intro hM1 (And.intro hK1 (And.intro n1 nb1.2)))
          clear hM1 hK1 n1 nb1 cK
          go_wp2_with (fail)
          refine cP.mono ?_
          rintro e V2 ⟨rfl, vo2, vp2, vd2, hM2, hK2⟩
          have nb2 := hK2.blk q (Nat.lt_of_lt_of_le HQB.out.2 H1.out.2.1.size) HQB.out.1 H1.out.2.2.2
          have n2 : Blk V2 q #[.int .i64 kn, .string d, .string p] 29 := nb2.1.trans H1.out.2.2.1
          have y1 : V2.cell? ⟨q, 1, none⟩ = some (.string d) := n2.cell 1
          have cD := drops_any hM2 d (by have := HK.out; omega) (by have := HK.out; omega) (by have := HK.out; omega)
          have H2 := Lib.hid (And.intro hM2 hK2)
          clear hM2 hK2 n2 nb2 cP y2
          go_wp2_with (fail)
          refine cD.mono ?_
          rintro e V3 ⟨rfl, vo3, vp3, vd3, hM3, hK3⟩
          have hK := (H1.out.2.1.trans H2.out.2).trans hK3
          have hBl : Below w.heap.size w V3 := hK.below HX.out.2.2.2.2.2 (Nat.le_refl _) HX.out.2.2.2.2.1
          have H3 := Lib.hid (And.intro hM3 hBl)
          clear hM3 hK3 hK hBl cD y1
          go_wp2
          go_roundw
          case rel =>
            have h := HK.out
            exact ⟨k + 1, f + kn + d.size, t + kn + p.size, vo3, vp3, vd3, _, by go_num, by omega, HX.out.2.2.1, H3.out.1, H3.out.2, HX.out.2.2.2.1, by omega, by omega, by omega, by omega, by omega, by omega, by omega⟩
          case measure => simp [intOf] <;> omega
    · obtain rfl : k = l.length := by omega
      rw [List.take_length] at hm
      have cE := end_any hMB (by omega) (by omega) (by omega)
      have HX := Lib.hid (And.intro hm (And.intro hB hMB))
      clear hm hB hMB hsz
      go_wp2_with (fail)
      refine cE.mono ?_
      rintro e V ⟨v, rfl, hrow0, hK⟩
      have hrow : V.ownsRow (w.heap.size + 1) 29 3 v (endM m).length ((endM m).flatMap encS) := hrow0.ro
      clear hrow0
      have hBl : Below w.heap.size w V := hK.below HX.out.2.2 (Nat.le_refl _) HX.out.2.1
      have H3 := Lib.hid (And.intro hrow hBl)
      clear hrow hK hBl cE
      go_wp2
      go_ret
      refine ⟨v, rfl, ?_, H3.out.2⟩
      have h := H3.out.1
      rw [← HX.out.1] at h
      exact own_base h (by omega)
end Go.Proofs.Ytjccoiephdopkaa
