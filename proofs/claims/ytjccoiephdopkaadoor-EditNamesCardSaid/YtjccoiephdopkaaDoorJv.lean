/- Stage 27: the maker's keep, puts, drops, end. -/
import Derived.Test.YtjccoiephdopkaaDoorJu
namespace Go.Proofs.YtjccoiephdopkaaDoor
set_option linter.unusedVariables false
set_option linter.unusedSimpArgs false
open Go Go.RowKit Go.Shelf
set_option maxRecDepth 100000

theorem app_str_block {P : Program} (w : World) (base : Nat) (t u ty e : TypeId) (i : TypeInfo) (ht : P.underlying t = some (.slice e)) (hu : P.underlying u = some .string) (hi : P.info? e = some i) (hz : i.zero = some (.int .u8 0)) (hsize : i.size = 1) (hby : i.bytes = 1)
    (v : Value) (n : Nat) (xs : List Value) (hown : w.ownsRow base e 1 v n xs) (s : ByteArray) (hb : n + s.size ≤ 140737488355328) {v' : Value} {w' : World} (hr : (Builtin.append_ #[t, u] ty #[v, .string s]).run P w = .ok v' w') (hnil : v' = .slice none 0 0 ↔ v = .slice none 0 0 ∧ s.size = 0) :
    v'.ownBlock = v.ownBlock ∨ v'.ownBlock = some w.heap.size := by
  have hxl : xs.length = n := by simpa using hown.1
  rcases hown.2 with ⟨rfl, rfl⟩ | ⟨g, cap, cur, rfl, hbg, hg, hnc, hcm, hcs, htake⟩
  · by_cases hm : s.size = 0
    · left; rw [hnil.2 ⟨rfl, hm⟩]
    · have h := Go.run_append_nil_string (P := P) w t u ty e i (.int .u8 0) ht hu hi hz s (by omega) (by omega) (by rw [hby]; omega)
      rw [hr] at h
      cases h
      exact .inr rfl
  · by_cases hroom : n + s.size ≤ cap
    · have h := Lib.run_append_room_string (P := P) w t u ty e i ht hu hi hsize g n cap cur hg s hroom (by omega)
      rw [hr] at h
      cases h
      exact .inl rfl
    · have holds : ∀ j u, xs[j]? = some u → w.cell? ((⟨g, 0, none⟩ : Addr).add j) = some u := hown.cells (g := g) rfl
      have h := Lib.run_append_grow_string (P := P) w t u ty e i (.int .u8 0) ht hu hi hz ⟨g, 0, none⟩ n cap xs (by rw [hsize]; simpa using hxl) holds s (by omega) (by omega) (by rw [hby]; exact growslice_fits (by omega) (by omega))
      rw [hr] at h
      cases h
      exact .inr rfl
theorem wpList_app2 {P : Program} {w : World} {ops : Array Oper} {rest : List Oper} {o : Oper} {a : Act} {Q : Exit → Act → World → Prop} (hgd : o.guard = none) (sl x : Operand) (t u : TypeId)
    (ho : o.op = .call { callee := .builtin .append, args := #[sl, x], argTypes := #[t, u] })
    (base : Nat) (e : TypeId) (i : TypeInfo) (ht : P.underlying t = some (.slice e)) (hu : P.underlying u = some .string) (hi : P.info? e = some i) (hz : i.zero = some (.int .u8 0)) (hsize : i.size = 1) (hby : i.bytes = 1)
    (v : Value) (n : Nat) (xs : List Value) (hs : a.eval sl = v) (hown : w.ownsRow base e 1 v n xs) (s : ByteArray) (hx : a.eval x = .string s) (hbytes : n + s.size ≤ 140737488355328) (hbase : base ≤ w.heap.size)
    (h : ∀ v' w', w'.ownsRow base e 1 v' (n + s.size) (xs ++ Lib.strCells s) → w.grownBy w' v.ownBlock → (v'.ownBlock = v.ownBlock ∨ v'.ownBlock = some w.heap.size) → wpList P ops Q rest (a.put o.dst v') w') : wpList P ops Q (o :: rest) a w := by
  refine wpList_plain hgd fun K hK => ?_
  obtain ⟨v', w', hr, h2, h3, h4⟩ := Lib.run_append_own_string (P := P) w base t u o.type e i ht hu hi hz hsize hby v n xs hown s (by unfold maxLen; omega) hbytes hbase
  have h5 := app_str_block w base t u o.type e i ht hu hi hz hsize hby v n xs hown s hbytes hr h4
  unfold Oper.wp execOp
  simp only [ho, resolve, invoke, builtin, Sem.run_bind, Sem.run_pure, Result.andThen_ok, List.map_toArray, List.map_cons, List.map_nil, hs, hx, hr]
  exact hK _ _ (h v' w' h2 h3 h5)
theorem strCells_app (a c : ByteArray) : Lib.strCells (a ++ c) = Lib.strCells a ++ Lib.strCells c := by
  simp [Lib.strCells]
set_option maxHeartbeats 4000000 in
theorem keep_any {W : World} {B b : Nat} {vo vp vd : Value} {m : Mk} (h : MkB W B b vo vp vd m) (n : Nat) (hn : n ≤ 65536) (hl : m.out.length ≤ 1000000000) (hk6 : m.kept ≤ 1000000) (hp6 : m.put.size ≤ 1000000) (hd6 : m.drop.size ≤ 1000000) :
    Calls Tryd.prog 47 #[.pointer (some ⟨B, 0, none⟩), .int .i64 n] W fun e W' => e = .returned (.tuple #[]) ∧ ∃ vo' vp' vd', MkB W' B b vo' vp' vd' (keepM n m) ∧ KpM B (vo, vp, vd) (vo', vp', vd') W W' := by
  have cG := fun X (hX : MkB X B b vo vp vd m) => gap_any hX hl hp6 hd6
  obtain ⟨c0, c1, c2, c3⟩ := h.cells
  obtain ⟨op, cp, rfl, _⟩ := own_slice h.rp
  obtain ⟨od, cd, rfl, _⟩ := own_slice h.rd
  obtain ⟨S, hS⟩ : ∃ S, m.put.size + m.drop.size = S := ⟨_, rfl⟩
  have j1 : IntKind.i64.wrap ((m.put.size : Int) + (m.drop.size : Int)) = (S : Int) := by rw [IntWalk.i64_in _ (by omega)]; omega
  have j2 : IntKind.i64.wrap ((m.kept : Int) + (n : Int)) = ((m.kept + n : Nat) : Int) := by rw [IntWalk.i64_in _ (by omega)]; omega
  by_cases hn0 : 0 < n
  · have d1 : decide ((0 : Int) < (n : Int)) = true := decide_eq_true (by omega)
    by_cases hs0 : 0 < S
    · have d2 : decide ((0 : Int) < (S : Int)) = true := decide_eq_true (by omega)
      have hkeep : keepM n m = ⟨(gapM m).out, (gapM m).kept + n, (gapM m).put, (gapM m).drop⟩ := by unfold keepM; rw [if_pos ⟨hn0, by omega⟩]
      have HM := Lib.hid (And.intro h hkeep)
      clear h hkeep hS c1
      go_enter Tryd.func47, Tryd.ntmps47
      go_wp2
      go_quiet (fail)
      generalize hU : World.drewN W _ = U
      have hbU : Below W.heap.size W U := hU ▸ below_drewN _ _
      have HU := Lib.hid (HM.out.1.below hbU)
      have HKU := Lib.hid (KpM.of_below HM.out.1 hbU)
      clear hU hbU c0 c2 c3
      go_wp2_with (fail)
      refine (cG _ HU.out).mono ?_
      rintro e V ⟨rfl, vo', hV, hKV⟩
      obtain ⟨x0, x1, x2, x3⟩ := hV.cells
      have f1 := hV.blk.frozen 1
      have hgk : (gapM m).kept = m.kept := rfl
      rw [hgk] at x1
      have HV := Lib.hid (And.intro hV hKV)
      clear hV hKV cG
      go_wp2
      refine bodyPost_end (results_none rfl _ _ _) rfl ?_
      rw [HM.out.2]
      exact ⟨rfl, _, _, _, HV.out.1.setK _, (HKU.out.trans HV.out.2).trans (KpM.set HV.out.1 1 _)⟩
    · have d2 : decide ((0 : Int) < (S : Int)) = false := decide_eq_false (by omega)
      have hkeep : keepM n m = ⟨m.out, m.kept + n, m.put, m.drop⟩ := by unfold keepM; rw [if_neg (by omega)]
      have HM := Lib.hid (And.intro h hkeep)
      clear h hkeep hS cG
      go_enter Tryd.func47, Tryd.ntmps47
      go_wp2
      go_quiet (fail)
      generalize hU : World.drewN W _ = U
      have hbU : Below W.heap.size W U := hU ▸ below_drewN _ _
      have hu := HM.out.1.below hbU
      have HU := Lib.hid hu
      have HKU := Lib.hid (KpM.of_below HM.out.1 hbU)
      obtain ⟨x0, x1, x2, x3⟩ := hu.cells
      have f1 := hu.blk.frozen 1
      clear hU hbU c0 c1 c2 c3 hu
      go_wp2
      refine bodyPost_end (results_none rfl _ _ _) rfl ?_
      rw [HM.out.2]
      exact ⟨rfl, _, _, _, HU.out.setK _, HKU.out.trans (KpM.set HU.out 1 _)⟩
  · have d1 : decide ((0 : Int) < (n : Int)) = false := decide_eq_false (by omega)
    have hkeep : keepM n m = ⟨m.out, m.kept + n, m.put, m.drop⟩ := by unfold keepM; rw [if_neg (by omega)]
    have HM := Lib.hid (And.intro h hkeep)
    clear h hkeep hS cG
    go_enter Tryd.func47, Tryd.ntmps47
    go_wp2
    go_quiet (fail)
    generalize hU : World.drewN W _ = U
    have hbU : Below W.heap.size W U := hU ▸ below_drewN _ _
    have hu := HM.out.1.below hbU
    have HU := Lib.hid hu
    have HKU := Lib.hid (KpM.of_below HM.out.1 hbU)
    obtain ⟨x0, x1, x2, x3⟩ := hu.cells
    have f1 := hu.blk.frozen 1
    clear hU hbU c0 c1 c2 c3 hu
    go_wp2
    refine bodyPost_end (results_none rfl _ _ _) rfl ?_
    rw [HM.out.2]
    exact ⟨rfl, _, _, _, HU.out.setK _, HKU.out.trans (KpM.set HU.out 1 _)⟩
end Go.Proofs.YtjccoiephdopkaaDoor
