/- Stage 16: Read, the program's: what its memory is like. -/
import Derived.Test.YtdcmkiggnmajgaaV1
import Derived.StillTailTactics
import Derived.ScopeJumps
import Derived.WalkMore
import Derived.Deep.CutRange
import Derived.Deep.CutBlock
namespace Go.Proofs.Ytdcmkiggnmajgaa
set_option linter.unusedVariables false
set_option linter.unusedSimpArgs false
open Go Go.RowKit Go.Shelf
set_option maxRecDepth 100000

/-- A scope out of which, or within which, there is one jump ahead: J is what a jump to a label leads to. -/
def jumpJ (J : Nat → Act → World → Prop) (Q : Exit → Act → World → Prop) : Exit → Act → World → Prop
  | .goto l, a, w => J l a w
  | e, a, w => Q e a w
section
variable {J : Nat → Act → World → Prop} {Q : Exit → Act → World → Prop} {a : Act} {w : World}
@[go_sem] theorem jumpJ_normal : jumpJ J Q .normal a w = Q .normal a w := rfl
@[go_sem] theorem jumpJ_exit (id : Nat) : jumpJ J Q (.exit id) a w = Q (.exit id) a w := rfl
@[go_sem] theorem jumpJ_ret : jumpJ J Q .ret a w = Q .ret a w := rfl
@[go_sem] theorem jumpJ_goto (l : Nat) : jumpJ J Q (.goto l) a w = J l a w := rfl
@[go_sem] theorem jumpJ_panic (ch : List PanicEntry) : jumpJ J Q (.panic ch) a w = Q (.panic ch) a w := rfl
end
theorem wp_scope_once {P : Program} {c : Code} {Q : Exit → Act → World → Prop} {a : Act} {w : World}
    (h : ∀ J : Nat → Act → World → Prop, (∀ l rest a w, findLabel c l = some rest → rest.wp P (Exit.noGoto Q) a w → J l a w) → c.wp P (jumpJ J Q) a w) : (Code.scope c).wp P Q a w := by
  intro b k cs
  obtain ⟨e, a₁, w₁, hq, harr⟩ := h (fun l a w => ∃ rest, findLabel c l = some rest ∧ rest.wp P (Exit.noGoto Q) a w) (fun l rest a w h1 h2 => ⟨rest, h1, h2⟩) b (.inScope c :: k) cs
  cases e with
  | normal => exact ⟨.normal, a₁, w₁, hq, .head step_scope (Steps.trans harr (.one step_inScope))⟩
  | exit id => exact ⟨.exit id, a₁, w₁, hq, fun k' hk => .head step_scope (harr k' (by simp [exitTo, hk]))⟩
  | goto l =>
    obtain ⟨rest, hf, hw⟩ := hq
    have hg : gotoIn l (.inScope c :: k) = some (.code rest :: .inScope c :: k) := by simp [gotoIn, hf]
    obtain ⟨e₂, a₂, w₂, hq₂, harr₂⟩ := hw b (.inScope c :: k) cs
    have hst := harr _ hg
    cases e₂ with
    | normal => exact ⟨.normal, a₂, w₂, hq₂, .head step_scope (Steps.trans hst (Steps.trans harr₂ (.one step_inScope)))⟩
    | exit id => exact ⟨.exit id, a₂, w₂, hq₂, fun k' hk => .head step_scope (Steps.trans hst (harr₂ k' (by simp [exitTo, hk])))⟩
    | goto l => exact hq₂.elim
    | ret => exact ⟨_, a₂, w₂, hq₂, .of_steps (.head step_scope hst) harr₂⟩
    | panic ch => exact ⟨_, a₂, w₂, hq₂, .of_steps (.head step_scope hst) harr₂⟩
    | outgrown => exact ⟨_, a₂, w₂, hq₂, .of_steps (.head step_scope hst) harr₂⟩
  | ret => exact ⟨_, a₁, w₁, hq, .of_steps (.one step_scope) harr⟩
  | panic ch => exact ⟨_, a₁, w₁, hq, .of_steps (.one step_scope) harr⟩
  | outgrown => exact ⟨_, a₁, w₁, hq, .of_steps (.one step_scope) harr⟩
theorem own_base {w : World} {b b' : Nat} {e : TypeId} {sz n : Nat} {v : Value} {xs : List Value} (h : w.ownsRow b e sz v n xs) (hb : b' ≤ b) : w.ownsRow b' e sz v n xs := by
  refine ⟨h.1, h.2.imp id ?_⟩
  rintro ⟨g, cap, cur, rfl, hg, rest⟩
  exact ⟨g, cap, cur, rfl, Nat.le_trans hb hg, rest⟩
theorem own_low {W : World} {b base : Nat} {e : TypeId} {sz n : Nat} {v : Value} {xs : List Value} (h : W.ownsRow base e sz v n xs) (hb : b < base) (o : Nat) (u : Value) : (W.setCell ⟨b, o, none⟩ u).ownsRow base e sz v n xs :=
  h.kept (grownBy_setCell W b o u) (.inr (fun e1 => by have := h.lt b e1; omega))
/-- Two rows and the variable that holds both. -/
def SchB (W : World) (B base : Nat) (vl vs : Value) (L : List Rh) (S : List Int) : Prop :=
  Blk W B #[vl, vs] 25 ∧ W.ownsRow base 79 2 vl L.length (L.flatMap encR) ∧ W.ownsRow base 3 1 vs S.length (S.flatMap encI)
theorem ne_RI : 79 ≠ 3 := by decide
theorem ne_IR : 3 ≠ 79 := by decide
theorem SchB.kept {W W' : World} {row : Option Nat} {B base : Nat} {vl vs : Value} {L : List Rh} {S : List Int} (h : SchB W B base vl vs L S) (hg : W.grownBy W' row) (hr : ∀ r, row = some r → r ≠ B ∧ (r < base ∨ W.heap.size ≤ r)) : SchB W' B base vl vs L S := by
  refine ⟨h.1.kept hg (fun e => (hr B e.symm).1 rfl), h.2.1.kept hg ?_, h.2.2.kept hg ?_⟩
  · cases hb : vl.ownBlock with
    | none => exact .inl rfl
    | some g =>
      right
      intro e
      have h1 := h.2.1.lt g hb
      have h2 := (hr g e.symm).2
      omega
  · cases hb : vs.ownBlock with
    | none => exact .inl rfl
    | some g =>
      right
      intro e
      have h1 := h.2.2.lt g hb
      have h2 := (hr g e.symm).2
      omega
theorem SchB.below {W W' : World} {B base : Nat} {vl vs : Value} {L : List Rh} {S : List Int} (h : SchB W B base vl vs L S) (hb : Below W.heap.size W W') : SchB W' B base vl vs L S :=
  h.kept (grown_none hb) (by simp)
theorem SchB.alloc {W : World} {B base : Nat} {vl vs : Value} {L : List Rh} {S : List Int} (h : SchB W B base vl vs L S) (o : Obj) : SchB (W.alloc o) B base vl vs L S :=
  h.kept (World.grownBy_alloc W o none) (by simp)
theorem SchB.drew {W : World} {B base : Nat} {vl vs : Value} {L : List Rh} {S : List Int} (h : SchB W B base vl vs L S) : SchB W.drew B base vl vs L S := h
/-- The lines have grown. -/
theorem SchB.putL {W w2 : World} {B base n : Nat} {vl vs v' : Value} {L L' : List Rh} {S : List Int} (h : SchB W B base vl vs L S) (hB : B < base) (hg : W.grownBy w2 vl.ownBlock) (hr : w2.ownsRow base 79 2 v' n (L'.flatMap encR)) (hn : n = L'.length) :
    SchB (w2.setCell ⟨B, 0, none⟩ v') B base v' vs L' S := by
  subst hn
  have k := h.1.kept hg (fun e => by have := h.2.1.lt B e.symm; omega)
  exact ⟨k.set 0 v', own_low hr hB 0 v', own_low (h.2.2.kept hg (rows_apart h.2.2 h.2.1 ne_IR)) hB 0 v'⟩
theorem SchB.putS {W w2 : World} {B base n : Nat} {vl vs v' : Value} {L : List Rh} {S S' : List Int} (h : SchB W B base vl vs L S) (hB : B < base) (hg : W.grownBy w2 vs.ownBlock) (hr : w2.ownsRow base 3 1 v' n (S'.flatMap encI)) (hn : n = S'.length) :
    SchB (w2.setCell ⟨B, 1, none⟩ v') B base vl v' L S' := by
  subst hn
  have k := h.1.kept hg (fun e => by have := h.2.2.lt B e.symm; omega)
  exact ⟨k.set 1 v', own_low (h.2.1.kept hg (rows_apart h.2.1 h.2.2 ne_RI)) hB 1 v', own_low hr hB 1 v'⟩
theorem own_setK {W : World} {base g n c o : Nat} {e : TypeId} {sz : Nat} {xs : List Value} (h : W.ownsRow base e sz (.slice (some ⟨g, 0, none⟩) n c) n xs) (ho : o < n * sz) (v : Value) : (W.setCell ⟨g, o, none⟩ v).ownsRow base e sz (.slice (some ⟨g, 0, none⟩) n c) n (xs.set o v) := by
  refine ⟨by rw [List.length_set]; exact h.1, .inr ?_⟩
  rcases h.2 with ⟨e, _⟩ | ⟨g', c', cur, e, hb, hg, h1, h2, h3, h4⟩
  · cases e
  · simp only [Value.slice.injEq, Option.some.injEq, Addr.mk.injEq, and_true, true_and] at e
    obtain ⟨rfl, rfl⟩ := e
    refine ⟨g, c, cur.setIfInBounds o v, rfl, hb, Blk.set hg o v, h1, h2, by rw [Array.size_setIfInBounds]; exact h3, ?_⟩
    rw [Array.toList_setIfInBounds, List.take_set, h4]
/-- A cell of the lines is written. -/
theorem SchB.setL {W : World} {B base g n c o : Nat} {vs u : Value} {L L' : List Rh} {S : List Int} (h : SchB W B base (.slice (some ⟨g, 0, none⟩) n c) vs L S) (hB : B < base) (ho : o < L.length * 2) (hL : L'.length = L.length) (hs : (L.flatMap encR).set o u = L'.flatMap encR) :
    SchB (W.setCell ⟨g, o, none⟩ u) B base (.slice (some ⟨g, 0, none⟩) n c) vs L' S := by
  obtain ⟨oo, cc, e, _⟩ := own_slice h.2.1
  cases e
  have hg := (h.2.1.lt g rfl).1
  refine ⟨h.1.other (by omega) o u, ?_, h.2.2.kept (grownBy_setCell W g o u) ?_⟩
  · rw [hL, ← hs]; exact own_setK h.2.1 ho u
  · have := rows_apart h.2.2 h.2.1 ne_IR
    simpa [Value.ownBlock] using this
theorem SchB.setS {W : World} {B base g n c o : Nat} {vl u : Value} {L : List Rh} {S S' : List Int} (h : SchB W B base vl (.slice (some ⟨g, 0, none⟩) n c) L S) (hB : B < base) (ho : o < S.length) (hS : S'.length = S.length) (hs : (S.flatMap encI).set o u = S'.flatMap encI) :
    SchB (W.setCell ⟨g, o, none⟩ u) B base vl (.slice (some ⟨g, 0, none⟩) n c) L S' := by
  obtain ⟨oo, cc, e, _⟩ := own_slice h.2.2
  cases e
  have hg := (h.2.2.lt g rfl).1
  refine ⟨h.1.other (by omega) o u, h.2.1.kept (grownBy_setCell W g o u) ?_, ?_⟩
  · have := rows_apart h.2.1 h.2.2 ne_RI
    simpa [Value.ownBlock] using this
  · rw [hS, ← hs]; exact own_setK h.2.2 (by omega) u
theorem encI_set {S : List Int} {i : Nat} (hi : i < S.length) (x : Int) : (S.flatMap encI).set i (.int .i64 x) = (S.set i x).flatMap encI := by
  have := fl_set (enc := encI) (k := 1) encI_len (i := i) (j := 0) (y := x) (List.getElem?_eq_getElem hi) (by decide) (v := .int .i64 x) rfl
  simpa using this
theorem own_freeK {w : World} {base n g c sz : Nat} {e : TypeId} {xs : List Value} (h : w.ownsRow base e sz (.slice (some ⟨g, 0, none⟩) n c) n xs) (o : Nat) : w.frozen? ⟨g, o, none⟩ = false := by
  rcases h.2 with ⟨e, _⟩ | ⟨g', c', cur, e, _, hg, _⟩
  · cases e
  · simp only [Value.slice.injEq, Option.some.injEq, Addr.mk.injEq, and_true, true_and] at e
    obtain ⟨rfl, rfl⟩ := e
    simp [World.frozen?, hg]

/-- 'append' as one operation of a region. -/
theorem opwp_append {P : Program} {o : Oper} {K : Act → World → Prop} {Q : Exit → Act → World → Prop} {a : Act} {w : World} (s x : Operand) (t : TypeId)
    (ho : o.op = .call { callee := .builtin .append, args := #[s, x], argTypes := #[t, t] })
    (base : Nat) (e : TypeId) (i : TypeInfo) (z : Value) (size bytes : Nat) (ht : P.underlying t = some (.slice e)) (hi : P.info? e = some i) (hz : i.zero = some z)
    (hsize : i.size = size) (hby : i.bytes = bytes) (hzs : z.cells.size = size) (hsz : 0 < size)
    (v : Value) (n : Nat) (xs : List Value) (hs : a.eval s = v) (hown : w.ownsRow base e size v n xs)
    (ad : Addr) (m c : Nat) (news : List Value) (hx : a.eval x = .slice (some ad) m c) (hl : news.length = m * size) (hnews : ∀ j u, news[j]? = some u → w.cell? (ad.add j) = some u) (h1 : ∀ u ∈ news, u.oneCell' = true)
    (h63 : n + m ≤ maxLen) (hbytes : (n + m) * bytes ≤ 140737488355328) (hbase : base ≤ w.heap.size)
    (h : ∀ v' w', w'.ownsRow base e size v' (n + m) (xs ++ news) → w.grownBy w' v.ownBlock → K (a.put o.dst v') w') : o.wp P a w K Q := by
  obtain ⟨v', w', hr, h2, h3, _, _⟩ := run_append_own_at (P := P) w base t o.type e i z size bytes ht hi hz hsize hby hzs hsz v n xs hown ad m c news hl hnews h1 h63 hbytes hbase
  unfold Oper.wp execOp
  simp only [ho, resolve, invoke, builtin, Sem.run_bind, Sem.run_pure, Result.andThen_ok, List.map_toArray, List.map_cons, List.map_nil, hs, hx, hr]
  exact h v' w' h2 h3
theorem infoRhyme : (Try.prog.info? 79).map (fun i => (i.zero, i.size, i.bytes)) = some (some (.agg #[.int .i64 0, .int .i64 0]), 2, 16) := by kernel_rfl
theorem infoInt : (Try.prog.info? 3).map (fun i => (i.zero, i.size, i.bytes)) = some (some (.int .i64 0), 1, 8) := by kernel_rfl
end Go.Proofs.Ytdcmkiggnmajgaa
