/- Regions that draw their order: loads taken first, stores last. The condition on the world may hang on what has come up. -/
import Derived.OrdersHeld
import Derived.Deep.RegionHeld3
import Derived.Deep.AppendLies
namespace Go.Proofs.YtjccoiephdopkaaDoor
set_option linter.unusedVariables false
open Go

section
variable {P : Program} {ops : Array Oper} {Q : Exit → Act → World → Prop} {md : Region.Mode} {S : Array Bool → World → Prop}

/-- Whatever order is picked from here on; behind each operation the condition of what has come up. -/
def wpAnyG (P : Program) (md : Region.Mode) (ops : Array Oper) (Q : Exit → Act → World → Prop) (S : Array Bool → World → Prop) : Nat → Array Bool → Act → World → Prop
  | 0, listed, a, w => Region.ready md ops listed = [] ∧ Q .normal a w
  | fuel + 1, listed, a, w =>
    (Region.ready md ops listed = [] → Q .normal a w) ∧
    ∀ i ∈ Region.ready md ops listed, wpOp P ops Q i (fun a' w' => S (listed.setIfInBounds i true) w' ∧ wpAnyG P md ops Q S fuel (listed.setIfInBounds i true) a' w') a w

theorem wpAny_of_g : ∀ (fuel : Nat) (listed : Array Bool) (a : Act) (w : World), wpAnyG P md ops Q S fuel listed a w → wpAny P md ops Q fuel listed a w
  | 0, _, _, _, h => h
  | fuel + 1, _, _, _, h => ⟨h.1, fun i hi => wpOp_mono (fun a' w' h' => wpAny_of_g fuel _ a' w' h'.2) (h.2 i hi)⟩

theorem yieldsIf_imp {T T' : World → Prop} {o : Oper} {v : Value} {a : Act} (h : YieldsIf P ops T o v a) (hi : ∀ w, T' w → T w) : YieldsIf P ops T' o v a :=
  h.imp (fun ⟨hw, hv⟩ => ⟨hw, fun w ht => hv w (hi w ht)⟩) id

theorem wpAnyG_first {M : List Nat} {i : Nat} {oi : Oper} {v : Value} (hi : ops[i]? = some oi) (hsel : ∀ (j : Nat) (o : Oper) cs b, ops[j]? = some o → o.op ≠ .select cs b)
    (hQ : ∀ c a w, Q (.panic c) (a.put oi.dst v) w → Q (.panic c) a w)
    (hiM : i ∈ M) (hm : ∀ m ∈ M, m = i ∨ ∃ om, ops[m]? = some om ∧ ∃ e ∈ om.after, Region.binds md e = true ∧ e.on ∈ M)
    (hself : ∀ e ∈ oi.after, Region.binds md e = true → e.on ∉ M)
    (hS : ∀ (j : Nat) oj, ops[j]? = some oj → (∀ e ∈ oj.after, Region.binds md e = true → e.on ∉ M) → ∀ (l : Array Bool) (w : World), S (l.setIfInBounds j true) w ↔ S l w) :
    ∀ (fuel : Nat) (listed : Array Bool) (a : Act) (w : World),
      (∀ j oj, ops[j]? = some oj → j ≠ i → listed.getD j true = false → (∀ e ∈ oj.after, Region.binds md e = true → e.on ≠ i) → oi.apart ops oj = true) →
      i ∈ Region.ready md ops listed → (∀ m ∈ M, listed.getD m true = false) → YieldsIf P ops (S listed) oi v a → S listed w →
      wpAnyG P md ops Q S fuel (listed.setIfInBounds i true) (a.put oi.dst v) w → wpAnyG P md ops Q S (fuel + 1) listed a w := by
  intro fuel
  induction fuel with
  | zero =>
    intro listed a w _ hr _ hy hs H
    refine ⟨fun h => (by rw [h] at hr; cases hr), fun j hj => ?_⟩
    by_cases hji : j = i
    · subst hji; exact hy.wpOp hi hs ⟨(hS j oi hi hself listed w).2 hs, H⟩
    · have := ready_mono hj hji
      rw [H.1] at this
      cases this
  | succ fuel ih =>
    intro listed a w hfree hr hml hy hs H
    refine ⟨fun h => (by rw [h] at hr; cases hr), fun j hj => ?_⟩
    by_cases hji : j = i
    · subst hji; exact hy.wpOp hi hs ⟨(hS j oi hi hself listed w).2 hs, H⟩
    · have h1 := H.2 j (ready_mono hj hji)
      obtain ⟨hjun, oj, hoj, hall⟩ := mem_ready.1 hj
      have hno : ∀ k, listed.getD k true = false → ∀ e ∈ oj.after, Region.binds md e = true → e.on ≠ k := fun k h0 e he hb heq => by
        have h1 := hall e he hb
        rw [heq] at h1
        rcases Nat.lt_or_ge k listed.size with h' | h'
        · simp [h'] at h0 h1; rw [h0] at h1; cases h1
        · simp [Array.getElem?_eq_none h'] at h1
      have hnot := hno i (mem_ready.1 hr).1
      have hboth : ∀ e ∈ oj.after, Region.binds md e = true → e.on ∉ M := fun e he hb hM => hno _ (hml _ hM) e he hb rfl
      have hjm : j ∉ M := fun hM => by
        rcases hm j hM with h | ⟨om, ho, x, hx, hb, hxi⟩
        · exact hji h
        · rw [ho] at hoj
          cases hoj
          exact hboth x hx hb hxi
      have h2 := wpOp_putIf hoj (hfree j oj hoj hji hjun hnot) (fun cs b => hsel i oi cs b hi) (fun cs b => hsel j oj cs b hoj) hQ hy h1
      have hfree' : ∀ k ok, ops[k]? = some ok → k ≠ i → (listed.setIfInBounds j true).getD k true = false →
          (∀ e ∈ ok.after, Region.binds md e = true → e.on ≠ i) → oi.apart ops ok = true := fun k ok hk hki hun hno => by
        refine hfree k ok hk hki ?_ hno
        by_cases hjk : j = k
        · subst hjk; exact hjun
        · rw [getD_set_ne true hjk] at hun; exact hun
      refine wpOp_mono (fun a' w' h3 => ?_) h2
      have hs' : S (listed.setIfInBounds j true) w' := by
        have := h3.2.1
        rw [Array.setIfInBounds_comm _ _ (Ne.symm hji)] at this
        exact (hS i oi hi hself _ w').1 this
      refine ⟨hs', ih (listed.setIfInBounds j true) a' w' hfree' (ready_mono hr (Ne.symm hji)) (fun m hM => by rw [getD_set_ne true (fun e => hjm (by rw [e]; exact hM))]; exact hml m hM) (yieldsIf_imp h3.1 fun w ht => (hS j oj hoj hboth listed w).1 ht) hs' ?_⟩
      rw [Array.setIfInBounds_comm _ _ hji]
      exact h3.2.2

theorem wpAnyG_all {rs : List Nat} {fuel : Nat} {listed : Array Bool} {a : Act} {w : World} (hr : Region.ready md ops listed = rs) (hne : rs ≠ [])
    (h : ∀ i ∈ rs, wpOp P ops Q i (fun a' w' => S (listed.setIfInBounds i true) w' ∧ wpAnyG P md ops Q S fuel (listed.setIfInBounds i true) a' w') a w) : wpAnyG P md ops Q S (fuel + 1) listed a w :=
  ⟨fun h0 => absurd (hr ▸ h0) hne, hr ▸ h⟩
theorem wpAnyG_done {listed : Array Bool} {a : Act} {w : World} (hr : Region.ready md ops listed = []) (h : Q .normal a w) :
    ∀ fuel, wpAnyG P md ops Q S fuel listed a w
  | 0 => ⟨hr, h⟩
  | _ + 1 => ⟨fun _ => h, by rw [hr]; simp⟩

/-- The condition 'as long as none of these has come up, T'. -/
def untilG (ks : List Nat) (T : World → Prop) (l : Array Bool) (w : World) : Prop := (ks.all fun k => l.getD k true == false) = true → T w
theorem untilG_set {ks : List Nat} {T : World → Prop} {j : Nat} (hj : j ∉ ks) (l : Array Bool) (w : World) : untilG ks T (l.setIfInBounds j true) w ↔ untilG ks T l w := by
  have h : (ks.all fun k => (l.setIfInBounds j true).getD k true == false) = (ks.all fun k => l.getD k true == false) := by
    clear T w
    induction ks with
    | nil => rfl
    | cons k ks ih =>
      rw [List.all_cons, List.all_cons, ih (fun h => hj (List.mem_cons_of_mem _ h)), getD_set_ne true (fun h => hj (by rw [h]; exact List.mem_cons_self))]
  unfold untilG
  rw [h]

def waits (md : Region.Mode) (ops : Array Oper) (k i : Nat) : Bool := match ops[k]? with | some o => o.after.any (fun e => Region.binds md e && e.on == i) | none => false
theorem waits_spec {k i : Nat} {o : Oper} (ho : ops[k]? = some o) (h : waits md ops k i = true) : ∃ e ∈ o.after, Region.binds md e = true ∧ e.on = i := by
  unfold waits at h
  rw [ho] at h
  obtain ⟨e, he, hb⟩ := Array.any_eq_true'.1 h
  rw [Bool.and_eq_true, beq_iff_eq] at hb
  exact ⟨e, he, hb.1, hb.2⟩

/-- Number i first: those that write (ks) wait for one of M, and all of M wait for one another down to it. -/
theorem wpAnyG_take (M : List Nat) {ks : List Nat} {T : World → Prop} {i : Nat} {oi : Oper} {v : Value} {fuel : Nat} {listed : Array Bool} {a : Act} {w : World} (hi : ops[i]? = some oi)
    (hs : Region.noSelect ops = true) (hf : Region.free md ops listed i = true) (hr : (Region.ready md ops listed).contains i = true)
    (hM : (M.contains i && M.all (fun m => m == i || M.any (fun m' => waits md ops m m'))) = true) (hw : (ks.all fun k => M.any fun m => waits md ops k m) = true) (hself : (oi.after.any fun e => Region.binds md e && M.contains e.on) = false)
    (hun : (ks.all fun k => listed.getD k true == false) = true) (hml : (M.all fun m => listed.getD m true == false) = true)
    (hQ : ∀ c a w, Q (.panic c) (a.put oi.dst v) w → Q (.panic c) a w) (hy : YieldsIf P ops T oi v a) (hS : T w)
    (h : wpAnyG P md ops Q (untilG ks T) fuel (listed.setIfInBounds i true) (a.put oi.dst v) w) : wpAnyG P md ops Q (untilG ks T) (fuel + 1) listed a w := by
  rw [Bool.and_eq_true] at hM
  refine wpAnyG_first (M := M) hi (Region.noSelect_spec hs) hQ (by simpa using hM.1) ?_ ?_ ?_ fuel listed a w (Region.free_spec hi hf) (by simpa using hr) (fun m hm => by simpa using List.all_eq_true.1 hml m hm) (yieldsIf_imp hy fun w ht => ht hun) (fun _ => hS) h
  · intro m hm
    have h1 := List.all_eq_true.1 hM.2 m hm
    rw [Bool.or_eq_true, beq_iff_eq] at h1
    refine h1.imp id fun h2 => ?_
    obtain ⟨m', hm', h3⟩ := List.any_eq_true.1 h2
    cases ho : ops[m]? with
    | none => unfold waits at h3; rw [ho] at h3; cases h3
    | some om =>
      obtain ⟨e, he, hb, heq⟩ := waits_spec ho h3
      exact ⟨om, rfl, e, he, hb, heq ▸ hm'⟩
  · intro e he hb
    have h1 := Array.any_eq_false'.1 hself e he
    rw [hb, Bool.true_and] at h1
    simpa using h1
  · intro j oj hj hn l w
    refine untilG_set (fun hmem => ?_) l w
    obtain ⟨m, hm, h1⟩ := List.any_eq_true.1 (List.all_eq_true.1 hw j hmem)
    obtain ⟨e, he, hb, ho⟩ := waits_spec hj h1
    exact hn e he hb (ho ▸ hm)

/-- The beginning. -/
theorem wp_region_g {id : Nat} {a : Act} {w : World} (hm : P.follows .mixedOrders = true)
    (h : wpAnyG P .any ops Q S ops.size (Array.replicate ops.size false) a w.drew) : (Code.region id ops true).wp P Q a w :=
  wp_region_any hm (wpAny_of_g _ _ _ _ h)

/-- What is wanted is carried out; what is not is passed over. -/
theorem wpOp_open {i : Nat} {o : Oper} {K : Act → World → Prop} {a : Act} {w : World} (hi : ops[i]? = some o) (hw : Region.wanted o (yielded ops a.tmps) = true) (h : o.wp P a w K Q) : wpOp P ops Q i K a w := by
  unfold wpOp
  simp only [hi, hw, if_true]
  exact .inl h
theorem wpOp_shut {i : Nat} {o : Oper} {K : Act → World → Prop} {a : Act} {w : World} (hi : ops[i]? = some o) (hw : Region.wanted o (yielded ops a.tmps) = false) (h : K (a.put o.dst undef) w) : wpOp P ops Q i K a w := by
  unfold wpOp
  simp only [hi, hw, Bool.false_eq_true, if_false]
  exact h
/-- What has no guard is carried out. -/
theorem wpOp_now {i : Nat} {o : Oper} {K : Act → World → Prop} {a : Act} {w : World} (hi : ops[i]? = some o) (hg : o.guard = none) (h : o.wp P a w K Q) : wpOp P ops Q i K a w := by
  have hw : Region.wanted o (yielded ops a.tmps) = true := by simp [Region.wanted, hg]
  unfold wpOp
  simp only [hi, hw, if_true]
  exact .inl h
end
end Go.Proofs.YtjccoiephdopkaaDoor
