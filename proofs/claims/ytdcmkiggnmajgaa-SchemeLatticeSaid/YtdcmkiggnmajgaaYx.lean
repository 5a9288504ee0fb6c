/- Stage 16: mathematics of Meet and Join: marks, and the scheme that they make. -/
import Derived.Test.YtdcmkiggnmajgaaYu
namespace Go.Proofs.Ytdcmkiggnmajgaa
set_option linter.unusedVariables false
set_option linter.unusedSimpArgs false
open Go Go.RowKit Go.Shelf
set_option maxRecDepth 100000

/-- A line's class. -/
def ca (A : List Rh) (i : Nat) : Int := (A[i]?.map Rh.c).getD (-1)
theorem ca_some {A : List Rh} {i : Nat} {x : Rh} (h : A[i]? = some x) : ca A i = x.c := by simp [ca, h]
def alkF (A : List Rh) (i k : Nat) : Bool := decide (i = k) || (decide (0 ≤ ca A i) && decide (ca A i = ca A k))
theorem alkF_iff {A : List Rh} {i k : Nat} : alkF A i k = true ↔ i = k ∨ (0 ≤ ca A i ∧ ca A i = ca A k) := by
  simp [alkF]
theorem alkB_F {A : List Rh} {i k : Nat} {x y : Rh} (hx : A[i]? = some x) (hy : A[k]? = some y) : alkB i k x y = alkF A i k := by
  unfold alkB alkF
  rw [ca_some hx, ca_some hy]
theorem alkF_sym {A : List Rh} {i k : Nat} : alkF A i k = alkF A k i := by
  rw [Bool.eq_iff_iff, alkF_iff, alkF_iff]
  constructor <;> (rintro (h | ⟨h1, h2⟩); exact .inl h.symm; exact .inr ⟨by omega, h2.symm⟩)
theorem alkF_eqv (A : List Rh) : Equivalence (fun i k => alkF A i k = true) :=
  ⟨fun i => alkF_iff.2 (.inl rfl), fun h => by rw [alkF_sym]; exact h, fun {i j k} h1 h2 => by
    rw [alkF_iff] at h1 h2 ⊢
    rcases h1 with rfl | ⟨a, b⟩
    · exact h2
    · rcases h2 with rfl | ⟨c, d⟩
      · exact .inr ⟨a, b⟩
      · exact .inr ⟨a, b.trans d⟩⟩
def relM (A B : List Rh) (i k : Nat) : Prop := alkF A i k = true ∧ alkF B i k = true
def relJ (A B : List Rh) (i k : Nat) : Prop := alkF A i k = true ∨ alkF B i k = true
theorem relM_eqv (A B : List Rh) : Equivalence (relM A B) :=
  ⟨fun i => ⟨(alkF_eqv A).refl i, (alkF_eqv B).refl i⟩, fun h => ⟨(alkF_eqv A).symm h.1, (alkF_eqv B).symm h.2⟩, fun h h' => ⟨(alkF_eqv A).trans h.1 h'.1, (alkF_eqv B).trans h.2 h'.2⟩⟩

/-- Marks: each is the least line that a row of alike lines leads to. -/
structure Mk (n : Nat) (R : Nat → Nat → Prop) (f : Nat → Nat) : Prop where
  le : ∀ i, i < n → f i ≤ i
  con : ∀ E : Nat → Nat → Prop, Equivalence E → (∀ i j, i < n → j < n → R i j → E i j) → ∀ i, i < n → E i (f i)
  eq : ∀ i j, i < n → j < n → R i j → f i = f j
theorem Mk.to {n : Nat} {R : Nat → Nat → Prop} {f : Nat → Nat} (h : Mk n R f) {g : Nat → Nat} (hg : ∀ i j, i < n → j < n → R i j → g i = g j) {i : Nat} (hi : i < n) : g i = g (f i) :=
  h.con (fun a b => g a = g b) ⟨fun _ => rfl, fun e => e.symm, fun e e' => e.trans e'⟩ hg i hi
theorem Mk.idem {n : Nat} {R : Nat → Nat → Prop} {f : Nat → Nat} (h : Mk n R f) {i : Nat} (hi : i < n) : f (f i) = f i := (h.to h.eq hi).symm
theorem Mk.unique {n : Nat} {R : Nat → Nat → Prop} {f g : Nat → Nat} (h : Mk n R f) (h' : Mk n R g) {i : Nat} (hi : i < n) : f i = g i := by
  have h1 := h.le i hi
  have h2 := h'.le i hi
  have h3 := h.to h'.eq hi
  have h4 := h'.to h.eq hi
  have h5 := h'.le (f i) (by omega)
  have h6 := h.le (g i) (by omega)
  omega
/-- The first line that is alike by both. -/
theorem Mk.ofMeet {A B : List Rh} {n : Nat} {f : Nat → Nat} (hle : ∀ i, i < n → f i ≤ i) (hR : ∀ i, i < n → relM A B (f i) i) (hmin : ∀ i j, i < n → j ≤ i → relM A B j i → f i ≤ j) : Mk n (relM A B) f where
  le := hle
  con := fun E hE h i hi => h _ _ hi (by have := hle i hi; omega) ((relM_eqv A B).symm (hR i hi))
  eq := by
    have key : ∀ i j, i < n → j < n → relM A B i j → f i ≤ f j := by
      intro i j hi hj h
      have h1 := hR j hj
      have h2 : relM A B (f j) i := (relM_eqv A B).trans h1 ((relM_eqv A B).symm h)
      by_cases hl : f j ≤ i
      · exact hmin i (f j) hi hl h2
      · have := hle i hi; omega
    intro i j hi hj h
    have h1 := key i j hi hj h
    have h2 := key j i hj hi ((relM_eqv A B).symm h)
    omega

/-- The scheme of marks, line by line. -/
def togL (A B : List Rh) (f : Nat → Nat) : Nat → List Rh × Nat
  | 0 => ([], 0)
  | k + 1 =>
    if f k < k then ((togL A B f k).1 ++ [⟨ca (togL A B f k).1 (f k), 0⟩], (togL A B f k).2)
    else if 0 ≤ ca A k ∨ 0 ≤ ca B k then ((togL A B f k).1 ++ [⟨((togL A B f k).2 : Nat), 0⟩], (togL A B f k).2 + 1)
    else ((togL A B f k).1 ++ [⟨-1, 0⟩], (togL A B f k).2)
theorem togL_succ (A B : List Rh) (f : Nat → Nat) (k : Nat) : togL A B f (k + 1) = (if f k < k then ((togL A B f k).1 ++ [⟨ca (togL A B f k).1 (f k), 0⟩], (togL A B f k).2)
    else if 0 ≤ ca A k ∨ 0 ≤ ca B k then ((togL A B f k).1 ++ [⟨((togL A B f k).2 : Nat), 0⟩], (togL A B f k).2 + 1)
    else ((togL A B f k).1 ++ [⟨-1, 0⟩], (togL A B f k).2)) := rfl
theorem togL_len (A B : List Rh) (f : Nat → Nat) (k : Nat) : (togL A B f k).1.length = k := by
  induction k with
  | zero => rfl
  | succ k ih => rw [togL_succ]; split <;> (try split) <;> simp [ih]
theorem togL_num (A B : List Rh) (f : Nat → Nat) (k : Nat) : (togL A B f k).2 ≤ (togL A B f (k + 1)).2 ∧ (togL A B f k).2 ≤ k := by
  constructor
  · rw [togL_succ]; split <;> (try split) <;> simp
  · induction k with
    | zero => exact Nat.le_refl _
    | succ k ih => rw [togL_succ]; split <;> (try split) <;> simp <;> omega
theorem togL_mono (A B : List Rh) (f : Nat → Nat) {k k' : Nat} (h : k ≤ k') : (togL A B f k).2 ≤ (togL A B f k').2 := by
  induction k' with
  | zero => obtain rfl : k = 0 := by omega
            exact Nat.le_refl _
  | succ m ih =>
    rcases (by omega : k ≤ m ∨ k = m + 1) with h1 | rfl
    · exact Nat.le_trans (ih h1) (togL_num A B f m).1
    · exact Nat.le_refl _
theorem togL_app (A B : List Rh) (f : Nat → Nat) (k : Nat) : ∃ x, (togL A B f (k + 1)).1 = (togL A B f k).1 ++ [x] := by
  rw [togL_succ]; split <;> (try split) <;> exact ⟨_, rfl⟩
theorem togL_get (A B : List Rh) (f : Nat → Nat) {j k : Nat} (h : j < k) : (togL A B f k).1[j]? = (togL A B f (j + 1)).1[j]? := by
  induction k with
  | zero => omega
  | succ m ih =>
    rcases (by omega : j < m ∨ j = m) with h1 | rfl
    · obtain ⟨x, hx⟩ := togL_app A B f m
      rw [hx, List.getElem?_append_left (by rw [togL_len]; exact h1), ih h1]
    · rfl
/-- The class of a line. -/
def clsT (A B : List Rh) (f : Nat → Nat) (j : Nat) : Int := ca (togL A B f (j + 1)).1 j
theorem togL_ca (A B : List Rh) (f : Nat → Nat) {j k : Nat} (h : j < k) : ca (togL A B f k).1 j = clsT A B f j := by
  unfold clsT ca
  rw [togL_get A B f h]
theorem togL_at (A B : List Rh) (f : Nat → Nat) {j k : Nat} (h : j < k) : (togL A B f k).1[j]? = some ⟨clsT A B f j, 0⟩ := by
  rw [togL_get A B f h]
  have hx : ∃ c, (togL A B f (j + 1)).1[j]? = some ⟨c, 0⟩ := by
    rw [togL_succ]
    have hl := togL_len A B f j
    split <;> (try split) <;> (rw [List.getElem?_append_right (by omega), hl, Nat.sub_self]; exact ⟨_, rfl⟩)
  obtain ⟨c, hc⟩ := hx
  rw [hc]
  unfold clsT
  rw [ca_some hc]
theorem clsT_old (A B : List Rh) (f : Nat → Nat) {j : Nat} (h : f j < j) : clsT A B f j = clsT A B f (f j) := by
  have h1 : (togL A B f (j + 1)).1[j]? = some ⟨ca (togL A B f j).1 (f j), 0⟩ := by
    rw [togL_succ, if_pos h, List.getElem?_append_right (by rw [togL_len]; exact Nat.le_refl _), togL_len, Nat.sub_self]; rfl
  unfold clsT
  rw [ca_some h1, togL_ca A B f h]; rfl
theorem clsT_own (A B : List Rh) (f : Nat → Nat) {j : Nat} (h : ¬ f j < j) : clsT A B f j = if 0 ≤ ca A j ∨ 0 ≤ ca B j then ((togL A B f j).2 : Int) else -1 := by
  have h1 : (togL A B f (j + 1)).1[j]? = some ⟨if 0 ≤ ca A j ∨ 0 ≤ ca B j then ((togL A B f j).2 : Int) else -1, 0⟩ := by
    rw [togL_succ, if_neg h]
    split <;> (rw [List.getElem?_append_right (by rw [togL_len]; exact Nat.le_refl _), togL_len, Nat.sub_self]; rfl)
  unfold clsT
  rw [ca_some h1]
theorem clsT_range (A B : List Rh) (f : Nat → Nat) : ∀ (j k : Nat), j < k → -1 ≤ clsT A B f j ∧ clsT A B f j < (togL A B f k).2 := by
  intro j
  induction j using Nat.strongRecOn with
  | _ j ih =>
    intro k hk
    by_cases h : f j < j
    · rw [clsT_old A B f h]
      exact ih (f j) h k (by omega)
    · rw [clsT_own A B f h]
      have h1 := togL_mono A B f (show j + 1 ≤ k by omega)
      by_cases ha : 0 ≤ ca A j ∨ 0 ≤ ca B j
      · rw [if_pos ha]
        have h2 : (togL A B f (j + 1)).2 = (togL A B f j).2 + 1 := by rw [togL_succ, if_neg h, if_pos ha]
        omega
      · rw [if_neg ha]; omega
section
variable {A B : List Rh} {n : Nat} {R : Nat → Nat → Prop} {f : Nat → Nat}
/-- A line that is not alone has a class. -/
theorem Mk.cls (h : Mk n R f) (hR : ∀ i j, i < n → j < n → R i j → i ≠ j → (0 ≤ ca A i ∨ 0 ≤ ca B i) ∧ (0 ≤ ca A j ∨ 0 ≤ ca B j)) {k : Nat} (hk : k < n) (hne : f k ≠ k) : 0 ≤ ca A (f k) ∨ 0 ≤ ca B (f k) := by
  by_cases ha : 0 ≤ ca A (f k) ∨ 0 ≤ ca B (f k)
  · exact ha
  · exfalso
    obtain ⟨m, hm⟩ : ∃ m, f k = m := ⟨_, rfl⟩
    rw [hm] at ha hne
    have h1 := h.con (fun a b => (a = m ↔ b = m)) ⟨fun _ => Iff.rfl, fun e => e.symm, fun e e' => e.trans e'⟩ (fun i j hi hj hij => by
      by_cases hij' : i = j
      · rw [hij']
      · have h2 := hR i j hi hj hij hij'
        constructor
        · rintro rfl; exact absurd h2.1 ha
        · rintro rfl; exact absurd h2.2 ha) k hk
    exact hne ((h1.2 hm).symm)
/-- What the document's both tells of a line, and what the program's together tells, is one. -/
theorem both_next (h : Mk n R f) (hR : ∀ i j, i < n → j < n → R i j → i ≠ j → (0 ≤ ca A i ∨ 0 ≤ ca B i) ∧ (0 ≤ ca A j ∨ 0 ≤ ca B j)) {i : Nat} (hi : i < n) {al : Bool} {c : Int} (hal : al = true ↔ ∀ k, k < n → k ≠ i → f k ≠ f i) (hc : (c = -1 ∧ ∀ k, k < i → f k ≠ f i) ∨ (∃ k, k < i ∧ f k = f i ∧ c = clsT A B f k)) :
    (0 ≤ c → togL A B f (i + 1) = ((togL A B f i).1 ++ [⟨c, 0⟩], (togL A B f i).2)) ∧
    (c < 0 → (al = false ∨ 0 ≤ ca A i ∨ 0 ≤ ca B i) → togL A B f (i + 1) = ((togL A B f i).1 ++ [⟨((togL A B f i).2 : Nat), 0⟩], (togL A B f i).2 + 1)) ∧
    (c < 0 → ¬ (al = false ∨ 0 ≤ ca A i ∨ 0 ≤ ca B i) → togL A B f (i + 1) = ((togL A B f i).1 ++ [⟨c, 0⟩], (togL A B f i).2)) := by
  have hfi := h.le i hi
  have hself : ∀ k, k < n → clsT A B f k = clsT A B f (f k) := by
    intro k hk
    by_cases hl : f k < k
    · exact clsT_old A B f hl
    · have := h.le k hk
      rw [show f k = k by omega]
  by_cases hl : f i < i
  · have hex : ∃ k, k < i ∧ f k = f i := ⟨f i, hl, h.idem hi⟩
    obtain ⟨k, hk, hke, hkc⟩ : ∃ k, k < i ∧ f k = f i ∧ c = clsT A B f k := by
      rcases hc with ⟨_, h1⟩ | h1
      · obtain ⟨k, hk, he⟩ := hex
        exact absurd he (h1 k hk)
      · exact h1
    have hcc : c = clsT A B f (f i) := by rw [hkc, hself k (by omega), hke]
    have hcl := h.cls hR hi (by omega)
    have hpos : 0 ≤ c := by
      rw [hcc, clsT_own A B f (by rw [h.idem hi]; omega), if_pos hcl]; omega
    refine ⟨fun _ => ?_, fun h1 => by omega, fun h1 => by omega⟩
    rw [togL_succ, if_pos hl, togL_ca A B f hl, hcc]
  · have hfe : f i = i := by omega
    have hno : ∀ k, k < i → f k ≠ f i := fun k hk e => by have := h.le k (by omega); omega
    have hcm : c = -1 := by
      rcases hc with ⟨h1, _⟩ | ⟨k, hk, he, _⟩
      · exact h1
      · exact absurd he (hno k hk)
    have hiff : (al = false ∨ 0 ≤ ca A i ∨ 0 ≤ ca B i) ↔ (0 ≤ ca A i ∨ 0 ≤ ca B i) := by
      constructor
      · rintro (h1 | h1)
        · have h2 : ¬ ∀ k, k < n → k ≠ i → f k ≠ f i := fun h3 => by rw [hal.2 h3] at h1; cases h1
          have h3 : ∃ k, k < n ∧ k ≠ i ∧ f k = f i := by
            by_cases h4 : ∃ k, k < n ∧ k ≠ i ∧ f k = f i
            · exact h4
            · exact absurd (fun k a b e => h4 ⟨k, a, b, e⟩) h2
          obtain ⟨k, hk, hki, hke⟩ := h3
          have h4 := h.cls hR hk (by rw [hke, hfe]; exact fun e => hki e.symm)
          rw [hke, hfe] at h4
          exact h4
        · exact h1
      · exact .inr
    subst hcm
    refine ⟨fun h1 => by omega, fun _ h1 => ?_, fun _ h1 => ?_⟩
    · rw [togL_succ, if_neg hl, if_pos (hiff.1 h1)]
    · rw [togL_succ, if_neg hl, if_neg (fun h2 => h1 (hiff.2 h2))]
/-- By the scheme of marks lines are alike that have one mark. -/
theorem tog_alk (h : Mk n R f) (hR : ∀ i j, i < n → j < n → R i j → i ≠ j → (0 ≤ ca A i ∨ 0 ≤ ca B i) ∧ (0 ≤ ca A j ∨ 0 ≤ ca B j)) {i j : Nat} (hi : i < n) (hj : j < n) : alkF (togL A B f n).1 i j = true ↔ f i = f j := by
  rw [alkF_iff, togL_ca A B f hi, togL_ca A B f hj]
  have hself : ∀ k, k < n → clsT A B f k = clsT A B f (f k) := by
    intro k hk
    by_cases hl : f k < k
    · exact clsT_old A B f hl
    · have := h.le k hk
      rw [show f k = k by omega]
  have hown : ∀ k, k < n → clsT A B f k = if 0 ≤ ca A (f k) ∨ 0 ≤ ca B (f k) then ((togL A B f (f k)).2 : Int) else -1 := by
    intro k hk
    rw [hself k hk, clsT_own A B f (by rw [h.idem hk]; omega)]
  have hlt : ∀ a b, a < n → b < n → f a < f b → (0 ≤ ca A (f a) ∨ 0 ≤ ca B (f a)) → (togL A B f (f a)).2 < (togL A B f (f b)).2 := by
    intro a b ha hb hab hc
    have h1 := togL_mono A B f (show f a + 1 ≤ f b by omega)
    have h2 : (togL A B f (f a + 1)).2 = (togL A B f (f a)).2 + 1 := by rw [togL_succ, if_neg (by rw [h.idem ha]; omega), if_pos hc]
    omega
  constructor
  · rintro (rfl | ⟨h1, h2⟩)
    · rfl
    · rw [hown i hi] at h1 h2
      rw [hown j hj] at h2
      by_cases hci : 0 ≤ ca A (f i) ∨ 0 ≤ ca B (f i)
      · rw [if_pos hci] at h2
        by_cases hcj : 0 ≤ ca A (f j) ∨ 0 ≤ ca B (f j)
        · rw [if_pos hcj] at h2
          rcases Nat.lt_trichotomy (f i) (f j) with h3 | h3 | h3
          · have := hlt i j hi hj h3 hci; omega
          · exact h3
          · have := hlt j i hj hi h3 hcj; omega
        · rw [if_neg hcj] at h2; omega
      · rw [if_neg hci] at h1; omega
  · intro he
    by_cases hij : i = j
    · exact .inl hij
    · refine .inr ?_
      have hc : 0 ≤ ca A (f i) ∨ 0 ≤ ca B (f i) := by
        by_cases hfi : f i = i
        · have := h.cls hR hj (by rw [← he, hfi]; exact hij)
          rw [he]; exact this
        · exact h.cls hR hi hfi
      have h1 := hown i hi
      have h2 := hown j hj
      rw [← he] at h2
      rw [if_pos hc] at h1 h2
      omega
end
/-- The scheme of marks, or that there are too many classes. -/
def togR (s t : Sc) (f : Nat → Nat) : Sc × Int := if 25 < (togL s.L t.L f s.L.length).2 then (⟨[], []⟩, 5) else (⟨(togL s.L t.L f s.L.length).1, s.S⟩, 0)
theorem relM_cls {A B : List Rh} {n : Nat} : ∀ i j, i < n → j < n → relM A B i j → i ≠ j → (0 ≤ ca A i ∨ 0 ≤ ca B i) ∧ (0 ≤ ca A j ∨ 0 ≤ ca B j) := by
  intro i j _ _ h hij
  rcases alkF_iff.1 h.1 with h1 | ⟨h1, h2⟩
  · exact absurd h1 hij
  · exact ⟨.inl h1, .inl (by omega)⟩
theorem relJ_cls {A B : List Rh} {n : Nat} : ∀ i j, i < n → j < n → relJ A B i j → i ≠ j → (0 ≤ ca A i ∨ 0 ≤ ca B i) ∧ (0 ≤ ca A j ∨ 0 ≤ ca B j) := by
  intro i j _ _ h hij
  rcases h with h | h
  · rcases alkF_iff.1 h with h1 | ⟨h1, h2⟩
    · exact absurd h1 hij
    · exact ⟨.inl h1, .inl (by omega)⟩
  · rcases alkF_iff.1 h with h1 | ⟨h1, h2⟩
    · exact absurd h1 hij
    · exact ⟨.inr h1, .inr (by omega)⟩
theorem togL_congr (A B : List Rh) {f g : Nat → Nat} {n : Nat} (h : ∀ i, i < n → f i = g i) : ∀ k, k ≤ n → togL A B f k = togL A B g k := by
  intro k
  induction k with
  | zero => intro _; rfl
  | succ k ih =>
    intro hk
    rw [togL_succ, togL_succ, ih (by omega), h k (by omega)]
theorem togR_congr (s t : Sc) {f g : Nat → Nat} {R : Nat → Nat → Prop} (h : Mk s.L.length R f) (h' : Mk s.L.length R g) : togR s t f = togR s t g := by
  unfold togR
  rw [togL_congr s.L t.L (fun i hi => h.unique h' hi) _ (Nat.le_refl _)]
end Go.Proofs.Ytdcmkiggnmajgaa
