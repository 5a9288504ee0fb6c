/- Stage 16: Meet and Join: rows of marks, and what the loops keep. -/
import Derived.Test.YtdcmkiggnmajgaaYx
namespace Go.Proofs.Ytdcmkiggnmajgaa
set_option linter.unusedVariables false
set_option linter.unusedSimpArgs false
open Go Go.RowKit Go.Shelf
set_option maxRecDepth 100000

/-- A row of marks. -/
def rowF (f : Nat → Nat) (n : Nat) : List Int := (List.range n).map (fun i => (f i : Int))
def updF (f : Nat → Nat) (k v : Nat) : Nat → Nat := fun i => if i = k then v else f i
theorem rowF_len (f : Nat → Nat) (n : Nat) : (rowF f n).length = n := by simp [rowF]
theorem rowF_get (f : Nat → Nat) {n i : Nat} (h : i < n) : (rowF f n)[i]? = some (f i : Int) := by
  simp [rowF, h]
theorem rowF_set (f : Nat → Nat) {n k : Nat} (v : Nat) : (rowF f n).set k (v : Int) = rowF (updF f k v) n := by
  apply List.ext_getElem?
  intro p
  rw [List.getElem?_set]
  by_cases hp : k = p
  · subst hp
    rw [if_pos rfl, rowF_len]
    by_cases h : k < n
    · rw [if_pos h, rowF_get _ h]; simp [updF]
    · rw [if_neg h, List.getElem?_eq_none (by rw [rowF_len]; omega)]
  · rw [if_neg hp]
    by_cases h : p < n
    · rw [rowF_get _ h, rowF_get _ h]; simp [updF, Ne.symm hp]
    · rw [List.getElem?_eq_none (by rw [rowF_len]; omega), List.getElem?_eq_none (by rw [rowF_len]; omega)]
theorem rowF_congr {f g : Nat → Nat} {n : Nat} (h : ∀ i, i < n → f i = g i) : rowF f n = rowF g n := by
  unfold rowF
  apply List.map_congr_left
  intro i hi
  rw [h i (List.mem_range.1 hi)]
theorem rowF_next (f : Nat → Nat) (n : Nat) : rowF f (n + 1) = rowF f n ++ [(f n : Int)] := by
  simp [rowF, List.range_succ]
theorem rowF_upd (f : Nat → Nat) (n v : Nat) : rowF (updF f n v) n = rowF f n :=
  rowF_congr fun i hi => by simp [updF, show i ≠ n by omega]
theorem rowF_zero (n : Nat) : rowF (fun _ => 0) n = List.replicate n 0 := by
  unfold rowF
  apply List.ext_getElem?
  intro p
  by_cases h : p < n <;> simp [h]

/-- What Meet's marks are like, the first k. -/
def MPre (A B : List Rh) (k : Nat) (f : Nat → Nat) : Prop := ∀ i, i < k → f i ≤ i ∧ relM A B (f i) i ∧ ∀ j, j ≤ i → relM A B j i → f i ≤ j
/-- One mark, the lines from j on looked at. -/
def MOne (A B : List Rh) (k j v : Nat) : Prop := v ≤ k ∧ relM A B v k ∧ ∀ i, j ≤ i → i ≤ k → relM A B i k → v ≤ i
theorem MPre.zero (A B : List Rh) (f : Nat → Nat) : MPre A B 0 f := fun i h => by omega
theorem MOne.start (A B : List Rh) (k : Nat) : MOne A B k k k := ⟨Nat.le_refl _, (relM_eqv A B).refl k, fun i h h' _ => by omega⟩
theorem MOne.skip {A B : List Rh} {k j v : Nat} (h : MOne A B k (j + 1) v) (hn : ¬ relM A B j k) : MOne A B k j v :=
  ⟨h.1, h.2.1, fun i h1 h2 h3 => by
    rcases (by omega : i = j ∨ j + 1 ≤ i) with rfl | h4
    · exact absurd h3 hn
    · exact h.2.2 i h4 h2 h3⟩
/-- The program takes the mark of the line. -/
theorem MOne.take {A B : List Rh} {k j : Nat} {f : Nat → Nat} (hf : MPre A B k f) (hj : j < k) (hr : relM A B j k) : MOne A B k j (f j) := by
  obtain ⟨h1, h2, h3⟩ := hf j hj
  exact ⟨by omega, (relM_eqv A B).trans h2 hr, fun i a b c => by omega⟩
/-- The document takes the line itself. -/
theorem MOne.self {A B : List Rh} {k j : Nat} (hj : j < k) (hr : relM A B j k) : MOne A B k j j := ⟨by omega, hr, fun i a b c => by omega⟩
theorem MPre.next {A B : List Rh} {k v : Nat} {f : Nat → Nat} (hf : MPre A B k f) (hv : MOne A B k 0 v) : MPre A B (k + 1) (updF f k v) := by
  intro i hi
  by_cases h : i = k
  · subst h
    simp only [updF, if_true]
    exact ⟨hv.1, hv.2.1, fun j a b => hv.2.2 j (Nat.zero_le _) a b⟩
  · simp only [updF, if_neg h]
    exact hf i (by omega)
theorem MPre.mk {A B : List Rh} {n : Nat} {f : Nat → Nat} (hf : MPre A B n f) : Mk n (relM A B) f :=
  Mk.ofMeet (fun i hi => (hf i hi).1) (fun i hi => (hf i hi).2.1) (fun i j hi hj h => (hf i hi).2.2 j hj h)

theorem relJ_sym {A B : List Rh} {i j : Nat} (h : relJ A B i j) : relJ A B j i := h.imp (fun h => (alkF_eqv A).symm h) (fun h => (alkF_eqv B).symm h)
/-- Join's marks while line k is looked at. -/
structure JIn (A B : List Rh) (k j : Nat) (f : Nat → Nat) : Prop where
  le : ∀ i, i < k + 1 → f i ≤ i
  con : ∀ E : Nat → Nat → Prop, Equivalence E → (∀ a b, a < k + 1 → b < k + 1 → relJ A B a b → E a b) → ∀ i, i < k + 1 → E i (f i)
  eq : ∀ a b, a < k → b < k → relJ A B a b → f a = f b
  eqk : ∀ a, a < j → relJ A B a k → f a = f k
theorem JIn.start {A B : List Rh} {k : Nat} {f : Nat → Nat} (h : Mk k (relJ A B) f) : JIn A B k 0 (updF f k k) where
  le := fun i hi => by
    by_cases e : i = k
    · simp [updF, e]
    · simp only [updF, if_neg e]; exact h.le i (by omega)
  con := fun E hE hr i hi => by
    by_cases e : i = k
    · simp only [updF, if_pos e, e]; exact hE.refl k
    · simp only [updF, if_neg e]; exact h.con E hE (fun a b ha hb hab => hr a b (by omega) (by omega) hab) i (by omega)
  eq := fun a b ha hb hab => by
    simp only [updF, if_neg (show a ≠ k by omega), if_neg (show b ≠ k by omega)]
    exact h.eq a b ha hb hab
  eqk := fun a ha => by omega
theorem JIn.skip {A B : List Rh} {k j : Nat} {f : Nat → Nat} (h : JIn A B k j f) (hs : ¬ relJ A B j k ∨ f j = f k) : JIn A B k (j + 1) f :=
  ⟨h.le, h.con, h.eq, fun a ha hr => by
      rcases (by omega : a = j ∨ a < j) with rfl | h1
      · rcases hs with h2 | h2
        · exact absurd hr h2
        · exact h2
      · exact h.eqk a h1 hr⟩
/-- All that has one mark gets another one, up to a place. -/
def relabel (f : Nat → Nat) (i fr tg : Nat) : Nat → Nat := fun a => if a < i ∧ f a = fr then tg else f a
theorem relabel_zero (f : Nat → Nat) (fr tg : Nat) : relabel f 0 fr tg = f := by
  funext a
  simp [relabel]
theorem relabel_yes {f : Nat → Nat} {i fr tg : Nat} (h : f i = fr) : updF (relabel f i fr tg) i tg = relabel f (i + 1) fr tg := by
  funext a
  unfold updF relabel
  by_cases e : a = i
  · subst e
    rw [if_pos rfl, if_pos ⟨by omega, h⟩]
  · rw [if_neg e]
    by_cases e2 : a < i ∧ f a = fr
    · rw [if_pos e2, if_pos ⟨by omega, e2.2⟩]
    · rw [if_neg e2, if_neg (fun h3 => e2 ⟨by omega, h3.2⟩)]
theorem relabel_no {f : Nat → Nat} {i fr tg : Nat} (h : f i ≠ fr) : relabel f i fr tg = relabel f (i + 1) fr tg := by
  funext a
  unfold relabel
  by_cases e2 : a < i ∧ f a = fr
  · rw [if_pos e2, if_pos ⟨by omega, e2.2⟩]
  · rw [if_neg e2, if_neg (fun h3 => e2 ⟨by
      rcases (by omega : a < i ∨ a = i) with h4 | rfl
      · exact h4
      · exact absurd h3.2 h, h3.2⟩)]
theorem relabel_at (f : Nat → Nat) (i fr tg : Nat) : relabel f i fr tg i = f i := by simp [relabel]
theorem JIn.merge {A B : List Rh} {k j : Nat} {f : Nat → Nat} (h : JIn A B k j f) (hj : j < k) (hr : relJ A B j k) (hne : f j ≠ f k) : JIn A B k (j + 1) (relabel f (k + 1) (max (f j) (f k)) (min (f j) (f k))) := by
  have htg : min (f j) (f k) < max (f j) (f k) := by omega
  have hval : ∀ a, a < k + 1 → relabel f (k + 1) (max (f j) (f k)) (min (f j) (f k)) a = if f a = max (f j) (f k) then min (f j) (f k) else f a := by
    intro a ha
    unfold relabel
    simp [ha]
  have heq : ∀ a b, a < k + 1 → b < k + 1 → f a = f b → relabel f (k + 1) (max (f j) (f k)) (min (f j) (f k)) a = relabel f (k + 1) (max (f j) (f k)) (min (f j) (f k)) b := by
    intro a b ha hb hab
    rw [hval a ha, hval b hb, hab]
  have hjk : relabel f (k + 1) (max (f j) (f k)) (min (f j) (f k)) j = relabel f (k + 1) (max (f j) (f k)) (min (f j) (f k)) k := by
    rw [hval j (by omega), hval k (by omega)]
    split <;> split <;> omega
  refine ⟨fun i hi => ?_, fun E hE hR i hi => ?_, fun a b ha hb hab => heq a b (by omega) (by omega) (h.eq a b ha hb hab), fun a ha hak => ?_⟩
  · rw [hval i hi]
    have := h.le i hi
    split <;> omega
  · rw [hval i hi]
    have hc := h.con E hE hR
    split
    · next e =>
      have h1 := hc i hi
      rw [e] at h1
      have h2 : E (f j) (f k) := hE.trans (hE.symm (hc j (by omega))) (hE.trans (hR j k (by omega) (by omega) hr) (hc k (by omega)))
      rcases Nat.le_total (f j) (f k) with h3 | h3
      · rw [Nat.max_eq_right h3] at h1
        rw [Nat.min_eq_left h3]
        exact hE.trans h1 (hE.symm h2)
      · rw [Nat.max_eq_left h3] at h1
        rw [Nat.min_eq_right h3]
        exact hE.trans h1 h2
    · exact hc i hi
  · rcases (by omega : a = j ∨ a < j) with rfl | h1
    · exact hjk
    · exact heq a k (by omega) (by omega) (h.eqk a h1 hak)
theorem JIn.done {A B : List Rh} {k : Nat} {f : Nat → Nat} (h : JIn A B k k f) : Mk (k + 1) (relJ A B) f where
  le := h.le
  con := h.con
  eq := fun i j hi hj hr => by
    rcases (by omega : i < k ∨ i = k) with h1 | rfl
    · rcases (by omega : j < k ∨ j = k) with h2 | rfl
      · exact h.eq i j h1 h2 hr
      · exact h.eqk i h1 hr
    · rcases (by omega : j < i ∨ j = i) with h2 | rfl
      · exact (h.eqk j h2 (relJ_sym hr)).symm
      · rfl
theorem Mk.zero (R : Nat → Nat → Prop) (f : Nat → Nat) : Mk 0 R f := ⟨fun i h => by omega, fun E _ _ i h => by omega, fun i j h => by omega⟩

/-- The sum of marks. -/
def sumF (f : Nat → Nat) : Nat → Nat
  | 0 => 0
  | n + 1 => sumF f n + f n
theorem sumF_upd (f : Nat → Nat) (k v : Nat) : ∀ n, sumF (updF f k v) n + (if k < n then f k else 0) = sumF f n + (if k < n then v else 0) := by
  intro n
  induction n with
  | zero => simp [sumF]
  | succ n ih =>
    simp only [sumF]
    by_cases h : k = n
    · subst h
      rw [if_neg (by omega), if_neg (by omega)] at ih
      rw [if_pos (by omega), if_pos (by omega)]
      simp only [updF, if_true] at ih ⊢
      omega
    · have h2 : updF f k v n = f n := by simp [updF, Ne.symm h]
      rw [h2]
      by_cases h1 : k < n
      · rw [if_pos h1, if_pos h1] at ih
        rw [if_pos (by omega), if_pos (by omega)]
        omega
      · rw [if_neg h1, if_neg h1] at ih
        rw [if_neg (by omega), if_neg (by omega)]
        omega
theorem sumF_lt {f : Nat → Nat} {n k v : Nat} (hk : k < n) (hv : v < f k) : sumF (updF f k v) n < sumF f n := by
  have h := sumF_upd f k v n
  rw [if_pos hk, if_pos hk] at h
  omega
/-- The document's marks, while they fall: P tells the pairs that were looked at. -/
structure DIn (A B : List Rh) (n S : Nat) (mv : Bool) (P : Nat → Nat → Prop) (f : Nat → Nat) : Prop where
  le : ∀ i, i < n → f i ≤ i
  con : ∀ E : Nat → Nat → Prop, Equivalence E → (∀ a b, a < n → b < n → relJ A B a b → E a b) → ∀ i, i < n → E i (f i)
  still : mv = false → sumF f n = S ∧ ∀ i k, i < n → k < n → P i k → relJ A B i k → ¬ f k < f i
  fell : mv = true → sumF f n < S
theorem DIn.start {A B : List Rh} {n S : Nat} {mv : Bool} {P : Nat → Nat → Prop} {f : Nat → Nat} (hle : ∀ i, i < n → f i ≤ i) (hcon : ∀ E : Nat → Nat → Prop, Equivalence E → (∀ a b, a < n → b < n → relJ A B a b → E a b) → ∀ i, i < n → E i (f i)) (hP : ∀ i k, i < n → k < n → ¬ P i k) : DIn A B n (sumF f n) false P f :=
  ⟨hle, hcon, fun _ => ⟨rfl, fun i k hi hk h => absurd h (hP i k hi hk)⟩, fun h => by cases h⟩
theorem DIn.skip {A B : List Rh} {n S : Nat} {mv : Bool} {P P' : Nat → Nat → Prop} {f : Nat → Nat} (h : DIn A B n S mv P f) (hP : ∀ i k, i < n → k < n → P' i k → P i k ∨ ¬ relJ A B i k ∨ ¬ f k < f i) : DIn A B n S mv P' f :=
  ⟨h.le, h.con, fun e => ⟨(h.still e).1, fun i k hi hk hp hr => by
    rcases hP i k hi hk hp with h1 | h1 | h1
    · exact (h.still e).2 i k hi hk h1 hr
    · exact absurd hr h1
    · exact h1⟩, h.fell⟩
theorem DIn.fall {A B : List Rh} {n S : Nat} {mv : Bool} {P P' : Nat → Nat → Prop} {f : Nat → Nat} (h : DIn A B n S mv P f) {i k : Nat} (hi : i < n) (hk : k < n) (hr : relJ A B i k) (hlt : f k < f i) : DIn A B n S true P' (updF f i (f k)) := by
  refine ⟨fun a ha => ?_, fun E hE hR a ha => ?_, fun e => (by cases e), fun _ => ?_⟩
  · have h1 := h.le a ha
    by_cases e : a = i
    · subst e; simp only [updF, if_true]; omega
    · simp only [updF, if_neg e]; exact h1
  · by_cases e : a = i
    · subst e
      simp only [updF, if_true]
      exact hE.trans (hR a k hi hk hr) (h.con E hE hR k hk)
    · simp only [updF, if_neg e]; exact h.con E hE hR a ha
  · have h1 := sumF_lt hi hlt
    cases mv with
    | false => have := (h.still rfl).1; omega
    | true => have := h.fell rfl; omega
theorem DIn.done {A B : List Rh} {n S : Nat} {P : Nat → Nat → Prop} {f : Nat → Nat} (h : DIn A B n S false P f) (hP : ∀ i k, i < n → k < n → P i k) : Mk n (relJ A B) f where
  le := h.le
  con := h.con
  eq := fun i j hi hj hr => by
    have h1 := (h.still rfl).2 i j hi hj (hP i j hi hj) hr
    have h2 := (h.still rfl).2 j i hj hi (hP j i hj hi) (relJ_sym hr)
    omega
end Go.Proofs.Ytdcmkiggnmajgaa
