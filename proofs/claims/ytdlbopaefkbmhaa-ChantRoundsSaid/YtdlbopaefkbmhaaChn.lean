/- Stage 31: Most: mathematics. -/
import Derived.Test.YtdlbopaefkbmhaaCh8
namespace Go.Proofs.Ytdlbopaefkbmhaa
set_option linter.unusedVariables false
set_option linter.unusedSimpArgs false
open Go
set_option maxRecDepth 100000

theorem le_mxF (f : Nt → Nat) (l : List Nt) {x : Nt} (h : x ∈ l) : f x ≤ mxF f l := by
  unfold mxF
  have mono : ∀ (l : List Nt) (a : Nat), a ≤ l.foldl (fun m x => max m (f x)) a := by
    intro l
    induction l with
    | nil => intro a; exact Nat.le_refl _
    | cons y l ih => intro a; exact Nat.le_trans (Nat.le_max_left _ _) (ih _)
  have : ∀ (l : List Nt) (a : Nat), x ∈ l → f x ≤ l.foldl (fun m x => max m (f x)) a := by
    intro l
    induction l with
    | nil => intro a h; cases h
    | cons y l ih =>
      intro a h
      rcases List.mem_cons.1 h with rfl | h
      · exact Nat.le_trans (Nat.le_max_right _ _) (mono l _)
      · exact ih _ h
  exact this l 0 h

/-- How many are not behind a place. -/
def KC (l : List Nat) (t : Int) : Nat := (l.filter fun x => decide (mk x ≤ t)).length
theorem KC_cons (x : Nat) (l : List Nat) (t : Int) : KC (x :: l) t = (if mk x ≤ t then 1 else 0) + KC l t := by
  unfold KC
  by_cases h : mk x ≤ t
  · rw [List.filter_cons_of_pos (by simpa using h), if_pos h, List.length_cons]; omega
  · rw [List.filter_cons_of_neg (by simpa using h), if_neg h]; omega
theorem KC_perm {l l' : List Nat} (h : l.Perm l') (t : Int) : KC l t = KC l' t := (h.filter _).length_eq
theorem KC_zero {l : List Nat} {t : Int} (h : ∀ x ∈ l, t < mk x) : KC l t = 0 := by
  unfold KC
  rw [List.length_eq_zero_iff, List.filter_eq_nil_iff]
  intro x hx
  have := h x hx
  simp; omega
theorem KC_le (l : List Nat) (t : Int) : KC l t ≤ l.length := List.length_filter_le _ _
theorem KC_mono (l : List Nat) {s t : Int} (h : s ≤ t) : KC l s ≤ KC l t := by
  induction l with
  | nil => exact Nat.le_refl _
  | cons x l ih => rw [KC_cons, KC_cons]; split <;> split <;> omega
def SortedM (l : List Nat) : Prop := l.Pairwise fun a b => mk a ≤ mk b
theorem KC_sorted {l : List Nat} (hs : SortedM l) : ∀ {i x : Nat}, l[i]? = some x → ∀ t, mk x ≤ t ↔ i < KC l t := by
  induction l with
  | nil => intro i x h; simp at h
  | cons y r ih =>
    obtain ⟨hy, hr⟩ := List.pairwise_cons.1 hs
    intro i x hx t
    rw [KC_cons]
    by_cases hyt : mk y ≤ t
    · rw [if_pos hyt]
      cases i with
      | zero => simp at hx; subst hx; exact ⟨fun _ => by omega, fun _ => hyt⟩
      | succ i => rw [ih hr (by simpa using hx) t]; omega
    · rw [if_neg hyt, KC_zero fun z hz => by have := hy z hz; omega]
      have : ¬ mk x ≤ t := by
        cases i with
        | zero => simp at hx; subst hx; exact hyt
        | succ i => have := hy x (List.mem_of_getElem? (show r[i]? = some x by simpa using hx)); omega
      constructor
      · intro h; exact absurd h this
      · intro h; omega

def addV (x : Nt) : Nat := (floatBits .add .f64 x.at' x.long).getD 0
def flN (l : List Nt) : List Nt := l.filter fun x => sndB x x.at'
def begL (l : List Nt) : List Nat := (flN l).map fun x => x.at'
def endL (l : List Nt) : List Nat := (flN l).map addV

theorem mk_of {x : Nat} (h : fnan x = false) : mk x = fkey x := by unfold mk; rw [h]; rfl
theorem le_of_b {a t : Nat} : (flt a t || feq a t) = true ↔ fnan a = false ∧ fnan t = false ∧ mk a ≤ mk t := by
  unfold flt feq
  rcases ford_cases a t with ⟨h, h'⟩ | ⟨ha, hb, ⟨h, e⟩ | ⟨h, e⟩ | ⟨h, e⟩⟩
  · rw [h]; rcases h' with h' | h' <;> simp [h']
  · rw [e, ha, hb, mk_of ha, mk_of hb]; simp; omega
  · rw [e, ha, hb, mk_of ha, mk_of hb]; simp; omega
  · rw [e, ha, hb, mk_of ha, mk_of hb]; simp; omega
theorem gt_of_b {r t : Nat} : fgt r t = true ↔ fnan r = false ∧ fnan t = false ∧ mk t < mk r := by
  unfold fgt
  rcases ford_cases r t with ⟨h, h'⟩ | ⟨ha, hb, ⟨h, e⟩ | ⟨h, e⟩ | ⟨h, e⟩⟩
  · rw [h]; rcases h' with h' | h' <;> simp [h']
  · rw [e, ha, hb, mk_of ha, mk_of hb]; simp; omega
  · rw [e, ha, hb, mk_of ha, mk_of hb]; simp; omega
  · rw [e, ha, hb, mk_of ha, mk_of hb]; simp; omega
theorem snd_iff {x : Nt} {t : Nat} : sndB x t = true ↔ fnan x.at' = false ∧ fnan t = false ∧ floatBits .add .f64 x.at' x.long = some (addV x) ∧ fnan (addV x) = false ∧ mk x.at' ≤ mk t ∧ mk t < mk (addV x) := by
  unfold sndB gtA addV
  rw [Bool.and_eq_true, le_of_b]
  cases e : floatBits .add .f64 x.at' x.long with
  | none => simp
  | some r => simp only [Option.getD_some]; rw [gt_of_b]; simp only [true_and]; constructor <;> (intro h; simp_all)
theorem snd_self {x : Nt} {t : Nat} (h : sndB x t = true) : sndB x x.at' = true := by
  rw [snd_iff] at h ⊢
  obtain ⟨h1, h2, h3, h4, h5, h6⟩ := h
  exact ⟨h1, h1, h3, h4, Int.le_refl _, by omega⟩
/-- What sounds are those that have begun, but for those that are over. -/
theorem cn_diff (l : List Nt) {t : Nat} (ht : fnan t = false) : cnL l t + KC (endL l) (mk t) = KC (begL l) (mk t) := by
  induction l with
  | nil => rfl
  | cons x l ih =>
    have hc : cnL (x :: l) t = (if sndB x t then 1 else 0) + cnL l t := by rw [← List.singleton_append, cnL_app, cnL_one]
    rw [hc]
    by_cases hp : sndB x x.at' = true
    · have hf : flN (x :: l) = x :: flN l := List.filter_cons_of_pos hp
      have he : endL (x :: l) = addV x :: endL l := by unfold endL; rw [hf]; rfl
      have hb : begL (x :: l) = x.at' :: begL l := by unfold begL; rw [hf]; rfl
      rw [he, hb, KC_cons, KC_cons]
      have h1 := snd_iff.1 hp
      obtain ⟨a1, _, a3, a4, _, a6⟩ := h1
      by_cases hs : sndB x t = true
      · obtain ⟨_, _, _, _, b5, b6⟩ := snd_iff.1 hs
        rw [if_pos hs, if_pos b5, if_neg (by omega)]; omega
      · rw [if_neg hs]
        have : ¬ (mk x.at' ≤ mk t ∧ mk t < mk (addV x)) := fun ⟨c1, c2⟩ => hs (snd_iff.2 ⟨a1, ht, a3, a4, c1, c2⟩)
        split <;> split <;> omega
    · have hf : flN (x :: l) = flN l := List.filter_cons_of_neg hp
      have he : endL (x :: l) = endL l := by unfold endL; rw [hf]
      have hb : begL (x :: l) = begL l := by unfold begL; rw [hf]
      have hs : ¬ sndB x t = true := fun h => hp (snd_self h)
      rw [he, hb, if_neg hs]; omega
/-- What is over has begun before. -/
theorem ends_before (l : List Nt) (t : Int) : KC (endL l) t ≤ KC (begL l) (t - 1) := by
  induction l with
  | nil => exact Nat.le_refl _
  | cons x l ih =>
    by_cases hp : sndB x x.at' = true
    · have hf : flN (x :: l) = x :: flN l := List.filter_cons_of_pos hp
      have he : endL (x :: l) = addV x :: endL l := by unfold endL; rw [hf]; rfl
      have hb : begL (x :: l) = x.at' :: begL l := by unfold begL; rw [hf]; rfl
      rw [he, hb, KC_cons, KC_cons]
      obtain ⟨_, _, _, _, _, a6⟩ := snd_iff.1 hp
      split <;> split <;> omega
    · have hf : flN (x :: l) = flN l := List.filter_cons_of_neg hp
      have he : endL (x :: l) = endL l := by unfold endL; rw [hf]
      have hb : begL (x :: l) = begL l := by unfold begL; rw [hf]
      rw [he, hb]; exact ih

/-- The greatest number so far. -/
def bp (B E : List Nat) : Nat → Nat
  | 0 => 0
  | k + 1 => max (bp B E k) (k + 1 - KC E (mk (B.getD k 0)))
theorem over_le {l : List Nt} {B E : List Nat} (hB : B.Perm (begL l)) (hE : E.Perm (endL l)) (hs : SortedM B) {k x : Nat} (hx : B[k]? = some x) : KC E (mk x) ≤ k := by
  rw [KC_perm hE]
  refine Nat.le_trans (ends_before l _) ?_
  rw [← KC_perm hB]
  have := KC_sorted hs hx (mk x - 1)
  have h : ¬ k < KC B (mk x - 1) := fun h => by have := this.2 h; omega
  omega
theorem begL_mem {l : List Nt} {b : Nat} (h : b ∈ begL l) : ∃ x ∈ l, x.at' = b ∧ fnan b = false := by
  obtain ⟨x, hx, rfl⟩ := List.mem_map.1 h
  obtain ⟨h1, h2⟩ := List.mem_filter.1 hx
  exact ⟨x, h1, rfl, (snd_iff.1 h2).1⟩
theorem endL_mem {l : List Nt} {b : Nat} (h : b ∈ endL l) : fnan b = false := by
  obtain ⟨x, hx, rfl⟩ := List.mem_map.1 h
  obtain ⟨h1, h2⟩ := List.mem_filter.1 hx
  exact (snd_iff.1 h2).2.2.2.1
theorem getD_of {B : List Nat} {k x : Nat} (h : B[k]? = some x) : B.getD k 0 = x := by rw [List.getD_eq_getElem?_getD, h]; rfl
theorem bp_ge {B E : List Nat} {k n : Nat} (h : k < n) : k + 1 - KC E (mk (B.getD k 0)) ≤ bp B E n := by
  induction n with
  | zero => omega
  | succ n ih =>
    unfold bp
    by_cases hk : k = n
    · subst hk; exact Nat.le_max_right _ _
    · exact Nat.le_trans (ih (by omega)) (Nat.le_max_left _ _)
theorem bp_le {B E : List Nat} {m : Nat} : ∀ {n : Nat}, (∀ k, k < n → k + 1 - KC E (mk (B.getD k 0)) ≤ m) → bp B E n ≤ m := by
  intro n
  induction n with
  | zero => intro _; exact Nat.zero_le _
  | succ n ih => intro h; exact Nat.max_le.2 ⟨ih fun k hk => h k (by omega), h n (by omega)⟩
theorem most_is {vs : List (List Nt)} {B E : List Nat} (hB : B.Perm (begL vs.flatten)) (hE : E.Perm (endL vs.flatten)) (hs : SortedM B) : mostV vs = bp B E B.length := by
  apply Nat.le_antisymm
  · refine mxF_le _ _ _ fun x hx => ?_
    cases hn : fnan x.at' with
    | true =>
      have : cntS vs x.at' = 0 := by
        unfold cntS cnL
        rw [List.length_eq_zero_iff, List.filter_eq_nil_iff]
        intro y _ h
        have := (snd_iff.1 h).2.1
        rw [hn] at this; cases this
      omega
    | false =>
      have hd := cn_diff vs.flatten hn
      rw [← KC_perm hB, ← KC_perm hE] at hd
      show cnL vs.flatten x.at' ≤ _
      by_cases h0 : KC B (mk x.at') = 0
      · omega
      · have hle := KC_le B (mk x.at')
        obtain ⟨b, hb⟩ : ∃ b, B[KC B (mk x.at') - 1]? = some b := ⟨_, List.getElem?_eq_getElem (by omega)⟩
        have h1 := (KC_sorted hs hb (mk x.at')).2 (by omega)
        have h2 := KC_mono E h1
        have h3 := bp_ge (B := B) (E := E) (show KC B (mk x.at') - 1 < B.length by omega)
        rw [getD_of hb] at h3
        omega
  · refine bp_le fun k hk => ?_
    obtain ⟨b, hb⟩ : ∃ b, B[k]? = some b := ⟨_, List.getElem?_eq_getElem hk⟩
    rw [getD_of hb]
    obtain ⟨x, hx, rfl, hn⟩ := begL_mem (hB.subset (List.mem_of_getElem? hb))
    have hd := cn_diff vs.flatten hn
    rw [← KC_perm hB, ← KC_perm hE] at hd
    have h1 := (KC_sorted hs hb (mk x.at')).1 (Int.le_refl _)
    have h2 : cntS vs x.at' ≤ mostV vs := le_mxF (fun x => cntS vs x.at') _ hx
    have h3 : cntS vs x.at' = cnL vs.flatten x.at' := rfl
    omega
end Go.Proofs.Ytdlbopaefkbmhaa
