/- Stage 31: Merge, the document's: its order, what an insertion keeps, copy of elements of more than one cell. -/
import Derived.Test.YtieaeicpmibjkaaCh4
import Derived.Laws.CopyRow
import Derived.Laws.IdiomCopy
namespace Go.Proofs.Ytieaeicpmibjkaa
set_option linter.unusedVariables false
set_option linter.unusedSimpArgs false
open Go Go.RowKit Go.Shelf
set_option maxRecDepth 100000

def aheadB (a b : Nat) : Bool := decide (mk a < mk b)
theorem ahead_eq (a b : Nat) : (ford a b == some .lt || (!fnan a && fnan b)) = aheadB a b := by
  have hp : (0 : Int) < 2 ^ KB := Int.pow_pos (by decide)
  have ha := fkey_le a
  have hb := fkey_le b
  unfold aheadB mk
  rcases ford_cases a b with ⟨h, h'⟩ | ⟨h1, h2, ⟨h3, h⟩ | ⟨h3, h⟩ | ⟨h3, h⟩⟩
  · rw [h]
    generalize (2 : Int) ^ KB = p at *
    cases e1 : fnan a <;> cases e2 : fnan b <;> simp [e1, e2] at h' ⊢ <;> omega
  · rw [h, h1, h2]; simp [h3]
  · rw [h, h1, h2]; simp [h3]
  · rw [h, h1, h2]; simp; omega
theorem eq_self (x : Nat) : (FloatKind.f64.format.order x x == some .eq) = !fnan x := by
  have := neq_self x
  rw [← this, bne, Bool.not_not]

set_option maxHeartbeats 1000000 in
theorem ahead_any (a b : Nat) (w : World) : Calls Try.prog 42 #[.float .f64 a, .float .f64 b] w fun e w' => e = .returned (.bool (aheadB a b)) ∧ w' = w := by
  rw [← ahead_eq]
  have h1 := eq_self a
  have h2 := neq_self b
  obtain ⟨c, hc⟩ : ∃ c, (ford a b == some Ordering.lt) = c := ⟨_, rfl⟩
  have hc' : (FloatKind.f64.format.order a b == some .lt) = c := hc
  rw [hc]
  obtain ⟨x, hx⟩ : ∃ x, fnan a = x := ⟨_, rfl⟩
  obtain ⟨y, hy⟩ : ∃ y, fnan b = y := ⟨_, rfl⟩
  rw [hx] at h1 ⊢
  rw [hy] at h2 ⊢
  clear hc hx hy
  go_enter Try.func42, Try.ntmps42
  cases c
  · cases x
    · simp only [Bool.not_false] at h1
      cases y <;> (go_wp2; go_ret; exact ⟨rfl, rfl⟩)
    · simp only [Bool.not_true] at h1
      cases y <;> (go_wp2; go_ret; exact ⟨rfl, rfl⟩)
  · cases x
    · simp only [Bool.not_false] at h1
      cases y <;> (go_wp2; go_ret; exact ⟨rfl, rfl⟩)
    · simp only [Bool.not_true] at h1
      cases y <;> (go_wp2; go_ret; exact ⟨rfl, rfl⟩)

/-- A note laid in behind all that are not later. -/
theorem ins_ok {L : List Sg} {x : Sg} {k : Nat} (hk : k ≤ L.length) (hs : L.Pairwise (fun x y => ¬ ltS y x)) (hlow : k = 0 ∨ ∃ y, L[k - 1]? = some y ∧ mk y.n.at' ≤ mk x.n.at') (hhigh : ∀ i y, k ≤ i → L[i]? = some y → mk x.n.at' < mk y.n.at') (hkey : ∀ y ∈ L, y.v < x.v ∨ y.v = x.v ∧ y.k < x.k) :
    (L.take k ++ x :: L.drop k).Pairwise (fun x y => ¬ ltS y x) ∧ (L.take k ++ x :: L.drop k).Perm (L ++ [x]) := by
  have hp : (L.take k ++ x :: L.drop k).Perm (L ++ [x]) := by
    have h1 : (L.take k ++ x :: L.drop k).Perm (x :: (L.take k ++ L.drop k)) := List.perm_middle
    rw [List.take_append_drop] at h1
    exact h1.trans (by simpa using (List.perm_append_comm : ([x] ++ L).Perm (L ++ [x])))
  refine ⟨?_, hp⟩
  have hmon : ∀ a b, ¬ ltS b a → mk a.n.at' ≤ mk b.n.at' := fun a b h => by
    unfold ltS at h; omega
  have hl : ∀ y ∈ L.take k, mk y.n.at' ≤ mk x.n.at' := by
    intro y hy
    rcases hlow with rfl | ⟨z, hz, hzx⟩
    · simp at hy
    · obtain ⟨i, hi⟩ := List.getElem?_of_mem hy
      have hik : i < k := by
        have := (List.getElem?_eq_some_iff.1 hi).1
        simp at this; omega
      rw [List.getElem?_take, if_pos hik] at hi
      by_cases hi1 : i = k - 1
      · subst hi1; rw [hz] at hi; cases hi; exact hzx
      · have h1 := (List.getElem?_eq_some_iff.1 hi).1
        have h2 := (List.getElem?_eq_some_iff.1 hz).1
        have h3 := List.pairwise_iff_getElem.1 hs i (k - 1) h1 h2 (by omega)
        rw [(List.getElem?_eq_some_iff.1 hi).2, (List.getElem?_eq_some_iff.1 hz).2] at h3
        exact Int.le_trans (hmon _ _ h3) hzx
  have hh : ∀ y ∈ L.drop k, mk x.n.at' < mk y.n.at' := by
    intro y hy
    obtain ⟨i, hi⟩ := List.getElem?_of_mem hy
    rw [List.getElem?_drop] at hi
    exact hhigh _ _ (by omega) hi
  have hs' := hs
  rw [← List.take_append_drop k L, List.pairwise_append] at hs'
  rw [List.pairwise_append, List.pairwise_cons]
  refine ⟨hs'.1, ⟨fun y hy => ?_, hs'.2.1⟩, fun y hy z hz => ?_⟩
  · have := hh y hy
    unfold ltS; omega
  · rcases List.mem_cons.1 hz with rfl | hz
    · have h1 := hl y hy
      have h2 := hkey y (List.mem_of_mem_take hy)
      unfold ltS; omega
    · exact hs'.2.2 y hy z hz

section
variable {P : Program}
theorem run_copy_big (w : World) (dT sT ty elem : TypeId) (sz g o dLen dCap : Nat) (a : Addr) (sLen sCap n : Nat) (cur : Array Value) (t : TypeId) (cs : List Value)
    (hu : P.underlying dT = some (.slice elem)) (hs : (P.info? elem).map (·.size) = some sz)
    (hg : w.heap[g]? = some (.cells cur t (0, 0))) (hn : Nat.min sLen dLen = n) (hcs : cs.length = n * sz)
    (hsrc : ∀ j v, cs[j]? = some v → w.cell? (a.add j) = some v) (hfit : o + cs.length ≤ cur.size) (h1 : ∀ v ∈ cs, v.oneCell' = true) :
    (Builtin.copy_ #[dT, sT] ty #[.slice (some ⟨g, o, none⟩) dLen dCap, .slice (some a) sLen sCap]).run P w =
      .ok (goInt n) (w.setRow g (cur.toList.take o ++ cs ++ cur.toList.drop (o + cs.length)).toArray) := by
  have hl := run_loadCells_list (P := P) w a cs hsrc
  have hst := run_storeCells_at P g o t cs 0 cur w hg (by simpa using hfit) h1
  cases hq : P.info? elem with
  | none => simp [hq] at hs
  | some i =>
    have hi : i.size = sz := by simpa [hq] using hs
    rw [hcs] at hl
    simp [Builtin.copy_, run_underlying hu, Builtin.lenOf, Builtin.firstCells, sizeOf, typeInfo, hq, hi, hn, hl, hst]
theorem run_copy_zero (w : World) (dT sT ty elem : TypeId) (d a : Option Addr) (dLen dCap sLen sCap sz : Nat) (hu : P.underlying dT = some (.slice elem)) (hs : (P.info? elem).map (·.size) = some sz) (hn : Nat.min sLen dLen = 0) :
    (Builtin.copy_ #[dT, sT] ty #[.slice d dLen dCap, .slice a sLen sCap]).run P w = .ok (goInt 0) w := by
  cases hq : P.info? elem with
  | none => simp [hq] at hs
  | some i =>
    have hi : i.size = sz := by simpa [hq] using hs
    have hl : ∀ a, (loadCells a 0).run P w = .ok #[] w := fun a => run_loadCells_list (P := P) w a [] (fun j v h => by simp at h)
    cases d <;> cases a <;> simp [Builtin.copy_, run_underlying hu, Builtin.lenOf, Builtin.firstCells, sizeOf, typeInfo, hq, hi, hn, hl, storeCells]

/-- One place made in a row of one's own: from place k on all goes one place on. -/
theorem own_shift {base : Nat} {e dT sT : TypeId} {sz g n cap k dCap sCap : Nat} {xs : List Value} {w : World} (ty : TypeId) (h : w.ownsRow base e sz (.slice (some ⟨g, 0, none⟩) (n + 1) cap) (n + 1) xs) (hk : k < n) (hu : P.underlying dT = some (.slice e)) (hs : (P.info? e).map (·.size) = some sz) (h1 : ∀ v ∈ xs, v.oneCell' = true) :
    ∃ w', (Builtin.copy_ #[dT, sT] ty #[.slice (some ⟨g, (k + 1) * sz, none⟩) (n - k) dCap, .slice (some ⟨g, k * sz, none⟩) (n + 1 - k) sCap]).run P w = .ok (goInt (n - k : Nat)) w' ∧
      w'.ownsRow base e sz (.slice (some ⟨g, 0, none⟩) (n + 1) cap) (n + 1) (xs.take ((k + 1) * sz) ++ (xs.drop (k * sz)).take ((n - k) * sz)) ∧ w.grownBy w' (some g) := by
  rcases h.2 with ⟨h', _⟩ | ⟨g', cap', cur, h', hb, hg, hnc, hcm, hcs, htake⟩
  · simp at h'
  · simp only [Value.slice.injEq, Option.some.injEq, Addr.mk.injEq, and_true, true_and] at h'
    obtain ⟨rfl, rfl⟩ := h'
    have hxl := h.1
    have e1 : (n + 1) * sz ≤ cap * sz := Nat.mul_le_mul_right sz hnc
    have e2 : (k + 1) * sz + (n - k) * sz = (n + 1) * sz := by rw [← Nat.add_mul]; congr 1; omega
    have e3 : k * sz + (n - k) * sz = n * sz := by rw [← Nat.add_mul]; congr 1; omega
    have e4 : (n + 1) * sz = n * sz + sz := Nat.succ_mul n sz
    obtain ⟨cs, hcsd⟩ : ∃ cs, (xs.drop (k * sz)).take ((n - k) * sz) = cs := ⟨_, rfl⟩
    have hcl : cs.length = (n - k) * sz := by rw [← hcsd, List.length_take, List.length_drop, hxl]; omega
    have hsrc : ∀ j v, cs[j]? = some v → w.cell? ((⟨g, k * sz, none⟩ : Addr).add j) = some v := by
      intro j v hj
      have hjl : j < (n - k) * sz := by rw [← hcl]; exact (List.getElem?_eq_some_iff.1 hj).1
      rw [show (⟨g, k * sz, none⟩ : Addr).add j = ⟨g, k * sz + j, none⟩ by unfold Addr.add; split <;> simp_all, h.cellAt _ (by omega)]
      rw [← hcsd, List.getElem?_take, if_pos hjl, List.getElem?_drop] at hj
      exact hj
    have hrun := run_copy_big (P := P) w dT sT ty e sz g ((k + 1) * sz) (n - k) dCap ⟨g, k * sz, none⟩ (n + 1 - k) sCap (n - k) cur e cs hu hs hg (by show min _ _ = _; omega) hcl hsrc (by rw [hcl, hcs]; omega) (fun v hv => h1 v (by
      rw [← hcsd] at hv
      exact List.mem_of_mem_drop (List.mem_of_mem_take hv)))
    rw [hcsd]
    refine ⟨_, hrun, ⟨by rw [List.length_append, List.length_take, hxl, hcl]; omega, .inr ⟨g, cap, _, rfl, hb, setRow_heap w g cur _ e _ hg, hnc, hcm, ?_, ?_⟩⟩, ⟨rfl, rfl, rfl, by simp [World.setRow], fun i hi hne => setRow_other w g i _ (fun e => hne (by rw [e]))⟩⟩
    · simp [hcl]; rw [hcs]; omega
    · have hlc : cur.toList.length = cap * sz := by simpa using hcs
      have h5 : (cur.toList.take ((k + 1) * sz) ++ cs).length = (n + 1) * sz := by rw [List.length_append, List.length_take, hlc, hcl]; omega
      rw [List.take_append_of_le_length (by omega), List.take_of_length_le (by omega), ← htake, List.take_take, Nat.min_eq_left (by omega)]
end
end Go.Proofs.Ytieaeicpmibjkaa
