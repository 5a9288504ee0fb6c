/- Stage 16: slices.Reverse. -/
import Derived.Test.YtdcmkiggnmajgaaVs
import Derived.Test.YtdcmkiggnmajgaaCg
import Derived.Test.YtdcmkiggnmajgaaV9
namespace Go.Proofs.Ytdcmkiggnmajgaa
set_option linter.unusedVariables false
set_option linter.unusedSimpArgs false
open Go Go.RowKit Go.Shelf
set_option maxRecDepth 100000

/-- A list half turned. -/
def RevT {α : Type} (L cur : List α) (k : Nat) : Prop := cur.length = L.length ∧ ∀ p, p < L.length → cur[p]? = L[if p < k ∨ L.length ≤ p + k then L.length - 1 - p else p]?
theorem RevT.start {α : Type} (L : List α) : RevT L L 0 := ⟨rfl, fun p hp => by rw [if_neg (by omega)]⟩
theorem RevT.done {α : Type} {L cur : List α} {k : Nat} (h : RevT L cur k) (hk : L.length ≤ 2 * k + 1) : cur = L.reverse := by
  apply List.ext_getElem?
  intro p
  by_cases hp : p < L.length
  · rw [h.2 p hp, List.getElem?_reverse hp]
    split
    · rfl
    · congr 1; omega
  · rw [List.getElem?_eq_none (by rw [h.1]; omega), List.getElem?_eq_none (by simp; omega)]
theorem RevT.next {α : Type} {L cur : List α} {k : Nat} {a b : α} (h : RevT L cur k) (hk : 2 * k + 1 < L.length) (ha : L[k]? = some a) (hb : L[L.length - 1 - k]? = some b) : RevT L ((cur.set k b).set (L.length - 1 - k) a) (k + 1) := by
  refine ⟨by simp [h.1], fun p hp => ?_⟩
  rw [List.getElem?_set, List.length_set, h.1]
  by_cases e1 : L.length - 1 - k = p
  · rw [if_pos e1, if_pos (by omega), if_pos (by omega), ← ha]
    congr 1; omega
  · rw [if_neg e1, List.getElem?_set, h.1]
    by_cases e2 : k = p
    · subst e2
      rw [if_pos rfl, if_pos (by omega), if_pos (by omega), hb]
    · rw [if_neg e2, h.2 p hp]
      by_cases e3 : p < k ∨ L.length ≤ p + k
      · rw [if_pos e3, if_pos (by omega)]
      · rw [if_neg e3, if_neg (by omega)]
theorem RevT.at {α : Type} {L cur : List α} {k p : Nat} (h : RevT L cur k) (hp : p < L.length) (h1 : ¬ (p < k ∨ L.length ≤ p + k)) : cur[p]? = L[p]? := by rw [h.2 p hp, if_neg h1]
theorem grown_tr {X Y Z : World} {r : Option Nat} (h : X.grownBy Y r) (g : Y.grownBy Z r) : X.grownBy Z r :=
  ⟨g.os.trans h.os, g.tape.trans h.tape, g.output.trans h.output, Nat.le_trans h.size g.size, fun k hk hr => (g.block k (Nat.lt_of_lt_of_le hk h.size) hr).trans (h.block k hk hr)⟩
theorem grown_drew (X : World) (r : Option Nat) : X.grownBy X.drew r := ⟨rfl, rfl, rfl, Nat.le_refl _, fun _ _ _ => rfl⟩

theorem putR {W : World} {b g n c p : Nat} {l : List Rh} {x : Rh} (h : W.ownsRow b 79 2 (.slice (some ⟨g, 0, none⟩) n c) n (l.flatMap encR)) (hp : p < n) (hn : l.length = n) : ((W.setCell ⟨g, p * 2, none⟩ (.int .i64 x.c)).setCell ⟨g, p * 2 + 1, none⟩ (.int .i64 x.r)).ownsRow b 79 2 (.slice (some ⟨g, 0, none⟩) n c) n ((l.set p x).flatMap encR) := by
  obtain ⟨y, hy⟩ : ∃ y, l[p]? = some y := ⟨_, List.getElem?_eq_getElem (by omega)⟩
  have h1 := own_setK h (o := p * 2) (by omega) (.int .i64 x.c)
  have e1 := fl_set (enc := encR) (k := 2) encR_len hy (j := 0) (y := ⟨x.c, y.r⟩) (v := .int .i64 x.c) (by decide) rfl
  rw [Nat.add_zero] at e1
  rw [e1] at h1
  have h2 := own_setK h1 (o := p * 2 + 1) (by omega) (.int .i64 x.r)
  have hy2 : (l.set p ⟨x.c, y.r⟩)[p]? = some ⟨x.c, y.r⟩ := by rw [List.getElem?_set, if_pos rfl, if_pos (by omega)]
  have e2 := fl_set (enc := encR) (k := 2) encR_len hy2 (j := 1) (y := x) (v := .int .i64 x.r) (by decide) rfl
  rw [e2, List.set_set] at h2
  exact h2
theorem getR {W : World} {b g n c p : Nat} {l : List Rh} {x : Rh} (h : W.ownsRow b 79 2 (.slice (some ⟨g, 0, none⟩) n c) n (l.flatMap encR)) (hp : l[p]? = some x) (hn : l.length = n) : W.cell? ⟨g, p * 2, none⟩ = some (.int .i64 x.c) ∧ W.cell? ⟨g, p * 2 + 1, none⟩ = some (.int .i64 x.r) := by
  have hk := (List.getElem?_eq_some_iff.1 hp).1
  have e0 := fl_get (enc := encR) (k := 2) encR_len hp (j := 0) (by decide)
  have e1 := fl_get (enc := encR) (k := 2) encR_len hp (j := 1) (by decide)
  rw [Nat.add_zero] at e0
  exact ⟨(h.cellAt (p * 2) (by omega)).trans e0, (h.cellAt (p * 2 + 1) (by omega)).trans e1⟩
set_option maxHeartbeats 8000000 in
theorem reverseR_any (L : List Rh) (o : Option Addr) (c base : Nat) (hn : L.length ≤ 1048576) (w : World) (hO : w.ownsRow base 79 2 (.slice o L.length c) L.length (L.flatMap encR)) :
    Calls Try.prog 58 #[.slice o L.length c] w fun e w' => e = .returned (.tuple #[]) ∧ w'.ownsRow base 79 2 (.slice o L.length c) L.length (L.reverse.flatMap encR) ∧ w.grownBy w' (Value.slice o L.length c).ownBlock := by
  obtain ⟨n, hnn⟩ : ∃ n, L.length = n := ⟨_, rfl⟩
  have HN := Lib.hid hnn
  have hg : 0 < n → ∃ g, o = some ⟨g, 0, none⟩ := by
    obtain ⟨_, _, e, h⟩ := own_slice hO
    cases e
    rw [← hnn]; exact h
  rw [hnn] at hO hn ⊢
  clear hnn
  have HO0 := Lib.hid hO
  clear hO
  go_enter Try.func58, Try.ntmps58
  go_wp2
  go_loopw [2, 3] (fun i j X => ∃ (k : Nat) (cur : List Rh), i = .int .i64 k ∧ j = .int .i64 ((n : Int) - 1 - k) ∧ 2 * k ≤ n ∧ RevT L cur k ∧ X.ownsRow base 79 2 (.slice o n c) n (cur.flatMap encR) ∧ w.grownBy X (Value.slice o n c).ownBlock) (fun i _ _ => n - (intOf i).toNat)
  case atStart => exact ⟨0, L, rfl, by simp, by omega, RevT.start L, HO0.out, ⟨rfl, rfl, rfl, Nat.le_refl _, fun _ _ _ => rfl⟩⟩
  case round =>
    obtain ⟨k, cur, rfl, rfl, hk, hR, hO, hG⟩ := hrel
    by_cases hlt : 2 * k + 1 < n
    · obtain ⟨g, rfl⟩ := hg (by omega)
      obtain ⟨m, hm⟩ : ∃ m, n - 1 - k = m := ⟨_, rfl⟩
      have hmI : (n : Int) - 1 - (k : Int) = (m : Int) := by omega
      rw [hmI]
      have d1 : decide ((k : Int) < (m : Int)) = true := decide_eq_true (by omega)
      have d2 : decide (k < m) = true := decide_eq_true (by omega)
      have hnL := HN.out
      obtain ⟨a, ha⟩ : ∃ a, L[k]? = some a := ⟨_, List.getElem?_eq_getElem (by omega)⟩
      obtain ⟨b, hb⟩ : ∃ b, L[m]? = some b := ⟨_, List.getElem?_eq_getElem (by omega)⟩
      have hcl : cur.length = n := by rw [hR.1, hnL]
      have hca : cur[k]? = some a := by rw [hR.at (by omega) (by omega)]; exact ha
      have hcb : cur[m]? = some b := by rw [hR.at (by omega) (by omega)]; exact hb
      have hNX := hR.next (by omega) ha (by rw [hnL, hm]; exact hb)
      rw [hnL, hm] at hNX
      have hkI : (k : Int) < (n : Int) := by omega
      have hmI2 : (m : Int) < (n : Int) := by omega
      have hmn : m < n := by omega
      have hmk : (m : Int) - 1 = (n : Int) - 1 - ((k : Int) + 1) := by omega
      have HNX := Lib.hid hNX
      clear hnL ha hb hm hR hNX
      go_wp2
      refine wp_region_noPanic ?_
      refine wp_region_g (S := untilG [] (fun _ => True)) (by kernel_rfl) ?_
      obtain ⟨Z, hZ⟩ : ∃ Z, wr.drew = Z := ⟨_, rfl⟩
      have hOZ : Z.ownsRow base 79 2 (.slice (some ⟨g, 0, none⟩) n c) n (cur.flatMap encR) := hZ ▸ hO.drew
      have hGZ : w.grownBy Z (some g) := hZ ▸ grown_tr hG (grown_drew wr _)
      rw [hZ]
      clear hO hG hZ
      have za := getR hOZ hca hcl
      have zb := getR hOZ hcb hcl
      have T0 : Z.cell? ⟨g, k * 2, none⟩ = some (.int .i64 a.c) ∧ Z.cell? ⟨g, k * 2 + 1, none⟩ = some (.int .i64 a.r) ∧ Z.cell? ⟨g, m * 2, none⟩ = some (.int .i64 b.c) ∧ Z.cell? ⟨g, m * 2 + 1, none⟩ = some (.int .i64 b.r) := ⟨za.1, za.2, zb⟩
      have f0 := own_freeK hOZ (k * 2)
      have f1 := own_freeK hOZ (k * 2 + 1)
      have f2 := own_freeK hOZ (m * 2)
      have f3 := own_freeK hOZ (m * 2 + 1)
      obtain ⟨za0, za1⟩ := za
      have HO := Lib.hid (show ((Z.setCell ⟨g, k * 2, none⟩ (.int .i64 b.c)).setCell ⟨g, k * 2 + 1, none⟩ (.int .i64 b.r)).ownsRow base 79 2 (.slice (some ⟨g, 0, none⟩) n c) n ((cur.set k b).flatMap encR) ∧ ∀ Z2, Z2 = (((Z.setCell ⟨g, k * 2, none⟩ (.int .i64 b.c)).setCell ⟨g, k * 2 + 1, none⟩ (.int .i64 b.r)).setCell ⟨g, m * 2, none⟩ (.int .i64 a.c)).setCell ⟨g, m * 2 + 1, none⟩ (.int .i64 a.r) → Z2.ownsRow base 79 2 (.slice (some ⟨g, 0, none⟩) n c) n (((cur.set k b).set m a).flatMap encR) ∧ w.grownBy Z2 (some g) from
        ⟨putR hOZ (by omega) hcl, fun Z2 hZ2 => by
          rw [hZ2]
          exact ⟨putR (putR hOZ (by omega) hcl) hmn (by rw [List.length_set]; exact hcl), (grown_tr (grown_tr (grown_tr (grown_tr hGZ (grownBy_setCell Z g (k * 2) (.int .i64 b.c))) (grownBy_setCell (Z.setCell ⟨g, k * 2, none⟩ (.int .i64 b.c)) g (k * 2 + 1) (.int .i64 b.r))) (grownBy_setCell ((Z.setCell ⟨g, k * 2, none⟩ (.int .i64 b.c)).setCell ⟨g, k * 2 + 1, none⟩ (.int .i64 b.r)) g (m * 2) (.int .i64 a.c))) (grownBy_setCell (((Z.setCell ⟨g, k * 2, none⟩ (.int .i64 b.c)).setCell ⟨g, k * 2 + 1, none⟩ (.int .i64 b.r)).setCell ⟨g, m * 2, none⟩ (.int .i64 a.c)) g (m * 2 + 1) (.int .i64 a.r)))⟩⟩)
      have hset : (cur.set k b)[m]? = some b := by rw [List.getElem?_set, if_neg (by omega)]; exact hcb
      have hsl : (cur.set k b).length = n := by rw [List.length_set]; exact hcl
      have getall : ∀ {X : World}, X.ownsRow base 79 2 (.slice (some ⟨g, 0, none⟩) n c) n ((cur.set k b).flatMap encR) → X.cell? ⟨g, m * 2, none⟩ = some (.int .i64 b.c) ∧ X.cell? ⟨g, m * 2 + 1, none⟩ = some (.int .i64 b.r) := fun h => getR h hset hsl
      clear hOZ hGZ zb hca hcb
      refine wpAnyG_take [2, 14, 15] (i := 2) (v := (.slice (some ⟨g, 0, none⟩) n c)) rfl (by kernel_rfl) (by kernel_rfl) (by kernel_rfl) (by kernel_rfl) (by kernel_rfl) (by kernel_rfl) (by kernel_rfl) (by kernel_rfl) (fun _ _ _ h => h) (Or.inl ⟨by rfl, ?hy⟩) trivial ?_
      case hy =>
        intro X hX
        go_simp
      try simp only [Act.put, List.getElem_toArray, List.getElem_cons_zero, List.getElem_cons_succ, List.setIfInBounds_toArray, List.set_cons_zero, List.set_cons_succ]
      refine wpAnyG_take [3, 14, 15] (i := 3) (v := (.int .i64 (m : Nat))) rfl (by kernel_rfl) (by kernel_rfl) (by kernel_rfl) (by kernel_rfl) (by kernel_rfl) (by kernel_rfl) (by kernel_rfl) (by kernel_rfl) (fun _ _ _ h => h) (Or.inl ⟨by rfl, ?hy⟩) trivial ?_
      case hy =>
        intro X hX
        go_simp
      try simp only [Act.put, List.getElem_toArray, List.getElem_cons_zero, List.getElem_cons_succ, List.setIfInBounds_toArray, List.set_cons_zero, List.set_cons_succ]
      refine wpAnyG_strong (S := untilG [] (fun _ => True)) (S' := untilG [13] (fun X => X.cell? ⟨g, k * 2, none⟩ = some (.int .i64 a.c) ∧ X.cell? ⟨g, k * 2 + 1, none⟩ = some (.int .i64 a.r) ∧ X.cell? ⟨g, m * 2, none⟩ = some (.int .i64 b.c) ∧ X.cell? ⟨g, m * 2 + 1, none⟩ = some (.int .i64 b.r))) (fun _ _ _ _ => trivial) _ _ _ _ ?_
      refine wpAnyG_take [0, 12] (i := 0) (v := (.slice (some ⟨g, 0, none⟩) n c)) rfl (by kernel_rfl) (by kernel_rfl) (by kernel_rfl) (by kernel_rfl) (by kernel_rfl) (by kernel_rfl) (by kernel_rfl) (by kernel_rfl) (fun _ _ _ h => h) (Or.inl ⟨by rfl, ?hy⟩) T0 ?_
      case hy =>
        intro X hX
        go_simp
      try simp only [Act.put, List.getElem_toArray, List.getElem_cons_zero, List.getElem_cons_succ, List.setIfInBounds_toArray, List.set_cons_zero, List.set_cons_succ]
      refine wpAnyG_take [1, 12] (i := 1) (v := (.int .i64 (k : Nat))) rfl (by kernel_rfl) (by kernel_rfl) (by kernel_rfl) (by kernel_rfl) (by kernel_rfl) (by kernel_rfl) (by kernel_rfl) (by kernel_rfl) (fun _ _ _ h => h) (Or.inl ⟨by rfl, ?hy⟩) T0 ?_
      case hy =>
        intro X hX
        go_simp
      try simp only [Act.put, List.getElem_toArray, List.getElem_cons_zero, List.getElem_cons_succ, List.setIfInBounds_toArray, List.set_cons_zero, List.set_cons_succ]
      refine wpAnyG_take [4, 6, 7] (i := 4) (v := (.slice (some ⟨g, 0, none⟩) n c)) rfl (by kernel_rfl) (by kernel_rfl) (by kernel_rfl) (by kernel_rfl) (by kernel_rfl) (by kernel_rfl) (by kernel_rfl) (by kernel_rfl) (fun _ _ _ h => h) (Or.inl ⟨by rfl, ?hy⟩) T0 ?_
      case hy =>
        intro X hX
        go_simp
      try simp only [Act.put, List.getElem_toArray, List.getElem_cons_zero, List.getElem_cons_succ, List.setIfInBounds_toArray, List.set_cons_zero, List.set_cons_succ]
      refine wpAnyG_take [5, 6, 7] (i := 5) (v := (.int .i64 (m : Nat))) rfl (by kernel_rfl) (by kernel_rfl) (by kernel_rfl) (by kernel_rfl) (by kernel_rfl) (by kernel_rfl) (by kernel_rfl) (by kernel_rfl) (fun _ _ _ h => h) (Or.inl ⟨by rfl, ?hy⟩) T0 ?_
      case hy =>
        intro X hX
        go_simp
      try simp only [Act.put, List.getElem_toArray, List.getElem_cons_zero, List.getElem_cons_succ, List.setIfInBounds_toArray, List.set_cons_zero, List.set_cons_succ]
      refine wpAnyG_take [6, 7] (i := 6) (v := (.pointer (some ⟨g, m * 2, none⟩))) rfl (by kernel_rfl) (by kernel_rfl) (by kernel_rfl) (by kernel_rfl) (by kernel_rfl) (by kernel_rfl) (by kernel_rfl) (by kernel_rfl) (fun _ _ _ h => h) (Or.inl ⟨by rfl, ?hy⟩) T0 ?_
      case hy =>
        intro X hX
        go_simp
      try simp only [Act.put, List.getElem_toArray, List.getElem_cons_zero, List.getElem_cons_succ, List.setIfInBounds_toArray, List.set_cons_zero, List.set_cons_succ]
      refine wpAnyG_take [7] (i := 7) (v := (.agg #[.int .i64 b.c, .int .i64 b.r])) rfl (by kernel_rfl) (by kernel_rfl) (by kernel_rfl) (by kernel_rfl) (by kernel_rfl) (by kernel_rfl) (by kernel_rfl) (by kernel_rfl) (fun _ _ _ h => h) (Or.inl ⟨by rfl, ?hy⟩) T0 ?_
      case hy =>
        intro X hX
        have e0 := hX.2.2.1
        have e1 := hX.2.2.2
        go_simp
      try simp only [Act.put, List.getElem_toArray, List.getElem_cons_zero, List.getElem_cons_succ, List.setIfInBounds_toArray, List.set_cons_zero, List.set_cons_succ]
      refine wpAnyG_take [8, 10, 11, 15] (i := 8) (v := (.slice (some ⟨g, 0, none⟩) n c)) rfl (by kernel_rfl) (by kernel_rfl) (by kernel_rfl) (by kernel_rfl) (by kernel_rfl) (by kernel_rfl) (by kernel_rfl) (by kernel_rfl) (fun _ _ _ h => h) (Or.inl ⟨by rfl, ?hy⟩) T0 ?_
      case hy =>
        intro X hX
        go_simp
      try simp only [Act.put, List.getElem_toArray, List.getElem_cons_zero, List.getElem_cons_succ, List.setIfInBounds_toArray, List.set_cons_zero, List.set_cons_succ]
      refine wpAnyG_take [9, 10, 11, 15] (i := 9) (v := (.int .i64 (k : Nat))) rfl (by kernel_rfl) (by kernel_rfl) (by kernel_rfl) (by kernel_rfl) (by kernel_rfl) (by kernel_rfl) (by kernel_rfl) (by kernel_rfl) (fun _ _ _ h => h) (Or.inl ⟨by rfl, ?hy⟩) T0 ?_
      case hy =>
        intro X hX
        go_simp
      try simp only [Act.put, List.getElem_toArray, List.getElem_cons_zero, List.getElem_cons_succ, List.setIfInBounds_toArray, List.set_cons_zero, List.set_cons_succ]
      refine wpAnyG_take [10, 11, 15] (i := 10) (v := (.pointer (some ⟨g, k * 2, none⟩))) rfl (by kernel_rfl) (by kernel_rfl) (by kernel_rfl) (by kernel_rfl) (by kernel_rfl) (by kernel_rfl) (by kernel_rfl) (by kernel_rfl) (fun _ _ _ h => h) (Or.inl ⟨by rfl, ?hy⟩) T0 ?_
      case hy =>
        intro X hX
        go_simp
      try simp only [Act.put, List.getElem_toArray, List.getElem_cons_zero, List.getElem_cons_succ, List.setIfInBounds_toArray, List.set_cons_zero, List.set_cons_succ]
      refine wpAnyG_take [11, 15] (i := 11) (v := (.agg #[.int .i64 a.c, .int .i64 a.r])) rfl (by kernel_rfl) (by kernel_rfl) (by kernel_rfl) (by kernel_rfl) (by kernel_rfl) (by kernel_rfl) (by kernel_rfl) (by kernel_rfl) (fun _ _ _ h => h) (Or.inl ⟨by rfl, ?hy⟩) T0 ?_
      case hy =>
        intro X hX
        have e0 := hX.1
        have e1 := hX.2.1
        go_simp
      try simp only [Act.put, List.getElem_toArray, List.getElem_cons_zero, List.getElem_cons_succ, List.setIfInBounds_toArray, List.set_cons_zero, List.set_cons_succ]
      refine wpAnyG_all (rs := [12]) (by kernel_rfl) (by simp) ?_
      intro i hi
      simp only [List.mem_cons, List.not_mem_nil, or_false] at hi
      subst hi
      refine wpOp_now rfl rfl ?_
      go_simp
      refine ⟨fun _ => T0, ?_⟩
      try simp only [Act.put, List.getElem_toArray, List.getElem_cons_zero, List.getElem_cons_succ, List.setIfInBounds_toArray, List.set_cons_zero, List.set_cons_succ]
      refine wpAnyG_all (rs := [13]) (by kernel_rfl) (by simp) ?_
      intro i hi
      simp only [List.mem_cons, List.not_mem_nil, or_false] at hi
      subst hi
      refine wpOp_now rfl rfl ?_
      go_simp
      obtain ⟨Z1, hZ1⟩ : ∃ Z1, (Z.setCell ⟨g, k * 2, none⟩ (.int .i64 b.c)).setCell ⟨g, k * 2 + 1, none⟩ (.int .i64 b.r) = Z1 := ⟨_, rfl⟩
      rw [hZ1] at HO
      try rw [hZ1]
      clear hZ1 f0 f1 f2 f3
      have g0 := getall HO.out.1
      have q0 := own_freeK HO.out.1 (m * 2)
      have q1 := own_freeK HO.out.1 (m * 2 + 1)
      obtain ⟨g0, g1⟩ := g0
      refine ⟨fun h => (nomatch (show (false : Bool) = true from h)), ?_⟩
      try simp only [Act.put, List.getElem_toArray, List.getElem_cons_zero, List.getElem_cons_succ, List.setIfInBounds_toArray, List.set_cons_zero, List.set_cons_succ]
      refine wpAnyG_all (rs := [14]) (by kernel_rfl) (by simp) ?_
      intro i hi
      simp only [List.mem_cons, List.not_mem_nil, or_false] at hi
      subst hi
      refine wpOp_now rfl rfl ?_
      go_simp
      refine ⟨fun h => (nomatch (show (false : Bool) = true from h)), ?_⟩
      try simp only [Act.put, List.getElem_toArray, List.getElem_cons_zero, List.getElem_cons_succ, List.setIfInBounds_toArray, List.set_cons_zero, List.set_cons_succ]
      refine wpAnyG_all (rs := [15]) (by kernel_rfl) (by simp) ?_
      intro i hi
      simp only [List.mem_cons, List.not_mem_nil, or_false] at hi
      subst hi
      refine wpOp_now rfl rfl ?_
      go_simp
      obtain ⟨Z2, hZ2⟩ : ∃ Z2, (Z1.setCell ⟨g, m * 2, none⟩ (.int .i64 a.c)).setCell ⟨g, m * 2 + 1, none⟩ (.int .i64 a.r) = Z2 := ⟨_, rfl⟩
      have HO2 := Lib.hid (HO.out.2 Z2 hZ2.symm)
      try rw [hZ2]
      clear hZ2
      refine ⟨fun h => (nomatch (show (false : Bool) = true from h)), ?_⟩
      try simp only [Act.put, List.getElem_toArray, List.getElem_cons_zero, List.getElem_cons_succ, List.setIfInBounds_toArray, List.set_cons_zero, List.set_cons_succ]
      refine wpAnyG_done (by kernel_rfl) ?_ _
      refine NoPanic.normal ?_
      have HO3 := Lib.hid (And.intro HO2.out.1 (And.intro HO2.out.2 HNX.out))
      clear T0 getall hset hsl
      go_wp2
      go_roundw
      case rel => exact ⟨k + 1, _, by go_num, by first | (rw [hmk]; go_num) | exact congrArg (Value.int IntKind.i64) (by push_cast; omega), by omega, HO3.out.2.2, HO3.out.1, HO3.out.2.1⟩
      case measure => simp [intOf]; omega
    · obtain ⟨z, hz⟩ : ∃ z : Int, (n : Int) - 1 - (k : Int) = z := ⟨_, rfl⟩
      rw [hz]
      have d1 : decide ((k : Int) < z) = false := decide_eq_false (by omega)
      have hfin := hR.done (by rw [HN.out]; omega)
      rw [hfin] at hO
      have HE := Lib.hid (And.intro hO hG)
      clear hO hG hfin hR hz
      go_wp2
      refine bodyPost_end (results_none rfl _ _ _) rfl ?_
      exact ⟨rfl, HE.out⟩

theorem putI {W : World} {b g n c p : Nat} {l : List Int} {x : Int} (h : W.ownsRow b 3 1 (.slice (some ⟨g, 0, none⟩) n c) n (l.flatMap encI)) (hp : p < n) (hn : l.length = n) : (W.setCell ⟨g, p, none⟩ (.int .i64 x)).ownsRow b 3 1 (.slice (some ⟨g, 0, none⟩) n c) n ((l.set p x).flatMap encI) := by
  obtain ⟨y, hy⟩ : ∃ y, l[p]? = some y := ⟨_, List.getElem?_eq_getElem (by omega)⟩
  have h1 := own_setK h (o := p) (by omega) (.int .i64 x)
  rw [encI_set (by omega)] at h1
  exact h1
theorem getI {W : World} {b g n c p : Nat} {l : List Int} {x : Int} (h : W.ownsRow b 3 1 (.slice (some ⟨g, 0, none⟩) n c) n (l.flatMap encI)) (hp : l[p]? = some x) (hn : l.length = n) : W.cell? ⟨g, p, none⟩ = some (.int .i64 x) := by
  have hk := (List.getElem?_eq_some_iff.1 hp).1
  have e0 := fl_get (enc := encI) (k := 1) encI_len hp (j := 0) (by decide)
  rw [Nat.add_zero, Nat.mul_one] at e0
  exact (h.cellAt p (by omega)).trans e0
set_option maxHeartbeats 8000000 in
theorem reverseI_any (L : List Int) (o : Option Addr) (c base : Nat) (hn : L.length ≤ 1048576) (w : World) (hO : w.ownsRow base 3 1 (.slice o L.length c) L.length (L.flatMap encI)) :
    Calls Try.prog 59 #[.slice o L.length c] w fun e w' => e = .returned (.tuple #[]) ∧ w'.ownsRow base 3 1 (.slice o L.length c) L.length (L.reverse.flatMap encI) ∧ w.grownBy w' (Value.slice o L.length c).ownBlock := by
  obtain ⟨n, hnn⟩ : ∃ n, L.length = n := ⟨_, rfl⟩
  have HN := Lib.hid hnn
  have hg : 0 < n → ∃ g, o = some ⟨g, 0, none⟩ := by
    obtain ⟨_, _, e, h⟩ := own_slice hO
    cases e
    rw [← hnn]; exact h
  rw [hnn] at hO hn ⊢
  clear hnn
  have HO0 := Lib.hid hO
  clear hO
  go_enter Try.func59, Try.ntmps59
  go_wp2
  go_loopw [2, 3] (fun i j X => ∃ (k : Nat) (cur : List Int), i = .int .i64 k ∧ j = .int .i64 ((n : Int) - 1 - k) ∧ 2 * k ≤ n ∧ RevT L cur k ∧ X.ownsRow base 3 1 (.slice o n c) n (cur.flatMap encI) ∧ w.grownBy X (Value.slice o n c).ownBlock) (fun i _ _ => n - (intOf i).toNat)
  case atStart => exact ⟨0, L, rfl, by simp, by omega, RevT.start L, HO0.out, ⟨rfl, rfl, rfl, Nat.le_refl _, fun _ _ _ => rfl⟩⟩
  case round =>
    obtain ⟨k, cur, rfl, rfl, hk, hR, hO, hG⟩ := hrel
    by_cases hlt : 2 * k + 1 < n
    · obtain ⟨g, rfl⟩ := hg (by omega)
      obtain ⟨m, hm⟩ : ∃ m, n - 1 - k = m := ⟨_, rfl⟩
      have hmI : (n : Int) - 1 - (k : Int) = (m : Int) := by omega
      rw [hmI]
      have d1 : decide ((k : Int) < (m : Int)) = true := decide_eq_true (by omega)
      have d2 : decide (k < m) = true := decide_eq_true (by omega)
      have hnL := HN.out
      obtain ⟨a, ha⟩ : ∃ a, L[k]? = some a := ⟨_, List.getElem?_eq_getElem (by omega)⟩
      obtain ⟨b, hb⟩ : ∃ b, L[m]? = some b := ⟨_, List.getElem?_eq_getElem (by omega)⟩
      have hcl : cur.length = n := by rw [hR.1, hnL]
      have hca : cur[k]? = some a := by rw [hR.at (by omega) (by omega)]; exact ha
      have hcb : cur[m]? = some b := by rw [hR.at (by omega) (by omega)]; exact hb
      have hNX := hR.next (by omega) ha (by rw [hnL, hm]; exact hb)
      rw [hnL, hm] at hNX
      have hkI : (k : Int) < (n : Int) := by omega
      have hmI2 : (m : Int) < (n : Int) := by omega
      have hmn : m < n := by omega
      have hmk : (m : Int) - 1 = (n : Int) - 1 - ((k : Int) + 1) := by omega
      have HNX := Lib.hid hNX
      clear hnL ha hb hm hR hNX
      go_wp2
      refine wp_region_noPanic ?_
      refine wp_region_g (S := untilG [] (fun _ => True)) (by kernel_rfl) ?_
      obtain ⟨Z, hZ⟩ : ∃ Z, wr.drew = Z := ⟨_, rfl⟩
      have hOZ : Z.ownsRow base 3 1 (.slice (some ⟨g, 0, none⟩) n c) n (cur.flatMap encI) := hZ ▸ hO.drew
      have hGZ : w.grownBy Z (some g) := hZ ▸ grown_tr hG (grown_drew wr _)
      rw [hZ]
      clear hO hG hZ
      have za := getI hOZ hca hcl
      have zb := getI hOZ hcb hcl
      have T0 : Z.cell? ⟨g, k, none⟩ = some (.int .i64 a) ∧ Z.cell? ⟨g, m, none⟩ = some (.int .i64 b) := ⟨za, zb⟩
      have f0 := own_freeK hOZ (k)
      have f1 := own_freeK hOZ (k)
      have f2 := own_freeK hOZ (m)
      have f3 := own_freeK hOZ (m)
      have za0 := za
      have HO := Lib.hid (show (Z.setCell ⟨g, k, none⟩ (.int .i64 b)).ownsRow base 3 1 (.slice (some ⟨g, 0, none⟩) n c) n ((cur.set k b).flatMap encI) ∧ ∀ Z2, Z2 = (Z.setCell ⟨g, k, none⟩ (.int .i64 b)).setCell ⟨g, m, none⟩ (.int .i64 a) → Z2.ownsRow base 3 1 (.slice (some ⟨g, 0, none⟩) n c) n (((cur.set k b).set m a).flatMap encI) ∧ w.grownBy Z2 (some g) from
        ⟨putI hOZ (by omega) hcl, fun Z2 hZ2 => by
          rw [hZ2]
          exact ⟨putI (putI hOZ (by omega) hcl) hmn (by rw [List.length_set]; exact hcl), (grown_tr (grown_tr hGZ (grownBy_setCell Z g (k) (.int .i64 b))) (grownBy_setCell (Z.setCell ⟨g, k, none⟩ (.int .i64 b)) g (m) (.int .i64 a)))⟩⟩)
      have hset : (cur.set k b)[m]? = some b := by rw [List.getElem?_set, if_neg (by omega)]; exact hcb
      have hsl : (cur.set k b).length = n := by rw [List.length_set]; exact hcl
      have getall : ∀ {X : World}, X.ownsRow base 3 1 (.slice (some ⟨g, 0, none⟩) n c) n ((cur.set k b).flatMap encI) → X.cell? ⟨g, m, none⟩ = some (.int .i64 b) := fun h => getI h hset hsl
      clear hOZ hGZ zb hca hcb
      refine wpAnyG_take [2, 14, 15] (i := 2) (v := (.slice (some ⟨g, 0, none⟩) n c)) rfl (by kernel_rfl) (by kernel_rfl) (by kernel_rfl) (by kernel_rfl) (by kernel_rfl) (by kernel_rfl) (by kernel_rfl) (by kernel_rfl) (fun _ _ _ h => h) (Or.inl ⟨by rfl, ?hy⟩) trivial ?_
      case hy =>
        intro X hX
        go_simp
      try simp only [Act.put, List.getElem_toArray, List.getElem_cons_zero, List.getElem_cons_succ, List.setIfInBounds_toArray, List.set_cons_zero, List.set_cons_succ]
      refine wpAnyG_take [3, 14, 15] (i := 3) (v := (.int .i64 (m : Nat))) rfl (by kernel_rfl) (by kernel_rfl) (by kernel_rfl) (by kernel_rfl) (by kernel_rfl) (by kernel_rfl) (by kernel_rfl) (by kernel_rfl) (fun _ _ _ h => h) (Or.inl ⟨by rfl, ?hy⟩) trivial ?_
      case hy =>
        intro X hX
        go_simp
      try simp only [Act.put, List.getElem_toArray, List.getElem_cons_zero, List.getElem_cons_succ, List.setIfInBounds_toArray, List.set_cons_zero, List.set_cons_succ]
      refine wpAnyG_strong (S := untilG [] (fun _ => True)) (S' := untilG [13] (fun X => X.cell? ⟨g, k, none⟩ = some (.int .i64 a) ∧ X.cell? ⟨g, m, none⟩ = some (.int .i64 b))) (fun _ _ _ _ => trivial) _ _ _ _ ?_
      refine wpAnyG_take [0, 12] (i := 0) (v := (.slice (some ⟨g, 0, none⟩) n c)) rfl (by kernel_rfl) (by kernel_rfl) (by kernel_rfl) (by kernel_rfl) (by kernel_rfl) (by kernel_rfl) (by kernel_rfl) (by kernel_rfl) (fun _ _ _ h => h) (Or.inl ⟨by rfl, ?hy⟩) T0 ?_
      case hy =>
        intro X hX
        go_simp
      try simp only [Act.put, List.getElem_toArray, List.getElem_cons_zero, List.getElem_cons_succ, List.setIfInBounds_toArray, List.set_cons_zero, List.set_cons_succ]
      refine wpAnyG_take [1, 12] (i := 1) (v := (.int .i64 (k : Nat))) rfl (by kernel_rfl) (by kernel_rfl) (by kernel_rfl) (by kernel_rfl) (by kernel_rfl) (by kernel_rfl) (by kernel_rfl) (by kernel_rfl) (fun _ _ _ h => h) (Or.inl ⟨by rfl, ?hy⟩) T0 ?_
      case hy =>
        intro X hX
        go_simp
      try simp only [Act.put, List.getElem_toArray, List.getElem_cons_zero, List.getElem_cons_succ, List.setIfInBounds_toArray, List.set_cons_zero, List.set_cons_succ]
      refine wpAnyG_take [4, 6, 7] (i := 4) (v := (.slice (some ⟨g, 0, none⟩) n c)) rfl (by kernel_rfl) (by kernel_rfl) (by kernel_rfl) (by kernel_rfl) (by kernel_rfl) (by kernel_rfl) (by kernel_rfl) (by kernel_rfl) (fun _ _ _ h => h) (Or.inl ⟨by rfl, ?hy⟩) T0 ?_
      case hy =>
        intro X hX
        go_simp
      try simp only [Act.put, List.getElem_toArray, List.getElem_cons_zero, List.getElem_cons_succ, List.setIfInBounds_toArray, List.set_cons_zero, List.set_cons_succ]
      refine wpAnyG_take [5, 6, 7] (i := 5) (v := (.int .i64 (m : Nat))) rfl (by kernel_rfl) (by kernel_rfl) (by kernel_rfl) (by kernel_rfl) (by kernel_rfl) (by kernel_rfl) (by kernel_rfl) (by kernel_rfl) (fun _ _ _ h => h) (Or.inl ⟨by rfl, ?hy⟩) T0 ?_
      case hy =>
        intro X hX
        go_simp
      try simp only [Act.put, List.getElem_toArray, List.getElem_cons_zero, List.getElem_cons_succ, List.setIfInBounds_toArray, List.set_cons_zero, List.set_cons_succ]
      refine wpAnyG_take [6, 7] (i := 6) (v := (.pointer (some ⟨g, m, none⟩))) rfl (by kernel_rfl) (by kernel_rfl) (by kernel_rfl) (by kernel_rfl) (by kernel_rfl) (by kernel_rfl) (by kernel_rfl) (by kernel_rfl) (fun _ _ _ h => h) (Or.inl ⟨by rfl, ?hy⟩) T0 ?_
      case hy =>
        intro X hX
        go_simp
      try simp only [Act.put, List.getElem_toArray, List.getElem_cons_zero, List.getElem_cons_succ, List.setIfInBounds_toArray, List.set_cons_zero, List.set_cons_succ]
      refine wpAnyG_take [7] (i := 7) (v := (.int .i64 b)) rfl (by kernel_rfl) (by kernel_rfl) (by kernel_rfl) (by kernel_rfl) (by kernel_rfl) (by kernel_rfl) (by kernel_rfl) (by kernel_rfl) (fun _ _ _ h => h) (Or.inl ⟨by rfl, ?hy⟩) T0 ?_
      case hy =>
        intro X hX
        have e0 := hX.2
        go_simp
      try simp only [Act.put, List.getElem_toArray, List.getElem_cons_zero, List.getElem_cons_succ, List.setIfInBounds_toArray, List.set_cons_zero, List.set_cons_succ]
      refine wpAnyG_take [8, 10, 11, 15] (i := 8) (v := (.slice (some ⟨g, 0, none⟩) n c)) rfl (by kernel_rfl) (by kernel_rfl) (by kernel_rfl) (by kernel_rfl) (by kernel_rfl) (by kernel_rfl) (by kernel_rfl) (by kernel_rfl) (fun _ _ _ h => h) (Or.inl ⟨by rfl, ?hy⟩) T0 ?_
      case hy =>
        intro X hX
        go_simp
      try simp only [Act.put, List.getElem_toArray, List.getElem_cons_zero, List.getElem_cons_succ, List.setIfInBounds_toArray, List.set_cons_zero, List.set_cons_succ]
      refine wpAnyG_take [9, 10, 11, 15] (i := 9) (v := (.int .i64 (k : Nat))) rfl (by kernel_rfl) (by kernel_rfl) (by kernel_rfl) (by kernel_rfl) (by kernel_rfl) (by kernel_rfl) (by kernel_rfl) (by kernel_rfl) (fun _ _ _ h => h) (Or.inl ⟨by rfl, ?hy⟩) T0 ?_
      case hy =>
        intro X hX
        go_simp
      try simp only [Act.put, List.getElem_toArray, List.getElem_cons_zero, List.getElem_cons_succ, List.setIfInBounds_toArray, List.set_cons_zero, List.set_cons_succ]
      refine wpAnyG_take [10, 11, 15] (i := 10) (v := (.pointer (some ⟨g, k, none⟩))) rfl (by kernel_rfl) (by kernel_rfl) (by kernel_rfl) (by kernel_rfl) (by kernel_rfl) (by kernel_rfl) (by kernel_rfl) (by kernel_rfl) (fun _ _ _ h => h) (Or.inl ⟨by rfl, ?hy⟩) T0 ?_
      case hy =>
        intro X hX
        go_simp
      try simp only [Act.put, List.getElem_toArray, List.getElem_cons_zero, List.getElem_cons_succ, List.setIfInBounds_toArray, List.set_cons_zero, List.set_cons_succ]
      refine wpAnyG_take [11, 15] (i := 11) (v := (.int .i64 a)) rfl (by kernel_rfl) (by kernel_rfl) (by kernel_rfl) (by kernel_rfl) (by kernel_rfl) (by kernel_rfl) (by kernel_rfl) (by kernel_rfl) (fun _ _ _ h => h) (Or.inl ⟨by rfl, ?hy⟩) T0 ?_
      case hy =>
        intro X hX
        have e0 := hX.1
        go_simp
      try simp only [Act.put, List.getElem_toArray, List.getElem_cons_zero, List.getElem_cons_succ, List.setIfInBounds_toArray, List.set_cons_zero, List.set_cons_succ]
      refine wpAnyG_all (rs := [12]) (by kernel_rfl) (by simp) ?_
      intro i hi
      simp only [List.mem_cons, List.not_mem_nil, or_false] at hi
      subst hi
      refine wpOp_now rfl rfl ?_
      go_simp
      refine ⟨fun _ => T0, ?_⟩
      try simp only [Act.put, List.getElem_toArray, List.getElem_cons_zero, List.getElem_cons_succ, List.setIfInBounds_toArray, List.set_cons_zero, List.set_cons_succ]
      refine wpAnyG_all (rs := [13]) (by kernel_rfl) (by simp) ?_
      intro i hi
      simp only [List.mem_cons, List.not_mem_nil, or_false] at hi
      subst hi
      refine wpOp_now rfl rfl ?_
      go_simp
      obtain ⟨Z1, hZ1⟩ : ∃ Z1, Z.setCell ⟨g, k, none⟩ (.int .i64 b) = Z1 := ⟨_, rfl⟩
      rw [hZ1] at HO
      try rw [hZ1]
      clear hZ1 f0 f1 f2 f3
      have g0 := getall HO.out.1
      have q0 := own_freeK HO.out.1 (m)
      refine ⟨fun h => (nomatch (show (false : Bool) = true from h)), ?_⟩
      try simp only [Act.put, List.getElem_toArray, List.getElem_cons_zero, List.getElem_cons_succ, List.setIfInBounds_toArray, List.set_cons_zero, List.set_cons_succ]
      refine wpAnyG_all (rs := [14]) (by kernel_rfl) (by simp) ?_
      intro i hi
      simp only [List.mem_cons, List.not_mem_nil, or_false] at hi
      subst hi
      refine wpOp_now rfl rfl ?_
      go_simp
      refine ⟨fun h => (nomatch (show (false : Bool) = true from h)), ?_⟩
      try simp only [Act.put, List.getElem_toArray, List.getElem_cons_zero, List.getElem_cons_succ, List.setIfInBounds_toArray, List.set_cons_zero, List.set_cons_succ]
      refine wpAnyG_all (rs := [15]) (by kernel_rfl) (by simp) ?_
      intro i hi
      simp only [List.mem_cons, List.not_mem_nil, or_false] at hi
      subst hi
      refine wpOp_now rfl rfl ?_
      go_simp
      obtain ⟨Z2, hZ2⟩ : ∃ Z2, Z1.setCell ⟨g, m, none⟩ (.int .i64 a) = Z2 := ⟨_, rfl⟩
      have HO2 := Lib.hid (HO.out.2 Z2 hZ2.symm)
      try rw [hZ2]
      clear hZ2
      refine ⟨fun h => (nomatch (show (false : Bool) = true from h)), ?_⟩
      try simp only [Act.put, List.getElem_toArray, List.getElem_cons_zero, List.getElem_cons_succ, List.setIfInBounds_toArray, List.set_cons_zero, List.set_cons_succ]
      refine wpAnyG_done (by kernel_rfl) ?_ _
      refine NoPanic.normal ?_
      have HO3 := Lib.hid (And.intro HO2.out.1 (And.intro HO2.out.2 HNX.out))
      clear T0 getall hset hsl
      go_wp2
      go_roundw
      case rel => exact ⟨k + 1, _, by go_num, by first | (rw [hmk]; go_num) | exact congrArg (Value.int IntKind.i64) (by push_cast; omega), by omega, HO3.out.2.2, HO3.out.1, HO3.out.2.1⟩
      case measure => simp [intOf]; omega
    · obtain ⟨z, hz⟩ : ∃ z : Int, (n : Int) - 1 - (k : Int) = z := ⟨_, rfl⟩
      rw [hz]
      have d1 : decide ((k : Int) < z) = false := decide_eq_false (by omega)
      have hfin := hR.done (by rw [HN.out]; omega)
      rw [hfin] at hO
      have HE := Lib.hid (And.intro hO hG)
      clear hO hG hfin hR hz
      go_wp2
      refine bodyPost_end (results_none rfl _ _ _) rfl ?_
      exact ⟨rfl, HE.out⟩
end Go.Proofs.Ytdcmkiggnmajgaa
