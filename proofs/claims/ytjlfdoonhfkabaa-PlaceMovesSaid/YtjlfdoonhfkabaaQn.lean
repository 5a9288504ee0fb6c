/- Places: the lines of a text and its places. -/
import Derived.Test.YtjlfdoonhfkabaaQc
namespace Go.Proofs.Ytjlfdoonhfkabaa
set_option linter.unusedVariables false
set_option linter.unusedSimpArgs false
open Go

theorem wd_big (s : ByteArray) (i : Nat) (hi : i < s.size) (h : 2 ≤ wd s i) : 194 ≤ bt s i ∧ ∀ x, i < x → x < i + wd s i → 128 ≤ bt s x := by
  have hw : lenN s i ≠ 0 → wd s i = lenN s i := fun h => by unfold wd; rw [if_neg h]
  rcases five s i hi with ⟨_, e, _⟩ | ⟨h1, e, _⟩ | ⟨h1, e, _⟩ | ⟨h1, e, _⟩ | ⟨e, _⟩
  · rw [hw (by omega), e] at h; omega
  · rw [isF2] at h1
    rw [hw (by omega), e]
    refine ⟨by omega, fun x h3 h4 => ?_⟩
    obtain rfl : x = i + 1 := by omega
    omega
  · rw [isF3] at h1
    rw [hw (by omega), e]
    refine ⟨by omega, fun x h3 h4 => ?_⟩
    rcases (by omega : x = i + 1 ∨ x = i + 2) with rfl | rfl <;> omega
  · rw [isF4] at h1
    rw [hw (by omega), e]
    refine ⟨by omega, fun x h3 h4 => ?_⟩
    rcases (by omega : x = i + 1 ∨ x = i + 2 ∨ x = i + 3) with rfl | rfl | rfl <;> omega
  · have : wd s i = 1 := by unfold wd; rw [if_pos e]
    omega
theorem lnE_0 {s : ByteArray} {i : Nat} (h1 : bt s i ≠ 10) (h2 : bt s i ≠ 13) : lnE s i = 0 := by unfold lnE; rw [if_neg h1, if_neg h2]
theorem lnE_ne {s : ByteArray} {i : Nat} (h : lnE s i ≠ 0) : bt s i = 10 ∨ bt s i = 13 := by
  rcases Nat.decEq (bt s i) 10 with h1 | h1
  · rcases Nat.decEq (bt s i) 13 with h2 | h2
    · exact absurd (lnE_0 h1 h2) h
    · exact .inr h2
  · exact .inl h1
theorem lnE_not {s : ByteArray} {i : Nat} (h : lnE s i = 0) : bt s i ≠ 10 ∧ bt s i ≠ 13 := by
  refine ⟨fun e => ?_, fun e => ?_⟩
  · unfold lnE at h; rw [if_pos e] at h; cases h
  · unfold lnE at h; rw [if_neg (by omega), if_pos e] at h; split at h <;> cases h
theorem nl_not {s : ByteArray} {i : Nat} (h1 : bt s i ≠ 10) (h2 : bt s i ≠ 13) : nlAt s i = false := by
  unfold nlAt
  rw [beq_eq_false_iff_ne.2 h1, beq_eq_false_iff_ne.2 h2]; rfl
theorem wd_nl {s : ByteArray} {i : Nat} (hi : i < s.size) (h : bt s i = 10 ∨ bt s i = 13) : wd s i = 1 := by
  have h1 := wd_pos s i
  rcases Nat.lt_or_ge (wd s i) 2 with h2 | h2
  · omega
  · have := (wd_big s i hi h2).1; omega
theorem lnE_inner {s : ByteArray} {q x : Nat} (hq : q < nP s) (h1 : (pK s q).b < x) (h2 : x < (pK s (q + 1)).b) : lnE s x = 0 := by
  have hb : (pK s (q + 1)).b = (pK s q).b + wd s (pK s q).b := rfl
  have := (wd_big s _ (pK_lt s q hq) (by omega)).2 x h1 (by omega)
  exact lnE_0 (by omega) (by omega)
theorem pK_next {s : ByteArray} {q : Nat} (h : nlAt s (pK s q).b = false) : (pK s (q + 1)).l = (pK s q).l ∧ (pK s (q + 1)).c = (pK s q).c + 1 := by
  simp [pK, nxt, h]
theorem pK_line {s : ByteArray} {q : Nat} (h : nlAt s (pK s q).b = true) : (pK s (q + 1)).l = (pK s q).l + 1 ∧ (pK s (q + 1)).c = 0 := by
  simp [pK, nxt, h]

/-- Line k begins at fr, at place j; its end begins at tt, at place g, and has ee bytes; place j2 is the next line's first. -/
structure RowOK (s : ByteArray) (k fr tt ee j g j2 : Nat) : Prop where
  hj : j ≤ g
  hg : g < j2
  h2 : j2 ≤ nP s + 1
  bj : (pK s j).b = fr
  bg : (pK s g).b = tt
  ln : ∀ r, j ≤ r → r < j2 → (pK s r).l = k ∧ (pK s r).c = r - j
  nx : ee ≠ 0 → j2 ≤ nP s ∧ (pK s j2).b = tt + ee
  nz : ee = 0 → j2 = nP s + 1 ∧ tt = s.size
  ne : ∀ x, fr ≤ x → x < tt → lnE s x = 0
  el : tt < s.size → ee = lnE s tt

structure ScanOK (s : ByteArray) (b i k j q : Nat) : Prop where
  hj : j ≤ q
  hq : q ≤ nP s
  bj : (pK s j).b = b
  bq : (pK s q).b ≤ i
  nq : q < nP s → i < (pK s (q + 1)).b
  ln : ∀ r, j ≤ r → r ≤ q → (pK s r).l = k ∧ (pK s r).c = r - j
  ne : ∀ x, b ≤ x → x < i → lnE s x = 0
  hi : i ≤ s.size

theorem scan_one {s : ByteArray} {j : Nat} (hj : j ≤ nP s) {k : Nat} (hl : (pK s j).l = k) (hc : (pK s j).c = 0) : ScanOK s (pK s j).b (pK s j).b k j j :=
  ⟨Nat.le_refl _, hj, rfl, Nat.le_refl _, fun _ => pK_b_succ s j, fun r h1 h2 => by obtain rfl : r = j := by omega
                                                                                    exact ⟨hl, by omega⟩, fun x h1 h2 => by omega, pK_le s j hj⟩

theorem rows_main (s : ByteArray) : ∀ (d b i k j q : Nat), s.size - i = d → ScanOK s b i k j q →
    (rwA s b i).length + k = (pK s (nP s)).l + 1 ∧ ∀ t fr tt ee, (rwA s b i)[t]? = some (fr, tt, ee) → (∃ j g j2, RowOK s (k + t) fr tt ee j g j2) ∧ (∀ fr' tt' ee', (rwA s b i)[t + 1]? = some (fr', tt', ee') → fr' = tt + ee) ∧
      (t + 1 = (rwA s b i).length ↔ ee = 0) ∧ (t = 0 → fr = b) := by
  intro d
  induction d using Nat.strongRecOn with
  | _ d ih =>
    intro b i k j q hd h
    rcases Nat.lt_or_ge i s.size with hi | hi
    · have hqn : q < nP s := nP_of_lt s q h.hq (Nat.lt_of_le_of_lt h.bq hi)
      have hnx := h.nq hqn
      have hbs : (pK s (q + 1)).b = (pK s q).b + wd s (pK s q).b := rfl
      by_cases he : lnE s i = 0
      · rw [rwA_on s b i hi he]
        have hnl : nlAt s (pK s q).b = false := by
          rcases Nat.lt_or_ge (pK s q).b i with h1 | h1
          · have := (wd_big s _ (pK_lt s q hqn) (by omega)).1
            exact nl_not (by omega) (by omega)
          · have e : (pK s q).b = i := by have := h.bq; omega
            rw [e]; exact nl_not (lnE_not he).1 (lnE_not he).2
        have hne : ∀ x, b ≤ x → x < i + 1 → lnE s x = 0 := fun x h1 h2 => by
          rcases Nat.lt_or_ge x i with h3 | h3
          · exact h.ne x h1 h3
          · obtain rfl : x = i := by omega
            exact he
        rcases Nat.lt_or_ge (i + 1) (pK s (q + 1)).b with h1 | h1
        · exact ih (s.size - (i + 1)) (by omega) b (i + 1) k j q rfl ⟨h.hj, h.hq, h.bj, by have := h.bq; omega, fun _ => h1, h.ln, hne, hi⟩
        · obtain ⟨n1, n2⟩ := pK_next hnl
          obtain ⟨l1, l2⟩ := h.ln q h.hj (Nat.le_refl _)
          refine ih (s.size - (i + 1)) (by omega) b (i + 1) k j (q + 1) rfl ⟨by have := h.hj; omega, hqn, h.bj, by omega, fun _ => by have := pK_b_succ s (q + 1); omega, fun r h2 h3 => ?_, hne, hi⟩
          rcases Nat.lt_or_ge r (q + 1) with h4 | h4
          · exact h.ln r h2 (by omega)
          · obtain rfl : r = q + 1 := by omega
            exact ⟨by omega, by have := h.hj; omega⟩
      · have hbq : (pK s q).b = i := by
          rcases Nat.lt_or_ge (pK s q).b i with h1 | h1
          · exact absurd (lnE_inner hqn h1 hnx) he
          · have := h.bq; omega
        have hw := wd_nl hi (lnE_ne he)
        have hb1 : (pK s (q + 1)).b = i + 1 := by rw [hbs, hbq, hw]
        obtain ⟨l1, l2⟩ := h.ln q h.hj (Nat.le_refl _)
        -- the row, and the place at which the next line begins
        obtain ⟨j2, hj2, hj2n, hb2, hl2, hc2, hln⟩ : ∃ j2, q < j2 ∧ j2 ≤ nP s ∧ (pK s j2).b = i + lnE s i ∧ (pK s j2).l = k + 1 ∧ (pK s j2).c = 0 ∧ ∀ r, j ≤ r → r < j2 → (pK s r).l = k ∧ (pK s r).c = r - j := by
          by_cases hlf : bt s i = 13 ∧ lfAt s (i + 1) = true
          · obtain ⟨h13, hlf⟩ := hlf
            have hE : lnE s i = 2 := by unfold lnE; rw [if_neg (by omega), if_pos h13, if_pos hlf]
            have hlf2 := hlf
            simp only [lfAt, Bool.and_eq_true, decide_eq_true_eq, beq_iff_eq] at hlf2
            have hn0 : nlAt s (pK s q).b = false := by rw [hbq]; unfold nlAt; rw [hlf]; simp [h13]
            obtain ⟨n1, n2⟩ := pK_next hn0
            have hq1 : q + 1 < nP s := nP_of_lt s (q + 1) hqn (by rw [hb1]; exact hlf2.1)
            have hn1 : nlAt s (pK s (q + 1)).b = true := by rw [hb1]; unfold nlAt; rw [hlf2.2]; rfl
            obtain ⟨m1, m2⟩ := pK_line hn1
            have hbb : (pK s (q + 2)).b = (pK s (q + 1)).b + wd s (pK s (q + 1)).b := rfl
            rw [hb1, wd_nl hlf2.1 (.inl hlf2.2)] at hbb
            refine ⟨q + 2, by omega, hq1, by rw [hbb, hE], by rw [show (pK s (q + 2)).l = _ from m1]; omega, m2, fun r h2 h3 => ?_⟩
            rcases Nat.lt_or_ge r (q + 1) with h4 | h4
            · exact h.ln r h2 (by omega)
            · obtain rfl : r = q + 1 := by omega
              exact ⟨by omega, by have := h.hj; omega⟩
          · have hn0 : nlAt s (pK s q).b = true := by
              rw [hbq]
              unfold nlAt
              rcases lnE_ne he with h1 | h1
              · rw [h1]; rfl
              · have h3 : lfAt s (i + 1) = false := by
                  cases h4 : lfAt s (i + 1) with
                  | false => rfl
                  | true => exact absurd ⟨h1, h4⟩ hlf
                rw [h1, h3]; rfl
            have hE : lnE s i = 1 := by
              unfold lnE
              rcases lnE_ne he with h1 | h1
              · rw [if_pos h1]
              · rw [if_neg (by omega), if_pos h1, if_neg (fun h4 => hlf ⟨h1, h4⟩)]
            obtain ⟨m1, m2⟩ := pK_line hn0
            exact ⟨q + 1, by omega, hqn, by rw [hb1, hE], by omega, m2, fun r h2 h3 => h.ln r h2 (by omega)⟩
        have hle := lnE_le s i
        have hpos : 0 < lnE s i := by omega
        rw [rwA_line s b i hi he]
        have hsz : i + lnE s i ≤ s.size := lnE_fits s i hi
        have IH := ih (s.size - (i + lnE s i)) (by omega) (i + lnE s i) (i + lnE s i) (k + 1) j2 j2 rfl (hb2 ▸ scan_one hj2n hl2 hc2)
        obtain ⟨IH1, IH2⟩ := IH
        refine ⟨by rw [List.length_cons]; omega, fun t fr tt ee ht => ?_⟩
        cases t with
        | zero =>
          simp only [List.getElem?_cons_zero, Option.some.injEq, Prod.mk.injEq] at ht
          obtain ⟨rfl, rfl, rfl⟩ := ht
          refine ⟨⟨j, q, j2, h.hj, hj2, by omega, h.bj, hbq, hln, fun _ => ⟨hj2n, hb2⟩, fun h0 => absurd h0 he, h.ne, fun _ => rfl⟩, fun fr' tt' ee' h1 => ?_, ⟨fun h1 => ?_, fun h1 => absurd h1 he⟩, fun _ => rfl⟩
          · rw [List.getElem?_cons_succ] at h1
            exact (IH2 0 _ _ _ h1).2.2.2 rfl
          · rw [List.length_cons] at h1
            have h2 : (pK s (nP s)).l = k := by omega
            have h3 := pK_l_le s hj2n
            omega
        | succ t =>
          rw [List.getElem?_cons_succ] at ht
          obtain ⟨⟨j', g', j2', hR⟩, h4, h5, _⟩ := IH2 t fr tt ee ht
          refine ⟨⟨j', g', j2', by rw [show k + (t + 1) = k + 1 + t by omega]; exact hR⟩, fun fr' tt' ee' h1 => h4 fr' tt' ee' (by rw [List.getElem?_cons_succ] at h1; exact h1), ?_, fun h0 => by omega⟩
          rw [List.length_cons, ← h5]
          omega
    · have hie : i = s.size := by have := h.hi; omega
      have hqn : q = nP s := by
        rcases Nat.lt_or_ge q (nP s) with h1 | h1
        · have h2 := h.nq h1
          have h3 := pK_le s (q + 1) h1
          omega
        · have := h.hq; omega
      obtain ⟨l1, l2⟩ := h.ln q h.hj (Nat.le_refl _)
      rw [rwA_end s b i hi]
      refine ⟨by rw [← hqn, l1]; simp; omega, fun t fr tt ee ht => ?_⟩
      cases t with
      | succ t => simp at ht
      | zero =>
        simp only [List.getElem?_cons_zero, Option.some.injEq, Prod.mk.injEq] at ht
        obtain ⟨rfl, rfl, rfl⟩ := ht
        refine ⟨⟨j, q, nP s + 1, h.hj, by omega, Nat.le_refl _, h.bj, by rw [hqn]; exact pK_end s, fun r h2 h3 => h.ln r h2 (by omega), fun h0 => absurd rfl h0, fun _ => ⟨rfl, rfl⟩, fun x h2 h3 => h.ne x h2 (by omega), fun h0 => absurd h0 (Nat.lt_irrefl _)⟩, fun fr' tt' ee' h1 => by simp at h1, by simp, fun _ => rfl⟩

/-- The lines of a text. -/
theorem rows_count (s : ByteArray) : (rws s).length = (pK s (nP s)).l + 1 := (rows_main s _ 0 0 0 0 0 rfl (scan_one (Nat.zero_le _) rfl rfl)).1
theorem rows_at {s : ByteArray} {k fr tt ee : Nat} (h : (rws s)[k]? = some (fr, tt, ee)) : (∃ j g j2, RowOK s k fr tt ee j g j2) ∧ (∀ fr' tt' ee', (rws s)[k + 1]? = some (fr', tt', ee') → fr' = tt + ee) ∧ (k + 1 = (rws s).length ↔ ee = 0) ∧ (k = 0 → fr = 0) := by
  have := (rows_main s _ 0 0 0 0 0 rfl (scan_one (Nat.zero_le _) rfl rfl)).2 k fr tt ee h
  rw [Nat.zero_add] at this
  exact this
end Go.Proofs.Ytjlfdoonhfkabaa
