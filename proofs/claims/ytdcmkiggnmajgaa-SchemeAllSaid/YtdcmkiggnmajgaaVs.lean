/- Stage 16: slices.Clone. -/
import Derived.Test.YtdcmkiggnmajgaaV7
namespace Go.Proofs.Ytdcmkiggnmajgaa
set_option linter.unusedVariables false
set_option linter.unusedSimpArgs false
open Go Go.RowKit Go.Shelf
set_option maxRecDepth 100000

theorem add_at0 (b o k : Nat) : (⟨b, o, none⟩ : Addr).add k = ⟨b, o + k, none⟩ := by
  unfold Addr.add
  by_cases h : k = 0
  · subst h; simp
  · simp [h]
theorem rowAt_news {α : Type} {enc : α → List Value} {k : Nat} (hk : ∀ x, (enc x).length = k) (hk0 : 0 < k) {w : World} {g off : Nat} {l : List α} (h : RowAt w enc k (some ⟨g, off, none⟩) l) : ∀ j u, (l.flatMap enc)[j]? = some u → w.cell? ((⟨g, off, none⟩ : Addr).add j) = some u := by
  intro j u hu
  have hj : j < l.length * k := by rw [← fl_len hk]; exact (List.getElem?_eq_some_iff.1 hu).1
  have hjl : j / k < l.length := by rw [Nat.div_lt_iff_lt_mul hk0]; exact hj
  obtain ⟨x, hx⟩ : ∃ x, l[j / k]? = some x := ⟨_, List.getElem?_eq_getElem hjl⟩
  obtain ⟨g', off', e, hc⟩ := h _ x hx
  cases e
  have h1 := fl_get hk hx (Nat.mod_lt j hk0)
  have h2 := Nat.div_add_mod j k
  rw [Nat.mul_comm] at h2
  rw [h2, hu] at h1
  rw [add_at0]
  have h3 := hc (j % k) (Nat.mod_lt j hk0)
  rw [Nat.add_assoc, h2] at h3
  rw [h3, ← h1]
theorem encR_one (l : List Rh) : ∀ u ∈ l.flatMap encR, u.oneCell' = true := by
  intro u hu
  obtain ⟨x, _, hx⟩ := List.mem_flatMap.1 hu
  simp [encR] at hx
  rcases hx with rfl | rfl <;> rfl
theorem encI_one (l : List Int) : ∀ u ∈ l.flatMap encI, u.oneCell' = true := by
  intro u hu
  obtain ⟨x, _, hx⟩ := List.mem_flatMap.1 hu
  simp [encI] at hx
  subst hx; rfl

theorem cloneR_any (l : List Rh) (o : Option Addr) (c : Nat) (hf : NForm o l.length c) (hn : l.length ≤ 1048576) (w : World) (hr : RowAt w encR 2 o l) :
    Calls Try.prog 55 #[.slice o l.length c] w fun e w' => ∃ v, e = .returned v ∧ w'.ownsRow w.heap.size 79 2 v l.length (l.flatMap encR) ∧ Below w.heap.size w w' := by
  obtain ⟨i0, hi, hz0, hz1, hz2⟩ := info_parts infoRhyme
  obtain ⟨n, hnn⟩ : ∃ n, l.length = n := ⟨_, rfl⟩
  have HN := Lib.hid hnn
  rw [hnn] at hf hn ⊢
  clear hnn
  rcases hf with ⟨rfl, rfl, rfl⟩ | ⟨a, rfl, hnc, hcm⟩
  · have hl : l = [] := List.eq_nil_of_length_eq_zero HN.out
    subst hl
    clear HN
    have hnil : ∀ W, (binOp .eql 22 (.slice none 0 0) (.slice none 0 0)).run Try.prog W = .ok (.bool true) W := fun W => by kernel_rfl
    go_enter Try.func55, Try.ntmps55
    go_wp2
    go_ret
    exact ⟨_, rfl, World.ownsRow_nil _ _ _ _, Below.refl _ _⟩
  · have hnews : ∀ j u, (l.flatMap encR)[j]? = some u → (w.alloc (.cells #[] 79)).cell? (a.add j) = some u := by
      intro j u hu
      have h0 : 0 < l.length := by
        cases l with
        | nil => simp at hu
        | cons x r => simp
      obtain ⟨x, hx⟩ : ∃ x, l[0]? = some x := ⟨_, List.getElem?_eq_getElem h0⟩
      obtain ⟨g, off, e, _⟩ := hr 0 x hx
      cases e
      exact rowAt_news encR_len (by decide) (hr.below encR_len (by decide) ((Below.refl _ w).alloc (Nat.le_refl _) _)) j u hu
    have hlen : (l.flatMap encR).length = n * 2 := by rw [fl_len encR_len, HN.out]
    have hone := encR_one l
    have HH := Lib.hid (And.intro hnews (And.intro hlen hone))
    clear hnews hlen hone
    have hown : (w.alloc (.cells #[] 79)).ownsRow w.heap.size 79 2 (.slice (some ⟨w.heap.size, 0, none⟩) 0 0) 0 [] := World.ownsRow_made w #[] 0 (Nat.le_refl _) (Nat.zero_le _) rfl
    have HO := Lib.hid hown
    clear hown
    have hnil : ∀ W, (binOp .eql 22 (.slice (some a) n c) (.slice none 0 0)).run Try.prog W = .ok (.bool false) W := fun W => by kernel_rfl
    go_enter Try.func55, Try.ntmps55
    go_wp2_with (at_builtin; refine wpList_append_own _ rfl _ _ 22 rfl w.heap.size 79 i0 (.agg #[.int .i64 0, .int .i64 0]) 2 16 Try.underlying22 hi hz0 hz1 hz2 rfl (by decide) _ _ _ rfl HO.out a n c (l.flatMap encR) rfl HH.out.2.1 HH.out.1 HH.out.2.2 (by unfold maxLen; omega) (by omega) (by simp) ?_; intro v2 w2 hown2 hg2 _; have HW := Lib.hid (And.intro hown2 hg2); obtain ⟨o2, c2, rfl, _⟩ := own_slice hown2; clear hown2 hg2)
    go_ret
    refine ⟨_, rfl, by have := HW.out.1; rw [Nat.zero_add, List.nil_append] at this; exact this, ?_⟩
    exact ((Below.refl _ w).alloc (Nat.le_refl _) _).grown HW.out.2 (by simp) (fun r e => by cases e; exact Nat.le_refl _)

theorem cloneI_any (l : List Int) (o : Option Addr) (c : Nat) (hf : NForm o l.length c) (hn : l.length ≤ 1048576) (w : World) (hr : RowAt w encI 1 o l) :
    Calls Try.prog 56 #[.slice o l.length c] w fun e w' => ∃ v, e = .returned v ∧ w'.ownsRow w.heap.size 3 1 v l.length (l.flatMap encI) ∧ Below w.heap.size w w' := by
  obtain ⟨i0, hi, hz0, hz1, hz2⟩ := info_parts infoInt
  obtain ⟨n, hnn⟩ : ∃ n, l.length = n := ⟨_, rfl⟩
  have HN := Lib.hid hnn
  rw [hnn] at hf hn ⊢
  clear hnn
  rcases hf with ⟨rfl, rfl, rfl⟩ | ⟨a, rfl, hnc, hcm⟩
  · have hl : l = [] := List.eq_nil_of_length_eq_zero HN.out
    subst hl
    clear HN
    have hnil : ∀ W, (binOp .eql 23 (.slice none 0 0) (.slice none 0 0)).run Try.prog W = .ok (.bool true) W := fun W => by kernel_rfl
    go_enter Try.func56, Try.ntmps56
    go_wp2
    go_ret
    exact ⟨_, rfl, World.ownsRow_nil _ _ _ _, Below.refl _ _⟩
  · have hnews : ∀ j u, (l.flatMap encI)[j]? = some u → (w.alloc (.cells #[] 3)).cell? (a.add j) = some u := by
      intro j u hu
      have h0 : 0 < l.length := by
        cases l with
        | nil => simp at hu
        | cons x r => simp
      obtain ⟨x, hx⟩ : ∃ x, l[0]? = some x := ⟨_, List.getElem?_eq_getElem h0⟩
      obtain ⟨g, off, e, _⟩ := hr 0 x hx
      cases e
      exact rowAt_news encI_len (by decide) (hr.below encI_len (by decide) ((Below.refl _ w).alloc (Nat.le_refl _) _)) j u hu
    have hlen : (l.flatMap encI).length = n * 1 := by rw [fl_len encI_len, HN.out]
    have hone := encI_one l
    have HH := Lib.hid (And.intro hnews (And.intro hlen hone))
    clear hnews hlen hone
    have hown : (w.alloc (.cells #[] 3)).ownsRow w.heap.size 3 1 (.slice (some ⟨w.heap.size, 0, none⟩) 0 0) 0 [] := World.ownsRow_made w #[] 0 (Nat.le_refl _) (Nat.zero_le _) rfl
    have HO := Lib.hid hown
    clear hown
    have hnil : ∀ W, (binOp .eql 23 (.slice (some a) n c) (.slice none 0 0)).run Try.prog W = .ok (.bool false) W := fun W => by kernel_rfl
    go_enter Try.func56, Try.ntmps56
    go_wp2_with (at_builtin; refine wpList_append_own _ rfl _ _ 23 rfl w.heap.size 3 i0 (.int .i64 0) 1 8 Try.underlying23 hi hz0 hz1 hz2 rfl (by decide) _ _ _ rfl HO.out a n c (l.flatMap encI) rfl HH.out.2.1 HH.out.1 HH.out.2.2 (by unfold maxLen; omega) (by omega) (by simp) ?_; intro v2 w2 hown2 hg2 _; have HW := Lib.hid (And.intro hown2 hg2); obtain ⟨o2, c2, rfl, _⟩ := own_slice hown2; clear hown2 hg2)
    go_ret
    refine ⟨_, rfl, by have := HW.out.1; rw [Nat.zero_add, List.nil_append] at this; exact this, ?_⟩
    exact ((Below.refl _ w).alloc (Nat.le_refl _) _).grown HW.out.2 (by simp) (fun r e => by cases e; exact Nat.le_refl _)
end Go.Proofs.Ytdcmkiggnmajgaa
