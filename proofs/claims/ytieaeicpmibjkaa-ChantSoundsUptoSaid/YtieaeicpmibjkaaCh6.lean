/- Stage 31: some; Sounding, the program's and the document's. -/
import Derived.Test.YtieaeicpmibjkaaCh5
namespace Go.Proofs.Ytieaeicpmibjkaa
set_option linter.unusedVariables false
set_option linter.unusedSimpArgs false
open Go Go.RowKit Go.Shelf
set_option maxRecDepth 100000

/-- Voices that came in. -/
def VoicesIn (w : World) (o : Option Addr) (vs : List (List Nt)) : Prop := ∀ k l, vs[k]? = some l → ∃ g off ol cap, o = some ⟨g, off, none⟩ ∧ w.cell? ⟨g, off + k, none⟩ = some (.slice ol l.length cap) ∧ RowAt w encN 6 ol l ∧ ((ol = none ∧ cap = 0 ∧ l.length = 0) ∨ ∃ a, ol = some a ∧ l.length ≤ cap ∧ cap ≤ 9223372036854775807)
theorem VoicesIn.at (w : World) {o : Option Addr} {vs : List (List Nt)} (h : VoicesIn w o vs) : VoicesAt w o vs := fun k l hk => by
  obtain ⟨g, off, ol, cap, h1, h2, h3, _⟩ := h k l hk
  exact ⟨g, off, ol, cap, h1, h2, h3⟩
def someV (vs : List (List Nt)) : List (List Nt) := (vs.take 17).map (List.take 60)
theorem someV_len (vs : List (List Nt)) : (someV vs).length = min 17 vs.length := by simp [someV]
theorem someV_get {vs : List (List Nt)} {k : Nat} {l : List Nt} (h : (someV vs)[k]? = some l) : ∃ l0, vs[k]? = some l0 ∧ l = l0.take 60 ∧ k < 17 := by
  unfold someV at h
  rw [List.getElem?_map, List.getElem?_take] at h
  by_cases hk : k < 17
  · rw [if_pos hk] at h
    cases e : vs[k]? with
    | none => rw [e] at h; cases h
    | some l0 => rw [e] at h; cases h; exact ⟨l0, rfl, rfl, hk⟩
  · rw [if_neg hk] at h; cases h
theorem some_tot (vs : List (List Nt)) : tot (someV vs) ≤ 1020 := by
  have h : ∀ (l : List (List Nt)), (∀ x ∈ l, x.length ≤ 60) → tot l ≤ l.length * 60 := by
    intro l
    induction l with
    | nil => intro _; simp [tot]
    | cons a l ih =>
      intro h
      have h1 := ih fun x hx => h x (List.mem_cons_of_mem _ hx)
      have h2 := h a List.mem_cons_self
      have : tot (a :: l) = a.length + tot l := by simp [tot]
      rw [this, List.length_cons]; omega
  have h1 := h (someV vs) (fun x hx => by
    obtain ⟨k, hk⟩ := List.getElem?_of_mem hx
    obtain ⟨l0, _, rfl, _⟩ := someV_get hk
    simp; omega)
  have := someV_len vs
  omega
theorem rowAt_take {w : World} {o : Option Addr} {l : List Nt} (h : RowAt w encN 6 o l) (n : Nat) : RowAt w encN 6 o (l.take n) := fun i x hi => by
  rw [List.getElem?_take] at hi
  by_cases hk : i < n
  · rw [if_pos hk] at hi; exact h i x hi
  · rw [if_neg hk] at hi; cases hi

theorem infoNotes : (Try.prog.info? 27).map (fun i => (i.zero, i.size, i.bytes)) = some (some (.slice none 0 0), 1, 24) := by kernel_rfl

/-- What is collected. -/
def SvOK (w : World) (vs : List (List Nt)) (k : Nat) (sv : List Value) : Prop := sv.length = k ∧ ∀ i l, i < k → vs[i]? = some l → ∃ ol cp, sv[i]? = some (.slice ol (min l.length 60) cp) ∧ RowAt w encN 6 ol l
theorem SvOK.next {w : World} {vs : List (List Nt)} {k : Nat} {sv : List Value} {l : List Nt} {ol : Option Addr} {cp : Nat} (h : SvOK w vs k sv) (hl : vs[k]? = some l) (hr : RowAt w encN 6 ol l) : SvOK w vs (k + 1) (sv ++ [.slice ol (min l.length 60) cp]) := by
  refine ⟨by simp [h.1], fun i l' hi hl' => ?_⟩
  by_cases hik : i < k
  · obtain ⟨ol', cp', h1, h2⟩ := h.2 i l' hik hl'
    exact ⟨ol', cp', by rw [List.getElem?_append_left (by rw [h.1]; exact hik)]; exact h1, h2⟩
  · obtain rfl : i = k := by omega
    rw [hl] at hl'
    cases hl'
    exact ⟨ol, cp, by rw [List.getElem?_append_right (by rw [h.1]; omega), h.1]; simp, hr⟩
theorem SvOK.voices {w w' : World} {vs : List (List Nt)} {base cap k : Nat} {o : Option Addr} {sv : List Value} (h : SvOK w vs k sv) (hk : k = min 17 vs.length) (hown : w'.ownsRow base 27 1 (.slice o k cap) k sv) (hB : Below w.heap.size w w') : VoicesAt w' o (someV vs) := by
  intro i l hi
  obtain ⟨l0, hl0, rfl, hi17⟩ := someV_get hi
  have hil : i < vs.length := (List.getElem?_eq_some_iff.1 hl0).1
  obtain ⟨ol, cp, h1, h2⟩ := h.2 i l0 (by omega) hl0
  obtain ⟨o', cap', e', ho⟩ := own_slice hown
  obtain ⟨g, hg⟩ := ho (by omega)
  cases e'
  subst hg
  refine ⟨g, 0, ol, cp, rfl, ?_, rowAt_take (h2.below encN_len (by decide) hB) 60⟩
  rw [Nat.zero_add]
  have hc := hown.cellAt i (by omega)
  rw [hc, h1, List.length_take, Nat.min_comm]

def SoI (vs : List (List Nt)) (w : World) (i out : Value) (wr : World) : Prop := ∃ (k : Nat) (v : Value) (sv : List Value), i = .int .i64 k ∧ v = out ∧ k ≤ min 17 vs.length ∧ SvOK w vs k sv ∧ wr.ownsRow w.heap.size 27 1 v k sv ∧ Below w.heap.size w wr

set_option maxHeartbeats 8000000 in
theorem some_any (vs : List (List Nt)) (o : Option Addr) (cap : Nat) (hn : vs.length ≤ 9223372036854775807) (w : World) (hv : VoicesIn w o vs) :
    Calls Try.prog 23 #[.slice o vs.length cap] w fun e w' => ∃ (o' : Option Addr) (cap' : Nat), e = .returned (.slice o' (someV vs).length cap') ∧ VoicesAt w' o' (someV vs) ∧ Below w.heap.size w w' := by
  obtain ⟨i0, hi, hz0, hz1, hz2⟩ := info_parts infoNotes
  rw [someV_len]
  go_enter Try.func23, Try.ntmps23
  go_wp2
  go_loopw [8, 3] (SoI vs w) (fun i _ _ => vs.length - (intOf i).toNat)
  case atStart => exact ⟨0, _, [], rfl, rfl, by omega, ⟨rfl, fun i l h => absurd h (by omega)⟩, World.ownsRow_nil _ _ _ _, Below.refl _ _⟩
  case round =>
    obtain ⟨k, out, sv, rfl, rfl, hk, hsv, hown, hB⟩ := hrel
    have fin : k = min 17 vs.length → ∃ (o' : Option Addr) (cap' : Nat), out = .slice o' (min 17 vs.length) cap' ∧ VoicesAt wr o' (someV vs) ∧ Below w.heap.size w wr := fun he => by
      obtain ⟨o', cap', rfl, _⟩ := own_slice hown
      exact ⟨o', cap', by rw [he], hsv.voices he hown hB, hB⟩
    have HF := Lib.hid fin
    clear fin
    by_cases hlt : k < vs.length
    · by_cases h17 : k = 17
      · have e17 : ((k : Int) == 17) = true := by rw [h17]; rfl
        obtain ⟨l, hl⟩ : ∃ l, vs[k]? = some l := ⟨_, List.getElem?_eq_getElem hlt⟩
        obtain ⟨g, off, ol, cp, rfl, hc0, _⟩ := hv k l hl
        have hc : wr.cell? ⟨g, off + k, none⟩ = some (.slice ol l.length cp) := by rw [hB.cell (p := ⟨g, off + k, none⟩) (lt_cell hc0)]; exact hc0
        obtain ⟨o', cap', rfl, hV, hB'⟩ := HF.out (by omega)
        have HR := Lib.hid (And.intro hV hB')
        have H17 := Lib.hid h17
        clear hv hl hown hB hsv hc0 hV hB' h17 hk
        go_wp2
        go_ret
        exact ⟨o', cap', rfl, HR.out.1, HR.out.2⟩
      · have e17 : ((k : Int) == 17) = false := by rw [beq_eq_false_iff_ne]; omega
        obtain ⟨l, hl⟩ : ∃ l, vs[k]? = some l := ⟨_, List.getElem?_eq_getElem hlt⟩
        obtain ⟨g, off, ol, cp, rfl, hc0, hr0, hform⟩ := hv k l hl
        have hc : wr.cell? ⟨g, off + k, none⟩ = some (.slice ol l.length cp) := by rw [hB.cell (p := ⟨g, off + k, none⟩) (lt_cell hc0)]; exact hc0
        have hsz := hB.size
        have hnext := SvOK.next (cp := cp) hsv hl hr0
        have hmin : min (l.length : Int) 60 = ((min l.length 60 : Nat) : Int) := by omega
        have hk2 : k + 1 ≤ min 17 vs.length := by omega
        have hm60 : min l.length 60 ≤ l.length := Nat.min_le_left _ _
        obtain ⟨m, hm⟩ : ∃ m, min l.length 60 = m := ⟨_, rfl⟩
        rw [hm] at hnext hmin hm60
        obtain ⟨n, hnn⟩ : ∃ n, l.length = n := ⟨_, rfl⟩
        rw [hnn] at hc hform hmin hm60
        have HS := Lib.hid (And.intro hnext (And.intro hB hk2))
        obtain ⟨oo, oc, rfl, _⟩ := own_slice hown
        have hk60 : m ≤ 60 := by omega
        have hk17 : k ≤ 17 := by omega
        clear hv hl hB hsv hc0 hr0 hnext hk2 hm hnn hk
        rcases hform with ⟨rfl, rfl, h0⟩ | ⟨a, rfl, h1, h2⟩
        · subst h0
          obtain rfl : m = 0 := by omega
          clear hmin
          have hmin : min (0 : Int) 60 = 0 := by decide
          have HB2 := Lib.hid (And.intro (HS.out.2.1.alloc hsz (.cells #[.slice none 0 0] 27)) (hown.alloc (.cells #[.slice none 0 0] 27)))
          clear hown
          go_wp2_with (at_builtin; refine wpList_append_own _ rfl _ _ 39 rfl w.heap.size 27 i0 (.slice none 0 0) 1 24 Try.underlying39 hi hz0 hz1 hz2 rfl (by decide) _ _ _ rfl HB2.out.2 ⟨wr.heap.size, 0, none⟩ 1 1 [.slice none 0 0] rfl rfl (World.news_of_block (cs := #[.slice none 0 0]) (t := 27) (fr := (0, 0)) (World.alloc_heap_new wr _)) (fun x hx => by simp at hx; rcases hx with rfl; rfl) (by unfold maxLen; omega) (by omega) (by simp; omega) ?_; intro v' w2 hown' hgrow _)
          go_roundw
          case rel => exact ⟨k + 1, v', sv ++ [.slice none 0 0], by go_num, rfl, HS.out.2.2, HS.out.1, hown', HB2.out.1.grown hgrow (by simp; omega) (fun r hr => (HB2.out.2.lt r hr).1)⟩
          case measure => simp [intOf]; omega
        · have q1 : m ≤ cp := by omega
          have HB2 := Lib.hid (And.intro (HS.out.2.1.alloc hsz (.cells #[.slice (some a) m cp] 27)) (hown.alloc (.cells #[.slice (some a) m cp] 27)))
          clear hown
          go_wp2_with (at_builtin; refine wpList_append_own _ rfl _ _ 39 rfl w.heap.size 27 i0 (.slice none 0 0) 1 24 Try.underlying39 hi hz0 hz1 hz2 rfl (by decide) _ _ _ rfl HB2.out.2 ⟨wr.heap.size, 0, none⟩ 1 1 [.slice (some a) m cp] rfl rfl (World.news_of_block (cs := #[.slice (some a) m cp]) (t := 27) (fr := (0, 0)) (World.alloc_heap_new wr _)) (fun x hx => by simp at hx; rcases hx with rfl; rfl) (by unfold maxLen; omega) (by omega) (by simp; omega) ?_; intro v' w2 hown' hgrow _)
          go_roundw
          case rel => exact ⟨k + 1, v', sv ++ [.slice (some a) m cp], by go_num, rfl, HS.out.2.2, HS.out.1, hown', HB2.out.1.grown hgrow (by simp; omega) (fun r hr => (HB2.out.2.lt r hr).1)⟩
          case measure => simp [intOf]; omega
    · obtain ⟨o', cap', rfl, hV, hB'⟩ := HF.out (by omega)
      have HR := Lib.hid (And.intro hV hB')
      clear hv hown hB hsv hV hB' hk
      go_wp2
      go_ret
      exact ⟨o', cap', rfl, HR.out.1, HR.out.2⟩
end Go.Proofs.Ytieaeicpmibjkaa
