/- Stage 16: Turn, the document's. -/
import Derived.Test.YtdcmkiggnmajgaaXc
import Derived.Test.YtdcmkiggnmajgaaXb
namespace Go.Proofs.Ytdcmkiggnmajgaa
set_option linter.unusedVariables false
set_option linter.unusedSimpArgs false
open Go Go.RowKit Go.Shelf
set_option maxRecDepth 100000

/-- A scheme of its own in a block, being written. -/
structure TnS (w X : World) (box : Array Value) (b : Nat) (o4 : Option Addr) (c4 : Nat) (o5 : Option Addr) (c5 : Nat) (n m : Nat) (LL : List Rh) (SS : List Int) : Prop where
  res : Blk X (w.heap.size + 1) #[.slice none 0 0, .slice none 0 0] 25
  box : Blk X w.heap.size box 25
  out : Blk X b #[.slice o4 n c4, .slice o5 m c5] 25
  rowL : X.ownsRow (w.heap.size + 2) 79 2 (.slice o4 n c4) n (LL.flatMap encR)
  rowS : X.ownsRow (w.heap.size + 2) 3 1 (.slice o5 m c5) m (SS.flatMap encI)
  bel : Below w.heap.size w X
  lenL : LL.length = n
  lenS : SS.length = m
section
variable {w X Y : World} {box : Array Value} {b : Nat} {o4 o5 : Option Addr} {c4 c5 n m g : Nat} {LL : List Rh} {SS : List Int}
theorem TnS.below (h : TnS w X box b o4 c4 o5 c5 n m LL SS) (hb : Below X.heap.size X Y) : TnS w Y box b o4 c4 o5 c5 n m LL SS := by
  obtain ⟨h1, h2, h3, h7, h8, h9, h10, h11⟩ := h
  exact ⟨h1.below' hb, h2.below' hb, h3.below' hb, own_below h7 hb, own_below h8 hb, h9.trans (hb.mono h9.size), h10, h11⟩
/-- A cell of the lines is written. -/
theorem TnS.cellL (h : TnS w X box b (some ⟨g, 0, none⟩) c4 o5 c5 n m LL SS) (p : Nat) (v : Value) : ∀ LL' : List Rh, LL'.length = n → (X.setCell ⟨g, p, none⟩ v).ownsRow (w.heap.size + 2) 79 2 (.slice (some ⟨g, 0, none⟩) n c4) n (LL'.flatMap encR) → TnS w (X.setCell ⟨g, p, none⟩ v) box b (some ⟨g, 0, none⟩) c4 o5 c5 n m LL' SS := by
  intro LL' hl hrow
  obtain ⟨h1, h2, h3, h7, h8, h9, h10, h11⟩ := h
  have hg := (h7.lt g rfl).1
  have n3 : g ≠ b := fun e => (h3.not_row (by decide) h7) (by rw [e]; rfl)
  refine ⟨h1.other (by omega) _ _, h2.other (by omega) _ _, h3.other n3.symm _ _, hrow, h8.kept (grownBy_setCell X g p _) ?_, h9.setCell (p := ⟨g, p, none⟩) (by dsimp only; omega) _, hl, h11⟩
  have := rows_apart h8 h7 ne_IR
  simpa [Value.ownBlock] using this
/-- The class of a line is written. -/
theorem TnS.cls (h : TnS w X box b (some ⟨g, 0, none⟩) c4 o5 c5 n m LL SS) {k : Nat} {x : Rh} (hx : LL[k]? = some x) (c : Int) : TnS w (X.setCell ⟨g, k * 2, none⟩ (.int .i64 c)) box b (some ⟨g, 0, none⟩) c4 o5 c5 n m (LL.set k ⟨c, x.r⟩) SS := by
  have hk := (List.getElem?_eq_some_iff.1 hx).1
  have hl := h.lenL
  refine h.cellL _ _ _ (by simp [hl]) ?_
  have h10 := own_setK h.rowL (o := k * 2) (by omega) (.int .i64 c)
  have h11 := fl_set (enc := encR) (k := 2) encR_len hx (j := 0) (y := ⟨c, x.r⟩) (v := .int .i64 c) (by decide) rfl
  rw [Nat.add_zero] at h11
  rw [h11] at h10
  exact h10
/-- A whole line is written. -/
theorem TnS.lin (h : TnS w X box b (some ⟨g, 0, none⟩) c4 o5 c5 n m LL SS) {k : Nat} (hk : k < n) (x : Rh) : TnS w ((X.setCell ⟨g, k * 2, none⟩ (.int .i64 x.c)).setCell ⟨g, k * 2 + 1, none⟩ (.int .i64 x.r)) box b (some ⟨g, 0, none⟩) c4 o5 c5 n m (LL.set k x) SS := by
  have hl := h.lenL
  obtain ⟨y, hy⟩ : ∃ y, LL[k]? = some y := ⟨_, List.getElem?_eq_getElem (by omega)⟩
  refine (h.cls hy x.c).cellL _ _ _ (by simp [hl]) ?_
  exact putR h.rowL hk hl
/-- A stanza is written. -/
theorem TnS.sta (h : TnS w X box b o4 c4 (some ⟨g, 0, none⟩) c5 n m LL SS) {k : Nat} (hk : k < m) (x : Int) : TnS w (X.setCell ⟨g, k, none⟩ (.int .i64 x)) box b o4 c4 (some ⟨g, 0, none⟩) c5 n m LL (SS.set k x) := by
  obtain ⟨h1, h2, h3, h7, h8, h9, h10, h11⟩ := h
  have hg := (h8.lt g rfl).1
  have n3 : g ≠ b := fun e => (h3.not_row (by decide) h8) (by rw [e]; rfl)
  refine ⟨h1.other (by omega) _ _, h2.other (by omega) _ _, h3.other n3.symm _ _, h7.kept (grownBy_setCell X g k _) ?_, putI h8 hk h11, h9.setCell (p := ⟨g, k, none⟩) (by dsimp only; omega) _, h10, by simp [h11]⟩
  have := rows_apart h7 h8 ne_RI
  simpa [Value.ownBlock] using this
/-- What is returned. -/
theorem TnS.fin (h : TnS w X box b o4 c4 o5 c5 n m LL SS) :
    let F := (X.setCell ⟨w.heap.size + 1, 0, none⟩ (.slice o4 n c4)).setCell ⟨w.heap.size + 1, 1, none⟩ (.slice o5 m c5)
    F.cell? ⟨w.heap.size + 1, 0, none⟩ = some (.slice o4 n c4) ∧ F.cell? ⟨w.heap.size + 1, 1, none⟩ = some (.slice o5 m c5) ∧ F.ownsRow w.heap.size 79 2 (.slice o4 n c4) n (LL.flatMap encR) ∧ F.ownsRow w.heap.size 3 1 (.slice o5 m c5) m (SS.flatMap encI) ∧ Below w.heap.size w F := by
  have b2 := (h.res.set 0 (.slice o4 n c4)).set 1 (.slice o5 m c5)
  have g0 := b2.cell 0
  have g1 := b2.cell 1
  simp only [List.setIfInBounds_toArray, List.set_cons_zero, List.set_cons_succ, List.getElem?_toArray, List.getElem?_cons_succ, List.getElem?_cons_zero] at g0 g1
  exact ⟨g0, g1, own_base (own_low (own_low h.rowL (by omega : w.heap.size + 1 < w.heap.size + 2) 0 (.slice o4 n c4)) (by omega : w.heap.size + 1 < w.heap.size + 2) 1 (.slice o5 m c5)) (by omega : w.heap.size ≤ w.heap.size + 2),
    own_base (own_low (own_low h.rowS (by omega : w.heap.size + 1 < w.heap.size + 2) 0 (.slice o4 n c4)) (by omega : w.heap.size + 1 < w.heap.size + 2) 1 (.slice o5 m c5)) (by omega : w.heap.size ≤ w.heap.size + 2),
    (h.bel.setCell (p := ⟨w.heap.size + 1, 0, none⟩) (Nat.le_succ _) (.slice o4 n c4)).setCell (p := ⟨w.heap.size + 1, 1, none⟩) (Nat.le_succ _) (.slice o5 m c5)⟩
end
/-- The first k places turned, the others not. -/
def rvT {α : Type} (L : List α) (k : Nat) : List α := L.reverse.take k ++ L.drop k
theorem rvT_zero {α : Type} (L : List α) : rvT L 0 = L := by simp [rvT]
theorem rvT_end {α : Type} (L : List α) : rvT L L.length = L.reverse := by
  unfold rvT
  rw [List.drop_length, List.append_nil, List.take_of_length_le (by simp)]
theorem rvT_len {α : Type} (L : List α) {k : Nat} (h : k ≤ L.length) : (rvT L k).length = L.length := by simp [rvT]; omega
theorem rvT_next {α : Type} {L : List α} {k : Nat} {x : α} (hk : k < L.length) (hx : L[L.length - 1 - k]? = some x) : rvT L (k + 1) = (rvT L k).set k x := by
  have h1 : L.reverse[k]? = some x := by rw [List.getElem?_reverse hk]; exact hx
  apply List.ext_getElem?
  intro p
  have e1 : (L.reverse.take k).length = k := by simp; omega
  have e2 : (L.reverse.take (k + 1)).length = k + 1 := by simp; omega
  rw [List.getElem?_set]
  unfold rvT
  by_cases hp : k = p
  · subst hp
    rw [if_pos rfl, if_pos (by rw [List.length_append, e1, List.length_drop]; omega)]
    rw [List.getElem?_append_left (by omega), List.getElem?_take, if_pos (by omega), h1]
  · rw [if_neg hp]
    rcases (by omega : p < k ∨ k + 1 ≤ p) with h | h
    · rw [List.getElem?_append_left (by omega), List.getElem?_append_left (by omega), List.getElem?_take, List.getElem?_take, if_pos (by omega), if_pos h]
    · rw [List.getElem?_append_right (by omega), List.getElem?_append_right (by omega), e1, e2, List.getElem?_drop, List.getElem?_drop]
      congr 1
      omega

set_option maxHeartbeats 8000000 in
theorem refTurn_any (s : Sc) (ol os : Option Addr) (cl cs : Nat) (hfl : NForm ol s.L.length cl) (hfs : NForm os s.S.length cs) (h1 : s.L.length ≤ 512) (h3 : s.S.length ≤ 512) (w : World) (hr : RowAt w encR 2 ol s.L) (ht : RowAt w encI 1 os s.S) :
    Calls Try.prog 34 #[.agg #[.slice ol s.L.length cl, .slice os s.S.length cs]] w fun e w' => ∃ vl vs, e = .returned (.agg #[vl, vs]) ∧ w'.ownsRow w.heap.size 79 2 vl s.L.length (s.L.reverse.flatMap encR) ∧ w'.ownsRow w.heap.size 3 1 vs s.S.length (s.S.reverse.flatMap encI) ∧ Below w.heap.size w w' := by
  have hB0 := ((Below.refl _ w).alloc (Nat.le_refl _) (.cells #[.slice ol s.L.length cl, .slice os s.S.length cs] 25)).alloc (by simp) (.cells #[.slice none 0 0, .slice none 0 0] 25)
  have b1 := (Blk.new w #[.slice ol s.L.length cl, .slice os s.S.length cs] 25).alloc (.cells #[.slice none 0 0, .slice none 0 0] 25)
  have b2 := Blk.new (w.alloc (.cells #[.slice ol s.L.length cl, .slice os s.S.length cs] 25)) #[.slice none 0 0, .slice none 0 0] 25
  rw [World.size_alloc] at b2
  have hr0 := hr.below encR_len (by decide) hB0
  have ht0 := ht.below encI_len (by decide) hB0
  obtain ⟨W0, hW0⟩ : ∃ W0, (w.alloc (.cells #[.slice ol s.L.length cl, .slice os s.S.length cs] 25)).alloc (.cells #[.slice none 0 0, .slice none 0 0] 25) = W0 := ⟨_, rfl⟩
  have hz0 : W0.heap.size = w.heap.size + 2 := by rw [← hW0, World.size_alloc, World.size_alloc]
  rw [hW0] at hB0 b1 b2 hr0 ht0
  have c00 : W0.cell? ⟨w.heap.size, 0, none⟩ = some (.slice ol s.L.length cl) := b1.cell 0
  have c01 : W0.cell? ⟨w.heap.size, 1, none⟩ = some (.slice os s.S.length cs) := b1.cell 1
  have HR := Lib.hid (And.intro hr ht)
  clear hr ht
  go_enter Try.func34, Try.ntmps34
  go_wp2_with (fail)
  try rw [hW0]
  clear hW0
  refine (copy_any s ol os cl cs hfl hfs (by omega) (by omega) _ hr0 ht0).mono ?_
  rintro e W1 ⟨vl, vs, rfl, hO1, hO2, hB⟩
  obtain ⟨o4, c4, rfl, hg4⟩ := own_slice hO1
  obtain ⟨o5, c5, rfl, hg5⟩ := own_slice hO2
  rw [hz0] at hO1 hO2
  have hA := (Below.refl W1.heap.size W1).alloc (Nat.le_refl _) (.cells #[.slice o4 s.L.length c4, .slice o5 s.S.length c5] 25)
  have b3 := Blk.new W1 #[.slice o4 s.L.length c4, .slice o5 s.S.length c5] 25
  have hT : TnS w (W1.alloc (.cells #[.slice o4 s.L.length c4, .slice o5 s.S.length c5] 25)) #[.slice ol s.L.length cl, .slice os s.S.length cs] W1.heap.size o4 c4 o5 c5 s.L.length s.S.length s.L s.S :=
    ⟨(b2.below' hB).below' hA, (b1.below' hB).below' hA, b3, own_below hO1 hA, own_below hO2 hA, (hB0.trans (hB.mono hB0.size)).trans (hA.mono (hB0.trans (hB.mono hB0.size)).size), rfl, rfl⟩
  obtain ⟨b, hb⟩ : ∃ b, W1.heap.size = b := ⟨_, rfl⟩
  obtain ⟨W2, hW2⟩ : ∃ W2, W1.alloc (.cells #[.slice o4 s.L.length c4, .slice o5 s.S.length c5] 25) = W2 := ⟨_, rfl⟩
  rw [hW2, hb] at hT
  have x0 : W2.cell? ⟨w.heap.size, 0, none⟩ = some (.slice ol s.L.length cl) := hT.box.cell 0
  have x1 : W2.cell? ⟨w.heap.size, 1, none⟩ = some (.slice os s.S.length cs) := hT.box.cell 1
  have HT := Lib.hid hT
  clear hA b3 hO1 hO2 hB b1 b2 hB0 c00 c01 hT hz0 hr0 ht0
  go_wp2
  clear hW2 hb x0 x1
  go_loopw [11] (fun i X => ∃ k : Nat, i = .int .i64 k ∧ k ≤ s.L.length ∧ TnS w X #[.slice ol s.L.length cl, .slice os s.S.length cs] b o4 c4 o5 c5 s.L.length s.S.length (rvT s.L k) s.S) (fun i _ => s.L.length - (intOf i).toNat)
  case atStart => exact ⟨0, rfl, by omega, by rw [rvT_zero]; exact HT.out⟩
  case round =>
    obtain ⟨k, rfl, hk, hT⟩ := hrel
    have x0 : wr.cell? ⟨w.heap.size, 0, none⟩ = some (.slice ol s.L.length cl) := hT.box.cell 0
    have x1 : wr.cell? ⟨w.heap.size, 1, none⟩ = some (.slice os s.S.length cs) := hT.box.cell 1
    by_cases hlt : k < s.L.length
    · obtain ⟨x, hx⟩ : ∃ x, s.L[s.L.length - 1 - k]? = some x := ⟨_, List.getElem?_eq_getElem (by omega)⟩
      obtain ⟨_, _, e4, hq4⟩ := own_slice hT.rowL
      obtain ⟨g4, hq4⟩ := hq4 (by omega)
      cases e4
      subst hq4
      obtain ⟨g, off, rfl, hc⟩ := (HR.out.1.below encR_len (by decide) hT.bel) _ x hx
      have q0 := hc 0 (by decide)
      have q1 := hc 1 (by decide)
      have hnext := hT.lin hlt x
      rw [← rvT_next hlt hx] at hnext
      obtain ⟨c, r⟩ := x
      simp only [encR, List.getElem?_cons_succ, List.getElem?_cons_zero, Nat.add_zero] at q0 q1
      have hd0 : ∃ y, (rvT s.L k)[k]? = some y := ⟨_, List.getElem?_eq_getElem (by rw [rvT_len _ hk]; exact hlt)⟩
      obtain ⟨y, hy⟩ := hd0
      have w0 : wr.cell? ⟨b, 0, none⟩ = some (.slice (some ⟨g4, 0, none⟩) s.L.length c4) := hT.out.cell 0
      obtain ⟨w3, w4⟩ := getR hT.rowL hy hT.lenL
      have f3 := own_freeK hT.rowL (k * 2)
      have f4 := own_freeK hT.rowL (k * 2 + 1)
      have HN : Hid (∀ U, U = wr.drew → TnS w ((U.setCell ⟨g4, k * 2, none⟩ (.int .i64 c)).setCell ⟨g4, k * 2 + 1, none⟩ (.int .i64 r)) #[.slice (some ⟨g, off, none⟩) s.L.length cl, .slice os s.S.length cs] b (some ⟨g4, 0, none⟩) c4 o5 c5 s.L.length s.S.length (rvT s.L (k + 1)) s.S) := Lib.hid (fun U hU => by
        have h1 := hT.below ((Below.refl _ wr).drew)
        have h2 := h1.lin hlt ⟨c, r⟩
        rw [← rvT_next hlt hx] at h2
        exact hU ▸ h2)
      have hi0 : IntKind.i64.wrap ((s.L.length : Int) - 1) = (s.L.length : Int) - 1 := IntWalk.i64_in _ (by omega)
      have hi1 : IntKind.i64.wrap ((s.L.length : Int) - 1 - k) = ((s.L.length - 1 - k : Nat) : Int) := by rw [IntWalk.i64_in _ (by omega)]; omega
      obtain ⟨p, hp⟩ : ∃ p, s.L.length - 1 - k = p := ⟨_, rfl⟩
      rw [hp] at q0 q1 hi1
      have hpl : (p : Int) < (s.L.length : Int) := by omega
      have hkN : (k : Int) < (s.L.length : Int) := by omega
      clear hnext hc hT hx hy hp
      go_wp2
      go_still_tail 14, (by kernel_rfl)
      change wpList _ _ _ _ _ wr.drew
      obtain ⟨U, hU⟩ : ∃ U, wr.drew = U := ⟨_, rfl⟩
      have HU := Lib.hid (HN.out U hU.symm)
      have u3 : U.cell? ⟨g4, k * 2, none⟩ = some (.int .i64 y.c) := hU ▸ w3
      have u4 : U.cell? ⟨g4, k * 2 + 1, none⟩ = some (.int .i64 y.r) := hU ▸ w4
      have uf : U.frozen? ⟨g4, k * 2, none⟩ = false := hU ▸ f3
      have uf4 : U.frozen? ⟨g4, k * 2 + 1, none⟩ = false := hU ▸ f4
      rw [hU]
      clear hU w0 w3 w4 f3 f4
      go_wp2
      exact ⟨⟨k + 1, by go_num, by omega, HU.out⟩, by simp [intOf]; omega⟩
    · obtain rfl : k = s.L.length := by omega
      rw [rvT_end] at hT
      obtain ⟨V, hV⟩ : ∃ V, V = wr := ⟨_, rfl⟩
      subst hV
      have HT := Lib.hid hT
      clear hT hlt hk
      go_wp2
      clear x0 x1
      go_loopw [32] (fun i X => ∃ k : Nat, i = .int .i64 k ∧ k ≤ s.S.length ∧ TnS w X #[.slice ol s.L.length cl, .slice os s.S.length cs] b o4 c4 o5 c5 s.L.length s.S.length s.L.reverse (rvT s.S k)) (fun i _ => s.S.length - (intOf i).toNat)
      case atStart => exact ⟨0, rfl, by omega, by rw [rvT_zero]; exact HT.out⟩
      case round =>
        obtain ⟨k, rfl, hk, hT⟩ := hrel
        have x0 : wr.cell? ⟨w.heap.size, 0, none⟩ = some (.slice ol s.L.length cl) := hT.box.cell 0
        have x1 : wr.cell? ⟨w.heap.size, 1, none⟩ = some (.slice os s.S.length cs) := hT.box.cell 1
        by_cases hlt : k < s.S.length
        · obtain ⟨x, hx⟩ : ∃ x, s.S[s.S.length - 1 - k]? = some x := ⟨_, List.getElem?_eq_getElem (by omega)⟩
          obtain ⟨_, _, e4, hq4⟩ := own_slice hT.rowS
          obtain ⟨g4, hq4⟩ := hq4 (by omega)
          cases e4
          subst hq4
          obtain ⟨g, off, rfl, hc⟩ := (HR.out.2.below encI_len (by decide) hT.bel) _ x hx
          have q0 := hc 0 (by decide)
          simp only [encI, List.getElem?_cons_succ, List.getElem?_cons_zero, Nat.add_zero, Nat.mul_one] at q0
          have hd0 : ∃ y, (rvT s.S k)[k]? = some y := ⟨_, List.getElem?_eq_getElem (by rw [rvT_len _ hk]; exact hlt)⟩
          obtain ⟨y, hy⟩ := hd0
          have w0 : wr.cell? ⟨b, 1, none⟩ = some (.slice (some ⟨g4, 0, none⟩) s.S.length c5) := hT.out.cell 1
          have w3 := getI hT.rowS hy hT.lenS
          have f3 := own_freeK hT.rowS k
          have HN : Hid (∀ U, U = wr.drew → TnS w (U.setCell ⟨g4, k, none⟩ (.int .i64 x)) #[.slice ol s.L.length cl, .slice (some ⟨g, off, none⟩) s.S.length cs] b o4 c4 (some ⟨g4, 0, none⟩) c5 s.L.length s.S.length s.L.reverse (rvT s.S (k + 1))) := Lib.hid (fun U hU => by
            have h1 := hT.below ((Below.refl _ wr).drew)
            have h2 := h1.sta hlt x
            rw [← rvT_next hlt hx] at h2
            exact hU ▸ h2)
          have hi0 : IntKind.i64.wrap ((s.S.length : Int) - 1) = (s.S.length : Int) - 1 := IntWalk.i64_in _ (by omega)
          have hi1 : IntKind.i64.wrap ((s.S.length : Int) - 1 - k) = ((s.S.length - 1 - k : Nat) : Int) := by rw [IntWalk.i64_in _ (by omega)]; omega
          obtain ⟨p, hp⟩ : ∃ p, s.S.length - 1 - k = p := ⟨_, rfl⟩
          rw [hp] at q0 hi1
          have hpl : (p : Int) < (s.S.length : Int) := by omega
          have hkN : (k : Int) < (s.S.length : Int) := by omega
          clear hc hT hx hy hp
          go_wp2
          go_still_tail 14, (by kernel_rfl)
          change wpList _ _ _ _ _ wr.drew
          obtain ⟨U, hU⟩ : ∃ U, wr.drew = U := ⟨_, rfl⟩
          have HU := Lib.hid (HN.out U hU.symm)
          have u3 : U.cell? ⟨g4, k, none⟩ = some (.int .i64 y) := hU ▸ w3
          have uf : U.frozen? ⟨g4, k, none⟩ = false := hU ▸ f3
          rw [hU]
          clear hU w0 w3 f3
          go_wp2
          exact ⟨⟨k + 1, by go_num, by omega, HU.out⟩, by simp [intOf]; omega⟩
        · obtain rfl : k = s.S.length := by omega
          rw [rvT_end] at hT
          have z0 : wr.cell? ⟨b, 0, none⟩ = some (.slice o4 s.L.length c4) := hT.out.cell 0
          have z1 : wr.cell? ⟨b, 1, none⟩ = some (.slice o5 s.S.length c5) := hT.out.cell 1
          have f0 := hT.res.frozen 0
          have f1 := hT.res.frozen 1
          have n0 : wr.cell? ⟨w.heap.size + 1, 0, none⟩ = some (.slice none 0 0) := hT.res.cell 0
          have n1 : wr.cell? ⟨w.heap.size + 1, 1, none⟩ = some (.slice none 0 0) := hT.res.cell 1
          obtain ⟨g0, g1, r0, r1, rB⟩ := hT.fin
          obtain ⟨F, hF⟩ : ∃ F, (wr.setCell ⟨w.heap.size + 1, 0, none⟩ (.slice o4 s.L.length c4)).setCell ⟨w.heap.size + 1, 1, none⟩ (.slice o5 s.S.length c5) = F := ⟨_, rfl⟩
          rw [hF] at g0 g1 r0 r1 rB
          have HE := Lib.hid (And.intro r0 (And.intro r1 rB))
          clear r0 r1 rB hT
          go_wp2
          try rw [hF]
          clear hF
          exact bodyPost_ret (v := .agg #[.slice o4 s.L.length c4, .slice o5 s.S.length c5]) (by simp [results, Try.f34, go_sem, g0, g1]) rfl ⟨_, _, rfl, HE.out.1, HE.out.2.1, HE.out.2.2⟩
end Go.Proofs.Ytdcmkiggnmajgaa
