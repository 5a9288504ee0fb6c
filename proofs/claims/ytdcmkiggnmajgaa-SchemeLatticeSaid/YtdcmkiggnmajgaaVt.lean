/- Stage 16: Canon, the program's. -/
import Derived.Test.YtdcmkiggnmajgaaVr
import Derived.Test.YtdcmkiggnmajgaaVs
import Derived.Test.YtdcmkiggnmajgaaVu
import Derived.Test.YtdcmkiggnmajgaaCg
import Derived.Deep.RegionHeld3
import Derived.BigQuiet
import Derived.Deep.QuietTactic
namespace Go.Proofs.Ytdcmkiggnmajgaa
set_option linter.unusedVariables false
set_option linter.unusedSimpArgs false
open Go Go.RowKit Go.Shelf
set_option maxRecDepth 100000

theorem may_parts {s : Sc} (h : mayB s = true) : s.L.length ≤ 512 ∧ s.L.all okR = true ∧ s.S.length ≤ 512 := by
  unfold mayB at h
  simp only [Bool.and_eq_true, decide_eq_true_iff] at h
  obtain ⟨⟨h1, h2⟩, h3⟩ := h
  refine ⟨h1, h2, ?_⟩
  have key : ∀ (S : List Int) (l : Int), stB l S = true → (S.length : Int) ≤ l := by
    intro S
    induction S with
    | nil => intro l h; simp [stB] at h; simp [h]
    | cons n r ih =>
      intro l h
      simp only [stB, Bool.and_eq_true, Bool.not_eq_true', Bool.or_eq_false_iff, decide_eq_false_iff_not] at h
      have := ih _ h.2
      simp only [List.length_cons]
      omega
  have := key s.S s.L.length h3
  omega
theorem row_other_blk {W : World} {B : Nat} {cs : Array Value} {t : TypeId} {e : TypeId} {base sz n o : Nat} {v u : Value} {xs : List Value} (h : Blk W B cs t) (_ : W.ownsRow base e sz v n xs) : Blk (W.setCell ⟨B, o, none⟩ u) B (cs.setIfInBounds o u) t := h.set o u
/-- What Canon's memory is like. -/
structure CnS (s : Sc) (ol os : Option Addr) (cl cs : Nat) (w X : World) (b5 Q6 Q8 : Nat) (o4 : Option Addr) (c4 : Nat) (o5 : Option Addr) (c5 : Nat) (fc : Array Value) (k : Nat) : Prop where
  res : Blk X (w.heap.size + 1) #[.slice none 0 0, .slice none 0 0] 25
  box : Blk X w.heap.size #[.slice ol s.L.length cl, .slice os s.S.length cs] 25
  out : Blk X b5 #[.slice o4 s.L.length c4, .slice o5 s.S.length c5] 25
  fir : Blk X Q6 fc 88
  new : ∃ ac : Array Value, Blk X Q8 ac 88 ∧ ac.size = 25 ∧ (∀ c : Nat, c < 25 → ∃ v : Int, ac[c]? = some (.int .i64 v)) ∧ ∀ c f : Nat, c < 25 → fidx s.L 0 (c : Int) = (f : Int) → f < k → ac[c]? = some (.int .i64 (cntF s.L f : Nat))
  rowL : X.ownsRow (w.heap.size + 2) 79 2 (.slice o4 s.L.length c4) s.L.length ((canT s.L k).flatMap encR)
  rowS : X.ownsRow (w.heap.size + 2) 3 1 (.slice o5 s.S.length c5) s.S.length (s.S.flatMap encI)
  bel : Below w.heap.size w X
section
variable {s : Sc} {ol os : Option Addr} {cl cs : Nat} {w X Y : World} {b5 Q6 Q8 : Nat} {o4 : Option Addr} {c4 : Nat} {o5 : Option Addr} {c5 : Nat} {fc : Array Value} {k : Nat}
theorem CnS.below (h : CnS s ol os cl cs w X b5 Q6 Q8 o4 c4 o5 c5 fc k) (hb : Below X.heap.size X Y) : CnS s ol os cl cs w Y b5 Q6 Q8 o4 c4 o5 c5 fc k := by
  obtain ⟨h1, h2, h3, h4, ⟨ac, h5, h6⟩, h7, h8, h9⟩ := h
  exact ⟨h1.below' hb, h2.below' hb, h3.below' hb, h4.below' hb, ⟨ac, h5.below' hb, h6⟩, own_below h7 hb, own_below h8 hb, h9.trans (hb.mono h9.size)⟩
/-- A line without a class. -/
theorem CnS.neg (h : CnS s ol os cl cs w X b5 Q6 Q8 o4 c4 o5 c5 fc k) {x : Rh} (hx : s.L[k]? = some x) (hc : x.c < 0) : CnS s ol os cl cs w X b5 Q6 Q8 o4 c4 o5 c5 fc (k + 1) := by
  obtain ⟨h1, h2, h3, h4, ⟨ac, h5, h6, h10, h11⟩, h7, h8, h9⟩ := h
  refine ⟨h1, h2, h3, h4, ⟨ac, h5, h6, h10, fun c f hc2 hf hfk => ?_⟩, by rw [canT_neg hx hc]; exact h7, h8, h9⟩
  refine h11 c f hc2 hf ?_
  rcases (by omega : f < k ∨ f = k) with h | rfl
  · exact h
  · exfalso
    rcases fidx_spec s.L 0 (c : Int) with ⟨f', e1, ⟨y, e2, e3⟩, _⟩ | ⟨e1, _⟩
    · rw [e1] at hf
      obtain rfl : f' = f := by omega
      rw [hx] at e2
      cases e2
      omega
    · omega
theorem cntF_first {L : List Rh} {k : Nat} {x : Rh} (hx : L[k]? = some x) (hc : 0 ≤ x.c) (hf : fidx L 0 x.c = (k : Int)) : cntF L (k + 1) = cntF L k + 1 := by
  have : isFst L k = true := by unfold isFst; rw [hx]; simp [hc, hf]
  simp [cntF, this]
theorem cntF_not {L : List Rh} {k : Nat} {x : Rh} (hx : L[k]? = some x) (hf : x.c < 0 ∨ fidx L 0 x.c ≠ (k : Int)) : cntF L (k + 1) = cntF L k := by
  have : isFst L k = false := by
    unfold isFst
    rw [hx]
    rcases hf with h | h
    · simp; omega
    · simp [h]
  simp [cntF, this]
/-- What has been numbered. -/
def NewOK (L : List Rh) (k : Nat) (ac : Array Value) : Prop := ac.size = 25 ∧ (∀ c : Nat, c < 25 → ∃ v : Int, ac[c]? = some (.int .i64 v)) ∧ ∀ c f : Nat, c < 25 → fidx L 0 (c : Int) = (f : Int) → f < k → ac[c]? = some (.int .i64 (cntF L f : Nat))
theorem NewOK.put {L : List Rh} {k cn : Nat} {ac : Array Value} (h : NewOK L k ac) (hc : cn < 25) (hf : fidx L 0 (cn : Int) = (k : Int)) (hk : ∃ x, L[k]? = some x ∧ x.c = cn) : NewOK L (k + 1) (ac.setIfInBounds cn (.int .i64 (cntF L k : Nat))) := by
  obtain ⟨h1, h2, h3⟩ := h
  refine ⟨by rw [Array.size_setIfInBounds]; exact h1, fun c hc2 => ?_, fun c f hc2 hf2 hfk => ?_⟩
  · rw [Array.getElem?_setIfInBounds, h1]
    by_cases e : cn = c
    · subst e; rw [if_pos rfl, if_pos hc]; exact ⟨_, rfl⟩
    · rw [if_neg e]; exact h2 c hc2
  · rw [Array.getElem?_setIfInBounds, h1]
    by_cases e : cn = c
    · subst e
      rw [if_pos rfl, if_pos hc]
      rw [hf] at hf2
      obtain rfl : k = f := by omega
      rfl
    · rw [if_neg e]
      refine h3 c f hc2 hf2 ?_
      rcases (by omega : f < k ∨ f = k) with h | rfl
      · exact h
      · exfalso
        obtain ⟨x, hx, hxc⟩ := hk
        rcases fidx_spec L 0 (c : Int) with ⟨f', e1, ⟨y, e2, e3⟩, _⟩ | ⟨e1, _⟩
        · rw [e1] at hf2
          obtain rfl : f' = f := by omega
          rw [hx] at e2
          cases e2
          omega
        · omega
theorem NewOK.keep {L : List Rh} {k : Nat} {ac : Array Value} (h : NewOK L k ac) {x : Rh} (hx : L[k]? = some x) (hn : fidx L 0 x.c ≠ (k : Int)) : NewOK L (k + 1) ac := by
  obtain ⟨h1, h2, h3⟩ := h
  refine ⟨h1, h2, fun c f hc2 hf hfk => ?_⟩
  refine h3 c f hc2 hf ?_
  rcases (by omega : f < k ∨ f = k) with h | rfl
  · exact h
  · exfalso
    rcases fidx_spec L 0 (c : Int) with ⟨f', e1, ⟨y, e2, e3⟩, _⟩ | ⟨e1, _⟩
    · have e1' := e1
      rw [e1] at hf
      obtain rfl : f' = f := by omega
      rw [hx] at e2
      cases e2
      rw [← e3] at e1
      rw [Nat.zero_add] at e1
      exact hn e1
    · omega
/-- The row's cell is written. -/
theorem CnS.put (h : CnS s ol os cl cs w X b5 Q6 Q8 o4 c4 o5 c5 fc k) {x : Rh} {g : Nat} (ho : o4 = some ⟨g, 0, none⟩) (hx : s.L[k]? = some x) {ac : Array Value} (hb : Blk X Q8 ac 88) (hN : NewOK s.L (k + 1) ac) : CnS s ol os cl cs w (X.setCell ⟨g, k * 2, none⟩ (.int .i64 (canC s.L x))) b5 Q6 Q8 o4 c4 o5 c5 fc (k + 1) := by
  obtain ⟨h1, h2, h3, h4, _, h7, h8, h9⟩ := h
  subst ho
  have hk := (List.getElem?_eq_some_iff.1 hx).1
  have hg := (h7.lt g rfl).1
  have n3 : g ≠ b5 := fun e => (h3.not_row (by decide) h7) (by rw [e]; rfl)
  have n4 : g ≠ Q6 := fun e => (h4.not_row (by decide) h7) (by rw [e]; rfl)
  have n5 : g ≠ Q8 := fun e => (hb.not_row (by decide) h7) (by rw [e]; rfl)
  refine ⟨h1.other (by omega) _ _, h2.other (by omega) _ _, h3.other n3.symm _ _, h4.other n4.symm _ _, ⟨ac, hb.other n5.symm _ _, hN.1, hN.2.1, hN.2.2⟩, ?_, h8.kept (grownBy_setCell X g (k * 2) _) ?_, h9.setCell (p := ⟨g, k * 2, none⟩) (by dsimp only; omega) _⟩
  · have h10 := own_setK h7 (o := k * 2) (by omega) (.int .i64 (canC s.L x))
    have h11 := fl_set (enc := encR) (k := 2) encR_len (canT_at hx) (j := 0) (y := ⟨canC s.L x, x.r⟩) (v := .int .i64 (canC s.L x)) (by decide) rfl
    rw [Nat.add_zero] at h11
    rw [h11, ← canT_next hx] at h10
    exact h10
  · have := rows_apart h8 h7 ne_IR
    simpa [Value.ownBlock] using this
/-- A class is numbered. -/
theorem CnS.num (h : CnS s ol os cl cs w X b5 Q6 Q8 o4 c4 o5 c5 fc k) {ac : Array Value} (hb : Blk X Q8 ac 88) (hac : NewOK s.L k ac) (h5 : b5 < Q6) (h6 : Q6 < Q8) (hw : w.heap.size + 2 ≤ b5) (cn : Nat) (v : Int) (hcn : cn < 25) (hf : ∀ f : Nat, fidx s.L 0 (cn : Int) = (f : Int) → k ≤ f) : CnS s ol os cl cs w (X.setCell ⟨Q8, cn, none⟩ (.int .i64 v)) b5 Q6 Q8 o4 c4 o5 c5 fc k := by
  obtain ⟨h1, h2, h3, h4, _, h7, h8, h9⟩ := h
  have e1 := hac.1
  refine ⟨h1.other (by omega) _ _, h2.other (by omega) _ _, h3.other (by omega) _ _, h4.other (by omega) _ _, ⟨_, hb.set cn _, by rw [Array.size_setIfInBounds]; exact hac.1, fun c hc => ?_, fun c f hc hfc hfk => ?_⟩, row_other hb (by decide) h7 _ _, row_other hb (by decide) h8 _ _, h9.setCell (p := ⟨Q8, cn, none⟩) (by dsimp only; omega) _⟩
  · rw [Array.getElem?_setIfInBounds, e1]
    by_cases e : cn = c
    · subst e; rw [if_pos rfl, if_pos hcn]; exact ⟨_, rfl⟩
    · rw [if_neg e]; exact hac.2.1 c hc
  · rw [Array.getElem?_setIfInBounds, e1]
    by_cases e : cn = c
    · subst e
      have := hf f hfc
      omega
    · rw [if_neg e]; exact hac.2.2 c f hc hfc hfk
end
set_option maxHeartbeats 8000000 in
theorem canon_any (s : Sc) (ol os : Option Addr) (cl cs : Nat) (hfl : NForm ol s.L.length cl) (hfs : NForm os s.S.length cs) (hmay : mayB s = true) (w : World) (hr : RowAt w encR 2 ol s.L) (ht : RowAt w encI 1 os s.S) :
    Calls Try.prog 19 #[.agg #[.slice ol s.L.length cl, .slice os s.S.length cs]] w fun e w' => ∃ vl vs, e = .returned (.tuple #[.agg #[vl, vs], .int .i64 0]) ∧ w'.ownsRow w.heap.size 79 2 vl s.L.length ((canL s.L).flatMap encR) ∧ w'.ownsRow w.heap.size 3 1 vs s.S.length (s.S.flatMap encI) ∧ Below w.heap.size w w' := by
  obtain ⟨h1, h2, h3⟩ := may_parts hmay
  have hB0 := ((Below.refl _ w).alloc (Nat.le_refl _) (.cells #[.slice ol s.L.length cl, .slice os s.S.length cs] 25)).alloc (by simp) (.cells #[.slice none 0 0, .slice none 0 0] 25)
  have b1 := (Blk.new w #[.slice ol s.L.length cl, .slice os s.S.length cs] 25).alloc (.cells #[.slice none 0 0, .slice none 0 0] 25)
  have b2 := Blk.new (w.alloc (.cells #[.slice ol s.L.length cl, .slice os s.S.length cs] 25)) #[.slice none 0 0, .slice none 0 0] 25
  rw [World.size_alloc] at b2
  have cK := fun W h1' h2' => check_any s ol os cl cs (by omega) (by omega) W h1' h2'
  rw [hmay] at cK
  simp only [if_true] at cK
  have HR0 := Lib.hid hr
  have hr0 := hr.below encR_len (by decide) hB0
  have ht0 := ht.below encI_len (by decide) hB0
  go_enter Try.func19, Try.ntmps19
  go_wp2_with (fail)
  refine (cK _ hr0 ht0).mono ?_
  rintro e W1 ⟨rfl, hB⟩
  have hBW := hB0.trans (hB.mono hB0.size)
  have b1 := b1.below' hB
  have b2 := b2.below' hB
  have c0 : W1.cell? ⟨w.heap.size, 0, none⟩ = some (.slice ol s.L.length cl) := b1.cell 0
  have c1 : W1.cell? ⟨w.heap.size, 1, none⟩ = some (.slice os s.S.length cs) := b1.cell 1
  have HW := Lib.hid (And.intro hBW (And.intro b1 (And.intro b2 (And.intro (hr.below encR_len (by decide) hBW) (ht.below encI_len (by decide) hBW)))))
  have hlt := b1.lt
  clear hB hBW b1 b2 hr0 ht0 hr ht cK hB0
  go_wp2_with (fail)
  refine wp_cutV (α := Option Addr × Nat × Option Addr × Nat × Nat) (fun v X => Blk X v.2.2.2.2 #[.slice v.1 s.L.length v.2.1, .slice v.2.2.1 s.S.length v.2.2.2.1] 25 ∧ X.ownsRow W1.heap.size 79 2 (.slice v.1 s.L.length v.2.1) s.L.length (s.L.flatMap encR) ∧ X.ownsRow W1.heap.size 3 1 (.slice v.2.2.1 s.S.length v.2.2.2.1) s.S.length (s.S.flatMap encI) ∧ Below W1.heap.size W1 X ∧ W1.heap.size ≤ v.2.2.2.2) (fun v => [(17, .pointer (some ⟨w.heap.size, 0, none⟩)), (18, .slice ol s.L.length cl), (19, .slice v.1 s.L.length v.2.1), (20, .pointer (some ⟨w.heap.size, 1, none⟩)), (21, .slice os s.S.length cs), (22, .slice v.2.2.1 s.S.length v.2.2.2.1), (23, .agg #[.slice v.1 s.L.length v.2.1, .slice v.2.2.1 s.S.length v.2.2.2.1]), (5, .pointer (some ⟨v.2.2.2.2, 0, none⟩))]) ?_ ?_
  · refine wp_region_noPanic ?_
    refine wp_region_g (S := untilG [] (fun X => Below W1.heap.size W1 X)) (by kernel_rfl) ?_
    have T0 : Below W1.heap.size W1 W1.drew := (Below.refl _ _).drew
    obtain ⟨X0, hX0⟩ : ∃ X, W1.drew = X := ⟨_, rfl⟩
    rw [hX0] at T0 ⊢
    clear hX0
    refine wpAnyG_take [0, 1, 2, 6, 8] (i := 0) (v := (.pointer (some ⟨w.heap.size, 0, none⟩))) rfl (by kernel_rfl) (by kernel_rfl) (by kernel_rfl) (by kernel_rfl) (by kernel_rfl) (by kernel_rfl) (by kernel_rfl) (by kernel_rfl) (fun _ _ _ h => h) (Or.inl ⟨by rfl, ?hy⟩) T0 ?_
    case hy =>
      intro X hX
      go_simp
    try simp only [Act.put, List.getElem_toArray, List.getElem_cons_zero, List.getElem_cons_succ, List.setIfInBounds_toArray, List.set_cons_zero, List.set_cons_succ]
    refine wpAnyG_take [1, 2, 6, 8] (i := 1) (v := (.slice ol s.L.length cl)) rfl (by kernel_rfl) (by kernel_rfl) (by kernel_rfl) (by kernel_rfl) (by kernel_rfl) (by kernel_rfl) (by kernel_rfl) (by kernel_rfl) (fun _ _ _ h => h) (Or.inl ⟨by rfl, ?hy⟩) T0 ?_
    case hy =>
      intro X hX
      have e0 := at_below c0 hX
      go_simp
    try simp only [Act.put, List.getElem_toArray, List.getElem_cons_zero, List.getElem_cons_succ, List.setIfInBounds_toArray, List.set_cons_zero, List.set_cons_succ]
    refine wpAnyG_take [3, 4, 5, 6, 8] (i := 3) (v := (.pointer (some ⟨w.heap.size, 1, none⟩))) rfl (by kernel_rfl) (by kernel_rfl) (by kernel_rfl) (by kernel_rfl) (by kernel_rfl) (by kernel_rfl) (by kernel_rfl) (by kernel_rfl) (fun _ _ _ h => h) (Or.inl ⟨by rfl, ?hy⟩) T0 ?_
    case hy =>
      intro X hX
      go_simp
    try simp only [Act.put, List.getElem_toArray, List.getElem_cons_zero, List.getElem_cons_succ, List.setIfInBounds_toArray, List.set_cons_zero, List.set_cons_succ]
    refine wpAnyG_take [4, 5, 6, 8] (i := 4) (v := (.slice os s.S.length cs)) rfl (by kernel_rfl) (by kernel_rfl) (by kernel_rfl) (by kernel_rfl) (by kernel_rfl) (by kernel_rfl) (by kernel_rfl) (by kernel_rfl) (fun _ _ _ h => h) (Or.inl ⟨by rfl, ?hy⟩) T0 ?_
    case hy =>
      intro X hX
      have e0 := at_below c1 hX
      go_simp
    try simp only [Act.put, List.getElem_toArray, List.getElem_cons_zero, List.getElem_cons_succ, List.setIfInBounds_toArray, List.set_cons_zero, List.set_cons_succ]
    refine wpAnyG_all (rs := [2, 7]) (by kernel_rfl) (by simp) ?_
    intro i hi
    simp only [List.mem_cons, List.not_mem_nil, or_false] at hi
    rcases hi with rfl | rfl
    · skip
      refine wpOp_now rfl rfl ?_
      go_simp
      refine (cloneR_any s.L ol cl hfl (by omega) _ (HW.out.2.2.2.1.below encR_len (by decide) T0)).mono ?_
      rintro e Y4 ⟨v4, rfl, hl4, hb4⟩
      obtain ⟨o4, c4, rfl, _⟩ := own_slice hl4
      replace hl4 := own_base hl4 T0.size
      replace T0 := T0.trans (hb4.mono T0.size)
      clear hb4
      refine ⟨fun _ => T0, ?_⟩
      try simp only [Act.put, List.getElem_toArray, List.getElem_cons_zero, List.getElem_cons_succ, List.setIfInBounds_toArray, List.set_cons_zero, List.set_cons_succ]
      refine wpAnyG_all (rs := [5, 7]) (by kernel_rfl) (by simp) ?_
      intro i hi
      simp only [List.mem_cons, List.not_mem_nil, or_false] at hi
      rcases hi with rfl | rfl
      · skip
        refine wpOp_now rfl rfl ?_
        go_simp
        refine (cloneI_any s.S os cs hfs (by omega) _ (HW.out.2.2.2.2.below encI_len (by decide) T0)).mono ?_
        rintro e Y5 ⟨v5, rfl, hl5, hb5⟩
        obtain ⟨o5, c5, rfl, _⟩ := own_slice hl5
        replace hl5 := own_base hl5 T0.size
        replace hl4 := own_below hl4 hb5
        replace T0 := T0.trans (hb5.mono T0.size)
        clear hb5
        refine ⟨fun _ => T0, ?_⟩
        try simp only [Act.put, List.getElem_toArray, List.getElem_cons_zero, List.getElem_cons_succ, List.setIfInBounds_toArray, List.set_cons_zero, List.set_cons_succ]
        refine wpAnyG_take [6, 8] (i := 6) (v := (.agg #[.slice o4 s.L.length c4, .slice o5 s.S.length c5])) rfl (by kernel_rfl) (by kernel_rfl) (by kernel_rfl) (by kernel_rfl) (by kernel_rfl) (by kernel_rfl) (by kernel_rfl) (by kernel_rfl) (fun _ _ _ h => h) (Or.inl ⟨by rfl, ?hy⟩) T0 ?_
        case hy =>
          intro X hX
          go_simp
        try simp only [Act.put, List.getElem_toArray, List.getElem_cons_zero, List.getElem_cons_succ, List.setIfInBounds_toArray, List.set_cons_zero, List.set_cons_succ]
        refine wpAnyG_all (rs := [7]) (by kernel_rfl) (by simp) ?_
        intro i hi
        simp only [List.mem_cons, List.not_mem_nil, or_false] at hi
        subst hi
        refine wpOp_now rfl rfl ?_
        go_simp
        have d7 := Blk.new Y5 #[.slice none 0 0, .slice none 0 0] 25
        have l7 := T0.size
        replace T0 := T0.alloc T0.size (.cells #[.slice none 0 0, .slice none 0 0] 25)
        replace hl4 := hl4.alloc (.cells #[.slice none 0 0, .slice none 0 0] 25)
        replace hl5 := hl5.alloc (.cells #[.slice none 0 0, .slice none 0 0] 25)
        obtain ⟨b7, hb7⟩ : ∃ b, Y5.heap.size = b := ⟨_, rfl⟩
        obtain ⟨Y7, hV7⟩ : ∃ X, Y5.alloc (.cells #[.slice none 0 0, .slice none 0 0] 25) = X := ⟨_, rfl⟩
        rw [hV7, hb7] at d7
        rw [hb7] at l7
        rw [hV7] at T0 hl4 hl5
        try rw [hV7, hb7]
        clear hV7 hb7
        refine ⟨fun _ => T0, ?_⟩
        try simp only [Act.put, List.getElem_toArray, List.getElem_cons_zero, List.getElem_cons_succ, List.setIfInBounds_toArray, List.set_cons_zero, List.set_cons_succ]
        have u0 := d7.cell 0
        have u1 := d7.cell 1
        have u2 := d7.frozen 0
        have u3 := d7.frozen 1
        simp only [List.getElem?_toArray, List.getElem?_cons_succ, List.getElem?_cons_zero] at u0 u1
        refine wpAnyG_all (rs := [8]) (by kernel_rfl) (by simp) ?_
        intro i hi
        simp only [List.mem_cons, List.not_mem_nil, or_false] at hi
        subst hi
        refine wpOp_now rfl rfl ?_
        have T1 := (T0.setCell (p := ⟨b7, 0, none⟩) l7 (.slice o4 s.L.length c4)).setCell (p := ⟨b7, 1, none⟩) l7 (.slice o5 s.S.length c5)
        have d8 := (d7.set 0 (.slice o4 s.L.length c4)).set 1 (.slice o5 s.S.length c5)
        simp only [List.setIfInBounds_toArray, List.set_cons_zero, List.set_cons_succ] at d8
        have r4 := row_other (row_other_blk d7 hl4) (by decide) (row_other d7 (by decide) hl4 0 (.slice o4 s.L.length c4)) 1 (.slice o5 s.S.length c5)
        have r5 := row_other (row_other_blk d7 hl5) (by decide) (row_other d7 (by decide) hl5 0 (.slice o4 s.L.length c4)) 1 (.slice o5 s.S.length c5)
        go_simp
        refine ⟨fun _ => T1, ?_⟩
        try simp only [Act.put, List.getElem_toArray, List.getElem_cons_zero, List.getElem_cons_succ, List.setIfInBounds_toArray, List.set_cons_zero, List.set_cons_succ]
        refine wpAnyG_done (by kernel_rfl) ?_ _
        refine NoPanic.normal ?_
        exact ⟨rfl, (o4, c4, o5, c5, b7), by kernel_rfl, d8, r4, r5, T1, l7⟩
      · skip
        refine wpOp_now rfl rfl ?_
        go_simp
        have d7 := Blk.new Y4 #[.slice none 0 0, .slice none 0 0] 25
        have l7 := T0.size
        replace T0 := T0.alloc T0.size (.cells #[.slice none 0 0, .slice none 0 0] 25)
        replace hl4 := hl4.alloc (.cells #[.slice none 0 0, .slice none 0 0] 25)
        obtain ⟨b7, hb7⟩ : ∃ b, Y4.heap.size = b := ⟨_, rfl⟩
        obtain ⟨Y7, hV7⟩ : ∃ X, Y4.alloc (.cells #[.slice none 0 0, .slice none 0 0] 25) = X := ⟨_, rfl⟩
        rw [hV7, hb7] at d7
        rw [hb7] at l7
        rw [hV7] at T0 hl4
        try rw [hV7, hb7]
        clear hV7 hb7
        refine ⟨fun _ => T0, ?_⟩
        try simp only [Act.put, List.getElem_toArray, List.getElem_cons_zero, List.getElem_cons_succ, List.setIfInBounds_toArray, List.set_cons_zero, List.set_cons_succ]
        refine wpAnyG_all (rs := [5]) (by kernel_rfl) (by simp) ?_
        intro i hi
        simp only [List.mem_cons, List.not_mem_nil, or_false] at hi
        subst hi
        refine wpOp_now rfl rfl ?_
        go_simp
        refine (cloneI_any s.S os cs hfs (by omega) _ (HW.out.2.2.2.2.below encI_len (by decide) T0)).mono ?_
        rintro e Y5 ⟨v5, rfl, hl5, hb5⟩
        obtain ⟨o5, c5, rfl, _⟩ := own_slice hl5
        replace hl5 := own_base hl5 T0.size
        replace hl4 := own_below hl4 hb5
        replace T0 := T0.trans (hb5.mono T0.size)
        replace d7 := d7.below' hb5
        clear hb5
        refine ⟨fun _ => T0, ?_⟩
        try simp only [Act.put, List.getElem_toArray, List.getElem_cons_zero, List.getElem_cons_succ, List.setIfInBounds_toArray, List.set_cons_zero, List.set_cons_succ]
        refine wpAnyG_take [6, 8] (i := 6) (v := (.agg #[.slice o4 s.L.length c4, .slice o5 s.S.length c5])) rfl (by kernel_rfl) (by kernel_rfl) (by kernel_rfl) (by kernel_rfl) (by kernel_rfl) (by kernel_rfl) (by kernel_rfl) (by kernel_rfl) (fun _ _ _ h => h) (Or.inl ⟨by rfl, ?hy⟩) T0 ?_
        case hy =>
          intro X hX
          go_simp
        try simp only [Act.put, List.getElem_toArray, List.getElem_cons_zero, List.getElem_cons_succ, List.setIfInBounds_toArray, List.set_cons_zero, List.set_cons_succ]
        have u0 := d7.cell 0
        have u1 := d7.cell 1
        have u2 := d7.frozen 0
        have u3 := d7.frozen 1
        simp only [List.getElem?_toArray, List.getElem?_cons_succ, List.getElem?_cons_zero] at u0 u1
        refine wpAnyG_all (rs := [8]) (by kernel_rfl) (by simp) ?_
        intro i hi
        simp only [List.mem_cons, List.not_mem_nil, or_false] at hi
        subst hi
        refine wpOp_now rfl rfl ?_
        have T1 := (T0.setCell (p := ⟨b7, 0, none⟩) l7 (.slice o4 s.L.length c4)).setCell (p := ⟨b7, 1, none⟩) l7 (.slice o5 s.S.length c5)
        have d8 := (d7.set 0 (.slice o4 s.L.length c4)).set 1 (.slice o5 s.S.length c5)
        simp only [List.setIfInBounds_toArray, List.set_cons_zero, List.set_cons_succ] at d8
        have r4 := row_other (row_other_blk d7 hl4) (by decide) (row_other d7 (by decide) hl4 0 (.slice o4 s.L.length c4)) 1 (.slice o5 s.S.length c5)
        have r5 := row_other (row_other_blk d7 hl5) (by decide) (row_other d7 (by decide) hl5 0 (.slice o4 s.L.length c4)) 1 (.slice o5 s.S.length c5)
        go_simp
        refine ⟨fun _ => T1, ?_⟩
        try simp only [Act.put, List.getElem_toArray, List.getElem_cons_zero, List.getElem_cons_succ, List.setIfInBounds_toArray, List.set_cons_zero, List.set_cons_succ]
        refine wpAnyG_done (by kernel_rfl) ?_ _
        refine NoPanic.normal ?_
        exact ⟨rfl, (o4, c4, o5, c5, b7), by kernel_rfl, d8, r4, r5, T1, l7⟩
    · skip
      refine wpOp_now rfl rfl ?_
      go_simp
      have d7 := Blk.new X0 #[.slice none 0 0, .slice none 0 0] 25
      have l7 := T0.size
      replace T0 := T0.alloc T0.size (.cells #[.slice none 0 0, .slice none 0 0] 25)
      obtain ⟨b7, hb7⟩ : ∃ b, X0.heap.size = b := ⟨_, rfl⟩
      obtain ⟨Y7, hV7⟩ : ∃ X, X0.alloc (.cells #[.slice none 0 0, .slice none 0 0] 25) = X := ⟨_, rfl⟩
      rw [hV7, hb7] at d7
      rw [hb7] at l7
      rw [hV7] at T0 
      try rw [hV7, hb7]
      clear hV7 hb7
      refine ⟨fun _ => T0, ?_⟩
      try simp only [Act.put, List.getElem_toArray, List.getElem_cons_zero, List.getElem_cons_succ, List.setIfInBounds_toArray, List.set_cons_zero, List.set_cons_succ]
      refine wpAnyG_all (rs := [2]) (by kernel_rfl) (by simp) ?_
      intro i hi
      simp only [List.mem_cons, List.not_mem_nil, or_false] at hi
      subst hi
      refine wpOp_now rfl rfl ?_
      go_simp
      refine (cloneR_any s.L ol cl hfl (by omega) _ (HW.out.2.2.2.1.below encR_len (by decide) T0)).mono ?_
      rintro e Y4 ⟨v4, rfl, hl4, hb4⟩
      obtain ⟨o4, c4, rfl, _⟩ := own_slice hl4
      replace hl4 := own_base hl4 T0.size
      replace T0 := T0.trans (hb4.mono T0.size)
      replace d7 := d7.below' hb4
      clear hb4
      refine ⟨fun _ => T0, ?_⟩
      try simp only [Act.put, List.getElem_toArray, List.getElem_cons_zero, List.getElem_cons_succ, List.setIfInBounds_toArray, List.set_cons_zero, List.set_cons_succ]
      refine wpAnyG_all (rs := [5]) (by kernel_rfl) (by simp) ?_
      intro i hi
      simp only [List.mem_cons, List.not_mem_nil, or_false] at hi
      subst hi
      refine wpOp_now rfl rfl ?_
      go_simp
      refine (cloneI_any s.S os cs hfs (by omega) _ (HW.out.2.2.2.2.below encI_len (by decide) T0)).mono ?_
      rintro e Y5 ⟨v5, rfl, hl5, hb5⟩
      obtain ⟨o5, c5, rfl, _⟩ := own_slice hl5
      replace hl5 := own_base hl5 T0.size
      replace hl4 := own_below hl4 hb5
      replace T0 := T0.trans (hb5.mono T0.size)
      replace d7 := d7.below' hb5
      clear hb5
      refine ⟨fun _ => T0, ?_⟩
      try simp only [Act.put, List.getElem_toArray, List.getElem_cons_zero, List.getElem_cons_succ, List.setIfInBounds_toArray, List.set_cons_zero, List.set_cons_succ]
      refine wpAnyG_take [6, 8] (i := 6) (v := (.agg #[.slice o4 s.L.length c4, .slice o5 s.S.length c5])) rfl (by kernel_rfl) (by kernel_rfl) (by kernel_rfl) (by kernel_rfl) (by kernel_rfl) (by kernel_rfl) (by kernel_rfl) (by kernel_rfl) (fun _ _ _ h => h) (Or.inl ⟨by rfl, ?hy⟩) T0 ?_
      case hy =>
        intro X hX
        go_simp
      try simp only [Act.put, List.getElem_toArray, List.getElem_cons_zero, List.getElem_cons_succ, List.setIfInBounds_toArray, List.set_cons_zero, List.set_cons_succ]
      have u0 := d7.cell 0
      have u1 := d7.cell 1
      have u2 := d7.frozen 0
      have u3 := d7.frozen 1
      simp only [List.getElem?_toArray, List.getElem?_cons_succ, List.getElem?_cons_zero] at u0 u1
      refine wpAnyG_all (rs := [8]) (by kernel_rfl) (by simp) ?_
      intro i hi
      simp only [List.mem_cons, List.not_mem_nil, or_false] at hi
      subst hi
      refine wpOp_now rfl rfl ?_
      have T1 := (T0.setCell (p := ⟨b7, 0, none⟩) l7 (.slice o4 s.L.length c4)).setCell (p := ⟨b7, 1, none⟩) l7 (.slice o5 s.S.length c5)
      have d8 := (d7.set 0 (.slice o4 s.L.length c4)).set 1 (.slice o5 s.S.length c5)
      simp only [List.setIfInBounds_toArray, List.set_cons_zero, List.set_cons_succ] at d8
      have r4 := row_other (row_other_blk d7 hl4) (by decide) (row_other d7 (by decide) hl4 0 (.slice o4 s.L.length c4)) 1 (.slice o5 s.S.length c5)
      have r5 := row_other (row_other_blk d7 hl5) (by decide) (row_other d7 (by decide) hl5 0 (.slice o4 s.L.length c4)) 1 (.slice o5 s.S.length c5)
      go_simp
      refine ⟨fun _ => T1, ?_⟩
      try simp only [Act.put, List.getElem_toArray, List.getElem_cons_zero, List.getElem_cons_succ, List.setIfInBounds_toArray, List.set_cons_zero, List.set_cons_succ]
      refine wpAnyG_done (by kernel_rfl) ?_ _
      refine NoPanic.normal ?_
      exact ⟨rfl, (o4, c4, o5, c5, b7), by kernel_rfl, d8, r4, r5, T1, l7⟩
  · rintro ⟨o4, c4, o5, c5, b5⟩ X ⟨hb5, hl4, hl5, hBX, hle⟩
    simp only at hb5 hl4 hl5 hBX hle
    simp only [putsG, List.foldl_cons, List.foldl_nil, List.setIfInBounds_toArray, List.set_cons_zero, List.set_cons_succ]
    have x0 : X.cell? ⟨w.heap.size, 0, none⟩ = some (.slice ol s.L.length cl) := at_below c0 hBX
    have x1 : X.cell? ⟨w.heap.size, 1, none⟩ = some (.slice os s.S.length cs) := at_below c1 hBX
    have HX := Lib.hid (And.intro hb5 (And.intro hl4 (And.intro hl5 (And.intro hBX hle))))
    clear hb5 hl4 hl5 hBX hle
    rename_i hK
    refine hK _ _ ?_
    go_wp2_with (fail)
    refine (firsts_any s ol os cl cs (by omega) h2 _ (HW.out.2.2.2.1.below encR_len (by decide) HX.out.2.2.2.1)).mono ?_
    rintro e Y ⟨fc, rfl, hfc, hbY⟩
    have hi : (Try.prog.info? 88).map (·.size) = some fc.size := by rw [hfc.1]; kernel_rfl
    have hA := heap_alloc_new Y (.cells #[.int .i64 0, .int .i64 0, .int .i64 0, .int .i64 0, .int .i64 0, .int .i64 0, .int .i64 0, .int .i64 0, .int .i64 0, .int .i64 0, .int .i64 0, .int .i64 0, .int .i64 0, .int .i64 0, .int .i64 0, .int .i64 0, .int .i64 0, .int .i64 0, .int .i64 0, .int .i64 0, .int .i64 0, .int .i64 0, .int .i64 0, .int .i64 0, .int .i64 0] 88)
    have hz : (#[.int .i64 0, .int .i64 0, .int .i64 0, .int .i64 0, .int .i64 0, .int .i64 0, .int .i64 0, .int .i64 0, .int .i64 0, .int .i64 0, .int .i64 0, .int .i64 0, .int .i64 0, .int .i64 0, .int .i64 0, .int .i64 0, .int .i64 0, .int .i64 0, .int .i64 0, .int .i64 0, .int .i64 0, .int .i64 0, .int .i64 0, .int .i64 0, .int .i64 0] : Array Value).size = fc.size := by rw [hfc.1]; rfl
    obtain ⟨Y1, hY1⟩ : ∃ Y1, (Y.alloc (.cells #[.int .i64 0, .int .i64 0, .int .i64 0, .int .i64 0, .int .i64 0, .int .i64 0, .int .i64 0, .int .i64 0, .int .i64 0, .int .i64 0, .int .i64 0, .int .i64 0, .int .i64 0, .int .i64 0, .int .i64 0, .int .i64 0, .int .i64 0, .int .i64 0, .int .i64 0, .int .i64 0, .int .i64 0, .int .i64 0, .int .i64 0, .int .i64 0, .int .i64 0] 88)).setRow Y.heap.size fc = Y1 := ⟨_, rfl⟩
    have b6 : Blk Y1 Y.heap.size fc 88 := hY1 ▸ setRow_heap _ _ _ _ _ _ hA
    have hB6 : Below Y.heap.size Y Y1 := hY1 ▸ below_setRow ((Below.refl _ _).alloc (Nat.le_refl _) _) (Nat.le_refl _) fc
    obtain ⟨Y2, hY2⟩ : ∃ Y2, Y1.alloc (.cells #[.int .i64 0, .int .i64 0, .int .i64 0, .int .i64 0, .int .i64 0, .int .i64 0, .int .i64 0, .int .i64 0, .int .i64 0, .int .i64 0, .int .i64 0, .int .i64 0, .int .i64 0, .int .i64 0, .int .i64 0, .int .i64 0, .int .i64 0, .int .i64 0, .int .i64 0, .int .i64 0, .int .i64 0, .int .i64 0, .int .i64 0, .int .i64 0, .int .i64 0] 88) = Y2 := ⟨_, rfl⟩
    have b8 : Blk Y2 Y1.heap.size #[.int .i64 0, .int .i64 0, .int .i64 0, .int .i64 0, .int .i64 0, .int .i64 0, .int .i64 0, .int .i64 0, .int .i64 0, .int .i64 0, .int .i64 0, .int .i64 0, .int .i64 0, .int .i64 0, .int .i64 0, .int .i64 0, .int .i64 0, .int .i64 0, .int .i64 0, .int .i64 0, .int .i64 0, .int .i64 0, .int .i64 0, .int .i64 0, .int .i64 0] 88 := hY2 ▸ Blk.new _ _ _
    have hB7 : Below Y1.heap.size Y1 Y2 := hY2 ▸ (Below.refl _ _).alloc (Nat.le_refl _) _
    have hB8 : Below X.heap.size X Y2 := (hbY.trans (hB6.mono hbY.size)).trans (hB7.mono (Nat.le_trans hbY.size hB6.size))
    have HY := Lib.hid (And.intro hi (And.intro hA (And.intro hz (And.intro hfc hY1))))
    have y0 : Y2.cell? ⟨w.heap.size, 0, none⟩ = some (.slice ol s.L.length cl) := at_below x0 hB8
    have q68 : Y.heap.size < Y1.heap.size := b6.lt
    have hXY := hbY.size
    have H8 := Lib.hid (And.intro (b6.below' hB7) (And.intro b8 hB8))
    clear hi hA hz hfc hY1 b6 hB6 b8 hB7 hB8 hbY
    go_wp2_with (refine wpList_store_row rfl 88 _ _ rfl Y.heap.size fc rfl rfl 88 #[.int .i64 0, .int .i64 0, .int .i64 0, .int .i64 0, .int .i64 0, .int .i64 0, .int .i64 0, .int .i64 0, .int .i64 0, .int .i64 0, .int .i64 0, .int .i64 0, .int .i64 0, .int .i64 0, .int .i64 0, .int .i64 0, .int .i64 0, .int .i64 0, .int .i64 0, .int .i64 0, .int .i64 0, .int .i64 0, .int .i64 0, .int .i64 0, .int .i64 0] HY.out.2.1 HY.out.1 HY.out.2.2.1 HY.out.2.2.2.1.2.1 ?_; rw [HY.out.2.2.2.2])
    try rw [hY2]
    obtain ⟨Q6, hQ6⟩ : ∃ Q, Y.heap.size = Q := ⟨_, rfl⟩
    obtain ⟨Q8, hQ8⟩ : ∃ Q, Y1.heap.size = Q := ⟨_, rfl⟩
    have hWs := HW.out.1.size
    have hW1 : w.heap.size + 2 ≤ W1.heap.size := by have := HW.out.2.2.1.lt; omega
    rw [hQ6] at H8 q68 hXY ⊢
    rw [hQ8] at H8 q68 ⊢
    have hb5X := HX.out.1.lt
    have hq5 : w.heap.size + 2 ≤ b5 := by have := HX.out.2.2.2.2; omega
    have q56 : b5 < Q6 := by omega
    have hS0 : CnS s ol os cl cs w Y2 b5 Q6 Q8 o4 c4 o5 c5 fc 0 := by
      have hBX := HX.out.2.2.2.1
      have hBY := H8.out.2.2
      have h9 := HW.out.1.trans (hBX.mono HW.out.1.size)
      refine ⟨(HW.out.2.2.1.below' hBX).below' hBY, (HW.out.2.1.below' hBX).below' hBY, HX.out.1.below' hBY, H8.out.1, ⟨_, H8.out.2.1, rfl, fun c hc => ⟨0, by rcases (by omega : c = 0 ∨ c = 1 ∨ c = 2 ∨ c = 3 ∨ c = 4 ∨ c = 5 ∨ c = 6 ∨ c = 7 ∨ c = 8 ∨ c = 9 ∨ c = 10 ∨ c = 11 ∨ c = 12 ∨ c = 13 ∨ c = 14 ∨ c = 15 ∨ c = 16 ∨ c = 17 ∨ c = 18 ∨ c = 19 ∨ c = 20 ∨ c = 21 ∨ c = 22 ∨ c = 23 ∨ c = 24) with rfl | rfl | rfl | rfl | rfl | rfl | rfl | rfl | rfl | rfl | rfl | rfl | rfl | rfl | rfl | rfl | rfl | rfl | rfl | rfl | rfl | rfl | rfl | rfl | rfl <;> rfl⟩, fun c f _ _ hf => by omega⟩, ?_, own_below (own_base HX.out.2.2.1 hW1) hBY, h9.trans (hBY.mono h9.size)⟩
      rw [canT_zero]
      exact own_below (own_base HX.out.2.1 hW1) hBY
    have HS := Lib.hid hS0
    have HF := Lib.hid (And.intro HY.out.2.2.2.1 (And.intro h2 HR0.out))
    have HWB := Lib.hid HW.out.1
    clear hS0 hQ6 hQ8 hY2 HX H8 HY x0 x1 y0 c0 c1 hXY hb5X HW
    go_loopw [29, 7] (fun i c X => ∃ k : Nat, i = .int .i64 k ∧ c = .int .i64 (cntF s.L k : Nat) ∧ k ≤ s.L.length ∧ CnS s ol os cl cs w X b5 Q6 Q8 o4 c4 o5 c5 fc k) (fun i _ _ => s.L.length - (intOf i).toNat)
    case atStart => exact ⟨0, rfl, rfl, by omega, HS.out⟩
    case round =>
      obtain ⟨k, rfl, rfl, hk, hC⟩ := hrel
      by_cases hlt : k < s.L.length
      · obtain ⟨x, hx⟩ : ∃ x, s.L[k]? = some x := ⟨_, List.getElem?_eq_getElem hlt⟩
        have hok := (okR_iff x).1 (List.all_eq_true.1 HF.out.2.1 x (List.mem_of_getElem? hx))
        obtain ⟨f, hf, hfk, ⟨y, hy, hyc⟩, hfm⟩ := fidx_at hx
        have hrowk := own_slice hC.rowL
        obtain ⟨_, _, e4, hg4⟩ := hrowk
        obtain ⟨g4, hg4⟩ := hg4 (by omega)
        cases e4
        subst hg4
        obtain ⟨g, off, rfl, hc⟩ := (HF.out.2.2.below encR_len (by decide) hC.bel) k x hx
        have q0 := hc 0 (by decide)
        have q1 := hc 1 (by decide)
        obtain ⟨c, r⟩ := x
        simp only [encR, List.getElem?_cons_succ, List.getElem?_cons_zero, Nat.add_zero] at q0 q1
        simp only at hok hf hyc hfm
        obtain ⟨ok1, ok2, ok3, ok4, ok5⟩ := hok
        clear ok5
        have c00 : wr.cell? ⟨w.heap.size, 0, none⟩ = some (.slice (some ⟨g, off, none⟩) s.L.length cl) := hC.box.cell 0
        have hba := (Below.refl wr.heap.size wr).alloc (Nat.le_refl _) (.cells #[.int .i64 c, .int .i64 r] 79)
        have hCa := hC.below hba
        have b10 := Blk.new wr #[.int .i64 c, .int .i64 r] 79
        obtain ⟨W', hW'⟩ : ∃ W', wr.alloc (.cells #[.int .i64 c, .int .i64 r] 79) = W' := ⟨_, rfl⟩
        obtain ⟨Q10, hQ10⟩ : ∃ Q, wr.heap.size = Q := ⟨_, rfl⟩
        rw [hW'] at hCa b10
        rw [hQ10] at b10
        have q108 : Q8 < Q10 := by
          obtain ⟨ac, h5, _⟩ := hC.new
          rw [← hQ10]; exact h5.lt
        have q105 : b5 < Q10 := by rw [← hQ10]; exact hC.out.lt
        clear hc hba hC
        by_cases hneg : c < 0
        · have d1 : decide (c < 0) = true := decide_eq_true hneg
          have HE := Lib.hid (And.intro (hCa.neg hx hneg) (cntF_not hx (.inl hneg)))
          have y10 : W'.cell? ⟨Q10, 0, none⟩ = some (.int .i64 c) := b10.cell 0
          clear hCa b10 hf hyc hfm hx hy
          go_wp2
          go_roundw
          case rel => exact ⟨k + 1, by go_num, by rw [HE.out.2], by omega, HE.out.1⟩
          case measure => simp [intOf]; omega
        · obtain ⟨cn, rfl⟩ : ∃ cn : Nat, c = (cn : Int) := ⟨c.toNat, by omega⟩
          have hcn25 : cn < 25 := by omega
          have d1 : decide ((cn : Int) < 0) = false := decide_eq_false (by omega)
          have hcan : (cntF s.L f : Int) = canC s.L ⟨(cn : Int), r⟩ := by
            unfold canC
            rw [if_neg (by simp)]
            simp only [hf]
            simp
          have HX := Lib.hid (And.intro hx (And.intro hf (And.intro hcan (And.intro hy hyc))))
          have y10 : W'.cell? ⟨Q10, 0, none⟩ = some (.int .i64 cn) := b10.cell 0
          have y6 : W'.cell? ⟨Q6, cn, none⟩ = some (.int .i64 (f : Nat)) := by
            rw [hCa.fir.cell cn, HF.out.1.2.2 cn hcn25]
            simpa using hf
          obtain ⟨ac, ha1, ha2, ha3, ha4⟩ := hCa.new
          clear hf hyc hfm hx hy hcan ok1 ok2
          by_cases hfk2 : f = k
          · subst hfk2
            have hNew : NewOK s.L f ac := ⟨ha2, ha3, ha4⟩
            obtain ⟨v, hv⟩ := ha3 cn hcn25
            have y8 : W'.cell? ⟨Q8, cn, none⟩ = some (.int .i64 v) := (ha1.cell cn).trans hv
            have f8 := ha1.frozen cn
            have hnum := hCa.num ha1 hNew (by omega) q68 hq5 cn (cntF s.L f : Nat) hcn25 (fun f' hf' => by have h := HX.out.2.1; rw [hf'] at h; omega)
            have hN1 := hNew.put hcn25 HX.out.2.1 ⟨_, HX.out.1, rfl⟩
            have ha5 := ha1.set cn (.int .i64 (cntF s.L f : Nat))
            have b11 := b10.other (by omega : Q10 ≠ Q8) cn (.int .i64 (cntF s.L f : Nat))
            obtain ⟨WW, hWW⟩ : ∃ WW, W'.setCell ⟨Q8, cn, none⟩ (.int .i64 (cntF s.L f : Nat)) = WW := ⟨_, rfl⟩
            rw [hWW] at hnum ha5 b11
            have HC2 := Lib.hid (And.intro hnum (And.intro ha5 (And.intro hN1 b11)))
            have hcle := cntF_le s.L f
            have hcnt := cntF_first HX.out.1 (by simp) HX.out.2.1
            have HCT := Lib.hid hcnt
            clear b10 ha1 ha2 ha3 ha4 hNew hv hnum hN1 ha5 b11 hcnt hCa
            go_wp2
            try rw [hWW]
            clear hWW hW' hQ10 y8 f8 y6 y10
            have w0 : WW.cell? ⟨b5, 0, none⟩ = some (.slice (some ⟨g4, 0, none⟩) s.L.length c4) := HC2.out.1.out.cell 0
            have w1 : WW.cell? ⟨Q10, 0, none⟩ = some (.int .i64 cn) := HC2.out.2.2.2.cell 0
            have w2 : WW.cell? ⟨Q8, cn, none⟩ = some (.int .i64 (canC s.L ⟨(cn : Int), r⟩)) := by
              rw [HC2.out.2.1.cell cn, HC2.out.2.2.1.2.2 cn f hcn25 HX.out.2.1 (by omega), HX.out.2.2.1]
            have w3 : WW.cell? ⟨g4, f * 2, none⟩ = some (.int .i64 cn) := by
              rw [HC2.out.1.rowL.cellAt (f * 2) (by omega)]
              have h5 := fl_get (enc := encR) (k := 2) encR_len (canT_at HX.out.1) (j := 0) (by decide)
              rw [Nat.add_zero] at h5
              rw [h5]; rfl
            have f3 := own_freeK HC2.out.1.rowL (f * 2)
            obtain ⟨cv, hcv⟩ : ∃ cv, canC s.L ⟨(cn : Int), r⟩ = cv := ⟨_, rfl⟩
            have HN : Hid (∀ U, U = WW.drew → CnS s (some ⟨g, off, none⟩) os cl cs w (U.setCell ⟨g4, f * 2, none⟩ (.int .i64 cv)) b5 Q6 Q8 (some ⟨g4, 0, none⟩) c4 o5 c5 fc (f + 1)) := Lib.hid (fun U hU => by
              have h1 : CnS s (some ⟨g, off, none⟩) os cl cs w U b5 Q6 Q8 (some ⟨g4, 0, none⟩) c4 o5 c5 fc f := hU ▸ HC2.out.1.below ((Below.refl _ _).drew)
              have h2 : Blk U Q8 _ 88 := hU ▸ HC2.out.2.1.drew
              have h3 := h1.put rfl HX.out.1 h2 HC2.out.2.2.1
              rw [hcv] at h3
              exact h3)
            rw [hcv] at w2
            have hkN : (f : Int) < (s.L.length : Int) := by omega
            have hcI : (cn : Int) < 25 := by omega
            clear hcv
            go_still_tail 7, (by kernel_rfl)
            change wpList _ _ _ _ _ WW.drew
            obtain ⟨U, hU⟩ : ∃ U, WW.drew = U := ⟨_, rfl⟩
            have HU := Lib.hid (HN.out U hU.symm)
            have u3 : U.cell? ⟨g4, f * 2, none⟩ = some (.int .i64 cn) := hU ▸ w3
            have uf : U.frozen? ⟨g4, f * 2, none⟩ = false := hU ▸ f3
            rw [hU]
            clear hU w0 w1 w2 w3 f3
            go_wp2
            exact ⟨⟨f + 1, by go_num, by rw [HCT.out]; go_num, by omega, HU.out⟩, by simp [intOf]; omega⟩
          · have e2 : ((f : Int) == (k : Int)) = false := by rw [beq_eq_false_iff_ne]; omega
            have e3 : (f == k) = false := by rw [beq_eq_false_iff_ne]; exact hfk2
            have hNew : NewOK s.L k ac := ⟨ha2, ha3, ha4⟩
            have hfk3 : f < k := by omega
            have hN1 := hNew.keep HX.out.1 (by rw [HX.out.2.1]; omega)
            obtain ⟨WW, hWW⟩ : ∃ WW, WW = W' := ⟨_, rfl⟩
            subst hWW
            have HC2 := Lib.hid (And.intro hCa (And.intro ha1 (And.intro hN1 b10)))
            have HCT := Lib.hid (cntF_not HX.out.1 (.inr (by rw [HX.out.2.1]; omega)))
            clear b10 ha1 ha2 ha3 ha4 hNew hN1 hCa
            go_wp2
            try rw [hW']
            clear hW' hQ10 y6 y10
            have w0 : WW.cell? ⟨b5, 0, none⟩ = some (.slice (some ⟨g4, 0, none⟩) s.L.length c4) := HC2.out.1.out.cell 0
            have w1 : WW.cell? ⟨Q10, 0, none⟩ = some (.int .i64 cn) := HC2.out.2.2.2.cell 0
            have w2 : WW.cell? ⟨Q8, cn, none⟩ = some (.int .i64 (canC s.L ⟨(cn : Int), r⟩)) := by
              rw [HC2.out.2.1.cell cn, HC2.out.2.2.1.2.2 cn f hcn25 HX.out.2.1 (by omega), HX.out.2.2.1]
            have w3 : WW.cell? ⟨g4, k * 2, none⟩ = some (.int .i64 cn) := by
              rw [HC2.out.1.rowL.cellAt (k * 2) (by omega)]
              have h5 := fl_get (enc := encR) (k := 2) encR_len (canT_at HX.out.1) (j := 0) (by decide)
              rw [Nat.add_zero] at h5
              rw [h5]; rfl
            have f3 := own_freeK HC2.out.1.rowL (k * 2)
            obtain ⟨cv, hcv⟩ : ∃ cv, canC s.L ⟨(cn : Int), r⟩ = cv := ⟨_, rfl⟩
            have HN : Hid (∀ U, U = WW.drew → CnS s (some ⟨g, off, none⟩) os cl cs w (U.setCell ⟨g4, k * 2, none⟩ (.int .i64 cv)) b5 Q6 Q8 (some ⟨g4, 0, none⟩) c4 o5 c5 fc (k + 1)) := Lib.hid (fun U hU => by
              have h1 : CnS s (some ⟨g, off, none⟩) os cl cs w U b5 Q6 Q8 (some ⟨g4, 0, none⟩) c4 o5 c5 fc k := hU ▸ HC2.out.1.below ((Below.refl _ _).drew)
              have h2 : Blk U Q8 _ 88 := hU ▸ HC2.out.2.1.drew
              have h3 := h1.put rfl HX.out.1 h2 HC2.out.2.2.1
              rw [hcv] at h3
              exact h3)
            rw [hcv] at w2
            have hkN : (k : Int) < (s.L.length : Int) := by omega
            have hcI : (cn : Int) < 25 := by omega
            clear hcv
            go_still_tail 7, (by kernel_rfl)
            change wpList _ _ _ _ _ WW.drew
            obtain ⟨U, hU⟩ : ∃ U, WW.drew = U := ⟨_, rfl⟩
            have HU := Lib.hid (HN.out U hU.symm)
            have u3 : U.cell? ⟨g4, k * 2, none⟩ = some (.int .i64 cn) := hU ▸ w3
            have uf : U.frozen? ⟨g4, k * 2, none⟩ = false := hU ▸ f3
            rw [hU]
            clear hU w0 w1 w2 w3 f3
            go_wp2
            exact ⟨⟨k + 1, by go_num, by rw [HCT.out], by omega, HU.out⟩, by simp [intOf]; omega⟩
      · obtain rfl : k = s.L.length := by omega
        rename_i hK2
        have hm : 0 < s.L.length ∨ s.L.length = 0 := by omega
        have hLr := hC.rowL
        rw [canT_end] at hLr
        have z0 : wr.cell? ⟨b5, 0, none⟩ = some (.slice o4 s.L.length c4) := hC.out.cell 0
        have z1 : wr.cell? ⟨b5, 1, none⟩ = some (.slice o5 s.S.length c5) := hC.out.cell 1
        have f0 := hC.res.frozen 0
        have f1 := hC.res.frozen 1
        have n0 : wr.cell? ⟨w.heap.size + 1, 0, none⟩ = some (.slice none 0 0) := hC.res.cell 0
        have n1 : wr.cell? ⟨w.heap.size + 1, 1, none⟩ = some (.slice none 0 0) := hC.res.cell 1
        have b2 := (hC.res.set 0 (.slice o4 s.L.length c4)).set 1 (.slice o5 s.S.length c5)
        have g0 := b2.cell 0
        have g1 := b2.cell 1
        simp only [List.setIfInBounds_toArray, List.set_cons_zero, List.set_cons_succ, List.getElem?_toArray, List.getElem?_cons_succ, List.getElem?_cons_zero] at g0 g1
        have r0 := own_base (own_low (own_low hLr (by omega : w.heap.size + 1 < w.heap.size + 2) 0 (.slice o4 s.L.length c4)) (by omega : w.heap.size + 1 < w.heap.size + 2) 1 (.slice o5 s.S.length c5)) (by omega : w.heap.size ≤ w.heap.size + 2)
        have r1 := own_base (own_low (own_low hC.rowS (by omega : w.heap.size + 1 < w.heap.size + 2) 0 (.slice o4 s.L.length c4)) (by omega : w.heap.size + 1 < w.heap.size + 2) 1 (.slice o5 s.S.length c5)) (by omega : w.heap.size ≤ w.heap.size + 2)
        have rB := (hC.bel.setCell (p := ⟨w.heap.size + 1, 0, none⟩) (Nat.le_succ _) (.slice o4 s.L.length c4)).setCell (p := ⟨w.heap.size + 1, 1, none⟩) (Nat.le_succ _) (.slice o5 s.S.length c5)
        obtain ⟨F, hF⟩ : ∃ F, (wr.setCell ⟨w.heap.size + 1, 0, none⟩ (.slice o4 s.L.length c4)).setCell ⟨w.heap.size + 1, 1, none⟩ (.slice o5 s.S.length c5) = F := ⟨_, rfl⟩
        rw [hF] at g0 g1 r0 r1 rB
        have HE := Lib.hid (And.intro r0 (And.intro r1 rB))
        clear hLr b2 r0 r1 rB hC hm
        go_wp2
        try rw [hF]
        clear hF
        exact bodyPost_ret (v := .tuple #[.agg #[.slice o4 s.L.length c4, .slice o5 s.S.length c5], .int .i64 0]) (by simp [results, Try.f19, go_sem, g0, g1]) rfl ⟨_, _, rfl, HE.out.1, HE.out.2.1, HE.out.2.2⟩
end Go.Proofs.Ytdcmkiggnmajgaa
