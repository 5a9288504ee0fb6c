/- Stage 27: the program's Read. -/
import Derived.Test.YtjccoiephdopkaaDoorRp5
namespace Go.Proofs.YtjccoiephdopkaaDoor
set_option linter.unusedVariables false
set_option linter.unusedSimpArgs false
open Go Go.RowKit Go.Shelf
set_option maxRecDepth 100000

theorem infoStepA : (Tryd.prog.info? 39).map (fun i => (i.zero, i.size, i.bytes)) = some (some (.agg #[.int .i64 0, .string .empty, .string .empty]), 3, 40) := by kernel_rfl
theorem bodyS_pos (s : ByteArray) : ∀ k p out, s.size - p ≤ k → p ≤ s.size → ∀ o q, bodyS s p out = (some o, q) → p ≤ q ∧ q < s.size ∧ o.length + p ≤ out.length + q := by
  intro k
  induction k with
  | zero =>
    intro p out hk hp o q h
    have : ¬ p < s.size := by omega
    have h0 : lkN s p = 0 := by unfold lkN; rw [if_neg this]
    rw [bodyS_no (by omega)] at h; cases h
  | succ k ih =>
    intro p out hk hp o q h
    by_cases h34 : lkN s p = 34
    · rw [bodyS_end h34] at h
      cases h
      exact ⟨Nat.le_refl _, lkN_lt h34 (by decide), Nat.le_refl _⟩
    by_cases h92 : lkN s p = 92
    · have hl := lkN_lt h92 (by decide)
      rcases he : escS s (p + 1) with ⟨_ | b, q2⟩
      · rw [bodyS_bad h92 he] at h; cases h
      · have h2 := escS_pos hl he
        have h3 := h2.2.2 b rfl
        rw [bodyS_esc h92 he] at h
        have := ih q2 (out ++ b) (by omega) h2.2.1 o q h
        rw [List.length_append] at this
        omega
    by_cases h3 : 32 ≤ lkN s p ∧ lkN s p ≤ 126
    · have hl := lkN_lt (s := s) (p := p) rfl (by omega)
      rw [bodyS_one h3 h34 h92] at h
      have := ih (p + 1) _ (by omega) hl o q h
      rw [List.length_append] at this
      simp at this
      omega
    · rw [bodyS_no h3] at h; cases h
theorem quoT_fits {s : ByteArray} {p f t q : Nat} {d : Bool} {b : ByteArray} (hp : p ≤ s.size) (h : quoT s p f t d = (some b, q)) : f + (if d = true then b.size else 0) ≤ 65536 ∧ t + (if d = true then 0 else b.size) ≤ 65536 ∧ p < q ∧ q ≤ s.size := by
  unfold quoT at h
  rcases hq : quotedS s p with ⟨_ | b', q'⟩
  · rw [hq] at h; cases h
  · rw [hq] at h
    by_cases hn : 65536 < f + (if d = true then b'.size else 0) ∨ 65536 < t + (if d = true then 0 else b'.size)
    · have h : (none, p) = (some b, q) := by rw [← h]; exact (if_pos hn).symm
      cases h
    · have h : (some b', q') = (some b, q) := by rw [← h]; exact (if_neg hn).symm
      cases h
      have : p < q ∧ q ≤ s.size := by
        unfold quotedS at hq
        split at hq
        · next h34 =>
          have hl := lkN_lt h34 (by decide)
          rcases hb : bodyS s (p + 1) [] with ⟨_ | o, q2⟩
          · rw [hb] at hq; cases hq
          · rw [hb] at hq
            simp only [] at hq
            have h2 := bodyS_pos s _ (p + 1) [] (Nat.le_refl _) hl o q2 hb
            split at hq
            · cases hq
            · have := (Prod.mk.inj hq).2
              omega
        · cases hq
      exact ⟨by omega, by omega, this.1, this.2⟩
theorem numT_fits {s : ByteArray} {p f t q n : Nat} (hp : p ≤ s.size) (h : numT s p f t = (some n, q)) : f + n ≤ 65536 ∧ t + n ≤ 65536 ∧ p ≤ q ∧ q ≤ s.size := by
  unfold numT at h
  rcases hq : numS s p with ⟨_ | b', q'⟩
  · rw [hq] at h; cases h
  · rw [hq] at h
    simp only [] at h
    split at h
    · cases h
    · next hn =>
      cases h
      unfold numS at hq
      split at hq
      · have h2 := figS_pos s _ p 0 (Nat.le_refl _) hp
        have h3 := (Prod.mk.inj hq).2
        omega
      · cases hq
theorem stS_fits {s : ByteArray} {p f t q : Nat} {x : Sp} (hp : p ≤ s.size) (hf : f ≤ 65536) (ht : t ≤ 65536) (h : stS s p f t = (some x, q)) : f + x.k.toNat + x.d.size ≤ 65536 ∧ t + x.k.toNat + x.p.size ≤ 65536 ∧ p < q ∧ q ≤ s.size := by
  have e0 : ByteArray.empty.size = 0 := rfl
  unfold stS at h
  split at h
  · next h1 =>
    have hl := lkN_lt h1 (by decide)
    rcases hq : numT s (p + 1) f t with ⟨_ | b', q'⟩
    · rw [hq] at h; cases h
    · rw [hq] at h
      have h2 := numT_fits hl hq
      cases h
      simp [e0]; omega
  · split at h
    · next h1 =>
      have hl := lkN_lt h1 (by decide)
      rcases hq : quoT s (p + 1) f t true with ⟨_ | b', q'⟩
      · rw [hq] at h; cases h
      · rw [hq] at h
        have h2 := quoT_fits hl hq
        cases h
        simp [e0] at h2 ⊢; omega
    · split at h
      · next h1 =>
        have hl := lkN_lt h1 (by decide)
        rcases hq : quoT s (p + 1) f t false with ⟨_ | b', q'⟩
        · rw [hq] at h; cases h
        · rw [hq] at h
          have h2 := quoT_fits hl hq
          cases h
          simp [e0] at h2 ⊢; omega
      · cases h
theorem rdS_end {s : ByteArray} {p f t : Nat} {l : List Sp} (h : ¬ p < s.size) : rdS s p l f t = (some l, p) := by rw [rdS, dif_neg h]
theorem rdS_space {s : ByteArray} {p f t : Nat} {l : List Sp} (h : p < s.size) (h2 : l ≠ [] ∧ lkN s p ≠ 32) : rdS s p l f t = (none, p) := by rw [rdS, dif_pos h, if_pos h2]
theorem rdS_bad {s : ByteArray} {p f t q : Nat} {l : List Sp} (h : p < s.size) (h2 : ¬ (l ≠ [] ∧ lkN s p ≠ 32)) (hq : stS s (if l = [] then p else p + 1) f t = (none, q)) : rdS s p l f t = (none, q) := by
  rw [rdS, dif_pos h, if_neg h2, hq]
theorem rdS_go {s : ByteArray} {p f t q : Nat} {l : List Sp} {x : Sp} (h : p < s.size) (hf : f ≤ 65536) (ht : t ≤ 65536) (h2 : ¬ (l ≠ [] ∧ lkN s p ≠ 32)) (hq : stS s (if l = [] then p else p + 1) f t = (some x, q)) :
    rdS s p l f t = rdS s q (l ++ [x]) (f + x.k.toNat + x.d.size) (t + x.k.toNat + x.p.size) := by
  have h3 := (stS_fits (by split <;> omega) hf ht hq).2.2.1
  rw [rdS, dif_pos h, if_neg h2, hq]
  show (if h : p < q then _ else _) = _
  rw [dif_pos (by split at h3 <;> omega)]
def readS (s : ByteArray) : Option (List Sp) × Nat := rdS s 0 [] 0 0
theorem StP.none {W W' : World} {B p f t q : Nat} {s : ByteArray} {e : Ending} (h : StP W B s p f t e W') (hn : stS s p f t = (none, q)) : W.grownBy W' (some B) ∧ e = .returned (.tuple #[.agg #[.int .i64 0, .string .empty, .string .empty], .agg #[.int .i64 271, .int .i64 q]]) := by
  refine ⟨h.1, ?_⟩
  rcases h.2 with ⟨q', h', rfl⟩ | ⟨n', q', h', _⟩
  · rw [hn] at h'; cases h'; rfl
  · rw [hn] at h'; cases h'
theorem StP.some {W W' : World} {B p f t q : Nat} {s : ByteArray} {x : Sp} {e : Ending} (h : StP W B s p f t e W') (hn : stS s p f t = (some x, q)) : e = .returned (.tuple #[.agg #[.int .i64 x.k, .string x.d, .string x.p], .agg #[.int .i64 0, .int .i64 0]]) ∧ RdK W W' B s q (f + x.k.toNat + x.d.size) (t + x.k.toNat + x.p.size) := by
  rcases h.2 with ⟨q', h', _⟩ | ⟨n', q', h', rfl, hk⟩
  · rw [hn] at h'; cases h'
  · rw [hn] at h'; cases h'; exact ⟨rfl, hk⟩
/-- What the loop of Read has in memory. -/
structure ReM (w : World) (s : ByteArray) (vo : Value) (l : List Sp) (X : World) : Prop where
  r : Blk X w.heap.size #[.int .i64 0, .int .i64 0] 30
  o : X.ownsRow (w.heap.size + 2) 39 3 vo l.length (l.flatMap encS)
  b : Below w.heap.size w X
  n : w.heap.size + 2 ≤ X.heap.size
theorem ReM.grown {w X Y : World} {s : ByteArray} {vo : Value} {l : List Sp} (h : ReM w s vo l X) (hg : X.grownBy Y (some (w.heap.size + 1))) : ReM w s vo l Y := by
  have hn := h.n
  refine ⟨(hg.block _ (by omega) (fun e => by have := Option.some.inj e; omega)).trans h.r, ?_, ?_, Nat.le_trans hn hg.size⟩
  · refine h.o.kept hg ?_
    cases hv : vo.ownBlock with
    | none => exact .inl rfl
    | some g =>
      have := own_ge h.o hv
      exact .inr (fun e => by have := Option.some.inj e; omega)
  · exact ⟨hg.os.trans h.b.os, hg.tape.trans h.b.tape, hg.output.trans h.b.output, Nat.le_trans h.b.size hg.size, fun k hk => (hg.block k (by omega) (fun e => by have := Option.some.inj e; omega)).trans (h.b.block k hk)⟩
theorem ReM.below {w X Y : World} {s : ByteArray} {vo : Value} {l : List Sp} (h : ReM w s vo l X) (hg : Below X.heap.size X Y) : ReM w s vo l Y := h.grown ((grown_none hg).but _)
theorem ReM.drew {w X : World} {s : ByteArray} {vo : Value} {l : List Sp} (h : ReM w s vo l X) (y : Nat) : ReM w s vo l (X.drewN y) := ⟨h.r, h.o, ⟨h.b.os, h.b.tape, h.b.output, h.b.size, h.b.block⟩, h.n⟩
theorem ReM.set {w X : World} {s : ByteArray} {vo : Value} {l : List Sp} (h : ReM w s vo l X) (o : Nat) (v : Value) : ReM w s vo l (X.setCell ⟨w.heap.size + 1, o, none⟩ v) := h.grown (grown_set (World.grownBy.refl _ _) o v)
theorem ReM.app {w X X2 : World} {s : ByteArray} {vo vo2 : Value} {l : List Sp} {x : Sp} {p f t : Nat} (h : ReM w s vo l X) (hr : RdB X (w.heap.size + 1) s p f t)
    (hown : X2.ownsRow (w.heap.size + 2) 39 3 vo2 (l.length + 1) (l.flatMap encS ++ encS x)) (hgr : X.grownBy X2 vo.ownBlock) : ReM w s vo2 (l ++ [x]) X2 ∧ RdB X2 (w.heap.size + 1) s p f t := by
  have hn := h.n
  have hne : ∀ k, k ≤ w.heap.size + 1 → some k ≠ vo.ownBlock := fun k hk e => by
    have := own_ge h.o e.symm
    omega
  refine ⟨⟨(hgr.block _ (by omega) (hne _ (by omega))).trans h.r, ?_, ?_, Nat.le_trans hn hgr.size⟩, (hgr.block _ (by omega) (hne _ (by omega))).trans hr⟩
  · rw [List.length_append, List.flatMap_append]
    simpa using hown
  · exact ⟨hgr.os.trans h.b.os, hgr.tape.trans h.b.tape, hgr.output.trans h.b.output, Nat.le_trans h.b.size hgr.size, fun k hk => (hgr.block k (by omega) (hne _ (by omega))).trans (h.b.block k hk)⟩
theorem ReM.cells {w X : World} {s : ByteArray} {vo : Value} {l : List Sp} (h : ReM w s vo l X) : X.cell? ⟨w.heap.size, 0, none⟩ = some (.int .i64 0) ∧ X.cell? ⟨w.heap.size, 1, none⟩ = some (.int .i64 0) ∧ ∀ o, X.frozen? ⟨w.heap.size, o, none⟩ = false := ⟨h.r.cell 0, h.r.cell 1, fun o => h.r.frozen o⟩
def ReadP (s : ByteArray) (w : World) (e : Ending) (w' : World) : Prop :=
  Below w.heap.size w w' ∧ ((∃ q, readS s = (none, q) ∧ e = .returned (.tuple #[.slice none 0 0, .agg #[.int .i64 271, .int .i64 q]])) ∨
    (∃ (l : List Sp) (q : Nat) (v : Value), readS s = (some l, q) ∧ e = .returned (.tuple #[v, .agg #[.int .i64 0, .int .i64 0]]) ∧ w'.ownsRow (w.heap.size + 2) 39 3 v l.length (l.flatMap encS)))
def ReR (w : World) (s : ByteArray) (vo : Value) (l : List Sp) (p f t : Nat) (X : World) : Prop :=
  readS s = rdS s p l f t ∧ p ≤ s.size ∧ l.length ≤ p ∧ f ≤ 65536 ∧ t ≤ 65536 ∧ RdB X (w.heap.size + 1) s p f t ∧ ReM w s vo l X
set_option maxHeartbeats 4000000 in
theorem readP_any (s : ByteArray) (hs : s.size ≤ 1048576) (w : World) (h16 : w.cell? ⟨2, 15, none⟩ = some (.int .u8 4)) :
    Calls Tryd.prog 11 #[.string s] w (ReadP s w) := by
  obtain ⟨j0, hj, hy0, hy1, hy2⟩ := info_parts infoStepA
  have h2w : 2 < w.heap.size := by
    refine Decidable.byContradiction fun hh => ?_
    have e : w.heap[2]? = none := Array.getElem?_eq_none (by omega)
    simp only [World.cell?, e] at h16
    cases h16
  have hsI : ¬ (1048576 : Int) < (s.size : Int) := by omega
  obtain ⟨w0, hw0⟩ : ∃ Z, (w.alloc (.cells #[.int .i64 0, .int .i64 0] 30)).alloc (.cells #[.string s, .int .i64 0, .int .i64 0, .int .i64 0] 76) = Z := ⟨_, rfl⟩
  have hb0 : Below w.heap.size w w0 := hw0 ▸ ((Below.refl _ _).alloc (Nat.le_refl _) _).alloc (by simp) _
  have hRd : RdB w0 (w.heap.size + 1) s 0 0 0 := by
    rw [← hw0]
    have := World.alloc_heap_new (w.alloc (.cells #[.int .i64 0, .int .i64 0] 30)) (.cells #[.string s, .int .i64 0, .int .i64 0, .int .i64 0] 76)
    simpa [RdB, Blk] using this
  have hR0 : Blk w0 w.heap.size #[.int .i64 0, .int .i64 0] 30 := by
    rw [← hw0]
    exact (Below.heap_alloc _ _ _ (by simp)).trans (World.alloc_heap_new w _)
  have hn0 : w.heap.size + 2 ≤ w0.heap.size := by rw [← hw0]; simp
  have HA := Lib.hid (show ReR w s (.slice none 0 0) [] 0 0 0 w0 from ⟨rfl, Nat.zero_le _, Nat.le_refl _, by omega, by omega, hRd, hR0, World.ownsRow_nil _ _ _ _, hb0, hn0⟩)
  have HH := Lib.hid (And.intro hs (And.intro h16 h2w))
  have HW := Lib.hid hw0
  clear hs h16 h2w hb0 hRd hR0 hn0 hw0
  go_enter Tryd.func11, Tryd.ntmps11
  go_wp2
  rw [HW.out]
  go_loopw [5] (fun vo wr => ∃ (l : List Sp) (p f t : Nat), Hid (ReR w s vo l p f t wr)) (fun _ wr => s.size - (match wr.cell? ⟨w.heap.size + 1, 1, none⟩ with | some v => (RowKit.intOf v).toNat | none => 0))
  case atStart => exact ⟨[], 0, 0, 0, HA.out⟩
  case round =>
    obtain ⟨l, p, f, t, HR⟩ := hrel
    rename World => X
    obtain ⟨hrd, hp, hlp, hf, ht, hB, hM⟩ := HR.out
    obtain ⟨hs, h16, h2w⟩ := HH.out
    obtain ⟨k0, k1, k2, k3, kf⟩ := (RdK.start hB).cells
    obtain ⟨m0, m1, mf⟩ := hM.cells
    obtain ⟨oo, oc, rfl, _⟩ := own_slice hM.o
    have hpI : (p : Int) ≤ 1048576 := by omega
    have hlI : l.length ≤ 1048576 := by omega
    have cb := fun q Y => bad_any q Y
    have h16g : ∀ (Y : World) vo l, ReM w s vo l Y → Y.cell? ⟨2, 15, none⟩ = some (.int .u8 4) := fun Y vo l h => below_cell h.b (Nat.le_refl _) h16
    have hB2 : w.heap.size + 1 ≠ 2 := by omega
    clear HW HA
    by_cases hps : p < s.size
    case neg =>
      have hpe : ¬ (p : Int) < (s.size : Int) := by omega
      have HT := Lib.hid (show readS s = (some l, p) by rw [hrd, rdS_end hps])
      have HM := Lib.hid hM
      clear hrd hp hlp hf ht hB hM hs h16 h2w HR hps h16g cb
      go_wp2
      refine bodyPost_ret (v := .tuple #[.slice oo l.length oc, .agg #[.int .i64 0, .int .i64 0]]) (by simp [results, Tryd.f11, go_sem, m0, m1, mf]; try rfl) rfl ?_
      have hX : ∀ (Y : World) v, Y = (X.setCell ⟨w.heap.size, 0, none⟩ (.int .i64 0)).setCell ⟨w.heap.size, 1, none⟩ v → Below w.heap.size w Y ∧ Y.ownsRow (w.heap.size + 2) 39 3 (.slice oo l.length oc) l.length (l.flatMap encS) := by
        intro Y v hY
        have hg : X.grownBy Y (some w.heap.size) := hY ▸ grown_set (grown_set (World.grownBy.refl _ _) 0 _) 1 _
        refine ⟨hY ▸ ((HM.out.b.setCell (Nat.le_refl _) _).setCell (Nat.le_refl _) _), HM.out.o.kept hg ?_⟩
        cases hv : (Value.slice oo l.length oc).ownBlock with
        | none => exact .inl rfl
        | some g =>
          have := own_ge HM.out.o hv
          exact .inr (fun e => by have := Option.some.inj e; omega)
      exact ⟨(hX _ _ rfl).1, .inr ⟨l, p, _, HT.out, rfl, (hX _ _ rfl).2⟩⟩
    have hpsI : (p : Int) < (s.size : Int) := by omega
    by_cases hl : l = []
    · subst hl
      have cS := step_any hB hp hs hf ht (h16g X _ _ hM) hB2
      rcases he : stS s p f t with ⟨_ | x, q⟩
      · have hT : readS s = (none, q) := by rw [hrd]; exact rdS_bad hps (fun h => h.1 rfl) he
        have HT := Lib.hid (And.intro hT he)
        have HX := Lib.hid (And.intro hB hM)
        clear hT he
        clear hrd hp hlp hf ht hB hM hs h16 h2w HR hps h16g
        go_upto_region 11 with (first
          | (go_at_call 39; refine cS.mono ?_; intro e w3 hP; obtain ⟨hg3, rfl⟩ := StP.none hP HT.out.2; have HM3 := Lib.hid (HX.out.2.grown hg3); clear hP hg3))
        obtain ⟨W2, hW2⟩ : ∃ Z, (w3.alloc (.cells #[.int .i64 0, .string .empty, .string .empty] 39)).alloc (.cells #[.int .i64 271, .int .i64 q] 30) = Z := ⟨_, rfl⟩
        have U2 : Below w3.heap.size w3 W2 := hW2 ▸ ((Below.refl _ _).alloc (Nat.le_refl _) _).alloc (by simp) _
        have G1 := Lib.hid (show Blk W2 w3.heap.size #[.int .i64 0, .string .empty, .string .empty] 39 from hW2 ▸ (Below.heap_alloc _ _ _ (by simp)).trans (World.alloc_heap_new w3 _))
        have G2 := Lib.hid (show Blk W2 (w3.heap.size + 1) #[.int .i64 271, .int .i64 q] 30 from by
          rw [← hW2]
          have := World.alloc_heap_new (w3.alloc (.cells #[.int .i64 0, .string .empty, .string .empty] 39)) (.cells #[.int .i64 271, .int .i64 q] 30)
          simpa [Blk] using this)
        have HM2 := Lib.hid (HM3.out.below U2)
        rw [hW2]
        clear hW2
        have s0 : W2.cell? ⟨w3.heap.size + 1, 0, none⟩ = some (.int .i64 271) := G2.out.cell 0
        go_wp2
        have hg2 : w3.heap.size + 1 ≠ w.heap.size := by have := HM3.out.n; omega
        refine wp_region_noPanic ?_
        refine wp_region_g (S := untilG [] (fun X => Blk X (w3.heap.size + 1) #[.int .i64 271, .int .i64 q] 30)) (by kernel_rfl) ?_
        obtain ⟨X0, hX0⟩ : ∃ Z, W2.drew = Z := ⟨_, rfl⟩
        have T0 : Blk X0 (w3.heap.size + 1) #[.int .i64 271, .int .i64 q] 30 := hX0 ▸ G2.out
        have HM5 := Lib.hid (show ReM w s _ _ X0 from hX0 ▸ (HM2.out.below (Below.refl W2.heap.size W2).drew))
        obtain ⟨r0, r1, rf⟩ := HM5.out.cells
        rw [hX0]
        clear hX0
        refine wpAnyG_take [0, 2] (i := 0) (v := (.agg #[.int .i64 271, .int .i64 q])) rfl (by kernel_rfl) (by kernel_rfl) (by kernel_rfl) (by kernel_rfl) (by kernel_rfl) (by kernel_rfl) (by kernel_rfl) (by kernel_rfl) (fun _ _ _ h => h) (Or.inl ⟨by rfl, ?hy⟩) T0 ?_
        case hy =>
          intro X hX
          have e0 : X.cell? ⟨w3.heap.size + 1, 0, none⟩ = _ := hX.cell 0
          have e1 : X.cell? ⟨w3.heap.size + 1, 1, none⟩ = _ := hX.cell 1
          simp only [List.getElem?_toArray, List.getElem?_cons_zero, List.getElem?_cons_succ] at e0 e1
          go_simp
        try simp only [Act.put, List.getElem_toArray, List.getElem_cons_zero, List.getElem_cons_succ, List.setIfInBounds_toArray, List.set_cons_zero, List.set_cons_succ]
        refine wpAnyG_take [1] (i := 1) (v := (.slice none 0 0)) rfl (by kernel_rfl) (by kernel_rfl) (by kernel_rfl) (by kernel_rfl) (by kernel_rfl) (by kernel_rfl) (by kernel_rfl) (by kernel_rfl) (fun _ _ _ h => h) (Or.inl ⟨by rfl, ?hy⟩) T0 ?_
        case hy =>
          intro X hX
          go_simp
        try simp only [Act.put, List.getElem_toArray, List.getElem_cons_zero, List.getElem_cons_succ, List.setIfInBounds_toArray, List.set_cons_zero, List.set_cons_succ]
        refine wpAnyG_all (rs := [2]) (by kernel_rfl) (by simp) ?_
        intro i hi
        simp only [List.mem_cons, List.not_mem_nil, or_false] at hi
        subst hi
        refine wpOp_now rfl rfl ?_
        go_simp
        refine ⟨fun _ => Blk.other (Blk.other T0 hg2 0 _) hg2 1 _, ?_⟩
        try simp only [Act.put, List.getElem_toArray, List.getElem_cons_zero, List.getElem_cons_succ, List.setIfInBounds_toArray, List.set_cons_zero, List.set_cons_succ]
        refine wpAnyG_done (by kernel_rfl) ?_ _
        refine NoPanic.normal ?_
        go_wp2
        refine bodyPost_ret (v := .tuple #[.slice none 0 0, .agg #[.int .i64 271, .int .i64 q]]) (by simp [results, Tryd.f11, go_sem, r0, r1, rf]; try rfl) rfl ?_
        exact ⟨(HM5.out.b.setCell (Nat.le_refl _) _).setCell (Nat.le_refl _) _, .inl ⟨q, HT.out.1, rfl⟩⟩
      · have hfit := stS_fits hp hf ht he
        have hgo : readS s = rdS s q ([] ++ [x]) (f + x.k.toNat + x.d.size) (t + x.k.toNat + x.p.size) := by rw [hrd]; exact rdS_go hps hf ht (fun h => h.1 rfl) he
        have HN := Lib.hid (And.intro hgo (And.intro hfit (And.intro he (And.intro hlp k1))))
        have HX := Lib.hid (And.intro hB hM)
        clear hgo hfit he
        clear hrd hp hlp hf ht hB hM hs h16 h2w HR hps h16g
        go_upto_region 11 with (first
          | (go_at_call 39; refine cS.mono ?_; intro e w3 hP; obtain ⟨rfl, hk⟩ := StP.some hP HN.out.2.2.1; have HM3 := Lib.hid (HX.out.2.grown hk.2); have HK := Lib.hid hk.1; clear hP hk))
        obtain ⟨W2, hW2⟩ : ∃ Z, (w3.alloc (.cells #[.int .i64 x.k, .string x.d, .string x.p] 39)).alloc (.cells #[.int .i64 0, .int .i64 0] 30) = Z := ⟨_, rfl⟩
        have U2 : Below w3.heap.size w3 W2 := hW2 ▸ ((Below.refl _ _).alloc (Nat.le_refl _) _).alloc (by simp) _
        have G1 := Lib.hid (show Blk W2 w3.heap.size #[.int .i64 x.k, .string x.d, .string x.p] 39 from hW2 ▸ (Below.heap_alloc _ _ _ (by simp)).trans (World.alloc_heap_new w3 _))
        have G2 := Lib.hid (show Blk W2 (w3.heap.size + 1) #[.int .i64 0, .int .i64 0] 30 from by
          rw [← hW2]
          have := World.alloc_heap_new (w3.alloc (.cells #[.int .i64 x.k, .string x.d, .string x.p] 39)) (.cells #[.int .i64 0, .int .i64 0] 30)
          simpa [Blk] using this)
        have HM2 := Lib.hid (HM3.out.below U2)
        rw [hW2]
        clear hW2
        have s0 : W2.cell? ⟨w3.heap.size + 1, 0, none⟩ = some (.int .i64 0) := G2.out.cell 0
        have HK2 := Lib.hid (Blk.below' HK.out U2)
        have g0 : W2.cell? ⟨w3.heap.size, 0, none⟩ = some (.int .i64 x.k) := G1.out.cell 0
        have g1 : W2.cell? ⟨w3.heap.size, 1, none⟩ = some (.string x.d) := G1.out.cell 1
        have g2 : W2.cell? ⟨w3.heap.size, 2, none⟩ = some (.string x.p) := G1.out.cell 2
        have hn2 : w.heap.size + 2 ≤ W2.heap.size := HM2.out.n
        clear U2
        go_wp2_with (at_builtin; go_must (refine wpList_append_own _ rfl _ _ 22 rfl (w.heap.size + 2) 39 j0 (.agg #[.int .i64 0, .string .empty, .string .empty]) 3 40 Tryd.underlying22 hj hy0 hy1 hy2 rfl (by decide) (.slice oo [].length oc) _ _ rfl (HM2.out.o.alloc _) ⟨W2.heap.size, 0, none⟩ 1 1 [.int .i64 x.k, .string x.d, .string x.p] rfl rfl (World.news_of_block (cs := #[.int .i64 x.k, .string x.d, .string x.p]) (t := 39) (fr := (0, 0)) (World.alloc_heap_new W2 _)) (fun u hu => by simp at hu; rcases hu with rfl | rfl | rfl <;> rfl) (by unfold maxLen; first | omega | (simp; done) | (simp; omega)) (by first | omega | (simp; done) | (simp; omega)) (by first | omega | (simp; done) | (simp; omega)) ?_; intro v' w5 hown' hgrow _; have HA5 := Lib.hid (ReM.app (x := x) (HM2.out.below ((Below.refl _ _).alloc (Nat.le_refl _) _)) (Blk.below' HK2.out ((Below.refl _ _).alloc (Nat.le_refl _) _)) hown' hgrow); clear hown' hgrow))
        go_roundw
        case rel => exact ⟨_, q, _, _, HN.out.1, HN.out.2.1.2.2.2, by rw [List.length_append]; have := HN.out.2.1.2.2.1; have := HN.out.2.2.2.1; simp; omega, HN.out.2.1.1, HN.out.2.1.2.1, HA5.out.2, HA5.out.1⟩
        case measure =>
          have e1 := (RdK.start HA5.out.2).cells.2.1
          have := HN.out.2.1.2.2
          rw [HN.out.2.2.2.2, e1]
          simp [intOf]; omega
    by_cases h32 : lkN s p = 32
    · have hll : 0 < l.length := List.length_pos_iff.2 hl
      have hllI : (0 : Int) < (l.length : Int) := by omega
      have cL := fun (Y : World) (hY : RdB Y (w.heap.size + 1) s p f t) => look_any hY hp (by omega)
      rw [h32] at cL
      have cS := fun (Y : World) (hY : RdB Y (w.heap.size + 1) s (p + 1) f t) (h16' : Y.cell? ⟨2, 15, none⟩ = some (.int .u8 4)) => step_any hY (show p + 1 ≤ s.size by omega) hs hf ht h16' hB2
      have H16 := Lib.hid h16g
      rcases he : stS s (p + 1) f t with ⟨_ | x, q⟩
      · have hT : readS s = (none, q) := by rw [hrd]; exact rdS_bad hps (fun h => h.2 h32) (by rw [if_neg hl]; exact he)
        have HT := Lib.hid (And.intro hT he)
        have HX := Lib.hid (And.intro hB hM)
        clear hT he
        clear hrd hp hlp hf ht hB hM hs h16 h2w HR hps h16g hl h32
        go_upto_region 11 with (first
          | (go_at_call 39; refine (cS _ (by have := (HY.out.to (p + 1)).1; simpa using this) (H16.out _ _ _ (HM1.out.set 1 _))).mono ?_; intro e w3 hP; obtain ⟨hg3, rfl⟩ := StP.none hP HT.out.2; have HM3 := Lib.hid ((HM1.out.set 1 _).grown hg3); clear hP hg3)
          | (go_at_call 37; refine (cL _ HX.out.1).mono ?_; rintro e w1 ⟨rfl, y, rfl⟩; have HM1 := Lib.hid (HX.out.2.drew y); have HY := Lib.hid ((RdK.start HX.out.1).drew y); obtain ⟨c0, c1, c2, c3, cf⟩ := HY.out.cells))
        obtain ⟨W2, hW2⟩ : ∃ Z, (w3.alloc (.cells #[.int .i64 0, .string .empty, .string .empty] 39)).alloc (.cells #[.int .i64 271, .int .i64 q] 30) = Z := ⟨_, rfl⟩
        have U2 : Below w3.heap.size w3 W2 := hW2 ▸ ((Below.refl _ _).alloc (Nat.le_refl _) _).alloc (by simp) _
        have G1 := Lib.hid (show Blk W2 w3.heap.size #[.int .i64 0, .string .empty, .string .empty] 39 from hW2 ▸ (Below.heap_alloc _ _ _ (by simp)).trans (World.alloc_heap_new w3 _))
        have G2 := Lib.hid (show Blk W2 (w3.heap.size + 1) #[.int .i64 271, .int .i64 q] 30 from by
          rw [← hW2]
          have := World.alloc_heap_new (w3.alloc (.cells #[.int .i64 0, .string .empty, .string .empty] 39)) (.cells #[.int .i64 271, .int .i64 q] 30)
          simpa [Blk] using this)
        have HM2 := Lib.hid (HM3.out.below U2)
        rw [hW2]
        clear hW2
        have s0 : W2.cell? ⟨w3.heap.size + 1, 0, none⟩ = some (.int .i64 271) := G2.out.cell 0
        go_wp2
        have hg2 : w3.heap.size + 1 ≠ w.heap.size := by have := HM3.out.n; omega
        refine wp_region_noPanic ?_
        refine wp_region_g (S := untilG [] (fun X => Blk X (w3.heap.size + 1) #[.int .i64 271, .int .i64 q] 30)) (by kernel_rfl) ?_
        obtain ⟨X0, hX0⟩ : ∃ Z, W2.drew = Z := ⟨_, rfl⟩
        have T0 : Blk X0 (w3.heap.size + 1) #[.int .i64 271, .int .i64 q] 30 := hX0 ▸ G2.out
        have HM5 := Lib.hid (show ReM w s _ _ X0 from hX0 ▸ (HM2.out.below (Below.refl W2.heap.size W2).drew))
        obtain ⟨r0, r1, rf⟩ := HM5.out.cells
        rw [hX0]
        clear hX0
        refine wpAnyG_take [0, 2] (i := 0) (v := (.agg #[.int .i64 271, .int .i64 q])) rfl (by kernel_rfl) (by kernel_rfl) (by kernel_rfl) (by kernel_rfl) (by kernel_rfl) (by kernel_rfl) (by kernel_rfl) (by kernel_rfl) (fun _ _ _ h => h) (Or.inl ⟨by rfl, ?hy⟩) T0 ?_
        case hy =>
          intro X hX
          have e0 : X.cell? ⟨w3.heap.size + 1, 0, none⟩ = _ := hX.cell 0
          have e1 : X.cell? ⟨w3.heap.size + 1, 1, none⟩ = _ := hX.cell 1
          simp only [List.getElem?_toArray, List.getElem?_cons_zero, List.getElem?_cons_succ] at e0 e1
          go_simp
        try simp only [Act.put, List.getElem_toArray, List.getElem_cons_zero, List.getElem_cons_succ, List.setIfInBounds_toArray, List.set_cons_zero, List.set_cons_succ]
        refine wpAnyG_take [1] (i := 1) (v := (.slice none 0 0)) rfl (by kernel_rfl) (by kernel_rfl) (by kernel_rfl) (by kernel_rfl) (by kernel_rfl) (by kernel_rfl) (by kernel_rfl) (by kernel_rfl) (fun _ _ _ h => h) (Or.inl ⟨by rfl, ?hy⟩) T0 ?_
        case hy =>
          intro X hX
          go_simp
        try simp only [Act.put, List.getElem_toArray, List.getElem_cons_zero, List.getElem_cons_succ, List.setIfInBounds_toArray, List.set_cons_zero, List.set_cons_succ]
        refine wpAnyG_all (rs := [2]) (by kernel_rfl) (by simp) ?_
        intro i hi
        simp only [List.mem_cons, List.not_mem_nil, or_false] at hi
        subst hi
        refine wpOp_now rfl rfl ?_
        go_simp
        refine ⟨fun _ => Blk.other (Blk.other T0 hg2 0 _) hg2 1 _, ?_⟩
        try simp only [Act.put, List.getElem_toArray, List.getElem_cons_zero, List.getElem_cons_succ, List.setIfInBounds_toArray, List.set_cons_zero, List.set_cons_succ]
        refine wpAnyG_done (by kernel_rfl) ?_ _
        refine NoPanic.normal ?_
        go_wp2
        refine bodyPost_ret (v := .tuple #[.slice none 0 0, .agg #[.int .i64 271, .int .i64 q]]) (by simp [results, Tryd.f11, go_sem, r0, r1, rf]; try rfl) rfl ?_
        exact ⟨(HM5.out.b.setCell (Nat.le_refl _) _).setCell (Nat.le_refl _) _, .inl ⟨q, HT.out.1, rfl⟩⟩
      · have hfit := stS_fits (show p + 1 ≤ s.size by omega) hf ht he
        have hgo : readS s = rdS s q (l ++ [x]) (f + x.k.toNat + x.d.size) (t + x.k.toNat + x.p.size) := by rw [hrd]; exact rdS_go hps hf ht (fun h => h.2 h32) (by rw [if_neg hl]; exact he)
        have HN := Lib.hid (And.intro hgo (And.intro hfit (And.intro he (And.intro hlp k1))))
        have HX := Lib.hid (And.intro hB hM)
        clear hgo hfit he
        clear hrd hp hlp hf ht hB hM hs h16 h2w HR hps h16g hl h32
        go_upto_region 11 with (first
          | (go_at_call 39; refine (cS _ (by have := (HY.out.to (p + 1)).1; simpa using this) (H16.out _ _ _ (HM1.out.set 1 _))).mono ?_; intro e w3 hP; obtain ⟨rfl, hk⟩ := StP.some hP HN.out.2.2.1; have HM3 := Lib.hid ((HM1.out.set 1 _).grown hk.2); have HK := Lib.hid hk.1; clear hP hk)
          | (go_at_call 37; refine (cL _ HX.out.1).mono ?_; rintro e w1 ⟨rfl, y, rfl⟩; have HM1 := Lib.hid (HX.out.2.drew y); have HY := Lib.hid ((RdK.start HX.out.1).drew y); obtain ⟨c0, c1, c2, c3, cf⟩ := HY.out.cells))
        obtain ⟨W2, hW2⟩ : ∃ Z, (w3.alloc (.cells #[.int .i64 x.k, .string x.d, .string x.p] 39)).alloc (.cells #[.int .i64 0, .int .i64 0] 30) = Z := ⟨_, rfl⟩
        have U2 : Below w3.heap.size w3 W2 := hW2 ▸ ((Below.refl _ _).alloc (Nat.le_refl _) _).alloc (by simp) _
        have G1 := Lib.hid (show Blk W2 w3.heap.size #[.int .i64 x.k, .string x.d, .string x.p] 39 from hW2 ▸ (Below.heap_alloc _ _ _ (by simp)).trans (World.alloc_heap_new w3 _))
        have G2 := Lib.hid (show Blk W2 (w3.heap.size + 1) #[.int .i64 0, .int .i64 0] 30 from by
          rw [← hW2]
          have := World.alloc_heap_new (w3.alloc (.cells #[.int .i64 x.k, .string x.d, .string x.p] 39)) (.cells #[.int .i64 0, .int .i64 0] 30)
          simpa [Blk] using this)
        have HM2 := Lib.hid (HM3.out.below U2)
        rw [hW2]
        clear hW2
        have s0 : W2.cell? ⟨w3.heap.size + 1, 0, none⟩ = some (.int .i64 0) := G2.out.cell 0
        have HK2 := Lib.hid (Blk.below' HK.out U2)
        have g0 : W2.cell? ⟨w3.heap.size, 0, none⟩ = some (.int .i64 x.k) := G1.out.cell 0
        have g1 : W2.cell? ⟨w3.heap.size, 1, none⟩ = some (.string x.d) := G1.out.cell 1
        have g2 : W2.cell? ⟨w3.heap.size, 2, none⟩ = some (.string x.p) := G1.out.cell 2
        have hn2 : w.heap.size + 2 ≤ W2.heap.size := HM2.out.n
        clear U2
        go_wp2_with (at_builtin; go_must (refine wpList_append_own _ rfl _ _ 22 rfl (w.heap.size + 2) 39 j0 (.agg #[.int .i64 0, .string .empty, .string .empty]) 3 40 Tryd.underlying22 hj hy0 hy1 hy2 rfl (by decide) (.slice oo l.length oc) _ _ rfl (HM2.out.o.alloc _) ⟨W2.heap.size, 0, none⟩ 1 1 [.int .i64 x.k, .string x.d, .string x.p] rfl rfl (World.news_of_block (cs := #[.int .i64 x.k, .string x.d, .string x.p]) (t := 39) (fr := (0, 0)) (World.alloc_heap_new W2 _)) (fun u hu => by simp at hu; rcases hu with rfl | rfl | rfl <;> rfl) (by unfold maxLen; first | omega | (simp; done) | (simp; omega)) (by first | omega | (simp; done) | (simp; omega)) (by first | omega | (simp; done) | (simp; omega)) ?_; intro v' w5 hown' hgrow _; have HA5 := Lib.hid (ReM.app (x := x) (HM2.out.below ((Below.refl _ _).alloc (Nat.le_refl _) _)) (Blk.below' HK2.out ((Below.refl _ _).alloc (Nat.le_refl _) _)) hown' hgrow); clear hown' hgrow))
        go_roundw
        case rel => exact ⟨_, q, _, _, HN.out.1, HN.out.2.1.2.2.2, by rw [List.length_append]; have := HN.out.2.1.2.2.1; have := HN.out.2.2.2.1; simp; omega, HN.out.2.1.1, HN.out.2.1.2.1, HA5.out.2, HA5.out.1⟩
        case measure =>
          have e1 := (RdK.start HA5.out.2).cells.2.1
          have := HN.out.2.1.2.2
          rw [HN.out.2.2.2.2, e1]
          simp [intOf]; omega
    · have hll : 0 < l.length := List.length_pos_iff.2 hl
      have hllI : (0 : Int) < (l.length : Int) := by omega
      have cL := fun (Y : World) (hY : RdB Y (w.heap.size + 1) s p f t) => look_any hY hp (by omega)
      obtain ⟨g, hg⟩ : ∃ g, lkN s p = g := ⟨_, rfl⟩
      rw [hg] at cL h32
      have n1 : ¬ (g : Int) = 32 := by omega
      have n2 : ((g : Int) == 32) = false := by rw [beq_eq_false_iff_ne]; exact n1
      have n3 : ((g : Int) != 32) = true := by rw [bne, n2]; rfl
      have HT := Lib.hid (show readS s = (none, p) from by rw [hrd]; exact rdS_space hps ⟨hl, by rw [hg]; exact h32⟩)
      have HX := Lib.hid (And.intro hB hM)
      clear hrd hp hlp hf ht hB hM hs h16 h2w HR hps h16g hl h32 hg
      go_wp2_with (first
        | (go_at_call 37; refine (cL _ HX.out.1).mono ?_; rintro e w1 ⟨rfl, y, rfl⟩; have HM1 := Lib.hid (HX.out.2.drew y))
        | (go_at_call 38; refine (cb _ _).mono ?_; rintro e w5 ⟨rfl, hb5⟩; have HM5 := Lib.hid (HM1.out.below hb5); obtain ⟨r0, r1, rf⟩ := HM5.out.cells))
      refine bodyPost_ret (v := .tuple #[.slice none 0 0, .agg #[.int .i64 271, .int .i64 p]]) (by simp [results, Tryd.f11, go_sem, r0, r1, rf]; try rfl) rfl ?_
      exact ⟨(HM5.out.b.setCell (Nat.le_refl _) _).setCell (Nat.le_refl _) _, .inl ⟨p, HT.out, rfl⟩⟩
end Go.Proofs.YtjccoiephdopkaaDoor
