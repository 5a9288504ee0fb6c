/- Stage 27: the program's reader: step. -/
import Derived.Test.YtjccoiephdopkaaDoorRp4
namespace Go.Proofs.YtjccoiephdopkaaDoor
set_option linter.unusedVariables false
set_option linter.unusedSimpArgs false
open Go Go.RowKit Go.Shelf
set_option maxRecDepth 100000

theorem NumP.none {W W' : World} {B p f t q : Nat} {s : ByteArray} {e : Ending} (h : NumP W B s p f t e W') (hn : numT s p f t = (none, q)) : W.grownBy W' (some B) ∧ e = .returned (.tuple #[.int .i64 0, .agg #[.int .i64 271, .int .i64 q]]) := by
  refine ⟨h.1, ?_⟩
  rcases h.2 with ⟨q', h', rfl⟩ | ⟨n', q', h', _⟩
  · rw [hn] at h'; cases h'; rfl
  · rw [hn] at h'; cases h'
theorem NumP.some {W W' : World} {B p f t q n : Nat} {s : ByteArray} {e : Ending} (h : NumP W B s p f t e W') (hn : numT s p f t = (some n, q)) : e = .returned (.tuple #[.int .i64 n, .agg #[.int .i64 0, .int .i64 0]]) ∧ RdK W W' B s q (f + n) (t + n) := by
  rcases h.2 with ⟨q', h', _⟩ | ⟨n', q', h', rfl, hk⟩
  · rw [hn] at h'; cases h'
  · rw [hn] at h'; cases h'; exact ⟨rfl, hk⟩
theorem QuoP.none {W W' : World} {B p f t q : Nat} {s : ByteArray} {d : Bool} {e : Ending} (h : QuoP W B s p f t d e W') (hn : quoT s p f t d = (none, q)) : W.grownBy W' (some B) ∧ e = .returned (.tuple #[.string .empty, .agg #[.int .i64 271, .int .i64 q]]) := by
  refine ⟨h.1, ?_⟩
  rcases h.2 with ⟨q', h', rfl⟩ | ⟨n', q', h', _⟩
  · rw [hn] at h'; cases h'; rfl
  · rw [hn] at h'; cases h'
theorem QuoP.some {W W' : World} {B p f t q : Nat} {s b : ByteArray} {d : Bool} {e : Ending} (h : QuoP W B s p f t d e W') (hn : quoT s p f t d = (some b, q)) : e = .returned (.tuple #[.string b, .agg #[.int .i64 0, .int .i64 0]]) ∧ RdK W W' B s q (f + if d = true then b.size else 0) (t + if d = true then 0 else b.size) := by
  rcases h.2 with ⟨q', h', _⟩ | ⟨n', q', h', rfl, hk⟩
  · rw [hn] at h'; cases h'
  · rw [hn] at h'; cases h'; exact ⟨rfl, hk⟩
/-- The two results' blocks. -/
structure StM (w : World) (B : Nat) (X : World) : Prop where
  g : w.grownBy X (some B)
  a : Blk X w.heap.size #[.int .i64 0, .string .empty, .string .empty] 39
  r : Blk X (w.heap.size + 1) #[.int .i64 0, .int .i64 0] 30
  b : B < w.heap.size
theorem StM.drew {w X : World} {B : Nat} (h : StM w B X) (y : Nat) : StM w B (X.drewN y) := ⟨⟨h.g.os, h.g.tape, h.g.output, h.g.size, h.g.block⟩, h.a, h.r, h.b⟩
theorem StM.grown {w X Y : World} {B : Nat} (h : StM w B X) (hg : X.grownBy Y (some B)) : StM w B Y := by
  have h1 := (Array.getElem?_eq_some_iff.1 h.a).1
  have h2 := (Array.getElem?_eq_some_iff.1 h.r).1
  have hb := h.b
  exact ⟨h.g.trans hg, (hg.block _ h1 (fun e => by have := Option.some.inj e; omega)).trans h.a, (hg.block _ h2 (fun e => by have := Option.some.inj e; omega)).trans h.r, hb⟩
theorem StM.below {w X Y : World} {B : Nat} (h : StM w B X) (hg : Below X.heap.size X Y) : StM w B Y := h.grown ((grown_none hg).but _)
theorem StM.set {w X : World} {B : Nat} (h : StM w B X) (o : Nat) (v : Value) : StM w B (X.setCell ⟨B, o, none⟩ v) := h.grown (grown_set (World.grownBy.refl _ _) o v)
theorem StM.cells {w X : World} {B : Nat} (h : StM w B X) : (X.cell? ⟨w.heap.size, 0, none⟩ = some (.int .i64 0) ∧ X.cell? ⟨w.heap.size, 1, none⟩ = some (.string .empty) ∧ X.cell? ⟨w.heap.size, 2, none⟩ = some (.string .empty) ∧ ∀ o, X.frozen? ⟨w.heap.size, o, none⟩ = false) ∧
    X.cell? ⟨w.heap.size + 1, 0, none⟩ = some (.int .i64 0) ∧ X.cell? ⟨w.heap.size + 1, 1, none⟩ = some (.int .i64 0) ∧ ∀ o, X.frozen? ⟨w.heap.size + 1, o, none⟩ = false :=
  ⟨⟨h.a.cell 0, h.a.cell 1, h.a.cell 2, fun o => h.a.frozen o⟩, h.r.cell 0, h.r.cell 1, fun o => h.r.frozen o⟩
def StP (W : World) (B : Nat) (s : ByteArray) (p f t : Nat) (e : Ending) (W' : World) : Prop :=
  W.grownBy W' (some B) ∧ ((∃ q, stS s p f t = (none, q) ∧ e = .returned (.tuple #[.agg (encS ⟨0, .empty, .empty⟩).toArray, .agg #[.int .i64 271, .int .i64 q]])) ∨
    (∃ (x : Sp) (q : Nat), stS s p f t = (some x, q) ∧ e = .returned (.tuple #[.agg (encS x).toArray, .agg #[.int .i64 0, .int .i64 0]]) ∧ RdK W W' B s q (f + x.k.toNat + x.d.size) (t + x.k.toNat + x.p.size)))
set_option maxHeartbeats 4000000 in
theorem step_any {B p f t : Nat} {s : ByteArray} {w : World} (h : RdB w B s p f t) (hp : p ≤ s.size) (hs : s.size ≤ 1048576) (hf : f ≤ 65536) (ht : t ≤ 65536) (h16 : w.cell? ⟨2, 15, none⟩ = some (.int .u8 4)) (hB2 : B ≠ 2) :
    Calls Tryd.prog 39 #[.pointer (some ⟨B, 0, none⟩)] w (StP w B s p f t) := by
  have hBw : B < w.heap.size := (Array.getElem?_eq_some_iff.1 h).1
  obtain ⟨w0, hw0⟩ : ∃ Z, (w.alloc (.cells #[.int .i64 0, .string ⟨#[]⟩, .string ⟨#[]⟩] 39)).alloc (.cells #[.int .i64 0, .int .i64 0] 30) = Z := ⟨_, rfl⟩
  have hb0 : Below w.heap.size w w0 := hw0 ▸ ((Below.refl _ _).alloc (Nat.le_refl _) _).alloc (by simp) _
  have hM : StM w B w0 := by
    refine ⟨(grown_none hb0).but _, ?_, ?_, hBw⟩
    · rw [← hw0]
      exact (Below.heap_alloc _ _ _ (by simp)).trans (World.alloc_heap_new w _)
    · rw [← hw0]
      have := World.alloc_heap_new (w.alloc (.cells #[.int .i64 0, .string ⟨#[]⟩, .string ⟨#[]⟩] 39)) (.cells #[.int .i64 0, .int .i64 0] 30)
      simpa [Blk] using this
  have hal : RdK w w0 B s p f t := (RdK.start h).below hb0
  have cL := look_any hal.1 hp (by omega)
  have cb := fun q Y => bad_any q Y
  have hpI : (p : Int) ≤ 1048576 := by omega
  obtain ⟨c, hc⟩ : ∃ c, lkN s p = c := ⟨_, rfl⟩
  rw [hc] at cL
  have hlq : c ≠ 0 → p + 1 ≤ s.size := fun h0 => lkN_lt hc h0
  have h16g : ∀ X, w.grownBy X (some B) → X.cell? ⟨2, 15, none⟩ = some (.int .u8 4) := fun X hg => hg.cell h16 (fun e => hB2 (Option.some.inj e).symm)
  have HH := Lib.hid (And.intro hs (And.intro hf (And.intro ht (And.intro hc (And.intro hlq (And.intro hB2 h16g))))))
  have HA := Lib.hid (And.intro hal hM)
  clear h hp hs hf ht h16 hB2 hc hlq h16g hBw hb0 hal hM
  by_cases h1 : c = 61
  · subst h1
    have hpl := HH.out.2.2.2.2.1 (by decide)
    have cN := fun (Y : World) (hY : RdB Y B s (p + 1) f t) (hg : w.grownBy Y (some B)) => number_any hY hpl HH.out.1 HH.out.2.1 HH.out.2.2.1
    rcases hn : numT s (p + 1) f t with ⟨_ | n, q⟩
    · have hT : stS s p f t = (none, q) := by unfold stS; rw [HH.out.2.2.2.1]; rw [if_pos rfl]; rw [hn]
      have HT := Lib.hid (And.intro hT hn)
      clear hT hn hpl
      go_enter Tryd.func39, Tryd.ntmps39
      go_wp2_with (first
        | (go_at_call 37; (try rw [hw0]); go_must (refine cL.mono ?_; rintro e w1 ⟨rfl, y, rfl⟩; have HY := Lib.hid (HA.out.1.drew y); have HM := Lib.hid (HA.out.2.drew y); obtain ⟨k0, k1, k2, k3, kf⟩ := HY.out.cells))
        | (go_at_call 62; go_must (refine (cN _ (by have := (HY.out.to (p + 1)).1; simpa using this) (HM.out.set 1 _).g).mono ?_; intro e w3 hP; obtain ⟨hg3, rfl⟩ := NumP.none hP HT.out.2; have HM3 := Lib.hid ((HM.out.set 1 _).grown hg3); clear hP hg3)))
      refine wp_region_noPanic ?_
      refine wp_region_g (S := untilG [] (fun X => Blk X w3.heap.size #[.int .i64 271, .int .i64 q] 30)) (by kernel_rfl) ?_
      obtain ⟨X0, hX0⟩ : ∃ Z, (w3.alloc (.cells #[.int .i64 271, .int .i64 q] 30)).drew = Z := ⟨_, rfl⟩
      have U0 : Below w3.heap.size w3 X0 := hX0 ▸ ((Below.refl w3.heap.size w3).alloc (Nat.le_refl _) (.cells #[.int .i64 271, .int .i64 q] 30)).drew
      have T0 : Blk X0 w3.heap.size #[.int .i64 271, .int .i64 q] 30 := hX0 ▸ Blk.new w3 #[.int .i64 271, .int .i64 q] 30
      have HM5 := Lib.hid (HM3.out.below U0)
      have hg1 : w3.heap.size ≠ w.heap.size := by have := (Array.getElem?_eq_some_iff.1 HM3.out.a).1; omega
      have hg2 : w3.heap.size ≠ w.heap.size + 1 := by have := (Array.getElem?_eq_some_iff.1 HM3.out.r).1; omega
      obtain ⟨⟨z0, z1, z2, zf⟩, r0, r1, rf⟩ := HM5.out.cells
      rw [hX0]
      clear hX0 U0
      refine wpAnyG_take [0, 1, 3] (i := 0) (v := (.int .i64 0)) rfl (by kernel_rfl) (by kernel_rfl) (by kernel_rfl) (by kernel_rfl) (by kernel_rfl) (by kernel_rfl) (by kernel_rfl) (by kernel_rfl) (fun _ _ _ h => h) (Or.inl ⟨by rfl, ?hy⟩) T0 ?_
      case hy =>
        intro X hX
        go_simp
      try simp only [Act.put, List.getElem_toArray, List.getElem_cons_zero, List.getElem_cons_succ, List.setIfInBounds_toArray, List.set_cons_zero, List.set_cons_succ]
      refine wpAnyG_take [1, 3] (i := 1) (v := (.agg #[.int .i64 0, .string ⟨#[]⟩, .string ⟨#[]⟩])) rfl (by kernel_rfl) (by kernel_rfl) (by kernel_rfl) (by kernel_rfl) (by kernel_rfl) (by kernel_rfl) (by kernel_rfl) (by kernel_rfl) (fun _ _ _ h => h) (Or.inl ⟨by rfl, ?hy⟩) T0 ?_
      case hy =>
        intro X hX
        (go_simp; try rfl)
      try simp only [Act.put, List.getElem_toArray, List.getElem_cons_zero, List.getElem_cons_succ, List.setIfInBounds_toArray, List.set_cons_zero, List.set_cons_succ]
      refine wpAnyG_take [2, 4] (i := 2) (v := (.agg #[.int .i64 271, .int .i64 q])) rfl (by kernel_rfl) (by kernel_rfl) (by kernel_rfl) (by kernel_rfl) (by kernel_rfl) (by kernel_rfl) (by kernel_rfl) (by kernel_rfl) (fun _ _ _ h => h) (Or.inl ⟨by rfl, ?hy⟩) T0 ?_
      case hy =>
        intro X hX
        have e0 : X.cell? ⟨w3.heap.size, 0, none⟩ = _ := hX.cell 0
        have e1 : X.cell? ⟨w3.heap.size, 1, none⟩ = _ := hX.cell 1
        simp only [List.getElem?_toArray, List.getElem?_cons_zero, List.getElem?_cons_succ] at e0 e1
        go_simp
      try simp only [Act.put, List.getElem_toArray, List.getElem_cons_zero, List.getElem_cons_succ, List.setIfInBounds_toArray, List.set_cons_zero, List.set_cons_succ]
      refine wpAnyG_all (rs := [3]) (by kernel_rfl) (by simp) ?_
      intro i hi
      simp only [List.mem_cons, List.not_mem_nil, or_false] at hi
      subst hi
      refine wpOp_now rfl rfl ?_
      go_simp
      refine ⟨fun _ => Blk.other (Blk.other (Blk.other T0 hg1 0 _) hg1 1 _) hg1 2 _, ?_⟩
      try simp only [Act.put, List.getElem_toArray, List.getElem_cons_zero, List.getElem_cons_succ, List.setIfInBounds_toArray, List.set_cons_zero, List.set_cons_succ]
      refine wpAnyG_all (rs := [4]) (by kernel_rfl) (by simp) ?_
      intro i hi
      simp only [List.mem_cons, List.not_mem_nil, or_false] at hi
      subst hi
      refine wpOp_now rfl rfl ?_
      go_simp
      refine ⟨fun _ => Blk.other (Blk.other (Blk.other (Blk.other (Blk.other T0 hg1 0 _) hg1 1 _) hg1 2 _) hg2 0 _) hg2 1 _, ?_⟩
      try simp only [Act.put, List.getElem_toArray, List.getElem_cons_zero, List.getElem_cons_succ, List.setIfInBounds_toArray, List.set_cons_zero, List.set_cons_succ]
      refine wpAnyG_done (by kernel_rfl) ?_ _
      refine NoPanic.normal ?_
      go_wp2
      refine bodyPost_ret (v := .tuple #[.agg (encS ⟨0, .empty, .empty⟩).toArray, .agg #[.int .i64 271, .int .i64 q]]) (by simp [results, Tryd.f39, go_sem, encS, z0, z1, z2, zf, r0, r1, rf]; try rfl) rfl ?_
      have hG := grown_new (grown_new (grown_new (grown_new (grown_new HM5.out.g (Nat.le_refl _) 0 (.int .i64 0)) (Nat.le_refl _) 1 (.string .empty)) (Nat.le_refl _) 2 (.string .empty)) (Nat.le_succ _) 0 (.int .i64 271)) (Nat.le_succ _) 1 (.int .i64 q)
      exact ⟨hG, .inl ⟨q, HT.out.1, rfl⟩⟩
    · have hT : stS s p f t = (some ⟨n, .empty, .empty⟩, q) := by unfold stS; rw [HH.out.2.2.2.1]; rw [if_pos rfl]; rw [hn]
      have HT := Lib.hid (And.intro hT hn)
      clear hT hn hpl
      go_enter Tryd.func39, Tryd.ntmps39
      go_wp2_with (first
        | (go_at_call 37; (try rw [hw0]); go_must (refine cL.mono ?_; rintro e w1 ⟨rfl, y, rfl⟩; have HY := Lib.hid (HA.out.1.drew y); have HM := Lib.hid (HA.out.2.drew y); obtain ⟨k0, k1, k2, k3, kf⟩ := HY.out.cells))
        | (go_at_call 62; go_must (refine (cN _ (by have := (HY.out.to (p + 1)).1; simpa using this) (HM.out.set 1 _).g).mono ?_; intro e w3 hP; obtain ⟨rfl, hk⟩ := NumP.some hP HT.out.2; have HM3 := Lib.hid ((HM.out.set 1 _).grown hk.2); have HK := Lib.hid hk; clear hP hk)))
      refine wp_region_noPanic ?_
      refine wp_region_g (S := untilG [] (fun X => Blk X w3.heap.size #[.int .i64 0, .int .i64 0] 30)) (by kernel_rfl) ?_
      obtain ⟨X0, hX0⟩ : ∃ Z, (w3.alloc (.cells #[.int .i64 0, .int .i64 0] 30)).drew = Z := ⟨_, rfl⟩
      have U0 : Below w3.heap.size w3 X0 := hX0 ▸ ((Below.refl w3.heap.size w3).alloc (Nat.le_refl _) (.cells #[.int .i64 0, .int .i64 0] 30)).drew
      have T0 : Blk X0 w3.heap.size #[.int .i64 0, .int .i64 0] 30 := hX0 ▸ Blk.new w3 #[.int .i64 0, .int .i64 0] 30
      have HM5 := Lib.hid (HM3.out.below U0)
      have hg1 : w3.heap.size ≠ w.heap.size := by have := (Array.getElem?_eq_some_iff.1 HM3.out.a).1; omega
      have hg2 : w3.heap.size ≠ w.heap.size + 1 := by have := (Array.getElem?_eq_some_iff.1 HM3.out.r).1; omega
      obtain ⟨⟨z0, z1, z2, zf⟩, r0, r1, rf⟩ := HM5.out.cells
      have HR5 := Lib.hid (Blk.below' HK.out.1 U0)
      rw [hX0]
      clear hX0 U0
      refine wpAnyG_take [0, 1, 3] (i := 0) (v := (.int .i64 n)) rfl (by kernel_rfl) (by kernel_rfl) (by kernel_rfl) (by kernel_rfl) (by kernel_rfl) (by kernel_rfl) (by kernel_rfl) (by kernel_rfl) (fun _ _ _ h => h) (Or.inl ⟨by rfl, ?hy⟩) T0 ?_
      case hy =>
        intro X hX
        go_simp
      try simp only [Act.put, List.getElem_toArray, List.getElem_cons_zero, List.getElem_cons_succ, List.setIfInBounds_toArray, List.set_cons_zero, List.set_cons_succ]
      refine wpAnyG_take [1, 3] (i := 1) (v := (.agg #[.int .i64 n, .string ⟨#[]⟩, .string ⟨#[]⟩])) rfl (by kernel_rfl) (by kernel_rfl) (by kernel_rfl) (by kernel_rfl) (by kernel_rfl) (by kernel_rfl) (by kernel_rfl) (by kernel_rfl) (fun _ _ _ h => h) (Or.inl ⟨by rfl, ?hy⟩) T0 ?_
      case hy =>
        intro X hX
        (go_simp; try rfl)
      try simp only [Act.put, List.getElem_toArray, List.getElem_cons_zero, List.getElem_cons_succ, List.setIfInBounds_toArray, List.set_cons_zero, List.set_cons_succ]
      refine wpAnyG_take [2, 4] (i := 2) (v := (.agg #[.int .i64 0, .int .i64 0])) rfl (by kernel_rfl) (by kernel_rfl) (by kernel_rfl) (by kernel_rfl) (by kernel_rfl) (by kernel_rfl) (by kernel_rfl) (by kernel_rfl) (fun _ _ _ h => h) (Or.inl ⟨by rfl, ?hy⟩) T0 ?_
      case hy =>
        intro X hX
        have e0 : X.cell? ⟨w3.heap.size, 0, none⟩ = _ := hX.cell 0
        have e1 : X.cell? ⟨w3.heap.size, 1, none⟩ = _ := hX.cell 1
        simp only [List.getElem?_toArray, List.getElem?_cons_zero, List.getElem?_cons_succ] at e0 e1
        go_simp
      try simp only [Act.put, List.getElem_toArray, List.getElem_cons_zero, List.getElem_cons_succ, List.setIfInBounds_toArray, List.set_cons_zero, List.set_cons_succ]
      refine wpAnyG_all (rs := [3]) (by kernel_rfl) (by simp) ?_
      intro i hi
      simp only [List.mem_cons, List.not_mem_nil, or_false] at hi
      subst hi
      refine wpOp_now rfl rfl ?_
      go_simp
      refine ⟨fun _ => Blk.other (Blk.other (Blk.other T0 hg1 0 _) hg1 1 _) hg1 2 _, ?_⟩
      try simp only [Act.put, List.getElem_toArray, List.getElem_cons_zero, List.getElem_cons_succ, List.setIfInBounds_toArray, List.set_cons_zero, List.set_cons_succ]
      refine wpAnyG_all (rs := [4]) (by kernel_rfl) (by simp) ?_
      intro i hi
      simp only [List.mem_cons, List.not_mem_nil, or_false] at hi
      subst hi
      refine wpOp_now rfl rfl ?_
      go_simp
      refine ⟨fun _ => Blk.other (Blk.other (Blk.other (Blk.other (Blk.other T0 hg1 0 _) hg1 1 _) hg1 2 _) hg2 0 _) hg2 1 _, ?_⟩
      try simp only [Act.put, List.getElem_toArray, List.getElem_cons_zero, List.getElem_cons_succ, List.setIfInBounds_toArray, List.set_cons_zero, List.set_cons_succ]
      refine wpAnyG_done (by kernel_rfl) ?_ _
      refine NoPanic.normal ?_
      go_wp2
      refine bodyPost_ret (v := .tuple #[.agg (encS ⟨n, .empty, .empty⟩).toArray, .agg #[.int .i64 0, .int .i64 0]]) (by simp [results, Tryd.f39, go_sem, encS, z0, z1, z2, zf, r0, r1, rf]; try rfl) rfl ?_
      have hG := grown_new (grown_new (grown_new (grown_new (grown_new HM5.out.g (Nat.le_refl _) 0 (.int .i64 n)) (Nat.le_refl _) 1 (.string .empty)) (Nat.le_refl _) 2 (.string .empty)) (Nat.le_succ _) 0 (.int .i64 0)) (Nat.le_succ _) 1 (.int .i64 0)
      have hb1 : B ≠ w.heap.size := by have := HM5.out.b; omega
      have hb2 : B ≠ w.heap.size + 1 := by have := HM5.out.b; omega
      refine ⟨hG, .inr ⟨_, q, HT.out.1, rfl, ?_, hG⟩⟩
      have h9 := Blk.other (Blk.other (Blk.other (Blk.other (Blk.other HR5.out hb1 0 (.int .i64 n)) hb1 1 (.string .empty)) hb1 2 (.string .empty)) hb2 0 (.int .i64 0)) hb2 1 (.int .i64 0)
      exact h9
  by_cases h2 : c = 45
  · subst h2
    clear h1
    have hpl := HH.out.2.2.2.2.1 (by decide)
    have cN := fun (Y : World) (hY : RdB Y B s (p + 1) f t) (hg : w.grownBy Y (some B)) => quoted_any hY hpl HH.out.1 HH.out.2.1 HH.out.2.2.1 (HH.out.2.2.2.2.2.2 _ hg) HH.out.2.2.2.2.2.1 true
    rcases hn : quoT s (p + 1) f t true with ⟨_ | n, q⟩
    · have hT : stS s p f t = (none, q) := by unfold stS; rw [HH.out.2.2.2.1]; rw [if_neg (by omega), if_pos rfl]; rw [hn]
      have HT := Lib.hid (And.intro hT hn)
      clear hT hn hpl
      go_enter Tryd.func39, Tryd.ntmps39
      go_wp2_with (first
        | (go_at_call 37; (try rw [hw0]); go_must (refine cL.mono ?_; rintro e w1 ⟨rfl, y, rfl⟩; have HY := Lib.hid (HA.out.1.drew y); have HM := Lib.hid (HA.out.2.drew y); obtain ⟨k0, k1, k2, k3, kf⟩ := HY.out.cells))
        | (go_at_call 63; go_must (refine (cN _ (by have := (HY.out.to (p + 1)).1; simpa using this) (HM.out.set 1 _).g).mono ?_; intro e w3 hP; obtain ⟨hg3, rfl⟩ := QuoP.none hP HT.out.2; have HM3 := Lib.hid ((HM.out.set 1 _).grown hg3); clear hP hg3)))
      refine wp_region_noPanic ?_
      refine wp_region_g (S := untilG [] (fun X => Blk X w3.heap.size #[.int .i64 271, .int .i64 q] 30)) (by kernel_rfl) ?_
      obtain ⟨X0, hX0⟩ : ∃ Z, (w3.alloc (.cells #[.int .i64 271, .int .i64 q] 30)).drew = Z := ⟨_, rfl⟩
      have U0 : Below w3.heap.size w3 X0 := hX0 ▸ ((Below.refl w3.heap.size w3).alloc (Nat.le_refl _) (.cells #[.int .i64 271, .int .i64 q] 30)).drew
      have T0 : Blk X0 w3.heap.size #[.int .i64 271, .int .i64 q] 30 := hX0 ▸ Blk.new w3 #[.int .i64 271, .int .i64 q] 30
      have HM5 := Lib.hid (HM3.out.below U0)
      have hg1 : w3.heap.size ≠ w.heap.size := by have := (Array.getElem?_eq_some_iff.1 HM3.out.a).1; omega
      have hg2 : w3.heap.size ≠ w.heap.size + 1 := by have := (Array.getElem?_eq_some_iff.1 HM3.out.r).1; omega
      obtain ⟨⟨z0, z1, z2, zf⟩, r0, r1, rf⟩ := HM5.out.cells
      rw [hX0]
      clear hX0 U0
      refine wpAnyG_take [0, 1, 3] (i := 0) (v := (.string .empty)) rfl (by kernel_rfl) (by kernel_rfl) (by kernel_rfl) (by kernel_rfl) (by kernel_rfl) (by kernel_rfl) (by kernel_rfl) (by kernel_rfl) (fun _ _ _ h => h) (Or.inl ⟨by rfl, ?hy⟩) T0 ?_
      case hy =>
        intro X hX
        go_simp
      try simp only [Act.put, List.getElem_toArray, List.getElem_cons_zero, List.getElem_cons_succ, List.setIfInBounds_toArray, List.set_cons_zero, List.set_cons_succ]
      refine wpAnyG_take [1, 3] (i := 1) (v := (.agg #[.int .i64 0, .string .empty, .string ⟨#[]⟩])) rfl (by kernel_rfl) (by kernel_rfl) (by kernel_rfl) (by kernel_rfl) (by kernel_rfl) (by kernel_rfl) (by kernel_rfl) (by kernel_rfl) (fun _ _ _ h => h) (Or.inl ⟨by rfl, ?hy⟩) T0 ?_
      case hy =>
        intro X hX
        (go_simp; try rfl)
      try simp only [Act.put, List.getElem_toArray, List.getElem_cons_zero, List.getElem_cons_succ, List.setIfInBounds_toArray, List.set_cons_zero, List.set_cons_succ]
      refine wpAnyG_take [2, 4] (i := 2) (v := (.agg #[.int .i64 271, .int .i64 q])) rfl (by kernel_rfl) (by kernel_rfl) (by kernel_rfl) (by kernel_rfl) (by kernel_rfl) (by kernel_rfl) (by kernel_rfl) (by kernel_rfl) (fun _ _ _ h => h) (Or.inl ⟨by rfl, ?hy⟩) T0 ?_
      case hy =>
        intro X hX
        have e0 : X.cell? ⟨w3.heap.size, 0, none⟩ = _ := hX.cell 0
        have e1 : X.cell? ⟨w3.heap.size, 1, none⟩ = _ := hX.cell 1
        simp only [List.getElem?_toArray, List.getElem?_cons_zero, List.getElem?_cons_succ] at e0 e1
        go_simp
      try simp only [Act.put, List.getElem_toArray, List.getElem_cons_zero, List.getElem_cons_succ, List.setIfInBounds_toArray, List.set_cons_zero, List.set_cons_succ]
      refine wpAnyG_all (rs := [3]) (by kernel_rfl) (by simp) ?_
      intro i hi
      simp only [List.mem_cons, List.not_mem_nil, or_false] at hi
      subst hi
      refine wpOp_now rfl rfl ?_
      go_simp
      refine ⟨fun _ => Blk.other (Blk.other (Blk.other T0 hg1 0 _) hg1 1 _) hg1 2 _, ?_⟩
      try simp only [Act.put, List.getElem_toArray, List.getElem_cons_zero, List.getElem_cons_succ, List.setIfInBounds_toArray, List.set_cons_zero, List.set_cons_succ]
      refine wpAnyG_all (rs := [4]) (by kernel_rfl) (by simp) ?_
      intro i hi
      simp only [List.mem_cons, List.not_mem_nil, or_false] at hi
      subst hi
      refine wpOp_now rfl rfl ?_
      go_simp
      refine ⟨fun _ => Blk.other (Blk.other (Blk.other (Blk.other (Blk.other T0 hg1 0 _) hg1 1 _) hg1 2 _) hg2 0 _) hg2 1 _, ?_⟩
      try simp only [Act.put, List.getElem_toArray, List.getElem_cons_zero, List.getElem_cons_succ, List.setIfInBounds_toArray, List.set_cons_zero, List.set_cons_succ]
      refine wpAnyG_done (by kernel_rfl) ?_ _
      refine NoPanic.normal ?_
      go_wp2
      refine bodyPost_ret (v := .tuple #[.agg (encS ⟨0, .empty, .empty⟩).toArray, .agg #[.int .i64 271, .int .i64 q]]) (by simp [results, Tryd.f39, go_sem, encS, z0, z1, z2, zf, r0, r1, rf]; try rfl) rfl ?_
      have hG := grown_new (grown_new (grown_new (grown_new (grown_new HM5.out.g (Nat.le_refl _) 0 (.int .i64 0)) (Nat.le_refl _) 1 (.string .empty)) (Nat.le_refl _) 2 (.string .empty)) (Nat.le_succ _) 0 (.int .i64 271)) (Nat.le_succ _) 1 (.int .i64 q)
      exact ⟨hG, .inl ⟨q, HT.out.1, rfl⟩⟩
    · have hT : stS s p f t = (some ⟨0, n, .empty⟩, q) := by unfold stS; rw [HH.out.2.2.2.1]; rw [if_neg (by omega), if_pos rfl]; rw [hn]
      have HT := Lib.hid (And.intro hT hn)
      clear hT hn hpl
      go_enter Tryd.func39, Tryd.ntmps39
      go_wp2_with (first
        | (go_at_call 37; (try rw [hw0]); go_must (refine cL.mono ?_; rintro e w1 ⟨rfl, y, rfl⟩; have HY := Lib.hid (HA.out.1.drew y); have HM := Lib.hid (HA.out.2.drew y); obtain ⟨k0, k1, k2, k3, kf⟩ := HY.out.cells))
        | (go_at_call 63; go_must (refine (cN _ (by have := (HY.out.to (p + 1)).1; simpa using this) (HM.out.set 1 _).g).mono ?_; intro e w3 hP; obtain ⟨rfl, hk⟩ := QuoP.some hP HT.out.2; have HM3 := Lib.hid ((HM.out.set 1 _).grown hk.2); have HK := Lib.hid hk; clear hP hk)))
      refine wp_region_noPanic ?_
      refine wp_region_g (S := untilG [] (fun X => Blk X w3.heap.size #[.int .i64 0, .int .i64 0] 30)) (by kernel_rfl) ?_
      obtain ⟨X0, hX0⟩ : ∃ Z, (w3.alloc (.cells #[.int .i64 0, .int .i64 0] 30)).drew = Z := ⟨_, rfl⟩
      have U0 : Below w3.heap.size w3 X0 := hX0 ▸ ((Below.refl w3.heap.size w3).alloc (Nat.le_refl _) (.cells #[.int .i64 0, .int .i64 0] 30)).drew
      have T0 : Blk X0 w3.heap.size #[.int .i64 0, .int .i64 0] 30 := hX0 ▸ Blk.new w3 #[.int .i64 0, .int .i64 0] 30
      have HM5 := Lib.hid (HM3.out.below U0)
      have hg1 : w3.heap.size ≠ w.heap.size := by have := (Array.getElem?_eq_some_iff.1 HM3.out.a).1; omega
      have hg2 : w3.heap.size ≠ w.heap.size + 1 := by have := (Array.getElem?_eq_some_iff.1 HM3.out.r).1; omega
      obtain ⟨⟨z0, z1, z2, zf⟩, r0, r1, rf⟩ := HM5.out.cells
      have HR5 := Lib.hid (Blk.below' HK.out.1 U0)
      rw [hX0]
      clear hX0 U0
      refine wpAnyG_take [0, 1, 3] (i := 0) (v := (.string n)) rfl (by kernel_rfl) (by kernel_rfl) (by kernel_rfl) (by kernel_rfl) (by kernel_rfl) (by kernel_rfl) (by kernel_rfl) (by kernel_rfl) (fun _ _ _ h => h) (Or.inl ⟨by rfl, ?hy⟩) T0 ?_
      case hy =>
        intro X hX
        go_simp
      try simp only [Act.put, List.getElem_toArray, List.getElem_cons_zero, List.getElem_cons_succ, List.setIfInBounds_toArray, List.set_cons_zero, List.set_cons_succ]
      refine wpAnyG_take [1, 3] (i := 1) (v := (.agg #[.int .i64 0, .string n, .string ⟨#[]⟩])) rfl (by kernel_rfl) (by kernel_rfl) (by kernel_rfl) (by kernel_rfl) (by kernel_rfl) (by kernel_rfl) (by kernel_rfl) (by kernel_rfl) (fun _ _ _ h => h) (Or.inl ⟨by rfl, ?hy⟩) T0 ?_
      case hy =>
        intro X hX
        (go_simp; try rfl)
      try simp only [Act.put, List.getElem_toArray, List.getElem_cons_zero, List.getElem_cons_succ, List.setIfInBounds_toArray, List.set_cons_zero, List.set_cons_succ]
      refine wpAnyG_take [2, 4] (i := 2) (v := (.agg #[.int .i64 0, .int .i64 0])) rfl (by kernel_rfl) (by kernel_rfl) (by kernel_rfl) (by kernel_rfl) (by kernel_rfl) (by kernel_rfl) (by kernel_rfl) (by kernel_rfl) (fun _ _ _ h => h) (Or.inl ⟨by rfl, ?hy⟩) T0 ?_
      case hy =>
        intro X hX
        have e0 : X.cell? ⟨w3.heap.size, 0, none⟩ = _ := hX.cell 0
        have e1 : X.cell? ⟨w3.heap.size, 1, none⟩ = _ := hX.cell 1
        simp only [List.getElem?_toArray, List.getElem?_cons_zero, List.getElem?_cons_succ] at e0 e1
        go_simp
      try simp only [Act.put, List.getElem_toArray, List.getElem_cons_zero, List.getElem_cons_succ, List.setIfInBounds_toArray, List.set_cons_zero, List.set_cons_succ]
      refine wpAnyG_all (rs := [3]) (by kernel_rfl) (by simp) ?_
      intro i hi
      simp only [List.mem_cons, List.not_mem_nil, or_false] at hi
      subst hi
      refine wpOp_now rfl rfl ?_
      go_simp
      refine ⟨fun _ => Blk.other (Blk.other (Blk.other T0 hg1 0 _) hg1 1 _) hg1 2 _, ?_⟩
      try simp only [Act.put, List.getElem_toArray, List.getElem_cons_zero, List.getElem_cons_succ, List.setIfInBounds_toArray, List.set_cons_zero, List.set_cons_succ]
      refine wpAnyG_all (rs := [4]) (by kernel_rfl) (by simp) ?_
      intro i hi
      simp only [List.mem_cons, List.not_mem_nil, or_false] at hi
      subst hi
      refine wpOp_now rfl rfl ?_
      go_simp
      refine ⟨fun _ => Blk.other (Blk.other (Blk.other (Blk.other (Blk.other T0 hg1 0 _) hg1 1 _) hg1 2 _) hg2 0 _) hg2 1 _, ?_⟩
      try simp only [Act.put, List.getElem_toArray, List.getElem_cons_zero, List.getElem_cons_succ, List.setIfInBounds_toArray, List.set_cons_zero, List.set_cons_succ]
      refine wpAnyG_done (by kernel_rfl) ?_ _
      refine NoPanic.normal ?_
      go_wp2
      refine bodyPost_ret (v := .tuple #[.agg (encS ⟨0, n, .empty⟩).toArray, .agg #[.int .i64 0, .int .i64 0]]) (by simp [results, Tryd.f39, go_sem, encS, z0, z1, z2, zf, r0, r1, rf]; try rfl) rfl ?_
      have hG := grown_new (grown_new (grown_new (grown_new (grown_new HM5.out.g (Nat.le_refl _) 0 (.int .i64 0)) (Nat.le_refl _) 1 (.string n)) (Nat.le_refl _) 2 (.string .empty)) (Nat.le_succ _) 0 (.int .i64 0)) (Nat.le_succ _) 1 (.int .i64 0)
      have hb1 : B ≠ w.heap.size := by have := HM5.out.b; omega
      have hb2 : B ≠ w.heap.size + 1 := by have := HM5.out.b; omega
      refine ⟨hG, .inr ⟨_, q, HT.out.1, rfl, ?_, hG⟩⟩
      have h9 := Blk.other (Blk.other (Blk.other (Blk.other (Blk.other HR5.out hb1 0 (.int .i64 0)) hb1 1 (.string n)) hb1 2 (.string .empty)) hb2 0 (.int .i64 0)) hb2 1 (.int .i64 0)
      exact h9
  by_cases h3 : c = 43
  · subst h3
    clear h1 h2
    have hpl := HH.out.2.2.2.2.1 (by decide)
    have cN := fun (Y : World) (hY : RdB Y B s (p + 1) f t) (hg : w.grownBy Y (some B)) => quoted_any hY hpl HH.out.1 HH.out.2.1 HH.out.2.2.1 (HH.out.2.2.2.2.2.2 _ hg) HH.out.2.2.2.2.2.1 false
    rcases hn : quoT s (p + 1) f t false with ⟨_ | n, q⟩
    · have hT : stS s p f t = (none, q) := by unfold stS; rw [HH.out.2.2.2.1]; rw [if_neg (by omega), if_neg (by omega), if_pos rfl]; rw [hn]
      have HT := Lib.hid (And.intro hT hn)
      clear hT hn hpl
      go_enter Tryd.func39, Tryd.ntmps39
      go_wp2_with (first
        | (go_at_call 37; (try rw [hw0]); go_must (refine cL.mono ?_; rintro e w1 ⟨rfl, y, rfl⟩; have HY := Lib.hid (HA.out.1.drew y); have HM := Lib.hid (HA.out.2.drew y); obtain ⟨k0, k1, k2, k3, kf⟩ := HY.out.cells))
        | (go_at_call 63; go_must (refine (cN _ (by have := (HY.out.to (p + 1)).1; simpa using this) (HM.out.set 1 _).g).mono ?_; intro e w3 hP; obtain ⟨hg3, rfl⟩ := QuoP.none hP HT.out.2; have HM3 := Lib.hid ((HM.out.set 1 _).grown hg3); clear hP hg3)))
      refine wp_region_noPanic ?_
      refine wp_region_g (S := untilG [] (fun X => Blk X w3.heap.size #[.int .i64 271, .int .i64 q] 30)) (by kernel_rfl) ?_
      obtain ⟨X0, hX0⟩ : ∃ Z, (w3.alloc (.cells #[.int .i64 271, .int .i64 q] 30)).drew = Z := ⟨_, rfl⟩
      have U0 : Below w3.heap.size w3 X0 := hX0 ▸ ((Below.refl w3.heap.size w3).alloc (Nat.le_refl _) (.cells #[.int .i64 271, .int .i64 q] 30)).drew
      have T0 : Blk X0 w3.heap.size #[.int .i64 271, .int .i64 q] 30 := hX0 ▸ Blk.new w3 #[.int .i64 271, .int .i64 q] 30
      have HM5 := Lib.hid (HM3.out.below U0)
      have hg1 : w3.heap.size ≠ w.heap.size := by have := (Array.getElem?_eq_some_iff.1 HM3.out.a).1; omega
      have hg2 : w3.heap.size ≠ w.heap.size + 1 := by have := (Array.getElem?_eq_some_iff.1 HM3.out.r).1; omega
      obtain ⟨⟨z0, z1, z2, zf⟩, r0, r1, rf⟩ := HM5.out.cells
      rw [hX0]
      clear hX0 U0
      refine wpAnyG_take [0, 1, 3] (i := 0) (v := (.string .empty)) rfl (by kernel_rfl) (by kernel_rfl) (by kernel_rfl) (by kernel_rfl) (by kernel_rfl) (by kernel_rfl) (by kernel_rfl) (by kernel_rfl) (fun _ _ _ h => h) (Or.inl ⟨by rfl, ?hy⟩) T0 ?_
      case hy =>
        intro X hX
        go_simp
      try simp only [Act.put, List.getElem_toArray, List.getElem_cons_zero, List.getElem_cons_succ, List.setIfInBounds_toArray, List.set_cons_zero, List.set_cons_succ]
      refine wpAnyG_take [1, 3] (i := 1) (v := (.agg #[.int .i64 0, .string ⟨#[]⟩, .string .empty])) rfl (by kernel_rfl) (by kernel_rfl) (by kernel_rfl) (by kernel_rfl) (by kernel_rfl) (by kernel_rfl) (by kernel_rfl) (by kernel_rfl) (fun _ _ _ h => h) (Or.inl ⟨by rfl, ?hy⟩) T0 ?_
      case hy =>
        intro X hX
        (go_simp; try rfl)
      try simp only [Act.put, List.getElem_toArray, List.getElem_cons_zero, List.getElem_cons_succ, List.setIfInBounds_toArray, List.set_cons_zero, List.set_cons_succ]
      refine wpAnyG_take [2, 4] (i := 2) (v := (.agg #[.int .i64 271, .int .i64 q])) rfl (by kernel_rfl) (by kernel_rfl) (by kernel_rfl) (by kernel_rfl) (by kernel_rfl) (by kernel_rfl) (by kernel_rfl) (by kernel_rfl) (fun _ _ _ h => h) (Or.inl ⟨by rfl, ?hy⟩) T0 ?_
      case hy =>
        intro X hX
        have e0 : X.cell? ⟨w3.heap.size, 0, none⟩ = _ := hX.cell 0
        have e1 : X.cell? ⟨w3.heap.size, 1, none⟩ = _ := hX.cell 1
        simp only [List.getElem?_toArray, List.getElem?_cons_zero, List.getElem?_cons_succ] at e0 e1
        go_simp
      try simp only [Act.put, List.getElem_toArray, List.getElem_cons_zero, List.getElem_cons_succ, List.setIfInBounds_toArray, List.set_cons_zero, List.set_cons_succ]
      refine wpAnyG_all (rs := [3]) (by kernel_rfl) (by simp) ?_
      intro i hi
      simp only [List.mem_cons, List.not_mem_nil, or_false] at hi
      subst hi
      refine wpOp_now rfl rfl ?_
      go_simp
      refine ⟨fun _ => Blk.other (Blk.other (Blk.other T0 hg1 0 _) hg1 1 _) hg1 2 _, ?_⟩
      try simp only [Act.put, List.getElem_toArray, List.getElem_cons_zero, List.getElem_cons_succ, List.setIfInBounds_toArray, List.set_cons_zero, List.set_cons_succ]
      refine wpAnyG_all (rs := [4]) (by kernel_rfl) (by simp) ?_
      intro i hi
      simp only [List.mem_cons, List.not_mem_nil, or_false] at hi
      subst hi
      refine wpOp_now rfl rfl ?_
      go_simp
      refine ⟨fun _ => Blk.other (Blk.other (Blk.other (Blk.other (Blk.other T0 hg1 0 _) hg1 1 _) hg1 2 _) hg2 0 _) hg2 1 _, ?_⟩
      try simp only [Act.put, List.getElem_toArray, List.getElem_cons_zero, List.getElem_cons_succ, List.setIfInBounds_toArray, List.set_cons_zero, List.set_cons_succ]
      refine wpAnyG_done (by kernel_rfl) ?_ _
      refine NoPanic.normal ?_
      go_wp2
      refine bodyPost_ret (v := .tuple #[.agg (encS ⟨0, .empty, .empty⟩).toArray, .agg #[.int .i64 271, .int .i64 q]]) (by simp [results, Tryd.f39, go_sem, encS, z0, z1, z2, zf, r0, r1, rf]; try rfl) rfl ?_
      have hG := grown_new (grown_new (grown_new (grown_new (grown_new HM5.out.g (Nat.le_refl _) 0 (.int .i64 0)) (Nat.le_refl _) 1 (.string .empty)) (Nat.le_refl _) 2 (.string .empty)) (Nat.le_succ _) 0 (.int .i64 271)) (Nat.le_succ _) 1 (.int .i64 q)
      exact ⟨hG, .inl ⟨q, HT.out.1, rfl⟩⟩
    · have hT : stS s p f t = (some ⟨0, .empty, n⟩, q) := by unfold stS; rw [HH.out.2.2.2.1]; rw [if_neg (by omega), if_neg (by omega), if_pos rfl]; rw [hn]
      have HT := Lib.hid (And.intro hT hn)
      clear hT hn hpl
      go_enter Tryd.func39, Tryd.ntmps39
      go_wp2_with (first
        | (go_at_call 37; (try rw [hw0]); go_must (refine cL.mono ?_; rintro e w1 ⟨rfl, y, rfl⟩; have HY := Lib.hid (HA.out.1.drew y); have HM := Lib.hid (HA.out.2.drew y); obtain ⟨k0, k1, k2, k3, kf⟩ := HY.out.cells))
        | (go_at_call 63; go_must (refine (cN _ (by have := (HY.out.to (p + 1)).1; simpa using this) (HM.out.set 1 _).g).mono ?_; intro e w3 hP; obtain ⟨rfl, hk⟩ := QuoP.some hP HT.out.2; have HM3 := Lib.hid ((HM.out.set 1 _).grown hk.2); have HK := Lib.hid hk; clear hP hk)))
      refine wp_region_noPanic ?_
      refine wp_region_g (S := untilG [] (fun X => Blk X w3.heap.size #[.int .i64 0, .int .i64 0] 30)) (by kernel_rfl) ?_
      obtain ⟨X0, hX0⟩ : ∃ Z, (w3.alloc (.cells #[.int .i64 0, .int .i64 0] 30)).drew = Z := ⟨_, rfl⟩
      have U0 : Below w3.heap.size w3 X0 := hX0 ▸ ((Below.refl w3.heap.size w3).alloc (Nat.le_refl _) (.cells #[.int .i64 0, .int .i64 0] 30)).drew
      have T0 : Blk X0 w3.heap.size #[.int .i64 0, .int .i64 0] 30 := hX0 ▸ Blk.new w3 #[.int .i64 0, .int .i64 0] 30
      have HM5 := Lib.hid (HM3.out.below U0)
      have hg1 : w3.heap.size ≠ w.heap.size := by have := (Array.getElem?_eq_some_iff.1 HM3.out.a).1; omega
      have hg2 : w3.heap.size ≠ w.heap.size + 1 := by have := (Array.getElem?_eq_some_iff.1 HM3.out.r).1; omega
      obtain ⟨⟨z0, z1, z2, zf⟩, r0, r1, rf⟩ := HM5.out.cells
      have HR5 := Lib.hid (Blk.below' HK.out.1 U0)
      rw [hX0]
      clear hX0 U0
      refine wpAnyG_take [0, 1, 3] (i := 0) (v := (.string n)) rfl (by kernel_rfl) (by kernel_rfl) (by kernel_rfl) (by kernel_rfl) (by kernel_rfl) (by kernel_rfl) (by kernel_rfl) (by kernel_rfl) (fun _ _ _ h => h) (Or.inl ⟨by rfl, ?hy⟩) T0 ?_
      case hy =>
        intro X hX
        go_simp
      try simp only [Act.put, List.getElem_toArray, List.getElem_cons_zero, List.getElem_cons_succ, List.setIfInBounds_toArray, List.set_cons_zero, List.set_cons_succ]
      refine wpAnyG_take [1, 3] (i := 1) (v := (.agg #[.int .i64 0, .string ⟨#[]⟩, .string n])) rfl (by kernel_rfl) (by kernel_rfl) (by kernel_rfl) (by kernel_rfl) (by kernel_rfl) (by kernel_rfl) (by kernel_rfl) (by kernel_rfl) (fun _ _ _ h => h) (Or.inl ⟨by rfl, ?hy⟩) T0 ?_
      case hy =>
        intro X hX
        (go_simp; try rfl)
      try simp only [Act.put, List.getElem_toArray, List.getElem_cons_zero, List.getElem_cons_succ, List.setIfInBounds_toArray, List.set_cons_zero, List.set_cons_succ]
      refine wpAnyG_take [2, 4] (i := 2) (v := (.agg #[.int .i64 0, .int .i64 0])) rfl (by kernel_rfl) (by kernel_rfl) (by kernel_rfl) (by kernel_rfl) (by kernel_rfl) (by kernel_rfl) (by kernel_rfl) (by kernel_rfl) (fun _ _ _ h => h) (Or.inl ⟨by rfl, ?hy⟩) T0 ?_
      case hy =>
        intro X hX
        have e0 : X.cell? ⟨w3.heap.size, 0, none⟩ = _ := hX.cell 0
        have e1 : X.cell? ⟨w3.heap.size, 1, none⟩ = _ := hX.cell 1
        simp only [List.getElem?_toArray, List.getElem?_cons_zero, List.getElem?_cons_succ] at e0 e1
        go_simp
      try simp only [Act.put, List.getElem_toArray, List.getElem_cons_zero, List.getElem_cons_succ, List.setIfInBounds_toArray, List.set_cons_zero, List.set_cons_succ]
      refine wpAnyG_all (rs := [3]) (by kernel_rfl) (by simp) ?_
      intro i hi
      simp only [List.mem_cons, List.not_mem_nil, or_false] at hi
      subst hi
      refine wpOp_now rfl rfl ?_
      go_simp
      refine ⟨fun _ => Blk.other (Blk.other (Blk.other T0 hg1 0 _) hg1 1 _) hg1 2 _, ?_⟩
      try simp only [Act.put, List.getElem_toArray, List.getElem_cons_zero, List.getElem_cons_succ, List.setIfInBounds_toArray, List.set_cons_zero, List.set_cons_succ]
      refine wpAnyG_all (rs := [4]) (by kernel_rfl) (by simp) ?_
      intro i hi
      simp only [List.mem_cons, List.not_mem_nil, or_false] at hi
      subst hi
      refine wpOp_now rfl rfl ?_
      go_simp
      refine ⟨fun _ => Blk.other (Blk.other (Blk.other (Blk.other (Blk.other T0 hg1 0 _) hg1 1 _) hg1 2 _) hg2 0 _) hg2 1 _, ?_⟩
      try simp only [Act.put, List.getElem_toArray, List.getElem_cons_zero, List.getElem_cons_succ, List.setIfInBounds_toArray, List.set_cons_zero, List.set_cons_succ]
      refine wpAnyG_done (by kernel_rfl) ?_ _
      refine NoPanic.normal ?_
      go_wp2
      refine bodyPost_ret (v := .tuple #[.agg (encS ⟨0, .empty, n⟩).toArray, .agg #[.int .i64 0, .int .i64 0]]) (by simp [results, Tryd.f39, go_sem, encS, z0, z1, z2, zf, r0, r1, rf]; try rfl) rfl ?_
      have hG := grown_new (grown_new (grown_new (grown_new (grown_new HM5.out.g (Nat.le_refl _) 0 (.int .i64 0)) (Nat.le_refl _) 1 (.string .empty)) (Nat.le_refl _) 2 (.string n)) (Nat.le_succ _) 0 (.int .i64 0)) (Nat.le_succ _) 1 (.int .i64 0)
      have hb1 : B ≠ w.heap.size := by have := HM5.out.b; omega
      have hb2 : B ≠ w.heap.size + 1 := by have := HM5.out.b; omega
      refine ⟨hG, .inr ⟨_, q, HT.out.1, rfl, ?_, hG⟩⟩
      have h9 := Blk.other (Blk.other (Blk.other (Blk.other (Blk.other HR5.out hb1 0 (.int .i64 0)) hb1 1 (.string .empty)) hb1 2 (.string n)) hb2 0 (.int .i64 0)) hb2 1 (.int .i64 0)
      exact h9
  · have hT : stS s p f t = (none, p) := by unfold stS; rw [HH.out.2.2.2.1, if_neg h1, if_neg h2, if_neg h3]
    have HT := Lib.hid hT
    have a1 : ¬ (c : Int) = 61 := by omega
    have a2 : ¬ (c : Int) = 45 := by omega
    have a3 : ¬ (c : Int) = 43 := by omega
    have b1 : ((c : Int) == 61) = false := by rw [beq_eq_false_iff_ne]; exact a1
    have b2 : ((c : Int) == 45) = false := by rw [beq_eq_false_iff_ne]; exact a2
    have b3 : ((c : Int) == 43) = false := by rw [beq_eq_false_iff_ne]; exact a3
    have d1 : ((c : Int) != 61) = true := by rw [bne, b1]; rfl
    have d2 : ((c : Int) != 45) = true := by rw [bne, b2]; rfl
    have d3 : ((c : Int) != 43) = true := by rw [bne, b3]; rfl
    have d4 : ((c : Int) != 61 && (c : Int) != 45 && (c : Int) != 43) = true := by rw [d1, d2, d3]; rfl
    clear hT h1 h2 h3
    go_enter Tryd.func39, Tryd.ntmps39
    go_wp2_with (first
      | (go_at_call 37; (try rw [hw0]); go_must (refine cL.mono ?_; rintro e w1 ⟨rfl, y, rfl⟩; have HY := Lib.hid (HA.out.1.drew y); have HM := Lib.hid (HA.out.2.drew y); obtain ⟨k0, k1, k2, k3, kf⟩ := HY.out.cells))
      | (go_at_call 38; refine (cb _ _).mono ?_; rintro e w5 ⟨rfl, hb5⟩; have HM5 := Lib.hid (HM.out.below hb5); clear hb5; obtain ⟨⟨z0, z1, z2, zf⟩, r0, r1, rf⟩ := HM5.out.cells))
    refine bodyPost_ret (v := .tuple #[.agg (encS ⟨0, .empty, .empty⟩).toArray, .agg #[.int .i64 271, .int .i64 p]]) (by simp [results, Tryd.f39, go_sem, encS, z0, z1, z2, zf, r0, r1, rf]; try rfl) rfl ?_
    have hG := grown_new (grown_new (grown_new (grown_new (grown_new HM5.out.g (Nat.le_refl _) 0 (.int .i64 0)) (Nat.le_refl _) 1 (.string .empty)) (Nat.le_refl _) 2 (.string .empty)) (Nat.le_succ _) 0 (.int .i64 271)) (Nat.le_succ _) 1 (.int .i64 p)
    exact ⟨hG, .inl ⟨p, HT.out, rfl⟩⟩
end Go.Proofs.YtjccoiephdopkaaDoor
