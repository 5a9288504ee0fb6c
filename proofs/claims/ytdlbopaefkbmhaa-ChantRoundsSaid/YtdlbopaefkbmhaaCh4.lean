/- Stage 31: chant.Merge. -/
import Derived.Test.YtdlbopaefkbmhaaChb
namespace Go.Proofs.Ytdlbopaefkbmhaa
set_option linter.unusedVariables false
set_option linter.unusedSimpArgs false
open Go Go.RowKit Go.Shelf
open Go.Sort
set_option maxRecDepth 100000

shelf_lay_g SlLaysF0.n6 Slsf 6 at Try 21 as chSort

theorem swoS : SWO (ltOf cmS) := by
  have h : ∀ x y, ltOf cmS x y = decide (ltS x y) := fun x y => by
    unfold ltOf
    rw [Bool.eq_iff_iff, decide_eq_true_iff, decide_eq_true_iff]
    exact cmS_lt x y
  refine ⟨fun x => ?_, fun x y z => ?_, fun x y z => ?_⟩
  · rw [h]; simp only [decide_eq_false_iff_not]; unfold ltS; omega
  · rw [h, h, h]; simp only [decide_eq_true_eq]; unfold ltS; omega
  · rw [h, h, h]; simp only [decide_eq_false_iff_not]; unfold ltS; omega

theorem sortS_any (blk cap : Nat) (l : List Sg) (W : World) (hH : HoldsK encS 8 W blk 0 l.toArray) (hb : blk < W.heap.size) (hl : l.length < 4611686018427387904) :
    Calls Try.prog 21 #[.slice (some ⟨blk, 0, none⟩) l.length cap, .func (.func 22) #[] #[]] W fun e w' =>
      e = .returned (.tuple #[]) ∧ ∃ (l' : List Sg) (n : Nat) (os : Array Obj), l'.Perm l ∧ l'.Pairwise (fun x y => ¬ ltS y x) ∧ w' = sortWorldK encS 8 W blk 0 n l'.toArray os := by
  have eg : ∀ args w, (callFunc 22 args).run Try.prog w = .ok (.enter 22 args) w := enters_of Try.func22 (by kernel_rfl) rfl
  have hc : CmpLays Try.prog 22 #[] encS 8 cmS blk 0 l.toArray.size W := fun m os dk hs x y => order_any x y _
  have hcon := AnyQ.slices_SortFunc chSort 8 Try.isAgg39 Try.sizeOf39 encS encS_len (fun x v hv => by
      simp only [encS, List.mem_cons, List.not_mem_nil, or_false] at hv
      rcases hv with rfl | rfl | rfl | rfl | rfl | rfl | rfl | rfl <;> rfl) cmS swoS 22 #[] blk 0 cap l.toArray W eg hc hH hb (by simpa using hl)
  simp only [List.size_toArray] at hcon
  refine hcon.mono fun e w' ⟨he, d', n, os, hp, hs, hw⟩ => ⟨he, d'.toList, n, os, ?_, ?_, by simpa using hw⟩
  · have := hp.2.2
    have hz := hp.1
    have e1 : d'.extract 0 l.length = d' := by rw [← show d'.size = l.length by simpa using hz]; simp
    rw [e1] at this
    simpa using this
  · rw [List.pairwise_iff_getElem]
    intro i j hi hj hij
    have hz : d'.size = l.length := by simpa using hp.1
    have h1 := hs i j (Nat.zero_le _) hij (by simp at hj; omega)
    rw [getElem!_pos d' j (by simpa using hj), getElem!_pos d' i (by simpa using hi)] at h1
    intro hlt
    have h2 := (cmS_lt _ _).2 hlt
    unfold ltOf at h1
    simp at h1
    simp at h2
    omega

theorem infoSung : (Try.prog.info? 39).map (fun i => (i.zero, i.size, i.bytes)) = some (some (.agg #[.int .i64 0, .int .i64 0, .int .i64 0, .int .i64 0, .int .i64 0, .bool false, .float .f64 0, .float .f64 0]), 8, 64) := by kernel_rfl

def MgO (vs : List (List Nt)) (w : World) (i out : Value) (wr : World) : Prop := ∃ (k : Nat) (v : Value), i = .int .i64 k ∧ v = out ∧ k ≤ vs.length ∧ wr.ownsRow w.heap.size 39 8 v (tot (vs.take k)) ((allS (vs.take k)).flatMap encS) ∧ Below w.heap.size w wr
def MgI (vs : List (List Nt)) (l : List Nt) (k : Nat) (w : World) (i out : Value) (wr : World) : Prop := ∃ (j : Nat) (v : Value), i = .int .i64 j ∧ v = out ∧ j ≤ l.length ∧ wr.ownsRow w.heap.size 39 8 v (tot (vs.take k) + j) ((allS (vs.take k) ++ voiceS k (l.take j)).flatMap encS) ∧ Below w.heap.size w wr

set_option maxHeartbeats 4000000 in
theorem merge_long (vs : List (List Nt)) (o : Option Addr) (cap : Nat) (hn : vs.length ≤ 4398046511104) (ht : tot vs ≤ 4398046511104) (hb : tooB vs = true) (w : World) (hv : VoicesAt w o vs) :
    Calls Try.prog 12 #[.slice o vs.length cap] w fun e w' => e = .returned (.tuple #[.slice none 0 0, .int .i64 3]) ∧ w' = w := by
  have cT := tooMany_any vs o cap hn ht w hv
  rw [hb] at cT
  clear hb
  go_enter Try.func12, Try.ntmps12
  go_wp2_with (fail)
  refine cT.mono ?_
  rintro e w' ⟨rfl, rfl⟩
  go_wp2
  go_ret2
  exact ⟨rfl, rfl⟩

set_option maxHeartbeats 8000000 in
theorem merge_any (vs : List (List Nt)) (o : Option Addr) (cap : Nat) (hn : vs.length ≤ 4398046511104) (ht : tot vs ≤ 4398046511104) (hb : tooB vs = false) (w : World) (hv : VoicesAt w o vs) :
    Calls Try.prog 12 #[.slice o vs.length cap] w fun e w' => ∃ (v : Value) (L : List Sg), e = .returned (.tuple #[v, .int .i64 0]) ∧ L.Perm (allS vs) ∧ L.Pairwise (fun x y => ¬ ltS y x) ∧
      w'.ownsRow w.heap.size 39 8 v L.length (L.flatMap encS) ∧ Below w.heap.size w w' := by
  obtain ⟨i0, hi, hz0, hz1, hz2⟩ := info_parts infoSung
  have cT := tooMany_any vs o cap hn ht w hv
  rw [hb] at cT
  have ht2 : tot vs ≤ 65536 := by
    unfold tooB at hb
    simp at hb; omega
  clear hb
  go_enter Try.func12, Try.ntmps12
  go_wp2_with (fail)
  refine cT.mono ?_
  rintro e w' ⟨rfl, hw⟩
  obtain rfl : w = w' := hw.symm
  clear cT hw
  go_wp2
  go_loopw [13, 4] (MgO vs w) (fun i _ _ => vs.length - (intOf i).toNat)
  case atStart => exact ⟨0, _, rfl, rfl, by omega, World.ownsRow_nil _ _ _ _, Below.refl _ _⟩
  case round =>
    obtain ⟨k, out, rfl, rfl, hk, hown, hB⟩ := hrel
    by_cases hlt : k < vs.length
    · obtain ⟨l, hl⟩ : ∃ l, vs[k]? = some l := ⟨_, List.getElem?_eq_getElem hlt⟩
      obtain ⟨g, off, ol, cp, rfl, hc0, hr0⟩ := hv k l hl
      have hc : wr.cell? ⟨g, off + k, none⟩ = some (.slice ol l.length cp) := by rw [hB.cell (p := ⟨g, off + k, none⟩) (lt_cell hc0)]; exact hc0
      have htk := tot_take hl
      have hle := tot_le vs (k + 1)
      have hlb : tot (vs.take k) + l.length ≤ 65536 := by omega
      have hl63 : l.length ≤ 65536 := by omega
      have HV := Lib.hid (And.intro hv (And.intro hl (And.intro htk hr0)))
      have hI : MgI vs l k w (.int .i64 0) out wr := ⟨0, _, rfl, rfl, by omega, by simpa [voiceS] using hown, hB⟩
      clear hv hl htk hle hr0 hc0 hown hB
      go_wp2
      go_loopw [20, 4] (MgI vs l k w) (fun j _ _ => l.length - (intOf j).toNat)
      case atStart => exact hI
      case round =>
        clear hI
        obtain ⟨j, out2, rfl, rfl, hj, hown, hB⟩ := hrel
        by_cases hlj : j < l.length
        · obtain ⟨x, hx⟩ : ∃ x, l[j]? = some x := ⟨_, List.getElem?_eq_getElem hlj⟩
          obtain ⟨gl, ofl, rfl, hcl⟩ := (HV.out.2.2.2.below encN_len (by decide) hB) j x hx
          have q0 := hcl 0 (by decide)
          have q1 := hcl 1 (by decide)
          have q2 := hcl 2 (by decide)
          have q3 := hcl 3 (by decide)
          have q4 := hcl 4 (by decide)
          have q5 := hcl 5 (by decide)
          clear hcl
          have hvt := voiceS_take (v := k) hx
          obtain ⟨xl, xb, xw, xs, xa, xo⟩ := x
          simp only [encN, List.getElem?_cons_succ, List.getElem?_cons_zero, Nat.add_zero] at q0 q1 q2 q3 q4 q5
          obtain ⟨T, hT⟩ : ∃ T, tot (vs.take k) = T := ⟨_, rfl⟩
          obtain ⟨xs0, hxs0⟩ : ∃ z, (allS (vs.take k) ++ voiceS k (l.take j)).flatMap encS = z := ⟨_, rfl⟩
          rw [hT] at hown hlb
          rw [hxs0] at hown
          have HH := Lib.hid (And.intro hT (And.intro hxs0 (And.intro hvt hx)))
          clear hT hxs0 hvt hx
          obtain ⟨oo, oc, rfl, _⟩ := own_slice hown
          have hsz := hB.size
          have hown2 := (hown.alloc (.cells #[.int .i64 xl, .int .i64 xb, .int .i64 xw, .bool xs, .float .f64 xa, .float .f64 xo] 37)).alloc (.cells #[.int .i64 k, .int .i64 j, .int .i64 xl, .int .i64 xb, .int .i64 xw, .bool xs, .float .f64 xa, .float .f64 xo] 39)
          have hB2 := (hB.alloc hsz (.cells #[.int .i64 xl, .int .i64 xb, .int .i64 xw, .bool xs, .float .f64 xa, .float .f64 xo] 37)).alloc (by simp; omega) (.cells #[.int .i64 k, .int .i64 j, .int .i64 xl, .int .i64 xb, .int .i64 xw, .bool xs, .float .f64 xa, .float .f64 xo] 39)
          have hnew : ((wr.alloc (.cells #[.int .i64 xl, .int .i64 xb, .int .i64 xw, .bool xs, .float .f64 xa, .float .f64 xo] 37)).alloc (.cells #[.int .i64 k, .int .i64 j, .int .i64 xl, .int .i64 xb, .int .i64 xw, .bool xs, .float .f64 xa, .float .f64 xo] 39)).heap[wr.heap.size + 1]? = some (.cells #[.int .i64 k, .int .i64 j, .int .i64 xl, .int .i64 xb, .int .i64 xw, .bool xs, .float .f64 xa, .float .f64 xo] 39 (0, 0)) := by
            have := World.alloc_heap_new (wr.alloc (.cells #[.int .i64 xl, .int .i64 xb, .int .i64 xw, .bool xs, .float .f64 xa, .float .f64 xo] 37)) (.cells #[.int .i64 k, .int .i64 j, .int .i64 xl, .int .i64 xb, .int .i64 xw, .bool xs, .float .f64 xa, .float .f64 xo] 39)
            rwa [World.size_alloc] at this
          have HNW := Lib.hid hnew
          have HB2 := Lib.hid (And.intro hB2 hown2)
          clear hnew hB2 hown2 hB
          go_wp2_with (at_builtin; refine wpList_append_own _ rfl _ _ 33 rfl w.heap.size 39 i0 (.agg #[.int .i64 0, .int .i64 0, .int .i64 0, .int .i64 0, .int .i64 0, .bool false, .float .f64 0, .float .f64 0]) 8 64 Try.underlying33 hi hz0 hz1 hz2 rfl (by decide) _ _ _ rfl HB2.out.2 ⟨wr.heap.size + 1, 0, none⟩ 1 1 [.int .i64 k, .int .i64 j, .int .i64 xl, .int .i64 xb, .int .i64 xw, .bool xs, .float .f64 xa, .float .f64 xo] rfl rfl (World.news_of_block (cs := #[.int .i64 k, .int .i64 j, .int .i64 xl, .int .i64 xb, .int .i64 xw, .bool xs, .float .f64 xa, .float .f64 xo]) (t := 39) (fr := (0, 0)) HNW.out) (fun x hx => by simp at hx; rcases hx with rfl | rfl | rfl | rfl | rfl | rfl | rfl | rfl <;> rfl) (by unfold maxLen; omega) (by omega) (by simp; omega) ?_; intro v' w2 hown' hgrow _)
          go_roundw
          case rel =>
            obtain ⟨hT, hxs0, hvt, hx⟩ := HH.out
            refine ⟨j + 1, v', by go_num, rfl, by omega, ?_, HB2.out.1.grown hgrow (by simp; omega) (fun r hr => (HB2.out.2.lt r hr).1)⟩
            rw [hT, hvt, ← List.append_assoc, List.flatMap_append, hxs0, ← Nat.add_assoc]
            exact hown'
          case measure => simp [intOf]; omega
        · obtain rfl : j = l.length := by omega
          have hO : MgO vs w (.int .i64 (k + 1 : Nat)) out2 wr := ⟨k + 1, _, rfl, rfl, by omega, by
            obtain ⟨hv, hl, htk, hr0⟩ := HV.out
            rw [allS_take hl, htk]
            rw [List.take_of_length_le (Nat.le_refl _)] at hown
            exact hown, hB⟩
          have HO := Lib.hid hO
          clear hO hown hB
          go_wp2
          go_roundw
          case rel => exact HO.out
          case measure => simp [intOf]; omega
    · obtain rfl : k = vs.length := by omega
      rw [List.take_of_length_le (Nat.le_refl _)] at hown
      have hlen : (allS vs).length = tot vs := by
        have := allS_len vs vs.length
        rwa [List.take_of_length_le (Nat.le_refl _)] at this
      obtain ⟨T, hT⟩ : ∃ T, tot vs = T := ⟨_, rfl⟩
      rw [hT] at hown hlen ht2
      by_cases hv0 : out = .slice none 0 0
      · subst hv0
        have hT0 : T = 0 := by
          rcases hown.2 with ⟨_, h⟩ | ⟨g, c, cur, h, _⟩
          · exact h
          · cases h
        have hnil : allS vs = [] := List.eq_nil_of_length_eq_zero (by omega)
        have cN := fun W => AnyF.slices_SortFunc_none chSort none 0 (.func (.func 22) #[] #[]) W
        have HZ := Lib.hid (And.intro hnil hB)
        clear hv hown hlen hT hT0 hnil hB ht
        go_wp2_with (fail)
        refine (cN _).mono ?_
        rintro e w' ⟨rfl, rfl⟩
        go_wp2
        go_ret2
        exact ⟨.slice none 0 0, [], rfl, by rw [HZ.out.1], .nil, World.ownsRow_nil _ _ _ _, HZ.out.2⟩
      · obtain ⟨g, cp, rfl, hg1, hg2, hl2, hH⟩ := holdsK_of_own encS_len (by decide) hown hv0
        have cS := sortS_any g cp (allS vs) wr hH hg2 (by omega)
        rw [hlen] at cS
        have HZ := Lib.hid (And.intro hown (And.intro hlen (And.intro hB hg1)))
        clear hv hown hlen hT hB ht hH
        go_wp2_with (fail)
        refine cS.mono ?_
        rintro e w' ⟨rfl, L, n, os, hp, hs, rfl⟩
        have hX : L.length = T := by rw [hp.length_eq]; exact HZ.out.2.1
        have h1 := own_putK (q := n) encS_len (by decide) HZ.out.1 hX
        have h2 := Lib.below_putRow (enc := id) (q := n) (d := flatK encS 8 L.toArray) HZ.out.2.2.1 HZ.out.2.2.2
        have hb3 := below_grow (putRowK encS 8 (Sort.ahead wr n) g 0 L.toArray) os
        have h3 := own_below h1 hb3
        have h4 := h2.trans (hb3.mono h2.size)
        have HR := Lib.hid (And.intro h3 h4)
        clear h1 h2 h3 h4 hb3 cS
        go_wp2
        go_ret2
        refine ⟨.slice (some ⟨g, 0, none⟩) T cp, L, rfl, hp, hs, ?_, HR.out.2⟩
        rw [hX]
        exact HR.out.1
end Go.Proofs.Ytdlbopaefkbmhaa
