/- Stage 16: the closure in All that calls itself. -/
import Derived.Test.YtdcmkiggnmajgaaZm
import Derived.Test.YtdcmkiggnmajgaaVp
import Derived.Test.YtdcmkiggnmajgaaKs
import Derived.Test.YtdcmkiggnmajgaaVs
import Derived.Test.YtdcmkiggnmajgaaXc
namespace Go.Proofs.Ytdcmkiggnmajgaa
set_option linter.unusedVariables false
set_option linter.unusedSimpArgs false
open Go Go.RowKit Go.Shelf
set_option maxRecDepth 100000

/-- What a round keeps: all cells from a place on, but those of the scheme that it was told. -/
def KpS (b B : Nat) (x : Value × Value) (X Y : World) : Prop := X.heap.size ≤ Y.heap.size ∧ ∀ r o, (b ≤ r ∨ r = B) → X.heap[r]? = some o → o.isCells = true → some r ≠ x.1.ownBlock → some r ≠ x.2.ownBlock → Y.heap[r]? = some o
theorem KpS.trans {b B : Nat} {x : Value × Value} {X Y Z : World} (h : KpS b B x X Y) (g : KpS b B x Y Z) : KpS b B x X Z :=
  ⟨Nat.le_trans h.1 g.1, fun r o hr ho hc h1 h2 => g.2 r o hr (h.2 r o hr ho hc h1 h2) hc h1 h2⟩
/-- What is told: the scheme of the next rank. -/
def DueS (n b : Nat) (pre : List (Value × Value)) (x : Value × Value) (X : World) : Prop := pre.length < tT n 0 ∧ X.ownsRow b 79 2 x.1 n ((unr n pre.length 0).flatMap encR) ∧ X.ownsRow b 3 1 x.2 (unS n).length ((unS n).flatMap encI)
/-- The iterator's variables. -/
structure ItO (n B Yb Lb Fb G b0 l : Nat) (X : World) (L : List Rh) : Prop where
  nB : Blk X B #[.int .i64 n] 3
  yB : Blk X Yb #[.func (.yield l) #[] #[]] 27
  lB : Blk X Lb #[.slice (some ⟨G, 0, none⟩) n n] 22
  fB : Blk X Fb #[.func (.func 72) #[] #[.pointer (some ⟨B, 0, none⟩), .pointer (some ⟨Yb, 0, none⟩), .pointer (some ⟨Lb, 0, none⟩), .pointer (some ⟨Fb, 0, none⟩)]] 104
  row : X.ownsRow b0 79 2 (.slice (some ⟨G, 0, none⟩) n n) n (L.flatMap encR)
  len : L.length = n
  zr : ∀ x ∈ L, x.r = 0
  yb : b0 ≤ Yb
  lb : b0 ≤ Lb
  fb : b0 ≤ Fb
section
variable {n B Yb Lb Fb G b0 l b : Nat} {X Y : World} {L : List Rh}
theorem ItO.below (h : ItO n B Yb Lb Fb G b0 l X L) (hb : Below X.heap.size X Y) : ItO n B Yb Lb Fb G b0 l Y L :=
  ⟨h.nB.below' hb, h.yB.below' hb, h.lB.below' hb, h.fB.below' hb, own_below h.row hb, h.len, h.zr, h.yb, h.lb, h.fb⟩
theorem ItO.kp {W1 : World} {x : Value × Value} (h : ItO n B Yb Lb Fb G b0 l W1 L) (hbb : b ≤ b0) (hb : Below W1.heap.size W1 X) (hk : KpS b B x X Y) (h1 : ∀ g, x.1.ownBlock = some g → W1.heap.size ≤ g) (h2 : ∀ g, x.2.ownBlock = some g → W1.heap.size ≤ g) : ItO n B Yb Lb Fb G b0 l Y L := by
  have key : ∀ r o, (b ≤ r ∨ r = B) → W1.heap[r]? = some o → o.isCells = true → Y.heap[r]? = some o := by
    intro r o hr ho hc
    have hlt := (Array.getElem?_eq_some_iff.1 ho).1
    exact hk.2 r o hr ((hb.block r hlt).trans ho) hc (fun e => by have := h1 r e.symm; omega) (fun e => by have := h2 r e.symm; omega)
  have hy := h.yb
  have hl := h.lb
  have hf := h.fb
  refine ⟨key B _ (.inr rfl) h.nB rfl, key Yb _ (.inl (by omega)) h.yB rfl, key Lb _ (.inl (by omega)) h.lB rfl, key Fb _ (.inl (by omega)) h.fB rfl, ?_, h.len, h.zr, h.yb, h.lb, h.fb⟩
  refine own_same h.row fun g hg => ?_
  have hgb := (h.row.lt g hg).1
  rcases h.row.2 with ⟨e, _⟩ | ⟨g', c', cur, e, hb', hgh, _⟩
  · cases e
  · cases e
    cases hg
    exact (key G _ (.inl (by omega)) hgh rfl).trans hgh.symm
/-- The class of a line is written. -/
theorem ItO.set (h : ItO n B Yb Lb Fb G b0 l X L) (hB : B < b0) {k : Nat} (hk : k < n) (c : Nat) : ItO n B Yb Lb Fb G b0 l (X.setCell ⟨G, k * 2, none⟩ (.int .i64 c)) (L.set k ⟨c, 0⟩) := by
  have hg := (h.row.lt G rfl).1
  have hl := h.len
  obtain ⟨y, hy⟩ : ∃ y, L[k]? = some y := ⟨_, List.getElem?_eq_getElem (by omega)⟩
  have hy0 := h.zr y (List.mem_of_getElem? hy)
  have n1 : G ≠ Yb := fun e => (h.yB.not_row (by decide) h.row) (by rw [e]; rfl)
  have n2 : G ≠ Lb := fun e => (h.lB.not_row (by decide) h.row) (by rw [e]; rfl)
  have n3 : G ≠ Fb := fun e => (h.fB.not_row (by decide) h.row) (by rw [e]; rfl)
  have h10 := own_setK h.row (o := k * 2) (by omega) (.int .i64 c)
  have h11 := fl_set (enc := encR) (k := 2) encR_len hy (j := 0) (y := ⟨c, 0⟩) (v := .int .i64 c) (by decide) (by simp [encR, hy0])
  rw [Nat.add_zero] at h11
  rw [h11] at h10
  refine ⟨h.nB.other (by omega) _ _, h.yB.other n1.symm _ _, h.lB.other n2.symm _ _, h.fB.other n3.symm _ _, h10, by simp [hl], ?_, h.yb, h.lb, h.fb⟩
  intro x hx
  rcases List.mem_or_eq_of_mem_set hx with h1 | h1
  · exact h.zr x h1
  · rw [h1]
end
theorem plainE_any (n : Nat) (hn : n ≤ 25) (L : List Rh) (hL : L.length = n) (o : Option Addr) (c b1 : Nat) (W : World) (h : W.ownsRow b1 79 2 (.slice o n c) n (L.flatMap encR)) :
    Calls Try.prog 70 #[.slice o n c] W fun e W' => ∃ vl vs, e = .returned (.agg #[vl, vs]) ∧ W'.ownsRow b1 79 2 vl n (L.flatMap encR) ∧ W'.ownsRow W.heap.size 3 1 vs (unS n).length ((unS n).flatMap encI) ∧ Below W.heap.size W W' := by
  by_cases h0 : n = 0
  · subst h0
    obtain rfl : L = [] := List.eq_nil_of_length_eq_zero hL
    refine (plain_nil o c W).mono ?_
    rintro e W' ⟨rfl, hB⟩
    exact ⟨_, _, rfl, World.ownsRow_nil _ _ _ _, World.ownsRow_nil _ _ _ _, hB⟩
  · refine (plain_some o n c (by omega) (by omega) W).mono ?_
    rintro e W' ⟨H, rfl, hr, hB⟩
    refine ⟨_, _, rfl, own_below h hB, ?_, hB⟩
    unfold unS
    rw [if_neg h0]
    simpa [encI] using hr

/-- One scheme is told. -/
theorem yield_one {n B Yb Lb Fb G b0 b l : Nat} (hbb : b ≤ b0) {J Jx : List (Value × Value) → World → Prop} {W w2 : World} {L : List Rh} {pre : List (Value × Value)} {vl vs : Value} (hbW : b0 ≤ W.heap.size)
    (hY : ∀ pre x X, J pre X → DueS n b pre x X → YieldAt Fence.wide 9 Try.prog l #[.agg #[x.1, x.2]] X fun e Y => (e = .returned (.bool true) ∧ J (pre ++ [x]) Y ∧ KpS b B x X Y) ∨ (e = .returned (.bool false) ∧ Jx (pre ++ [x]) Y))
    (hI : ItO n B Yb Lb Fb G b0 l W L) (hj : J pre W) (hrk : unr n pre.length 0 = L) (htot : pre.length + 1 ≤ tT n 0) (hJ : AbX b0 FrT J) (hB : Below W.heap.size W w2)
    (h2 : w2.ownsRow W.heap.size 79 2 vl n (L.flatMap encR)) (h3 : w2.ownsRow W.heap.size 3 1 vs (unS n).length ((unS n).flatMap encI)) :
    YieldAt Fence.wide 9 Try.prog l #[.agg #[vl, vs]] w2 fun e Y => ∃ E, e = .returned (.bool E) ∧ ((E = true ∧ J (pre ++ [(vl, vs)]) Y ∧ ItO n B Yb Lb Fb G b0 l Y L ∧ b0 ≤ Y.heap.size) ∨ (E = false ∧ Jx (pre ++ [(vl, vs)]) Y)) := by
  obtain ⟨fn, tmps, assign, body, hy, hR⟩ := hY pre (vl, vs) w2 (hJ _ _ _ none hj (grown_none hB) (fun r e => by cases e)) ⟨by omega, by rw [hrk]; exact own_base h2 (by omega), own_base h3 (by omega)⟩
  refine ⟨fn, tmps, assign, body, hy, hR.mono ?_⟩
  rintro e Y (⟨rfl, hJ', hk⟩ | ⟨rfl, hx⟩)
  · refine ⟨true, rfl, .inl ⟨rfl, hJ', hI.kp hbb hB hk (fun g e => (h2.lt g e).1) (fun g e => (h3.lt g e).1), ?_⟩⟩
    have h4 := hB.size
    have h5 := hk.1
    omega
  · exact ⟨false, rfl, .inr ⟨rfl, hx⟩⟩

/-- What the closure hands back. -/
def FromPost (n B Yb Lb Fb G b0 l k m q : Nat) (J Jx : List (Value × Value) → World → Prop) (pre : List (Value × Value)) (L : List Rh) (e : Ending) (Y : World) : Prop :=
  (e = .returned (.bool true) ∧ ∃ pre' L', J pre' Y ∧ pre'.length = pre.length + tT m q ∧ ItO n B Yb Lb Fb G b0 l Y L' ∧ L'.take k = L.take k ∧ b0 ≤ Y.heap.size) ∨ (e = .returned (.bool false) ∧ ∃ pre', pre'.length ≤ tT n 0 ∧ Jx pre' Y)

set_option maxHeartbeats 8000000 in
theorem from_any {n B Yb Lb Fb G b0 b l : Nat} (hn : n ≤ 25) (hB : B < b0) (hbb : b ≤ b0) {J Jx : List (Value × Value) → World → Prop} (hJ : AbX b0 FrT J)
    (hY : ∀ pre x X, J pre X → DueS n b pre x X → YieldAt Fence.wide 9 Try.prog l #[.agg #[x.1, x.2]] X fun e Y => (e = .returned (.bool true) ∧ J (pre ++ [x]) Y ∧ KpS b B x X Y) ∨ (e = .returned (.bool false) ∧ Jx (pre ++ [x]) Y)) :
    ∀ (m k q : Nat) (L : List Rh) (pre : List (Value × Value)) (W : World), k + m = n → q ≤ k → ItO n B Yb Lb Fb G b0 l W L → b0 ≤ W.heap.size → J pre W → (∀ i, i < tT m q → unr n (pre.length + i) 0 = L.take k ++ unr m i q) → pre.length + tT m q ≤ tT n 0 →
      CallsIn Fence.wide 11 Try.prog 72 #[.int .i64 k, .int .i64 q, .pointer (some ⟨B, 0, none⟩), .pointer (some ⟨Yb, 0, none⟩), .pointer (some ⟨Lb, 0, none⟩), .pointer (some ⟨Fb, 0, none⟩)] W (FromPost n B Yb Lb Fb G b0 l k m q J Jx pre L) := by
  intro m
  induction m with
  | zero =>
    intro k q L pre W hkm hqk hI hbW hj hrank htot
    obtain rfl : k = n := by omega
    have y2 : W.cell? ⟨B, 0, none⟩ = some (.int .i64 k) := hI.nB.cell 0
    have y3 : W.cell? ⟨Yb, 0, none⟩ = some (.func (.yield l) #[] #[]) := hI.yB.cell 0
    have y4 : W.cell? ⟨Lb, 0, none⟩ = some (.slice (some ⟨G, 0, none⟩) k k) := hI.lB.cell 0
    have hF : ∀ f, Fence.wide.fn f := fun _ => trivial
    refine callsIn_of_wp Try.func72 rfl trivial ?_ rfl
    simp only [Try.ntmps72, List.size_toArray, List.length_cons, List.length_nil, Nat.reduceAdd, Nat.reduceSub, Array.replicate_succ, Array.replicate_zero, List.push_toArray, List.append_toArray, List.nil_append, List.cons_append]
    have hD : Below W.heap.size W W.drew := (Below.refl _ _).drew
    have hI0 := hI.below hD
    have hlen := hI.len
    have cC : ∀ W', RowAt W' encR 2 (some ⟨G, 0, none⟩) L → Calls Try.prog 55 #[.slice (some ⟨G, 0, none⟩) k k] W' fun e w' => ∃ v, e = .returned v ∧ w'.ownsRow W'.heap.size 79 2 v k (L.flatMap encR) ∧ Below W'.heap.size W' w' := fun W' h => by
      have h1 := cloneR_any L (some ⟨G, 0, none⟩) k (.inr ⟨_, rfl, by omega, by omega⟩) (by omega) W' h
      rw [hlen] at h1
      exact h1
    have hrk : unr k pre.length 0 = L := by
      have h1 := hrank 0 (by rw [tT_zero (by omega)]; omega)
      rw [Nat.add_zero] at h1
      rw [h1, List.take_of_length_le (by omega)]
      simp [unr]
    have htot1 : pre.length + 1 ≤ tT k 0 := by rw [tT_zero (by omega)] at htot; exact htot
    have HI := Lib.hid (And.intro hI0 (And.intro (hJ _ _ _ none hj (grown_none hD) (fun r e => by cases e)) (And.intro hrk htot1)))
    have hbW0 : b0 ≤ W.drew.heap.size := hbW
    clear hI hI0 hj hrank htot htot1 hkm hD hrk
    have HY := Lib.hid hY
    clear hY
    gi_wp2
    gi_region_with (first
      | (refine hR.mono ?_; rintro e Y ⟨E, rfl, hpost⟩; have HP := Lib.hid hpost; clear hpost hy hR)
      | (refine (callsIn_wide.2 (cC _ (RowAt.of_own encR_len HI.out.1.row HI.out.1.len))).mono ?_; rintro e w1 ⟨v, rfl, hr1, hB1⟩; obtain ⟨o1, c1, rfl, _⟩ := own_slice hr1; have y3b : w1.cell? ⟨Yb, 0, none⟩ = some (.func (.yield l) #[] #[]) := (HI.out.1.below hB1).yB.cell 0; have H1 := Lib.hid (And.intro hr1 hB1); clear hr1 hB1)
      | (refine (callsIn_wide.2 (plainE_any k hn L hlen _ _ _ _ H1.out.1)).mono ?_; rintro e w2 ⟨vl, vs, rfl, hr2, hr3, hB2⟩; have hB12 := H1.out.2.trans (hB2.mono H1.out.2.size); have y3c : w2.cell? ⟨Yb, 0, none⟩ = some (.func (.yield l) #[] #[]) := (HI.out.1.below hB12).yB.cell 0; obtain ⟨fn, tmps, assign, body, hy, hR⟩ := yield_wide (m' := 10) (yield_one hbb hbW0 HY.out HI.out.1 HI.out.2.1 HI.out.2.2.1 HI.out.2.2.2 hJ hB12 hr2 (own_base hr3 H1.out.2.size)); have H2 := Lib.hid hB12; clear hr2 hr3 hB2 hB12))
    all_goals (
      gi_wp2
      go_ret
      rcases HP.out with ⟨rfl, hJ', hI', hs'⟩ | ⟨rfl, hx⟩
      · exact .inl ⟨rfl, _, L, hJ', by rw [List.length_append, tT_zero (by omega)]; rfl, hI', rfl, hs'⟩
      · exact .inr ⟨rfl, _, by rw [List.length_append]; exact HI.out.2.2.2, hx⟩)
  | succ m ih =>
    intro k q L pre W hkm hqk hI hbW hj hrank htot
    have hkn : ((k : Int) == (n : Int)) = false := by rw [beq_eq_false_iff_ne]; omega
    have hkn2 : (k == n) = false := by rw [beq_eq_false_iff_ne]; omega
    have y2 : W.cell? ⟨B, 0, none⟩ = some (.int .i64 n) := hI.nB.cell 0
    have hF : ∀ f, Fence.wide.fn f := fun _ => trivial
    have s1 : IntKind.i64.wrap ((q : Int) + 1) = ((q + 1 : Nat) : Int) := by rw [IntWalk.i64_in _ (by omega)]; omega
    refine callsIn_of_wp Try.func72 rfl trivial ?_ rfl
    simp only [Try.ntmps72, List.size_toArray, List.length_cons, List.length_nil, Nat.reduceAdd, Nat.reduceSub, Array.replicate_succ, Array.replicate_zero, List.push_toArray, List.append_toArray, List.nil_append, List.cons_append]
    have HI := Lib.hid (And.intro hI (And.intro hj (And.intro hrank htot)))
    have HM := Lib.hid hkm
    clear hI hj hrank htot hkm hY
    gi_wp2
    clear y2
    gi_loopw [20] (fun ix X => ∃ (c : Nat) (pre' : List (Value × Value)) (L' : List Rh), ix = .int .i64 c ∧ c ≤ q + 1 ∧ J pre' X ∧ pre'.length = pre.length + (if c ≤ q then offQ m q c else tT (m + 1) q) ∧ ItO n B Yb Lb Fb G b0 l X L' ∧ L'.take k = L.take k ∧ b0 ≤ X.heap.size) (fun ix _ => q + 1 - (intOf ix).toNat)
    case atStart => exact ⟨0, pre, L, rfl, by omega, HI.out.2.1, by rw [if_pos (by omega)]; simp [offQ], HI.out.1, rfl, hbW⟩
    case round =>
      obtain ⟨c, pre', L', rfl, hc, hj, hpl, hI, htk, hbw⟩ := hrel
      by_cases hcq : c < q + 1
      · rw [if_pos (by omega)] at hpl
        have hkm := HM.out
        have hlq : m + 1 + q ≤ 25 := by omega
        have hIs := hI.set hB (show k < n by omega) c
        have y4 : wr.cell? ⟨Lb, 0, none⟩ = some (.slice (some ⟨G, 0, none⟩) n n) := hI.lB.cell 0
        have hgl := (hI.row.lt G rfl).1
        have hjs := hJ _ _ _ (some G) hj (grownBy_setCell wr G (k * 2) (.int .i64 c)) (fun r e => by cases e; exact ⟨hgl, trivial⟩)
        obtain ⟨y, hy⟩ : ∃ y, L'[k]? = some y := ⟨_, List.getElem?_eq_getElem (by rw [hI.len]; omega)⟩
        obtain ⟨y5, _⟩ := getR hI.row hy hI.len
        have fz := own_freeK hI.row (k * 2)
        have hkN : (k : Int) < (n : Int) := by omega
        have hcN : (c : Int) < ((q + 1 : Nat) : Int) := by omega
        have hle := offQ_le hlq (show c ≤ q by omega)
        have htk2 : (L'.set k ⟨c, 0⟩).take (k + 1) = L.take k ++ [⟨c, 0⟩] := by
          rw [List.take_add_one, List.getElem?_set_self (by rw [hI.len]; omega), List.take_set_of_le (Nat.le_refl _), htk]
          rfl
        obtain ⟨V, hV⟩ : ∃ V, wr.setCell ⟨G, k * 2, none⟩ (.int .i64 c) = V := ⟨_, rfl⟩
        have hVs : b0 ≤ V.heap.size := by rw [← hV]; simpa using hbw
        rw [hV] at hIs hjs
        have y6 : V.cell? ⟨Fb, 0, none⟩ = some (.func (.func 72) #[] #[.pointer (some ⟨B, 0, none⟩), .pointer (some ⟨Yb, 0, none⟩), .pointer (some ⟨Lb, 0, none⟩), .pointer (some ⟨Fb, 0, none⟩)]) := hIs.fB.cell 0
        have cF := ih (k + 1) (nxQ q c) (L'.set k ⟨c, 0⟩) pre' V (by omega) (by unfold nxQ; omega) hIs hVs hjs (fun i hi => by
          have h := HI.out.2.2.1 (offQ m q c + i) (by omega)
          rw [hpl, Nat.add_assoc, h, show offQ m q c + i = c * tT m q + i from rfl, unr_step hlq (by omega) hi, htk2]
          simp) (by have := HI.out.2.2.2; omega)
        have s2 : IntKind.i64.wrap ((k : Int) + 1) = ((k + 1 : Nat) : Int) := by rw [IntWalk.i64_in _ (by omega)]; omega
        have s3 : IntKind.i64.wrap ((c : Int) + 1) = ((c + 1 : Nat) : Int) := by rw [IntWalk.i64_in _ (by omega)]; omega
        have HX := Lib.hid (And.intro hpl (And.intro htk2 (And.intro hle (And.intro hlq htk))))
        clear hI hIs hjs hj hpl htk htk2 hle hlq hy hkm ih HM
        by_cases hqc : q < c + 1
        · have hq : nxQ q c = c + 1 := by unfold nxQ; omega
          have cF1 : CallsIn Fence.wide 10 Try.prog 72 #[.int .i64 ((k : Int) + 1), .int .i64 ((c : Int) + 1), .pointer (some ⟨B, 0, none⟩), .pointer (some ⟨Yb, 0, none⟩), .pointer (some ⟨Lb, 0, none⟩), .pointer (some ⟨Fb, 0, none⟩)] V (FromPost n B Yb Lb Fb G b0 l (k + 1) m (nxQ q c) J Jx pre' (L'.set k ⟨c, 0⟩)) := by
            refine callsIn_wide.2 ((callsIn_wide (n := 11)).1 ?_)
            have h := cF
            rw [hq] at h ⊢
            exact h
          clear cF
          gi_wp2_with (fail)
          try rw [hV]
          clear hV
          refine cF1.mono ?_
          rintro e Y (⟨rfl, pre2, L2, hj2, hl2, hI2, ht2, hb2⟩ | ⟨rfl, pre2, hl2, hx2⟩)
          · have hfin : pre2.length = pre.length + (if c + 1 ≤ q then offQ m q (c + 1) else tT (m + 1) q) := by
              rw [hl2, HX.out.1]
              by_cases hc2 : c + 1 ≤ q
              · rw [if_pos hc2, offQ_next (by omega)]; omega
              · obtain rfl : c = q := by omega
                rw [if_neg hc2, ← offQ_end HX.out.2.2.2.1]; omega
            have hfk : L2.take k = L.take k := by
              have h1 := congrArg (List.take k) ht2
              rw [List.take_take, List.take_take, Nat.min_eq_left (Nat.le_succ k), List.take_set_of_le (Nat.le_refl _)] at h1
              rw [h1, HX.out.2.2.2.2]
            have HE := Lib.hid (And.intro hfin (And.intro hfk (And.intro hj2 (And.intro hI2 hb2))))
            clear hfin hfk hj2 hI2 hb2 hl2 ht2 cF1
            gi_wp2
            go_roundw
            case rel => exact ⟨c + 1, pre2, L2, by go_num, by omega, HE.out.2.2.1, HE.out.1, HE.out.2.2.2.1, HE.out.2.1, HE.out.2.2.2.2⟩
            case measure => simp [intOf] <;> omega
          · have HE := Lib.hid (And.intro hl2 hx2)
            clear hl2 hx2 cF1
            gi_wp2
            go_ret
            exact .inr ⟨rfl, pre2, HE.out.1, HE.out.2⟩
        · have hq : nxQ q c = q := by unfold nxQ; omega
          have cF1 : CallsIn Fence.wide 10 Try.prog 72 #[.int .i64 ((k : Int) + 1), .int .i64 (q : Int), .pointer (some ⟨B, 0, none⟩), .pointer (some ⟨Yb, 0, none⟩), .pointer (some ⟨Lb, 0, none⟩), .pointer (some ⟨Fb, 0, none⟩)] V (FromPost n B Yb Lb Fb G b0 l (k + 1) m (nxQ q c) J Jx pre' (L'.set k ⟨c, 0⟩)) := by
            refine callsIn_wide.2 ((callsIn_wide (n := 11)).1 ?_)
            have h := cF
            rw [hq] at h ⊢
            exact h
          clear cF
          gi_wp2_with (fail)
          try rw [hV]
          clear hV
          refine cF1.mono ?_
          rintro e Y (⟨rfl, pre2, L2, hj2, hl2, hI2, ht2, hb2⟩ | ⟨rfl, pre2, hl2, hx2⟩)
          · have hfin : pre2.length = pre.length + (if c + 1 ≤ q then offQ m q (c + 1) else tT (m + 1) q) := by
              rw [hl2, HX.out.1]
              by_cases hc2 : c + 1 ≤ q
              · rw [if_pos hc2, offQ_next (by omega)]; omega
              · obtain rfl : c = q := by omega
                rw [if_neg hc2, ← offQ_end HX.out.2.2.2.1]; omega
            have hfk : L2.take k = L.take k := by
              have h1 := congrArg (List.take k) ht2
              rw [List.take_take, List.take_take, Nat.min_eq_left (Nat.le_succ k), List.take_set_of_le (Nat.le_refl _)] at h1
              rw [h1, HX.out.2.2.2.2]
            have HE := Lib.hid (And.intro hfin (And.intro hfk (And.intro hj2 (And.intro hI2 hb2))))
            clear hfin hfk hj2 hI2 hb2 hl2 ht2 cF1
            gi_wp2
            go_roundw
            case rel => exact ⟨c + 1, pre2, L2, by go_num, by omega, HE.out.2.2.1, HE.out.1, HE.out.2.2.2.1, HE.out.2.1, HE.out.2.2.2.2⟩
            case measure => simp [intOf] <;> omega
          · have HE := Lib.hid (And.intro hl2 hx2)
            clear hl2 hx2 cF1
            gi_wp2
            go_ret
            exact .inr ⟨rfl, pre2, HE.out.1, HE.out.2⟩
      · obtain rfl : c = q + 1 := by omega
        rw [if_neg (by omega)] at hpl
        have HE := Lib.hid (And.intro hj (And.intro hpl (And.intro hI (And.intro htk hbw))))
        clear hj hpl hI htk hbw ih
        gi_wp2
        go_ret
        exact .inl ⟨rfl, pre', L', HE.out.1, HE.out.2.1, HE.out.2.2.1, HE.out.2.2.2.1, HE.out.2.2.2.2⟩
end Go.Proofs.Ytdcmkiggnmajgaa
