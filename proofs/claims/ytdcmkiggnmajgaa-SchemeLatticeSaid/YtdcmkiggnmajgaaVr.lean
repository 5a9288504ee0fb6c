/- Stage 16: slices.Backward, firsts. -/
import Derived.Test.YtdcmkiggnmajgaaV5
import Derived.Test.YtdcmkiggnmajgaaK1
import Derived.RangeFuncLeaves
import Derived.Laws.Tables
namespace Go.Proofs.Ytdcmkiggnmajgaa
set_option linter.unusedVariables false
set_option linter.unusedSimpArgs false
open Go Go.RowKit Go.Shelf
set_option maxRecDepth 100000
attribute [local go_sem] Oper.semAt_some

def encB (x : Nat × Rh) : Array Value := #[.int .i64 (x.1 : Nat), .agg #[.int .i64 x.2.c, .int .i64 x.2.r]]
def DueB (L : List Rh) (pre : List (Nat × Rh)) (x : Nat × Rh) : Prop := x.1 + pre.length + 1 = L.length ∧ L[x.1]? = some x.2
/-- What a round keeps: all but two blocks. -/
def KpT (b1 b2 : Nat) (X Y : World) : Prop := KeepsWalks X Y ∧ ∀ k, k < X.heap.size → k ≠ b1 → k ≠ b2 → Y.heap[k]? = X.heap[k]?
theorem kpT_t {b1 b2 : Nat} {X Y Z : World} (h : KpT b1 b2 X Y) (g : KpT b1 b2 Y Z) : KpT b1 b2 X Z :=
  ⟨h.1.trans g.1, fun k hk h1 h2 => (g.2 k (Nat.lt_of_lt_of_le hk h.1.size) h1 h2).trans (h.2 k hk h1 h2)⟩
theorem backward_any (o : Option Addr) (n c : Nat) (w : World) :
    Calls Try.prog 74 #[.slice o n c] w fun e w' => e = .returned (.func (.func 75) #[] #[.pointer (some ⟨w.heap.size, 0, none⟩)]) ∧ w' = w.alloc (.cells #[.slice o n c] 22) := by
  go_enter Try.func74, Try.ntmps74
  go_wp2
  go_ret
  exact ⟨rfl, rfl⟩
/-- Nothing below a place has turned, but for two blocks. -/
def Sm2 (B b1 b2 : Nat) (V X : World) : Prop := B ≤ X.heap.size ∧ ∀ k, k < B → k ≠ b1 → k ≠ b2 → X.heap[k]? = V.heap[k]?
def BkRel (L : List Rh) (B b1 b2 : Nat) (V : World) (J : List (Nat × Rh) → World → Prop) (i : Value) (wr : World) : Prop :=
  ∃ pre : List (Nat × Rh), i = .int .i64 ((L.length : Int) - 1 - pre.length) ∧ pre.length ≤ L.length ∧ J pre wr ∧ Sm2 B b1 b2 V wr
theorem sm2_blk {B b1 b2 k : Nat} {V X : World} {cs : Array Value} {t : TypeId} (h : Sm2 B b1 b2 V X) (hb : Blk V k cs t) (hk : k < B) (h1 : k ≠ b1) (h2 : k ≠ b2) : Blk X k cs t := (h.2 k hk h1 h2).trans hb
theorem sm2_row {B b1 b2 : Nat} {V X : World} {o : Option Addr} {L : List Rh} {w0 : World} (h : Sm2 B b1 b2 V X) (hr : RowAt w0 encR 2 o L) (hb : Below w0.heap.size w0 V) (hB : w0.heap.size ≤ B) (h1 : w0.heap.size ≤ b1) (h2 : w0.heap.size ≤ b2) : RowAt X encR 2 o L := by
  intro i x hi
  obtain ⟨g, off, ho, hc⟩ := hr i x hi
  have hc0 := hc 0 (by decide)
  have hg := lt_cell (w := w0) (b := g) (off := off + i * 2 + 0) (v := .int .i64 x.c) hc0
  refine ⟨g, off, ho, fun j hj => ?_⟩
  have := hc j hj
  rw [← this]
  refine World.cell?_of_block (w := w0) ?_
  show X.heap[g]? = w0.heap[g]?
  rw [h.2 g (by omega) (by omega) (by omega)]
  exact hb.block g hg

set_option maxHeartbeats 4000000 in
theorem pro_back (l B b1 b2 : Nat) (L : List Rh) (o : Option Addr) (c : Nat) (w0 : World) (hn : L.length ≤ 9223372036854775807) (J Jx : List (Nat × Rh) → World → Prop) (W : World)
    (hB : Blk W B #[.slice o L.length c] 22) (hB1 : B ≠ b1) (hB2 : B ≠ b2) (hr : RowAt w0 encR 2 o L) (hb : Below w0.heap.size w0 W) (h1 : w0.heap.size ≤ b1) (h2 : w0.heap.size ≤ b2)
    (hY : ∀ pre x X, J pre X → DueB L pre x → YieldAt Fence.wide 9 Try.prog l (encB x) X fun e Y =>
      (e = .returned (.bool true) ∧ J (pre ++ [x]) Y ∧ KpT b1 b2 X Y) ∨ (e = .returned (.bool false) ∧ Jx (pre ++ [x]) Y ∧ KeepsFrom W.heap.size X Y))
    (h0 : J [] W) :
    CallsIn Fence.wide 10 Try.prog 75 #[.func (.yield l) #[] #[], .pointer (some ⟨B, 0, none⟩)] W fun e Y => (∃ v, e = .returned v) ∧
      ((∃ xs : List (Nat × Rh), xs.length = L.length ∧ J xs Y) ∨ (∃ pre, True ∧ Jx pre Y)) := by
  have hlB := hB.lt
  have hc0 := hB.cell 0
  refine callsIn_of_wp Try.func75 rfl trivial ?_ rfl
  simp only [Try.ntmps75, List.size_toArray, List.length_cons, List.length_nil, Nat.reduceAdd, Nat.reduceSub, Array.replicate_succ, Array.replicate_zero, List.push_toArray, List.append_toArray, List.nil_append, List.cons_append]
  have hF : ∀ f, Fence.wide.fn f := fun _ => trivial
  simp only [List.getElem?_toArray, List.getElem?_cons_zero] at hc0
  gi_wp2
  gi_loopw [3] (fun i wr => BkRel L W.heap.size b1 b2 W J i wr) (fun i _ => ((intOf i) + 1).toNat)
  case atStart => exact ⟨[], by simp, by simp, h0, Nat.le_refl _, fun _ _ _ _ => rfl⟩
  case round =>
    obtain ⟨pre, rfl, hp, hj, hS⟩ := hrel
    obtain ⟨p, hpp⟩ : ∃ p, pre.length = p := ⟨_, rfl⟩
    rw [hpp] at hp ⊢
    by_cases hlt : p < L.length
    · obtain ⟨i, hi⟩ : ∃ i, L.length - 1 - p = i := ⟨_, rfl⟩
      have hii : (L.length : Int) - 1 - (p : Int) = (i : Int) := by omega
      rw [hii]
      obtain ⟨x, hx⟩ : ∃ x, L[i]? = some x := ⟨_, List.getElem?_eq_getElem (by omega)⟩
      have hrow := sm2_row hS hr hb hb.size h1 h2
      have hbox := sm2_blk hS hB hlB hB1 hB2
      have e0 : wr.cell? ⟨B, 0, none⟩ = some (.slice o L.length c) := hbox.cell 0
      obtain ⟨g, off, rfl, hc⟩ := hrow i x hx
      have q0 := hc 0 (by decide)
      have q1 := hc 1 (by decide)
      simp only [encR, List.getElem?_cons_succ, List.getElem?_cons_zero, Nat.add_zero] at q0 q1
      obtain ⟨fn, tmps, assign, body, hy, hR⟩ := hY pre (i, x) wr hj ⟨by show i + pre.length + 1 = _; omega, hx⟩
      simp only [encB] at hy
      have hil : (i : Int) < (L.length : Int) := by omega
      have hi0 : decide ((0 : Int) ≤ (i : Int)) = true := decide_eq_true (by omega)
      have hil2 : i < L.length := by omega
      have hi2 : (i : Int) - 1 = (L.length : Int) - 1 - ((p : Int) + 1) := by omega
      have HP := Lib.hid (And.intro hpp (And.intro hi hx))
      have HS := Lib.hid hS
      clear hpp hi hii hx hc hrow hbox hS hj hY hc0
      gi_wp2
      refine hR.mono ?_
      rintro e Y (⟨rfl, hJ', hk'⟩ | ⟨rfl, hJx', hk'⟩)
      · have hSY : Sm2 W.heap.size b1 b2 W Y := ⟨Nat.le_trans HS.out.1 hk'.1.size, fun k hk h1 h2 => (hk'.2 k (Nat.lt_of_lt_of_le hk HS.out.1) h1 h2).trans (HS.out.2 k hk h1 h2)⟩
        have HJ := Lib.hid (And.intro hJ' hSY)
        clear hk' hJ' hy hR hSY q0 q1 e0
        gi_wp2
        go_roundw
        case rel => exact ⟨pre ++ [(i, x)], by rw [List.length_append, HP.out.1, List.length_singleton]; exact congrArg (Value.int IntKind.i64) (by push_cast; omega), by simp [HP.out.1]; omega, HJ.out.1, HJ.out.2⟩
        case measure => simp [intOf]; omega
      · clear hy hR q0 q1 e0 hk'
        gi_wp2
        refine bodyPost_ret (results_none rfl _ _ _) rfl ?_
        exact ⟨⟨_, rfl⟩, .inr ⟨_, trivial, hJx'⟩⟩
    · obtain rfl : p = L.length := by omega
      have hii : (L.length : Int) - 1 - (L.length : Int) = -1 := by omega
      rw [hii]
      have HJ := Lib.hid (And.intro hpp hj)
      clear hpp hj hS hY hii hc0
      gi_wp2
      refine bodyPost_end (results_none rfl _ _ _) rfl ?_
      exact ⟨⟨_, rfl⟩, .inl ⟨pre, HJ.out.1, HJ.out.2⟩⟩
theorem back_seq (L : List Rh) (o : Option Addr) (c : Nat) (hn : L.length ≤ 9223372036854775807) (w0 w : World) (B ib : Nat) (hB : Blk w B #[.slice o L.length c] 22) (hBi : B ≠ ib) (hr : RowAt w0 encR 2 o L) (hb : Below w0.heap.size w0 w) (hib : w0.heap.size ≤ ib) :
    SeqZ Fence.wide 10 Try.prog 75 #[.pointer (some ⟨B, 0, none⟩)] encB (KpT ib (w.heap.size + 1)) FrT (fun xs => xs.length = L.length) (fun _ => True) (DueB L) (L.length + 1) w := by
  intro l J Jx W hW hsz hJ hJx hY h0
  have h1 := hB.lt
  have h2 := hb.size
  exact pro_back l B ib (w.heap.size + 1) L o c w0 hn J Jx W (hB.below' hW) hBi (by omega) hr (hb.trans (hW.mono h2)) hib (by omega) (fun pre x X h3 h4 => hY pre x X h3 (by have := h4.1; omega) h4) h0

theorem seqZ_up {α : Type} {n m : Nat} {P : Program} {g : Nat} {lb : Array Value} {encs : α → Array Value} {Kp : World → World → Prop} {Fr : World → Nat → Prop} {S Sp : List α → Prop} {Due : List α → α → Prop} {N : Nat} {w : World}
    (h : SeqZ Fence.wide n P g lb encs Kp Fr S Sp Due N w) : SeqZ Fence.wide m P g lb encs Kp Fr S Sp Due N w := by
  intro l J Jx W hW hsz hJ hJx hY h0
  exact callsIn_wide.2 (callsIn_wide.1 (h l J Jx W hW hsz hJ hJx (fun pre x X h1 h2 h3 => yield_wide (hY pre x X h1 h2 h3)) h0))
/-- The first line of a class. -/
def fidx : List Rh → Nat → Int → Int
  | [], _, _ => -1
  | x :: r, i, c => if x.c = c then (i : Int) else fidx r (i + 1) c
def FsA (L : List Rh) (i : Nat) (cur : Array Value) : Prop := cur.size = 25 ∧ cur.all (·.oneCell') = true ∧ ∀ c : Nat, c < 25 → cur[c]? = some (.int .i64 (fidx (L.drop i) i c))
theorem FsA.neg {L : List Rh} {i : Nat} {cur : Array Value} {x : Rh} (h : FsA L (i + 1) cur) (hx : L[i]? = some x) (hc : x.c < 0) : FsA L i cur := by
  refine ⟨h.1, h.2.1, fun c hc2 => ?_⟩
  rw [h.2.2 c hc2, drop_cons hx]
  simp only [fidx]
  rw [if_neg (by omega)]
theorem FsA.put {L : List Rh} {i k : Nat} {cur : Array Value} {x : Rh} (h : FsA L (i + 1) cur) (hx : L[i]? = some x) (hc : x.c = (k : Int)) (hk : k < 25) : FsA L i (cur.setIfInBounds k (.int .i64 (i : Nat))) := by
  refine ⟨by rw [Array.size_setIfInBounds]; exact h.1, all_set h.2.1 rfl, fun c hc2 => ?_⟩
  rw [drop_cons hx]
  simp only [fidx]
  rw [Array.getElem?_setIfInBounds, h.1]
  by_cases hkc : k = c
  · subst hkc
    rw [if_pos rfl, if_pos hk, if_pos hc]
  · rw [if_neg hkc, if_neg (by omega)]
    exact h.2.2 c hc2
def FsI (w0 : World) (ib : Nat) (L : List Rh) (pre : List (Nat × Rh)) (X : World) : Prop := ∃ cur, Blk X ib cur 88 ∧ FsA L (L.length - pre.length) cur ∧ Below w0.heap.size w0 X ∧ pre.length ≤ L.length

theorem belowV_put1 {V w : World} {D : Nat} (o : Obj) (hD : w.heap.size ≤ D) : Below w.heap.size V (V.putObj D o) :=
  ⟨rfl, rfl, rfl, by simp, fun k hk => World.putObj_heap_other (by omega)⟩
/-- Filled with minus ones up to k. -/
def FsZ (k : Nat) (cur : Array Value) : Prop := cur.size = 25 ∧ cur.all (·.oneCell') = true ∧ ∀ c : Nat, c < k → cur[c]? = some (.int .i64 (-1))
theorem FsZ.put {k : Nat} {cur : Array Value} (h : FsZ k cur) (hk : k < 25) : FsZ (k + 1) (cur.setIfInBounds k (.int .i64 (-1))) := by
  refine ⟨by rw [Array.size_setIfInBounds]; exact h.1, all_set h.2.1 rfl, fun c hc => ?_⟩
  rw [Array.getElem?_setIfInBounds, h.1]
  by_cases hkc : k = c
  · subst hkc
    rw [if_pos rfl, if_pos hk]
  · rw [if_neg hkc]
    exact h.2.2 c (by omega)
def FsS (s : Sc) (ol os : Option Addr) (cl cs : Nat) (z : Array Value) (w X : World) : Prop := Blk X w.heap.size #[.slice ol s.L.length cl, .slice os s.S.length cs] 25 ∧ Blk X (w.heap.size + 1) z 88
def FsL (z : Array Value) (w : World) (k : Nat) (X : World) : Prop := ∃ cur, Blk X (w.heap.size + 1 + 1) cur 88 ∧ FsZ k cur
theorem zip2 (t : Array Value) (p q : Tmp) (u v : Value) : ((#[p, q].zip (#[u, v] : Array Value)).foldl (fun t (p, v) => t.setIfInBounds p v) t) = (t.setIfInBounds p u).setIfInBounds q v := by simp
def FsJ (s : Sc) (ol os : Option Addr) (cl cs : Nat) (z : Array Value) (w : World) (pre : List (Nat × Rh)) (X : World) : Prop :=
  FsS s ol os cl cs z w X ∧ Below w.heap.size w X ∧ pre.length ≤ s.L.length ∧ ∃ cur, Blk X (w.heap.size + 1 + 1) cur 88 ∧ FsA s.L (s.L.length - pre.length) cur
theorem kpT_refl {b1 b2 : Nat} {X : World} : KpT b1 b2 X X := ⟨KeepsWalks.refl _, fun _ _ _ _ => rfl⟩
theorem kpT_alloc {b1 b2 : Nat} {X : World} (o : Obj) : KpT b1 b2 X (X.alloc o) := ⟨KeepsWalks.alloc _ _, fun k hk _ _ => Below.heap_alloc X o k hk⟩
theorem kpT_set {b1 b2 : Nat} {X : World} (o : Nat) (v : Value) : KpT b1 b2 X (X.setCell ⟨b1, o, none⟩ v) := ⟨(KeepsOthers.setCell _ _ _).walks, fun k _ h1 _ => Below.heap_setCell _ _ _ _ h1⟩
theorem fsJ_ab {s : Sc} {ol os : Option Addr} {cl cs : Nat} {z : Array Value} {w U : World} (hU : w.heap.size + 1 + 1 < U.heap.size) : AbX U.heap.size FrT (FsJ s ol os cl cs z w) := by
  rintro pre X Y row ⟨⟨h1, h2⟩, h3, h4, cur, h5, h6⟩ hg hr
  have hlo : ∀ r, row = some r → U.heap.size ≤ r := fun r e => (hr r e).1
  exact ⟨⟨h1.kept hg (fun e => by have := hlo _ e.symm; omega), h2.kept hg (fun e => by have := hlo _ e.symm; omega)⟩, h3.grown hg h3.size (fun r e => by have := hlo r e; omega), h4, cur, h5.kept hg (fun e => by have := hlo _ e.symm; omega), h6⟩
set_option maxHeartbeats 8000000 in
theorem firsts_in (s : Sc) (ol os : Option Addr) (cl cs : Nat) (hn : s.L.length ≤ 9223372036854775807) (hok : s.L.all okR = true) (w : World) (hr : RowAt w encR 2 ol s.L) :
    CallsIn Fence.wide 12 Try.prog 57 #[.agg #[.slice ol s.L.length cl, .slice os s.S.length cs]] w fun e w' => ∃ cur, e = .returned (.agg cur) ∧ FsA s.L 0 cur ∧ Below w.heap.size w w' := by
  refine callsIn_of_wp_marks Try.func57 rfl trivial ?_ rfl
  simp only [Try.ntmps57, List.size_toArray, List.length_cons, List.length_nil, Nat.reduceAdd, Nat.reduceSub, Array.replicate_succ, Array.replicate_zero, List.push_toArray, List.append_toArray, List.nil_append, List.cons_append]
  have hF : ∀ f, Fence.wide.fn f := fun _ => trivial
  gi_wp2
  have z25 : FsZ 0 #[.int .i64 0, .int .i64 0, .int .i64 0, .int .i64 0, .int .i64 0, .int .i64 0, .int .i64 0, .int .i64 0, .int .i64 0, .int .i64 0, .int .i64 0, .int .i64 0, .int .i64 0, .int .i64 0, .int .i64 0, .int .i64 0, .int .i64 0, .int .i64 0, .int .i64 0, .int .i64 0, .int .i64 0, .int .i64 0, .int .i64 0, .int .i64 0, .int .i64 0] := ⟨rfl, by kernel_rfl, by omega⟩
  have b1 := ((Blk.new w #[.slice ol s.L.length cl, .slice os s.S.length cs] 25).alloc (.cells #[.int .i64 0, .int .i64 0, .int .i64 0, .int .i64 0, .int .i64 0, .int .i64 0, .int .i64 0, .int .i64 0, .int .i64 0, .int .i64 0, .int .i64 0, .int .i64 0, .int .i64 0, .int .i64 0, .int .i64 0, .int .i64 0, .int .i64 0, .int .i64 0, .int .i64 0, .int .i64 0, .int .i64 0, .int .i64 0, .int .i64 0, .int .i64 0, .int .i64 0] 88)).alloc (.cells #[.int .i64 0, .int .i64 0, .int .i64 0, .int .i64 0, .int .i64 0, .int .i64 0, .int .i64 0, .int .i64 0, .int .i64 0, .int .i64 0, .int .i64 0, .int .i64 0, .int .i64 0, .int .i64 0, .int .i64 0, .int .i64 0, .int .i64 0, .int .i64 0, .int .i64 0, .int .i64 0, .int .i64 0, .int .i64 0, .int .i64 0, .int .i64 0, .int .i64 0] 88)
  have b2 := (Blk.new (w.alloc (.cells #[.slice ol s.L.length cl, .slice os s.S.length cs] 25)) #[.int .i64 0, .int .i64 0, .int .i64 0, .int .i64 0, .int .i64 0, .int .i64 0, .int .i64 0, .int .i64 0, .int .i64 0, .int .i64 0, .int .i64 0, .int .i64 0, .int .i64 0, .int .i64 0, .int .i64 0, .int .i64 0, .int .i64 0, .int .i64 0, .int .i64 0, .int .i64 0, .int .i64 0, .int .i64 0, .int .i64 0, .int .i64 0, .int .i64 0] 88).alloc (.cells #[.int .i64 0, .int .i64 0, .int .i64 0, .int .i64 0, .int .i64 0, .int .i64 0, .int .i64 0, .int .i64 0, .int .i64 0, .int .i64 0, .int .i64 0, .int .i64 0, .int .i64 0, .int .i64 0, .int .i64 0, .int .i64 0, .int .i64 0, .int .i64 0, .int .i64 0, .int .i64 0, .int .i64 0, .int .i64 0, .int .i64 0, .int .i64 0, .int .i64 0] 88)
  have b3 := Blk.new ((w.alloc (.cells #[.slice ol s.L.length cl, .slice os s.S.length cs] 25)).alloc (.cells #[.int .i64 0, .int .i64 0, .int .i64 0, .int .i64 0, .int .i64 0, .int .i64 0, .int .i64 0, .int .i64 0, .int .i64 0, .int .i64 0, .int .i64 0, .int .i64 0, .int .i64 0, .int .i64 0, .int .i64 0, .int .i64 0, .int .i64 0, .int .i64 0, .int .i64 0, .int .i64 0, .int .i64 0, .int .i64 0, .int .i64 0, .int .i64 0, .int .i64 0] 88)) #[.int .i64 0, .int .i64 0, .int .i64 0, .int .i64 0, .int .i64 0, .int .i64 0, .int .i64 0, .int .i64 0, .int .i64 0, .int .i64 0, .int .i64 0, .int .i64 0, .int .i64 0, .int .i64 0, .int .i64 0, .int .i64 0, .int .i64 0, .int .i64 0, .int .i64 0, .int .i64 0, .int .i64 0, .int .i64 0, .int .i64 0, .int .i64 0, .int .i64 0] 88
  have hBw := (((Below.refl _ w).alloc (Nat.le_refl _) (.cells #[.slice ol s.L.length cl, .slice os s.S.length cs] 25)).alloc (by simp) (.cells #[.int .i64 0, .int .i64 0, .int .i64 0, .int .i64 0, .int .i64 0, .int .i64 0, .int .i64 0, .int .i64 0, .int .i64 0, .int .i64 0, .int .i64 0, .int .i64 0, .int .i64 0, .int .i64 0, .int .i64 0, .int .i64 0, .int .i64 0, .int .i64 0, .int .i64 0, .int .i64 0, .int .i64 0, .int .i64 0, .int .i64 0, .int .i64 0, .int .i64 0] 88)).alloc (by simp; omega) (.cells #[.int .i64 0, .int .i64 0, .int .i64 0, .int .i64 0, .int .i64 0, .int .i64 0, .int .i64 0, .int .i64 0, .int .i64 0, .int .i64 0, .int .i64 0, .int .i64 0, .int .i64 0, .int .i64 0, .int .i64 0, .int .i64 0, .int .i64 0, .int .i64 0, .int .i64 0, .int .i64 0, .int .i64 0, .int .i64 0, .int .i64 0, .int .i64 0, .int .i64 0] 88)
  simp only [World.size_alloc] at b2 b3
  obtain ⟨V, hV⟩ : ∃ V, (((w.alloc (.cells #[.slice ol s.L.length cl, .slice os s.S.length cs] 25)).alloc (.cells #[.int .i64 0, .int .i64 0, .int .i64 0, .int .i64 0, .int .i64 0, .int .i64 0, .int .i64 0, .int .i64 0, .int .i64 0, .int .i64 0, .int .i64 0, .int .i64 0, .int .i64 0, .int .i64 0, .int .i64 0, .int .i64 0, .int .i64 0, .int .i64 0, .int .i64 0, .int .i64 0, .int .i64 0, .int .i64 0, .int .i64 0, .int .i64 0, .int .i64 0] 88)).alloc (.cells #[.int .i64 0, .int .i64 0, .int .i64 0, .int .i64 0, .int .i64 0, .int .i64 0, .int .i64 0, .int .i64 0, .int .i64 0, .int .i64 0, .int .i64 0, .int .i64 0, .int .i64 0, .int .i64 0, .int .i64 0, .int .i64 0, .int .i64 0, .int .i64 0, .int .i64 0, .int .i64 0, .int .i64 0, .int .i64 0, .int .i64 0, .int .i64 0, .int .i64 0] 88)) = V := ⟨_, rfl⟩
  rw [hV] at b1 b2 b3 hBw ⊢
  obtain ⟨z, hz⟩ : ∃ z : Array Value, #[.int .i64 0, .int .i64 0, .int .i64 0, .int .i64 0, .int .i64 0, .int .i64 0, .int .i64 0, .int .i64 0, .int .i64 0, .int .i64 0, .int .i64 0, .int .i64 0, .int .i64 0, .int .i64 0, .int .i64 0, .int .i64 0, .int .i64 0, .int .i64 0, .int .i64 0, .int .i64 0, .int .i64 0, .int .i64 0, .int .i64 0, .int .i64 0, .int .i64 0] = z := ⟨_, rfl⟩
  rw [hz] at b2 b3 z25
  have HS : Hid (FsS s ol os cl cs z w V ∧ Below w.heap.size w V ∧ FsL z w 0 V) := Lib.hid ⟨⟨b1, b2⟩, hBw, z, b3, z25⟩
  have hz25 := z25
  clear hV hz b1 b2 b3 hBw z25
  gi_loopw [7] (fun i X => ∃ k : Nat, i = .int .i64 k ∧ k ≤ 25 ∧ FsS s ol os cl cs z w X ∧ Below w.heap.size w X ∧ FsL z w k X) (fun i _ => 25 - (intOf i).toNat)
  case atStart => exact ⟨0, rfl, by omega, HS.out⟩
  case round =>
    obtain ⟨k, rfl, hk, hfs, hB, cur, hb, hcur⟩ := hrel
    by_cases hlt : k < 25
    · have f0 := hb.frozen k
      obtain ⟨u, hu⟩ : ∃ u, wr.cell? ⟨w.heap.size + 1 + 1, k, none⟩ = some u := ⟨_, (hb.cell k).trans (Array.getElem?_eq_getElem (by rw [hcur.1]; exact hlt))⟩
      have hN : FsS s ol os cl cs z w (wr.setCell ⟨w.heap.size + 1 + 1, k, none⟩ (.int .i64 (-1))) ∧ Below w.heap.size w (wr.setCell ⟨w.heap.size + 1 + 1, k, none⟩ (.int .i64 (-1))) ∧ FsL z w (k + 1) (wr.setCell ⟨w.heap.size + 1 + 1, k, none⟩ (.int .i64 (-1))) :=
        ⟨⟨hfs.1.other (by omega) _ _, hfs.2.other (by omega) _ _⟩, hB.setCell (p := ⟨w.heap.size + 1 + 1, k, none⟩) (by dsimp only; omega) _, _, hb.set k _, hcur.put hlt⟩
      have HN := Lib.hid hN
      clear hfs hB hb hcur hN
      gi_wp2
      go_roundw
      case rel => exact ⟨k + 1, by go_num, by omega, HN.out⟩
      case measure => simp [intOf]; omega
    · obtain rfl : k = 25 := by omega
      have c10 : wr.cell? ⟨w.heap.size, 0, none⟩ = some (.slice ol s.L.length cl) := hfs.1.cell 0
      have HW := Lib.hid (And.intro hfs (And.intro hB (And.intro hb hcur)))
      clear hfs hB hb hcur
      gi_wp2_with (gi_at_call 74; refine (callsIn_wide.2 (backward_any _ _ _ _)).mono ?_; rintro e w' ⟨rfl, rfl⟩)
      obtain ⟨hfs, hB, hb, hcur⟩ := HW.out
      have hlw := hb.lt
      have hBa := (Below.refl _ wr).alloc (Nat.le_refl _) (.cells #[.slice ol s.L.length cl] 22)
      have bB := Blk.new wr #[.slice ol s.L.length cl] 22
      have hUs : (wr.alloc (.cells #[.slice ol s.L.length cl] 22)).heap.size = wr.heap.size + 1 := World.size_alloc _ _
      have hJ0 : FsJ s ol os cl cs z w [] (wr.alloc (.cells #[.slice ol s.L.length cl] 22)) := ⟨⟨hfs.1.below' hBa, hfs.2.below' hBa⟩, hB.trans (hBa.mono hB.size), by simp, cur, hb.below' hBa, hcur.1, hcur.2.1, fun c hc => by
        rw [List.drop_of_length_le (by simp)]
        exact hcur.2.2 c hc⟩
      have hbU := hB.trans (hBa.mono hB.size)
      obtain ⟨U, hU⟩ : ∃ U, wr.alloc (.cells #[.slice ol s.L.length cl] 22) = U := ⟨_, rfl⟩
      obtain ⟨B, hBB⟩ : ∃ B, wr.heap.size = B := ⟨_, rfl⟩
      rw [hU] at bB hJ0 hUs hbU ⊢
      rw [hBB] at bB hlw hUs ⊢
      have HC := Lib.hid c10
      have HH := Lib.hid (And.intro hok hn)
      clear hfs hB hb hcur hBa hU hBB HW c10 HS hok
      have enters := enters_of Try.func75 (by kernel_rfl) rfl
      refine wpIn_range_z (n := 12) (gf := 75) (lb := #[.pointer (some ⟨B, 0, none⟩)]) (encs := encB) (Kp := KpT (w.heap.size + 1 + 1) (U.heap.size + 1)) (Fr := FrT) (S := fun xs => xs.length = s.L.length) (Sp := fun _ => True) (Due := DueB s.L) (N := s.L.length + 1) rfl (by omega) rfl trivial (fun _ _ => enters _ _)
        (seqZ_up (back_seq s.L ol cl hn w U B (w.heap.size + 1 + 1) bB (by omega) hr hbU (by omega))) (fun _ _ _ _ _ => trivial) kpT_t (fun W o o' h _ hw => ⟨KeepsWalks.putObj _ h hw, fun k hk h1 h2 => World.putObj_heap_other h2⟩) (fun _ => rfl)
        (fun pre X => FsJ s ol os cl cs z w pre X ∧ U.heap.size ≤ X.heap.size) (fun _ _ _ => False) ((fsJ_ab (by omega)).and (fun _ _ _ _ h hg _ => Nat.le_trans h hg.size)) (fun _ _ _ _ _ h _ _ => h) ⟨hJ0, Nat.le_refl _⟩
        (fun x a' W => ∃ Bx, U.heap.size ≤ Bx ∧ W.heap[Bx]? = some (.cells #[.int .i64 x.2.c, .int .i64 x.2.r] 79) ∧ a' = { tmps := #[.agg #[.slice ol s.L.length cl, .slice os s.S.length cs], .pointer (some ⟨w.heap.size, 0, none⟩), .pointer (some ⟨w.heap.size + 1, 0, none⟩), .pointer (some ⟨w.heap.size + 1 + 1, 0, none⟩), u4, .int .i64 (x.1 : Nat), .pointer (some ⟨Bx, 0, none⟩), .int .i64 25, .bool false, u9, u10, u11, u12, .pointer (some ⟨w.heap.size, 0, none⟩), .slice ol s.L.length cl, .func (.func 75) #[] #[.pointer (some ⟨B, 0, none⟩)], .int .i64 (x.1 : Nat), .agg #[.int .i64 x.2.c, .int .i64 x.2.r], undef, undef, undef, undef, undef, undef, undef, undef], defers := [] }) ?_ ?_ ?_ ?_ ?_
      · rintro x a' _ W W' row ⟨Bx, h1, h2, h3⟩ hg hr
        refine ⟨Bx, h1, (hg.block Bx (Array.getElem?_eq_some_iff.1 h2).1 ?_).trans h2, h3⟩
        intro e
        obtain ⟨_, o, ho, hc⟩ := hr Bx e.symm
        rw [h2] at ho; cases ho; cases hc
      · rintro l pre x W K hI hK
        rw [show encB x = #[.int .i64 (x.1 : Nat), .agg #[.int .i64 x.2.c, .int .i64 x.2.r]] from rfl, zip2]
        simp only [List.setIfInBounds_toArray, List.set_cons_zero, List.set_cons_succ]
        gi_wp2
        exact hK _ _ ((KeepsOthers.alloc _ _).from _) (kpT_alloc _) ⟨(fsJ_ab (U := U) (by omega)).alloc _ hI.1, by have := hI.2; simp; omega⟩ ⟨W.heap.size, hI.2, World.alloc_heap_new W _, rfl⟩
      · rintro l pre x a' X hl ⟨⟨hfs, hB, hpre, cur, hb, hcur⟩, hUX⟩ ⟨Bx, h1, h2, rfl⟩ hlen ⟨hd1, hd2⟩
        have bx : Blk X Bx #[.int .i64 x.2.c, .int .i64 x.2.r] 79 := h2
        have x0 : X.cell? ⟨Bx, 0, none⟩ = some (.int .i64 x.2.c) := bx.cell 0
        have hok := (okR_iff x.2).1 (List.all_eq_true.1 HH.out.1 x.2 (List.mem_of_getElem? hd2))
        have hsz : s.L.length - (pre ++ [x]).length = x.1 := by rw [List.length_append, List.length_singleton]; omega
        have hsz2 : s.L.length - pre.length = x.1 + 1 := by omega
        have hp2 : (pre ++ [x]).length ≤ s.L.length := by rw [List.length_append, List.length_singleton]; omega
        obtain ⟨i, x⟩ := x
        simp only at hd1 hd2 hok hsz hsz2 x0 ⊢
        rw [hsz2] at hcur
        by_cases hneg : x.c < 0
        · have e1 : decide ((0 : Int) ≤ x.c) = false := decide_eq_false (by omega)
          have HE : Hid (FsJ s ol os cl cs z w (pre ++ [(i, x)]) X) := Lib.hid ⟨hfs, hB, hp2, cur, hb, by rw [hsz]; exact hcur.neg hd2 hneg⟩
          clear hfs hB hpre hb hcur hd1 hd2 hsz hsz2 hp2 bx h2 hok
          gi_wp2
          exact ⟨KeepsFrom.refl _ _, kpT_refl, HE.out, hUX⟩
        · obtain ⟨k, hk⟩ : ∃ k : Nat, x.c = (k : Int) := ⟨x.c.toNat, by omega⟩
          have hk2 : k < 25 := by omega
          rw [hk] at x0
          have e1 : decide ((0 : Int) ≤ (k : Int)) = true := decide_eq_true (by omega)
          have f0 := hb.frozen k
          obtain ⟨u, hu⟩ : ∃ u, X.cell? ⟨w.heap.size + 1 + 1, k, none⟩ = some u := ⟨_, (hb.cell k).trans (Array.getElem?_eq_getElem (by rw [hcur.1]; exact hk2))⟩
          have HE : Hid (FsJ s ol os cl cs z w (pre ++ [(i, x)]) (X.setCell ⟨w.heap.size + 1 + 1, k, none⟩ (.int .i64 (i : Nat)))) := Lib.hid ⟨⟨hfs.1.other (by omega) _ _, hfs.2.other (by omega) _ _⟩, hB.setCell (p := ⟨w.heap.size + 1 + 1, k, none⟩) (by dsimp only; omega) _, hp2, _, hb.set k _, by rw [hsz]; exact hcur.put hd2 hk hk2⟩
          clear hfs hB hpre hb hcur hd1 hd2 hsz hsz2 hp2 bx h2 hok hneg hk
          gi_wp2
          exact ⟨kf_set _ _, kpT_set _ _, HE.out, by simpa using hUX⟩
      · rintro D xs X hD hxs ⟨⟨hfs, hB, hpre, cur, hb, hcur⟩, hUX⟩ hk
        rw [hxs, Nat.sub_self] at hcur
        have hi : (Try.prog.info? 88).map (·.size) = some cur.size := by rw [hcur.1]; kernel_rfl
        have hi2 : (Try.prog.info? 88).map (·.size) = some z.size := by rw [hz25.1]; kernel_rfl
        have hF := setRow_heap X (w.heap.size + 1) z cur 88 (0, 0) hfs.2
        have hDw : w.heap.size + 1 < D := by omega
        have hkF : (X.setRow (w.heap.size + 1) cur).heap[D]? = some (.deferred (some [])) := (setRow_other X (w.heap.size + 1) D cur (by omega)).trans hk
        have hG : ((X.setRow (w.heap.size + 1) cur).putObj D (.deferred none)).heap[w.heap.size + 1]? = some (.cells cur 88 (0, 0)) := (World.putObj_heap_other (by omega)).trans hF
        have hBF := (below_setRow hB (Nat.le_succ _) cur).trans (belowV_put1 (V := X.setRow (w.heap.size + 1) cur) (w := w) (D := D) (.deferred none) (by omega))
        have HF := Lib.hid (And.intro hi (And.intro hi2 (And.intro hkF (And.intro hG (And.intro hBF (And.intro hb (And.intro hfs.2 hcur)))))))
        clear hi hi2 hF hkF hG hBF hb hfs hcur hk hB hxs hpre hUX
        rename_i hK
        refine hK _ _ ?_
        refine wpIn_wide.2 ?_
        go_wp2_with (first | (refine wpList_load_row rfl 88 _ rfl (w.heap.size + 1 + 1) rfl 88 cur (0, 0) _ HF.out.2.2.2.2.2.1 Try.underlying88 rfl HF.out.1 ?_) | (refine wpList_store_row rfl 88 _ _ rfl (w.heap.size + 1) cur rfl rfl 88 z HF.out.2.2.2.2.2.2.1 HF.out.1 (hz25.1.trans HF.out.2.2.2.2.2.2.2.1.symm) HF.out.2.2.2.2.2.2.2.2.1 ?_))
        refine ⟨by simp, .inl ⟨_, _, rfl, run_takeDeferred HF.out.2.2.1, ?_⟩⟩
        exact ⟨.agg cur, results_cell_row rfl _ _ (w.heap.size + 1) 88 cur (0, 0) _ rfl HF.out.2.2.2.1 Try.underlying88 rfl HF.out.1, cur, rfl, HF.out.2.2.2.2.2.2.2, HF.out.2.2.2.2.1⟩
      · rintro D c pre W _ _ h _
        exact h.elim
theorem firsts_any (s : Sc) (ol os : Option Addr) (cl cs : Nat) (hn : s.L.length ≤ 9223372036854775807) (hok : s.L.all okR = true) (w : World) (hr : RowAt w encR 2 ol s.L) :
    Calls Try.prog 57 #[.agg #[.slice ol s.L.length cl, .slice os s.S.length cs]] w fun e w' => ∃ cur, e = .returned (.agg cur) ∧ FsA s.L 0 cur ∧ Below w.heap.size w w' :=
  callsIn_wide.1 (firsts_in s ol os cl cs hn hok w hr)
end Go.Proofs.Ytdcmkiggnmajgaa
