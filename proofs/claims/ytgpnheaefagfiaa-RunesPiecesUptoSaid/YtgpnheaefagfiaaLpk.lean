/- RunesPieces: the law's call. -/
import Derived.Test.YtgpnheaefagfiaaPk1
import Derived.Test.YtgpnheaefagfiaaWh
namespace Go.Proofs.Ytgpnheaefagfiaa
set_option linter.unusedVariables false
set_option linter.unusedSimpArgs false
open Go Go.RowKit Go.Shelf
set_option maxRecDepth 100000
attribute [local go_sem] Oper.semAt_some
theorem run_store_funcK {m : Mode} {P : Program} {w : World} {a : Addr} (fn : Fn) (f c : Array Value) : (store a (.func fn f c) m).run P w = stored P w a (.func fn f c) m := run_store P w a _ m rfl
attribute [local go_sem] run_store_funcK

theorem wpIn_loop_m {F : Fence} {n : Nat} {P : Program} {Q : Exit → Act → World → Prop} {a : Act} {w : World} {c : Code} (Inv : Nat → Act → World → Prop) (m : Nat) (h0 : Inv m a w)
    (hs : ∀ m a w, Inv m a w → c.wpIn F n P (Exit.then (fun a' w' => ∃ m', m' < m ∧ Inv m' a' w') Q) a w) : (Code.loop c).wpIn F n P Q a w := by
  intro b k cs hro hb hr
  have key : ∀ j a w, Inv j a w → ∃ e a' w', Q e a' w' ∧ ArrivesIn (Machine.fenced P F) P (lone (b.atR a (.code c :: .inLoop c :: k)) cs w) b k cs e a' w' := by
    intro j
    induction j using Nat.strongRecOn with
    | _ j ih =>
      intro a w hI
      obtain ⟨e, a₁, w₁, hq, harr⟩ := hs j a w hI b (.inLoop c :: k) cs hro hb hr
      cases e with
      | normal =>
        obtain ⟨m', hm, hI'⟩ := hq
        obtain ⟨e₂, a₂, w₂, hq₂, harr₂⟩ := ih m' hm a₁ w₁ hI'
        exact ⟨e₂, a₂, w₂, hq₂, .of_steps (StepsIn.trans harr (.one (fenced_calm hb hr rfl) stepR_inLoop)) harr₂⟩
      | exit id => exact ⟨_, a₁, w₁, hq, .pass (x := .inLoop c) rfl (fun _ _ => .inl (by simp)) harr⟩
      | goto l => exact ⟨_, a₁, w₁, hq, .pass (x := .inLoop c) rfl (fun _ _ => .inl (by simp)) harr⟩
      | ret => exact ⟨_, a₁, w₁, hq, .pass (x := .inLoop c) rfl (fun _ _ => .inl (by simp)) harr⟩
      | panic ch => exact ⟨_, a₁, w₁, hq, .pass (x := .inLoop c) rfl (fun _ _ => .inl (by simp)) harr⟩
      | outgrown => exact ⟨_, a₁, w₁, hq, .pass (x := .inLoop c) rfl (fun _ _ => .inl (by simp)) harr⟩
  obtain ⟨e, a', w', hq, harr⟩ := key m a w h0
  exact ⟨e, a', w', hq, .of_steps (.one (fenced_calm hb hr rfl) stepR_loop) harr⟩
theorem cut_range {F : Fence} {n : Nat} {P : Program} {c : Code} {Q : Exit → Act → World → Prop} {a : Act} {w : World} (id : Nat) (R : Nat → World → Prop)
    (h : c.wpIn F n P (fun e a' W => (e = .normal ∨ e = .exit id) ∧ ∃ D, R D W ∧ a' = { a with defers := { target := .collected D, args := #[] } :: a.defers }) a w)
    (hid : ∀ a W, Q .normal a W → Q (.exit id) a W) (h2 : ∀ D W, R D W → Q .normal { a with defers := { target := .collected D, args := #[] } :: a.defers } W) : c.wpIn F n P Q a w :=
  wpIn_mono h (fun e a' W ⟨he, D, hR, ha⟩ => by
    subst ha
    rcases he with rfl | rfl
    · exact h2 D W hR
    · exact hid _ _ (h2 D W hR))

def PcR (o : Option Addr) (s : ByteArray) (W : World) : Prop := ∀ (d y : Nat), (posns s)[d]? = some y → ∃ g : Nat, o = some ⟨g, 0, none⟩ ∧ W.cell? ⟨g, d * 4, none⟩ = some (.int .i64 y) ∧ W.cell? ⟨g, d * 4 + 1, none⟩ = some (.int .i64 (wd s y : Nat)) ∧ W.cell? ⟨g, d * 4 + 2, none⟩ = some (.int .i32 (rn s y : Nat)) ∧ W.cell? ⟨g, d * 4 + 3, none⟩ = some (.bool (bk s y))
theorem PcR.old {o : Option Addr} {s : ByteArray} {W X : World} (h : PcR o s W) (hb : Below W.heap.size W X) : PcR o s X := by
  intro d y hd
  obtain ⟨g, h1, h2, h3, h4, h5⟩ := h d y hd
  exact ⟨g, h1, (hb.cell (p := ⟨g, d * 4, none⟩) (lt_cell h2)).trans h2, (hb.cell (p := ⟨g, d * 4 + 1, none⟩) (lt_cell h3)).trans h3, (hb.cell (p := ⟨g, d * 4 + 2, none⟩) (lt_cell h4)).trans h4, (hb.cell (p := ⟨g, d * 4 + 3, none⟩) (lt_cell h5)).trans h5⟩
theorem box_old {V X : World} {b : Nat} {T : TypeId} {v : Value} (h : Boxed V b T v) (hb : Below V.heap.size V X) : Boxed X b T v := Boxed.kept h (grown_none hb) (by simp)
/-- What stands ahead of the loop. -/
def PkV (s : ByteArray) (o : Option Addr) (cap A : Nat) (w V : World) : Prop :=
  (Boxed V w.heap.size 4 (.bool false) ∧ Boxed V A 29 (.slice o (posns s).length cap) ∧ Boxed V (A + 1) 9 (.string s) ∧ Boxed V (A + 2) 9 (.string s) ∧ Boxed V (A + 3) 33 (.func (.func 73) #[] #[.pointer (some ⟨A + 2, 0, none⟩)])) ∧ PcR o s V ∧ Below w.heap.size w V ∧ V.heap.size = A + 4 ∧ w.heap.size < A
theorem PkV.old {s : ByteArray} {o : Option Addr} {cap A : Nat} {w V X : World} (h : PkV s o cap A w V) (hb : Below V.heap.size V X) : Boxed X w.heap.size 4 (.bool false) ∧ Boxed X A 29 (.slice o (posns s).length cap) ∧ Boxed X (A + 1) 9 (.string s) ∧ Boxed X (A + 2) 9 (.string s) ∧ Boxed X (A + 3) 33 (.func (.func 73) #[] #[.pointer (some ⟨A + 2, 0, none⟩)]) ∧ PcR o s X :=
  ⟨box_old h.1.1 hb, box_old h.1.2.1 hb, box_old h.1.2.2.1 hb, box_old h.1.2.2.2.1 hb, box_old h.1.2.2.2.2 hb, h.2.1.old hb⟩
def PkM (s : ByteArray) (k : Int) (w V0 : World) (A : Nat) (m : Nat) (a : Act) (W : World) : Prop :=
  ∃ (Ds : List Nat) (kz : Int) (f : Nat → Value), kz + m = 2 ∧ Ds.length + 4 * m = 8 ∧ Ds.Pairwise (· > ·) ∧ (∀ D ∈ Ds, A + 4 ≤ D ∧ W.heap[D]? = some (.deferred (some []))) ∧ Below V0.heap.size V0 W ∧
    a = { tmps := #[(.string s), (.int .i64 k), f 2, f 3, (.pointer (some ⟨w.heap.size, 0, none⟩)), (.pointer (some ⟨A, 0, none⟩)), (.func (.func 70) #[] #[.pointer (some ⟨A + 1, 0, none⟩)]), (.pointer (some ⟨A + 3, 0, none⟩)), (.int .i64 kz), f 9, f 10, f 11, f 12, f 13, f 14, f 15, f 16, f 17, f 18, f 19, f 20, f 21, f 22, f 23, f 24, f 25, f 26, f 27, f 28, f 29, f 30, f 31, f 32, f 33, f 34, f 35, f 36, f 37, f 38, f 39, f 40, f 41, f 42, f 43, f 44, f 45, f 46, f 47, f 48, f 49, f 50, f 51, f 52, f 53, f 54, f 55, f 56, f 57, f 58, f 59, f 60, f 61, f 62, f 63, f 64, f 65, f 66, f 67, f 68, f 69, f 70, f 71, f 72, f 73, f 74, f 75, f 76, f 77, f 78, f 79, f 80, f 81, f 82, f 83, f 84, f 85, f 86, f 87, f 88, f 89, f 90, f 91, f 92, f 93, f 94, f 95, f 96, f 97, f 98, f 99, f 100, f 101, f 102, f 103, f 104, f 105, f 106, f 107, f 108, f 109, f 110, f 111, f 112, f 113, f 114, f 115, f 116, f 117, f 118, f 119, f 120, f 121, f 122, f 123, f 124, f 125, f 126, f 127, f 128, f 129, f 130, f 131, f 132, f 133, f 134, f 135, f 136, f 137, f 138, f 139, f 140, f 141, f 142, f 143, f 144, f 145, f 146, f 147, f 148, f 149, f 150, f 151, f 152, f 153, f 154, f 155], defers := Ds.map fun D => { target := .collected D, args := #[] } }
theorem PkM.mk {s : ByteArray} {k : Int} {w V0 : World} {A m : Nat} {a : Act} {W : World} (Ds : List Nat) (kz : Int) (h1 : kz + m = 2) (h2 : Ds.length + 4 * m = 8) (h3 : Ds.Pairwise (· > ·)) (h4 : ∀ D ∈ Ds, A + 4 ≤ D ∧ W.heap[D]? = some (.deferred (some []))) (h5 : Below V0.heap.size V0 W)
    (h6 : a = { tmps := #[(.string s), (.int .i64 k), (a.tmps.getD 2 undef), (a.tmps.getD 3 undef), (.pointer (some ⟨w.heap.size, 0, none⟩)), (.pointer (some ⟨A, 0, none⟩)), (.func (.func 70) #[] #[.pointer (some ⟨A + 1, 0, none⟩)]), (.pointer (some ⟨A + 3, 0, none⟩)), (.int .i64 kz), (a.tmps.getD 9 undef), (a.tmps.getD 10 undef), (a.tmps.getD 11 undef), (a.tmps.getD 12 undef), (a.tmps.getD 13 undef), (a.tmps.getD 14 undef), (a.tmps.getD 15 undef), (a.tmps.getD 16 undef), (a.tmps.getD 17 undef), (a.tmps.getD 18 undef), (a.tmps.getD 19 undef), (a.tmps.getD 20 undef), (a.tmps.getD 21 undef), (a.tmps.getD 22 undef), (a.tmps.getD 23 undef), (a.tmps.getD 24 undef), (a.tmps.getD 25 undef), (a.tmps.getD 26 undef), (a.tmps.getD 27 undef), (a.tmps.getD 28 undef), (a.tmps.getD 29 undef), (a.tmps.getD 30 undef), (a.tmps.getD 31 undef), (a.tmps.getD 32 undef), (a.tmps.getD 33 undef), (a.tmps.getD 34 undef), (a.tmps.getD 35 undef), (a.tmps.getD 36 undef), (a.tmps.getD 37 undef), (a.tmps.getD 38 undef), (a.tmps.getD 39 undef), (a.tmps.getD 40 undef), (a.tmps.getD 41 undef), (a.tmps.getD 42 undef), (a.tmps.getD 43 undef), (a.tmps.getD 44 undef), (a.tmps.getD 45 undef), (a.tmps.getD 46 undef), (a.tmps.getD 47 undef), (a.tmps.getD 48 undef), (a.tmps.getD 49 undef), (a.tmps.getD 50 undef), (a.tmps.getD 51 undef), (a.tmps.getD 52 undef), (a.tmps.getD 53 undef), (a.tmps.getD 54 undef), (a.tmps.getD 55 undef), (a.tmps.getD 56 undef), (a.tmps.getD 57 undef), (a.tmps.getD 58 undef), (a.tmps.getD 59 undef), (a.tmps.getD 60 undef), (a.tmps.getD 61 undef), (a.tmps.getD 62 undef), (a.tmps.getD 63 undef), (a.tmps.getD 64 undef), (a.tmps.getD 65 undef), (a.tmps.getD 66 undef), (a.tmps.getD 67 undef), (a.tmps.getD 68 undef), (a.tmps.getD 69 undef), (a.tmps.getD 70 undef), (a.tmps.getD 71 undef), (a.tmps.getD 72 undef), (a.tmps.getD 73 undef), (a.tmps.getD 74 undef), (a.tmps.getD 75 undef), (a.tmps.getD 76 undef), (a.tmps.getD 77 undef), (a.tmps.getD 78 undef), (a.tmps.getD 79 undef), (a.tmps.getD 80 undef), (a.tmps.getD 81 undef), (a.tmps.getD 82 undef), (a.tmps.getD 83 undef), (a.tmps.getD 84 undef), (a.tmps.getD 85 undef), (a.tmps.getD 86 undef), (a.tmps.getD 87 undef), (a.tmps.getD 88 undef), (a.tmps.getD 89 undef), (a.tmps.getD 90 undef), (a.tmps.getD 91 undef), (a.tmps.getD 92 undef), (a.tmps.getD 93 undef), (a.tmps.getD 94 undef), (a.tmps.getD 95 undef), (a.tmps.getD 96 undef), (a.tmps.getD 97 undef), (a.tmps.getD 98 undef), (a.tmps.getD 99 undef), (a.tmps.getD 100 undef), (a.tmps.getD 101 undef), (a.tmps.getD 102 undef), (a.tmps.getD 103 undef), (a.tmps.getD 104 undef), (a.tmps.getD 105 undef), (a.tmps.getD 106 undef), (a.tmps.getD 107 undef), (a.tmps.getD 108 undef), (a.tmps.getD 109 undef), (a.tmps.getD 110 undef), (a.tmps.getD 111 undef), (a.tmps.getD 112 undef), (a.tmps.getD 113 undef), (a.tmps.getD 114 undef), (a.tmps.getD 115 undef), (a.tmps.getD 116 undef), (a.tmps.getD 117 undef), (a.tmps.getD 118 undef), (a.tmps.getD 119 undef), (a.tmps.getD 120 undef), (a.tmps.getD 121 undef), (a.tmps.getD 122 undef), (a.tmps.getD 123 undef), (a.tmps.getD 124 undef), (a.tmps.getD 125 undef), (a.tmps.getD 126 undef), (a.tmps.getD 127 undef), (a.tmps.getD 128 undef), (a.tmps.getD 129 undef), (a.tmps.getD 130 undef), (a.tmps.getD 131 undef), (a.tmps.getD 132 undef), (a.tmps.getD 133 undef), (a.tmps.getD 134 undef), (a.tmps.getD 135 undef), (a.tmps.getD 136 undef), (a.tmps.getD 137 undef), (a.tmps.getD 138 undef), (a.tmps.getD 139 undef), (a.tmps.getD 140 undef), (a.tmps.getD 141 undef), (a.tmps.getD 142 undef), (a.tmps.getD 143 undef), (a.tmps.getD 144 undef), (a.tmps.getD 145 undef), (a.tmps.getD 146 undef), (a.tmps.getD 147 undef), (a.tmps.getD 148 undef), (a.tmps.getD 149 undef), (a.tmps.getD 150 undef), (a.tmps.getD 151 undef), (a.tmps.getD 152 undef), (a.tmps.getD 153 undef), (a.tmps.getD 154 undef), (a.tmps.getD 155 undef)], defers := Ds.map fun D => { target := .collected D, args := #[] } }) : PkM s k w V0 A m a W := ⟨Ds, kz, fun i => a.tmps.getD i undef, h1, h2, h3, h4, h5, h6⟩
theorem pre_at {s : ByteArray} {pre : List (Pos s)} {x : Pos s} (h : (pre ++ [x]).map (·.1) <+: posns s) : pre.length < (posns s).length ∧ (posns s)[pre.length]? = some x.1 := by
  obtain ⟨r, hr⟩ := h
  rw [← hr]
  refine ⟨by simp, ?_⟩
  rw [List.map_append, List.map_singleton, List.append_assoc, List.getElem?_append_right (by simp)]
  simp
theorem put_step {Z w : World} {b D : Nat} {v : Value} (hD : b < D) (hw : w.heap.size ≤ D) (k : Z.heap[D]? = some (.deferred (some []))) (g : Z.cell? ⟨b, 0, none⟩ = some v) (hB : Below w.heap.size w Z) :
    (Z.putObj D (.deferred none)).cell? ⟨b, 0, none⟩ = some v ∧ Below w.heap.size w (Z.putObj D (.deferred none)) ∧ ∀ E, E ≠ D → (Z.putObj D (.deferred none)).heap[E]? = Z.heap[E]? :=
  ⟨(World.cell?_of_block (w := Z) (World.putObj_heap_other (by dsimp only; omega))).trans g, hB.trans (belowK_b (w := w) (Nat.le_refl _) Z D _ (.deferred none) hw k rfl rfl), fun E hE => World.putObj_heap_other hE⟩
def PkL (W : World) (v : Value) (wr : World) : Prop := ∃ i : Int, v = .int .i64 i ∧ (i = 0 ∨ i = 1 ∨ i = 2 ∨ i = 3 ∨ i = 4) ∧ Below W.heap.size W wr
theorem keeps_below {W P : World} (hb : Below W.heap.size W P) : KeepsOthers W P := ⟨hb.size, fun k o h _ => (hb.block k (Array.getElem?_eq_some_iff.1 h).1).trans h⟩
theorem kpB_below {B : Nat} {W P : World} (hb : Below W.heap.size W P) (hB : B < W.heap.size) : KpB B W P := ⟨(keeps_below hb).walks, hb.block B hB⟩
theorem kpC_below {B : Nat} {W P : World} (hb : Below W.heap.size W P) (hB : B < W.heap.size) : KpC B W P := ⟨kpB_below hb hB, fun b cs h => (hb.block b (Array.getElem?_eq_some_iff.1 h).1).trans h⟩
theorem kpB_set {B ib : Nat} {W : World} (h : ib ≠ B) (v : Value) : KpB B W (W.setCell ⟨ib, 0, none⟩ v) := ⟨KeepsWalks.setCell _ _ _, Below.heap_setCell _ _ _ _ (by dsimp only; omega)⟩
theorem kpC_set {B ib : Nat} {W : World} {T : TypeId} {u : Value} (hb : Boxed W ib T u) (hT : 24 ≠ T) (h : ib ≠ B) (v : Value) : KpC B W (W.setCell ⟨ib, 0, none⟩ v) := ⟨kpB_set h v, fun b cs hc => set_keeps hb hT hc⟩
theorem kf_set {C ib : Nat} {X : World} (o : Nat) (v : Value) : KeepsFrom C X (X.setCell ⟨ib, o, none⟩ v) := (KeepsOthers.setCell _ _ _).from _
theorem kf_below {C : Nat} {X Y : World} (hb : Below X.heap.size X Y) : KeepsFrom C X Y := (keeps_below hb).from _

set_option maxHeartbeats 16000000 in
theorem lpk_in (s : ByteArray) (k : Int) (hk1 : -9223372036854775808 ≤ k) (hk2 : k ≤ 9223372036854775807) (hs : s.size ≤ 1048576) (w : World) :
    CallsIn Fence.wide 11 Try.prog 4 #[.string s, .int .i64 k] w fun e w' => e = .returned (.bool true) ∧ Below w.heap.size w w' := by
  have hLs := posns_len s
  refine callsIn_of_wp_marks Try.func4 rfl trivial ?_ rfl
  simp only [Try.ntmps4, List.size_toArray, List.length_cons, List.length_nil, Nat.reduceAdd, Nat.reduceSub, Array.replicate_succ, Array.replicate_zero, List.push_toArray, List.append_toArray, List.nil_append, List.cons_append]
  have hF : ∀ f, Fence.wide.fn f := fun _ => trivial
  have hnil1 : ∀ (b : Nat) (W : World), (binOp .eql 33 (.func (.func 70) #[] #[.pointer (some ⟨b, 0, none⟩)]) .nilFunc).run Try.prog W = .ok (.bool false) W := fun _ _ => by kernel_rfl
  have hnil2 : ∀ (b : Nat) (W : World), (binOp .eql 33 (.func (.func 73) #[] #[.pointer (some ⟨b, 0, none⟩)]) .nilFunc).run Try.prog W = .ok (.bool false) W := fun _ _ => by kernel_rfl
  gi_wp2_with (fail)
  refine (callsIn_wide.2 (wakes_any _)).mono ?_
  rintro e w1 ⟨rfl, hb1⟩
  have b0 : Boxed w1 w.heap.size 4 (.bool false) := Boxed.kept (Boxed.new w 4 (.bool false)) (grown_none hb1) (by simp)
  have hB1 := ((Below.refl _ w).alloc (Nat.le_refl _) (.cells #[.bool false] 4)).trans (hb1.mono (by simp))
  have hP := hb1.size
  rw [World.size_alloc] at hP
  clear hb1
  gi_wp2_with (fail)
  refine (callsIn_wide.2 (piecesR_any s hs _)).mono ?_
  rintro e w2 ⟨v, rfl, hown, hb2⟩
  obtain ⟨o, cap, rfl, ho⟩ := own_slice hown
  have b1 : Boxed w2 w.heap.size 4 (.bool false) := Boxed.kept b0 (grown_none hb2) (by simp)
  have hB2 := hB1.trans (hb2.mono hB1.size)
  have hP2 := hb2.size
  clear hb2 b0 hB1
  gi_wp2_with (first | (gi_at_call 20; refine (callsIn_wide.2 (pieces_any _ _)).mono ?_; rintro e w' ⟨rfl, rfl⟩) | (gi_at_call 21; refine (callsIn_wide.2 (back_any _ _)).mono ?_; rintro e w' ⟨rfl, rfl⟩))
  obtain ⟨A, hA⟩ : ∃ x, w2.heap.size = x := ⟨_, rfl⟩
  have hV : PkV s o cap A w ((((w2.alloc (.cells #[.slice o (posns s).length cap] 29)).alloc (.cells #[.string s] 9)).alloc (.cells #[.string s] 9)).alloc (.cells #[.func (.func 73) #[] #[.pointer (some ⟨A + 2, 0, none⟩)]] 33)) := by
    have z0 := (((b1.alloc (.cells #[.slice o (posns s).length cap] 29)).alloc (.cells #[.string s] 9)).alloc (.cells #[.string s] 9)).alloc (.cells #[.func (.func 73) #[] #[.pointer (some ⟨A + 2, 0, none⟩)]] 33)
    have z1 := (((Boxed.new w2 29 (.slice o (posns s).length cap)).alloc (.cells #[.string s] 9)).alloc (.cells #[.string s] 9)).alloc (.cells #[.func (.func 73) #[] #[.pointer (some ⟨A + 2, 0, none⟩)]] 33)
    have z2 := ((Boxed.new (w2.alloc (.cells #[.slice o (posns s).length cap] 29)) 9 (.string s)).alloc (.cells #[.string s] 9)).alloc (.cells #[.func (.func 73) #[] #[.pointer (some ⟨A + 2, 0, none⟩)]] 33)
    have z3 := (Boxed.new ((w2.alloc (.cells #[.slice o (posns s).length cap] 29)).alloc (.cells #[.string s] 9)) 9 (.string s)).alloc (.cells #[.func (.func 73) #[] #[.pointer (some ⟨A + 2, 0, none⟩)]] 33)
    have z4 := Boxed.new (((w2.alloc (.cells #[.slice o (posns s).length cap] 29)).alloc (.cells #[.string s] 9)).alloc (.cells #[.string s] 9)) 33 (.func (.func 73) #[] #[.pointer (some ⟨A + 2, 0, none⟩)])
    simp only [World.size_alloc, Nat.add_assoc, Nat.reduceAdd, hA] at z1 z2 z3 z4
    have zr := (((hown.alloc (.cells #[.slice o (posns s).length cap] 29)).alloc (.cells #[.string s] 9)).alloc (.cells #[.string s] 9)).alloc (.cells #[.func (.func 73) #[] #[.pointer (some ⟨A + 2, 0, none⟩)]] 33)
    have zb := (((hB2.alloc hB2.size (.cells #[.slice o (posns s).length cap] 29)).alloc (by simp; omega) (.cells #[.string s] 9)).alloc (by simp; omega) (.cells #[.string s] 9)).alloc (by simp; omega) (.cells #[.func (.func 73) #[] #[.pointer (some ⟨A + 2, 0, none⟩)]] 33)
    refine ⟨⟨z0, z1, z2, z3, z4⟩, ?_, zb, by simp [hA], by omega⟩
    intro d y hd
    have hlt := (List.getElem?_eq_some_iff.1 hd).1
    obtain ⟨g, rfl⟩ := ho (by omega)
    exact ⟨g, rfl, nth_cells zr rfl d hlt y hd⟩
  simp only [Nat.add_assoc, Nat.reduceAdd, hA]
  obtain ⟨V0, hV0⟩ : ∃ V, ((((w2.alloc (.cells #[.slice o (posns s).length cap] 29)).alloc (.cells #[.string s] 9)).alloc (.cells #[.string s] 9)).alloc (.cells #[.func (.func 73) #[] #[.pointer (some ⟨A + 2, 0, none⟩)]] 33)) = V := ⟨_, rfl⟩
  rw [hV0] at hV ⊢
  clear hV0 hown ho b1 hB2 hP hP2 hA
  obtain ⟨L, hL⟩ : ∃ L, (posns s).length = L := ⟨_, rfl⟩
  have HL := Lib.hid hL
  rw [hL] at hLs
  have hVz := hV.2.2.2.1
  have hVw := hV.2.2.2.2
  have HV := Lib.hid hV
  refine wpIn_loop_m (PkM s k w V0 A) 2 (PkM.mk [] 0 (by simp) rfl List.Pairwise.nil (fun _ h => by cases h) (Below.refl _ _) rfl) ?_
  clear hV hL hF hnil1 hnil2
  rintro m a W ⟨Ds, kz, f, hkz, hDs, hnd, hD, hBW, rfl⟩
  have hF : ∀ f, Fence.wide.fn f := fun _ => trivial
  have hWz : A + 4 ≤ W.heap.size := by have := hBW.size; omega
  have hk2' := hk2
  by_cases hk2 : kz < 2
  · have i1 : decide (kz < 2) = true := decide_eq_true hk2
    gi_wp2_with (fail)
    obtain ⟨N, hN⟩ : ∃ x, W.heap.size = x := ⟨_, rfl⟩
    have g0 := Boxed.new W 3 (.int .i64 0)
    have hBV := hBW.alloc hBW.size (.cells #[.int .i64 0] 3)
    have hVs : (W.alloc (.cells #[.int .i64 0] 3)).heap.size = N + 1 := by simp [hN]
    have gD : ∀ D ∈ Ds, A + 4 ≤ D ∧ D < N ∧ (W.alloc (.cells #[.int .i64 0] 3)).heap[D]? = some (.deferred (some [])) := fun D hd => by
      obtain ⟨d1, d2⟩ := hD D hd
      have := (Array.getElem?_eq_some_iff.1 d2).1
      exact ⟨d1, by omega, (Below.heap_alloc _ _ _ this).trans d2⟩
    rw [hN] at g0 hWz
    simp only [hN]
    obtain ⟨V, hVe⟩ : ∃ Z, W.alloc (.cells #[.int .i64 0] 3) = Z := ⟨_, rfl⟩
    rw [hVe] at g0 hBV hVs gD ⊢
    clear hVe hD hBW hN
    have g1 := (HV.out.old hBV).2.2.1
    have hV0N : V0.heap.size ≤ N := by omega
    have GD := Lib.hid (And.intro gD (And.intro hnd (And.intro hDs hkz)))
    clear gD hnd hDs hkz
    refine range_all 10 s (by omega) (A + 1) g1 rfl (fun pre X => SmA N V0 V X ∧ Boxed X N 3 (.int .i64 (pre.length : Nat)) ∧ True) (fun (c : Code) (pre : List (Pos s)) (X : World) => ¬ (List.map (fun (x : Pos s) => (x.1 : Nat)) pre <+: posns s))
      (smA_own (f := fun pre => .int .i64 (pre.length : Nat)) (p := fun _ => True) (by omega) (by omega)) (fun c _ _ _ _ h _ _ => h) ⟨SmA.start hBV, g0, trivial⟩ ?assignA ?bodyA ?doneA ?stopA
    case assignA =>
      intro l x W K hK
      simp only [pcC] at hK ⊢
      gi_wp2
      exact hK
    case stopA =>
      rintro D c pre X _ hp h _
      exact absurd hp h
    case bodyA =>
      rintro l pre x Bx X ⟨r, hr⟩ ⟨h1, h2, _⟩ hle hbx hlen
      obtain ⟨o0, oA, o1, o2, o3, oR⟩ := HV.out.old h1.2
      rw [HL.out] at oA
      have hXz := h1.size
      have hnx := fun h => pre_at (pre := pre) (x := x) h
      rw [HL.out] at hnx
      obtain ⟨n, hn⟩ : ∃ n, pre.length = n := ⟨_, rfl⟩
      rw [hn] at h2 hnx hlen
      have hpl : (pre ++ [x]).length = n + 1 := by simp [hn]
      have cA := oA.cell
      have c0 := o0.cell
      have f0 := o0.frozen
      have cn := h2.cell
      obtain ⟨p0, p1, p2, p3⟩ := pcell hbx
      have HX := Lib.hid (And.intro h1 (And.intro h2 (And.intro hr hpl)))
      clear h1 h2 hr hpl hn hbx o0 oA o1 o2 o3
      simp only [pcC, List.setIfInBounds_toArray, List.set_cons_zero, List.set_cons_succ]
      by_cases hlt : n < L
      · obtain ⟨y, hy⟩ : ∃ y, (posns s)[n]? = some y := ⟨_, List.getElem?_eq_getElem (by rw [HL.out]; exact hlt)⟩
        obtain ⟨g, rfl, y0, y1, y2, y3⟩ := oR n y hy
        have i3 : decide ((L : Int) ≤ (n : Int)) = false := decide_eq_false (by omega)
        have i3n : decide (L ≤ n) = false := decide_eq_false (by omega)
        have i4 : (0 : Int) ≤ (n : Int) := by omega
        have i5 : (n : Int) < (L : Int) := by omega
        have j1 : IntKind.i64.wrap ((n : Int) + 1) = (n : Int) + 1 := IntWalk.i64_in _ (by omega)
        clear oR
        by_cases hxy : x.1 = y
        · subst hxy
          clear hnx hy
          gi_wp2_with (fail)
          refine round_quiet (by kernel_rfl) (by kernel_rfl) (by kernel_rfl) (noOut_then (fun _ _ h => h)) ?_
          repeat (go_big_quiet_step (fail))
          refine wpQuiet_nil ?_
          intro _ hw'
          obtain ⟨nq, hw''⟩ := hw'
          subst hw''
          obtain ⟨XA, hXA⟩ : ∃ Z, X.drewN nq = Z := ⟨_, rfl⟩
          have hbA : Below X.heap.size X XA := hXA ▸ below_drewN (Below.refl _ _) nq
          rw [hXA]
          have y0A : XA.cell? ⟨g, n * 4, none⟩ = some (.int .i64 x.1) := (hbA.cell (p := ⟨g, n * 4, none⟩) (lt_cell y0)).trans y0
          clear hXA cA c0 f0 cn p0 p1 p2 p3 y0 y1 y2 y3
          obtain ⟨h1, h2, hr, hpl⟩ := HX.out
          have u1 := h1.below hbA (by omega)
          have u2 := box_old h2 hbA
          have u3 : XA.heap[l]? = some (.loop r) := (hbA.block l (Array.getElem?_eq_some_iff.1 hr).1).trans hr
          obtain ⟨o0, oA, o1, o2, o3, oR⟩ := HV.out.old u1.2
          rw [HL.out] at oA
          have cA := oA.cell
          have c3 : ∀ o', ((XA.setCell ⟨N, 0, none⟩ (.int .i64 ((n : Int) + 1))).alloc o').cell? ⟨A + 3, 0, none⟩ = some (.func (.func 73) #[] #[.pointer (some ⟨A + 2, 0, none⟩)]) := fun o' => ((o3.other (by omega) _).alloc o').cell
          have cn := u2.cell
          have fN := u2.frozen
          have hlN : l ≠ N := fun e => by
            rw [e, show XA.heap[N]? = _ from u2] at u3
            cases u3
          have ka := kf_below (C := V.heap.size) hbA
          have kb : KpB (A + 1) X XA := kpB_below hbA (by omega)
          have HA := Lib.hid (And.intro u1 (And.intro u2 (And.intro u3 (And.intro ka (And.intro kb hpl)))))
          clear h1 h2 hr u1 u2 u3 o0 oA o1 o2 o3 oR ka kb HX hpl hbA
          have nA : A ≠ N := by omega
          have nA3 : A + 3 ≠ N := by omega
          by_cases hn1 : n = 1
          · have e2 : ((n : Int) + 1 == 2) = true := by rw [beq_iff_eq]; omega
            have e2n : (n + 1 == 2) = true := by rw [beq_iff_eq]; omega
            clear hn1
            gi_wp2_with (fail)
            obtain ⟨u1, u2, u3, ka, kb, hpl⟩ := HA.out
            obtain ⟨XB, hXB⟩ : ∃ Z, XA.setCell ⟨N, 0, none⟩ (.int .i64 ((n : Int) + 1)) = Z := ⟨_, rfl⟩
            have v1 : SmA N V0 V XB := hXB ▸ u1.set (by omega) 0 _
            have v2 : Boxed XB N 3 (.int .i64 ((n : Int) + 1)) := hXB ▸ u2.set _
            have v3 : XB.heap[l]? = some (.loop r) := hXB ▸ ((grownBy_setCell XA N 0 _).block l (Array.getElem?_eq_some_iff.1 u3).1 (fun e => hlN (by simpa using e))).trans u3
            have va : KeepsFrom V.heap.size X XB := hXB ▸ ka.trans (kf_set _ _)
            have vb : KpB (A + 1) X XB := hXB ▸ kpB_t kb (kpB_set (by omega) _)
            have hgN : g < XA.heap.size := lt_cell y0A
            have hXBs : XB.heap.size = XA.heap.size := by rw [← hXB]; simp
            have hXBz := v1.2.size
            have hlB := (Array.getElem?_eq_some_iff.1 v3).1
            obtain ⟨Mb, hMb⟩ : ∃ x, XB.heap.size = x := ⟨_, rfl⟩
            have U3 : (XB.alloc (.cells #[.int .i64 L] 3)).heap[l]? = some (.loop r) := (Below.heap_alloc _ _ _ hlB).trans v3
            have U2 : Boxed (XB.alloc (.cells #[.int .i64 L] 3)) (A + 2) 9 (.string s) := (HV.out.old v1.2).2.2.2.1.alloc _
            have Um := Boxed.new XB 3 (.int .i64 L)
            have Ub := (Below.refl XB.heap.size XB).alloc (Nat.le_refl _) (.cells #[.int .i64 L] 3)
            have Us : (XB.alloc (.cells #[.int .i64 L] 3)).heap.size = Mb + 1 := by simp [hMb]
            have hXAs : XA.heap.size = Mb := by omega
            rw [hMb] at Um Ub hXBz hlB
            try simp only [hXAs]
            rw [hXB]
            rw [hXAs] at hgN
            obtain ⟨U, hU⟩ : ∃ Z, XB.alloc (.cells #[.int .i64 L] 3) = Z := ⟨_, rfl⟩
            rw [hU] at U3 U2 Um Ub Us ⊢
            have hUz : Mb ≤ U.heap.size := by omega
            have HB := Lib.hid (And.intro v2 (And.intro va (And.intro vb hpl)))
            clear hU hXB u1 u2 u3 ka kb hpl HA hXBs hXAs v2 va vb cA c3 cn fN
            refine range_back_in 12 U3 s (by omega) (A + 2) U2 rfl (fun _ Y => (∃ d : Nat, Boxed Y Mb 3 (.int .i64 d) ∧ d ≤ L) ∧ Below Mb XB Y) (fun c _ Y => c = .exit 4 ∧ Below Mb XB Y)
              (fun _ Y Z row h hg hr => ⟨h.1.imp fun d h => ⟨h.1.kept hg (fun e => by have := (hr Mb e.symm).1; omega), h.2⟩, h.2.grown hg (by have := h.2.size; omega) (fun r e => by have := (hr r e).1; omega)⟩)
              (fun c _ Y Z row h hg hr => ⟨h.1, h.2.grown hg (by have := h.2.size; omega) (fun r e => by have := (hr r e).1; omega)⟩) ⟨⟨L, Um, Nat.le_refl _⟩, Ub⟩ ?assignI ?bodyI ?doneI ?stopI
            case assignI =>
              intro l x W K hK
              simp only [pcC] at hK ⊢
              gi_wp2
              exact hK
            case bodyI =>
              rintro l2 pre2 q Bq Y ⟨⟨d, hd, hdL⟩, hbY⟩ hle2 hbq
              have hb0Y := v1.2.trans (hbY.mono hXBz)
              obtain ⟨_, oA, _, _, _, oR⟩ := HV.out.old hb0Y
              rw [HL.out] at oA
              have cA := oA.cell
              have cm := hd.cell
              have fm := hd.frozen
              have hYz := hbY.size
              have hUz2 := Nat.le_trans hUz hle2
              clear oA
              simp only [pcC, List.setIfInBounds_toArray, List.set_cons_zero, List.set_cons_succ]
              by_cases hd0 : d = 0
              · subst hd0
                have HY := Lib.hid (And.intro hd hbY)
                gi_wp2_with (fail)
                obtain ⟨hd, hbY⟩ := HY.out
                obtain ⟨Z, hZ⟩ : ∃ Z, Y.setCell ⟨Mb, 0, none⟩ (.int .i64 (-1)) = Z := ⟨_, rfl⟩
                have m5 : Boxed Z Mb 3 (.int .i64 (-1)) := hZ ▸ hd.set _
                have c5 := m5.cell
                have mB : Below Mb XB Z := hZ ▸ hbY.setCell (p := ⟨Mb, 0, none⟩) (Nat.le_refl _) _
                have kz1 : KeepsFrom (Mb + 1) Y Z := hZ ▸ kf_set _ _
                rw [hZ]
                clear hZ cA cm fm hd hbY
                refine round_quiet (by kernel_rfl) (by kernel_rfl) (by kernel_rfl) (noOut_then (fun _ _ h => h)) ?_
                repeat (go_big_quiet_step (fail))
                refine wpQuiet_nil ?_
                intro _ hw'
                obtain ⟨nq, hw''⟩ := hw'
                subst hw''
                gi_wp2_with (fail)
                exact ⟨by rw [Us]; exact kz1.trans (kf_below (below_drewN (Below.refl _ _) nq)), rfl, below_drewN mB nq⟩
              · obtain ⟨d', rfl⟩ : ∃ d', d = d' + 1 := ⟨d - 1, by omega⟩
                obtain ⟨y', hy'⟩ : ∃ y, (posns s)[d']? = some y := ⟨_, List.getElem?_eq_getElem (by rw [HL.out]; omega)⟩
                obtain ⟨g2, hg2, z0, z1, z2, z3⟩ := oR d' y' hy'
                obtain rfl : g = g2 := by cases hg2; rfl
                clear hg2
                have k1' : d' + 1 ≤ 9223372036854775807 := by omega
                have hg3 : g < Mb := by have := lt_cell (y0A); omega
                have HY := Lib.hid (And.intro hd hbY)
                gi_wp2_with (fail)
                obtain ⟨hd, hbY⟩ := HY.out
                obtain ⟨Z, hZ⟩ : ∃ Z, Y.setCell ⟨Mb, 0, none⟩ (.int .i64 d') = Z := ⟨_, rfl⟩
                have m5 : Boxed Z Mb 3 (.int .i64 d') := hZ ▸ hd.set _
                have c5 := m5.cell
                have mB : Below Mb XB Z := hZ ▸ hbY.setCell (p := ⟨Mb, 0, none⟩) (Nat.le_refl _) _
                have kz1 : KeepsFrom (Mb + 1) Y Z := hZ ▸ kf_set _ _
                have kz2 : KpC (A + 2) Y Z := hZ ▸ kpC_set hd (by decide) (by omega) _
                have mq : Z.heap[Bq]? = some (.cells (pcC s q.1) 24) := hZ ▸ set_keeps hd (by decide) hbq
                obtain ⟨p0, p1, p2, p3⟩ := pcell mq
                have mA : Z.cell? ⟨A, 0, none⟩ = some (.slice (some ⟨g, 0, none⟩) L cap) := by rw [← hZ]; exact (World.cell?_setCell_other _ _ _ _ (by first | (simp; done) | (simp; omega))).trans cA
                have w0 : Z.cell? ⟨g, d' * 4, none⟩ = some (.int .i64 y') := by rw [← hZ]; exact (World.cell?_setCell_other _ _ _ _ (by first | (simp; done) | (simp; omega))).trans z0
                have w1 : Z.cell? ⟨g, d' * 4 + 1, none⟩ = some (.int .i64 (wd s y' : Nat)) := by rw [← hZ]; exact (World.cell?_setCell_other _ _ _ _ (by first | (simp; done) | (simp; omega))).trans z1
                have w2' : Z.cell? ⟨g, d' * 4 + 2, none⟩ = some (.int .i32 (rn s y' : Nat)) := by rw [← hZ]; exact (World.cell?_setCell_other _ _ _ _ (by first | (simp; done) | (simp; omega))).trans z2
                have w3 : Z.cell? ⟨g, d' * 4 + 3, none⟩ = some (.bool (bk s y')) := by rw [← hZ]; exact (World.cell?_setCell_other _ _ _ _ (by first | (simp; done) | (simp; omega))).trans z3
                have t1 : decide ((d' : Int) < 0) = false := decide_eq_false (by omega)
                have t2 : (0 : Int) ≤ (d' : Int) := by omega
                have t3 : (d' : Int) < (L : Int) := by omega
                have t4 : IntKind.i64.wrap ((L : Int) - 2) = (L : Int) - 2 := IntWalk.i64_in _ (by omega)
                rw [hZ]
                clear hZ cA cm fm hd hbY z0 z1 z2 z3 hbq mq oR
                have fin1 : ∀ nq, KeepsFrom (Mb + 1) Y (Z.drewN nq) ∧ Below Mb XB (Z.drewN nq) := fun nq => ⟨kz1.trans (kf_below (below_drewN (Below.refl _ _) nq)), below_drewN mB nq⟩
                have fin2 : ∀ nq, KeepsFrom (Mb + 1) Y (Z.drewN nq) ∧ KpC (A + 2) Y (Z.drewN nq) ∧ ((∃ d : Nat, Boxed (Z.drewN nq) Mb 3 (.int .i64 d) ∧ d ≤ L) ∧ Below Mb XB (Z.drewN nq)) := fun nq => ⟨(fin1 nq).1, kpC_t kz2 (kpC_below (below_drewN (Below.refl _ _) nq) (by have := mB.size; omega)), ⟨d', m5, by omega⟩, (fin1 nq).2⟩
                have FIN := Lib.hid (And.intro fin1 fin2)
                clear fin1 fin2 kz1 kz2 m5 mB
                by_cases hqy : q.1 = y'
                · subst hqy
                  by_cases hd2 : (d' : Int) < (L : Int) - 2
                  · have e9 : decide ((d' : Int) < (L : Int) - 2) = true := decide_eq_true hd2
                    refine round_quiet (by kernel_rfl) (by kernel_rfl) (by kernel_rfl) (noOut_then (fun _ _ h => h)) ?_
                    repeat (go_big_quiet_step (fail))
                    refine wpQuiet_nil ?_
                    intro _ hw'
                    obtain ⟨nq, hw''⟩ := hw'
                    subst hw''
                    gi_wp2_with (fail)
                    exact ⟨by rw [Us]; exact (FIN.out.1 nq).1, rfl, (FIN.out.1 nq).2⟩
                  · have e9 : decide ((d' : Int) < (L : Int) - 2) = false := decide_eq_false hd2
                    refine round_quiet (by kernel_rfl) (by kernel_rfl) (by kernel_rfl) (noOut_then (fun _ _ h => h)) ?_
                    repeat (go_big_quiet_step (fail))
                    refine wpQuiet_nil ?_
                    intro _ hw'
                    obtain ⟨nq, hw''⟩ := hw'
                    subst hw''
                    gi_wp2_with (fail)
                    exact ⟨(FIN.out.2 nq).1, (FIN.out.2 nq).2.1, (FIN.out.2 nq).2.2⟩
                · have e8 : ((q.1 : Int) == (y' : Int)) = false := by rw [beq_eq_false_iff_ne]; omega
                  refine round_quiet (by kernel_rfl) (by kernel_rfl) (by kernel_rfl) (noOut_then (fun _ _ h => h)) ?_
                  repeat (go_big_quiet_step (fail))
                  refine wpQuiet_nil ?_
                  intro _ hw'
                  obtain ⟨nq, hw''⟩ := hw'
                  subst hw''
                  gi_wp2_with (fail)
                  exact ⟨by rw [Us]; exact (FIN.out.1 nq).1, rfl, (FIN.out.1 nq).2⟩
            case doneI =>
              rintro xs2 Y ⟨_, hbY⟩
              gi_wp2_with (fail)
              rw [← hMb] at hbY
              obtain ⟨v2, va, vb, hpl⟩ := HB.out
              exact ⟨va.trans (kf_below hbY), kpB_t vb (kpB_below hbY (by omega)), v1.below hbY (by omega), by rw [hpl]; push_cast; exact box_old v2 hbY, trivial⟩
            case stopI =>
              rintro c pre2 Y ⟨rfl, hbY⟩
              gi_wp2_with (fail)
              rw [← hMb] at hbY
              obtain ⟨v2, va, vb, hpl⟩ := HB.out
              exact ⟨va.trans (kf_below hbY), kpB_t vb (kpB_below hbY (by omega)), v1.below hbY (by omega), by rw [hpl]; push_cast; exact box_old v2 hbY, trivial⟩
          · have e2 : ((n : Int) + 1 == 2) = false := by rw [beq_eq_false_iff_ne]; omega
            have e2n : (n + 1 == 2) = false := by rw [beq_eq_false_iff_ne]; omega
            gi_wp2_with (fail)
            obtain ⟨u1, u2, u3, ka, kb, hpl⟩ := HA.out
            exact ⟨ka.trans (kf_set _ _), kpB_t kb (kpB_set (by omega) _), u1.set (by omega) 0 _, by rw [hpl]; push_cast; exact u2.set _, trivial⟩
        · have e1 : ((x.1 : Int) == (y : Int)) = false := by rw [beq_eq_false_iff_ne]; omega
          have HNX : ¬ ((pre ++ [x]).map (·.1) <+: posns s) := fun h => hxy (Option.some.inj ((hnx h).2.symm.trans hy))
          clear hnx hy
          gi_wp2_with (fail)
          have E1 := Lib.hid HNX
          refine round_quiet (by kernel_rfl) (by kernel_rfl) (by kernel_rfl) (noOut_then (fun _ _ h => h)) ?_
          repeat (go_big_quiet_step (fail))
          refine wpQuiet_nil ?_
          intro _ hw'
          obtain ⟨nq, hw''⟩ := hw'
          subst hw''
          gi_wp2_with (fail)
          exact ⟨(kf_below (below_drewN (Below.refl _ _) nq)).trans (kf_set _ _), E1.out⟩
      · have i3 : decide ((L : Int) ≤ (n : Int)) = true := decide_eq_true (by omega)
        have i3n : decide (L ≤ n) = true := decide_eq_true (by omega)
        have HNX : ¬ ((pre ++ [x]).map (·.1) <+: posns s) := fun h => hlt (hnx h).1
        clear hnx oR
        gi_wp2_with (fail)
        have E1 := Lib.hid HNX
        refine round_quiet (by kernel_rfl) (by kernel_rfl) (by kernel_rfl) (noOut_then (fun _ _ h => h)) ?_
        repeat (go_big_quiet_step (fail))
        refine wpQuiet_nil ?_
        intro _ hw'
        obtain ⟨nq, hw''⟩ := hw'
        subst hw''
        gi_wp2_with (fail)
        exact ⟨(kf_below (below_drewN (Below.refl _ _) nq)).trans (kf_set _ _), E1.out⟩
    case doneA =>
      rintro D1 xs X1 hD1 hxs ⟨s1, s2, _⟩ hK1
      have hxl : xs.length = L := by rw [← HL.out, ← hxs, List.length_map]
      rw [hxl] at s2
      clear hxs hxl xs
      have hX1z := s1.size
      obtain ⟨o0, oA, o1, o2, o3, oR⟩ := HV.out.old s1.2
      rw [HL.out] at oA
      have cA := oA.cell
      have c3 : ∀ o', (X1.alloc o').cell? ⟨A + 3, 0, none⟩ = some (.func (.func 73) #[] #[.pointer (some ⟨A + 2, 0, none⟩)]) := fun o' => (o3.alloc o').cell
      have hD1l := (Array.getElem?_eq_some_iff.1 hK1).1
      have HS := Lib.hid (And.intro s1 (And.intro s2 hK1))
      clear s1 s2 hK1 o0 oA o1 o2 o3 oR
      gi_wp2_with (fail)
      obtain ⟨s1, s2, hK1⟩ := HS.out
      obtain ⟨M, hM⟩ : ∃ x, X1.heap.size = x := ⟨_, rfl⟩
      have q0 := Boxed.new X1 3 (.int .i64 L)
      have qB := s1.2.alloc s1.2.size (.cells #[.int .i64 L] 3)
      have qz : (X1.alloc (.cells #[.int .i64 L] 3)).heap.size = M + 1 := by simp [hM]
      have qn := s2.alloc (.cells #[.int .i64 L] 3)
      have qK := (Below.heap_alloc X1 (.cells #[.int .i64 L] 3) D1 hD1l).trans hK1
      have qD : ∀ D ∈ Ds, A + 4 ≤ D ∧ D < N ∧ (X1.alloc (.cells #[.int .i64 L] 3)).heap[D]? = some (.deferred (some [])) := fun D hd => by
        obtain ⟨d1, d2, d3⟩ := GD.out.1 D hd
        exact ⟨d1, d2, (Below.heap_alloc X1 _ D (by omega)).trans (s1.obj d3 (by omega))⟩
      have hNM : N < M := by omega
      rw [hM] at q0 hD1l
      try simp only [hM]
      obtain ⟨V1, hV1⟩ : ∃ Z, X1.alloc (.cells #[.int .i64 L] 3) = Z := ⟨_, rfl⟩
      rw [hV1] at q0 qB qz qn qK qD ⊢
      have q2 := (HV.out.old qB).2.2.2.1
      have QD := Lib.hid (And.intro qD (And.intro qK qn))
      clear hV1 hM s1 s2 hK1 cA c3 HS qD qK qn
      have hV0M : V0.heap.size ≤ M := by omega
      refine range_back 14 s (by omega) (A + 2) q2 rfl (fun pre Y => SmA M V0 V1 Y ∧ Boxed Y M 3 (.int .i64 ((L - pre.length : Nat) : Int)) ∧ pre.length ≤ L) (fun (c : Code) (pre : List (Pos s)) (Y : World) => ¬ (List.map (fun (x : Pos s) => (x.1 : Nat)) pre <+: (posns s).reverse))
        (smA_own (f := fun pre => .int .i64 ((L - pre.length : Nat) : Int)) (p := fun pre => pre.length ≤ L) (by omega) (by omega)) (fun c _ _ _ _ h _ _ => h) ⟨SmA.start qB, q0, Nat.zero_le _⟩ ?assignB ?bodyB ?doneB ?stopB
      case assignB =>
        intro l x W K hK
        simp only [pcC] at hK ⊢
        gi_wp2
        exact hK
      case stopB =>
        rintro D c pre X _ hp h _
        exact absurd hp h
      case bodyB =>
        rintro l pre x Bx Y ⟨h1, h2, h3⟩ hle hbx hlen
        obtain ⟨o0, oA, o1, o2, o3, oR⟩ := HV.out.old h1.2
        rw [HL.out] at oA
        have hYz := h1.size
        have hnx := fun h => rev_at pre x h
        rw [HL.out] at hnx
        obtain ⟨d, hd⟩ : ∃ d, L - pre.length = d := ⟨_, rfl⟩
        rw [hd] at h2
        have hpl : L - (pre ++ [x]).length = d - 1 := by rw [List.length_append, List.length_singleton]; omega
        have cA := oA.cell
        have c0 := o0.cell
        have f0 := o0.frozen
        have cm := h2.cell
        have fm := h2.frozen
        simp only [pcC, List.setIfInBounds_toArray, List.set_cons_zero, List.set_cons_succ]
        by_cases hd0 : d = 0
        · subst hd0
          have HNX : ¬ (List.map (fun (x : Pos s) => (x.1 : Nat)) (pre ++ [x]) <+: (posns s).reverse) := fun h => by have := (hnx h).1; omega
          have HY := Lib.hid (And.intro h2 o0)
          clear hnx h1 h2 h3 hd hpl o0 oA o1 o2 o3 oR
          gi_wp2_with (fail)
          obtain ⟨h2, o0⟩ := HY.out
          obtain ⟨Z, hZ⟩ : ∃ Z, Y.setCell ⟨M, 0, none⟩ (.int .i64 (-1)) = Z := ⟨_, rfl⟩
          have m5 : Boxed Z M 3 (.int .i64 (-1)) := hZ ▸ h2.set _
          have c5 := m5.cell
          have m0 : Boxed Z w.heap.size 4 (.bool false) := hZ ▸ o0.other (by omega) _
          have c00 := m0.cell
          have f00 := m0.frozen
          have kz1 : KeepsFrom V1.heap.size Y Z := hZ ▸ kf_set _ _
          rw [hZ]
          clear hZ cA c0 f0 cm fm h2 o0
          have E1 := Lib.hid HNX
          refine round_quiet (by kernel_rfl) (by kernel_rfl) (by kernel_rfl) (noOut_then (fun _ _ h => h)) ?_
          repeat (go_big_quiet_step (fail))
          refine wpQuiet_nil ?_
          intro _ hw'
          obtain ⟨nq, hw''⟩ := hw'
          subst hw''
          gi_wp2_with (fail)
          exact ⟨(kz1.trans (kf_below (below_drewN (Below.refl _ _) nq))).trans (kf_set _ _), E1.out⟩
        · obtain ⟨d', rfl⟩ : ∃ d', d = d' + 1 := ⟨d - 1, by omega⟩
          obtain ⟨y, hy⟩ : ∃ y, (posns s)[d']? = some y := ⟨_, List.getElem?_eq_getElem (by rw [HL.out]; omega)⟩
          obtain ⟨g, rfl, z0, z1, z2, z3⟩ := oR d' y hy
          have k1' : d' + 1 ≤ 9223372036854775807 := by omega
          have hgV : g < Y.heap.size := lt_cell z0
          have hgM : g ≠ M := fun e => by
            have e1 := World.cell?_of_block (w := Y) (w' := Y) (a := ⟨g, d' * 4, none⟩) rfl
            rw [e] at z0 z1
            have hh : Y.heap[M]? = some (.cells #[.int .i64 ((d' + 1 : Nat) : Int)] 3 (0, 0)) := h2
            simp [World.cell?, hh] at z0 z1
          have hpl2 : L - (pre ++ [x]).length = d' := hpl
          have hplle : (pre ++ [x]).length ≤ L := by rw [List.length_append, List.length_singleton]; omega
          have hxe : x.1 ≠ y → ¬ (List.map (fun (x : Pos s) => (x.1 : Nat)) (pre ++ [x]) <+: (posns s).reverse) := fun hxy h => by
            have := (hnx h).2
            rw [show L - 1 - pre.length = d' by omega, hy] at this
            exact hxy (Option.some.inj this).symm
          have hdL : d' < L := by omega
          have HY := Lib.hid (And.intro h1 (And.intro h2 (And.intro o0 (And.intro hbx (And.intro hpl2 (And.intro hplle hxe))))))
          clear hnx h1 h2 h3 hd hpl o0 oA o1 o2 o3 oR hbx hy hpl2 hplle hxe
          gi_wp2_with (fail)
          obtain ⟨h1, h2, o0, hbx, hpl2, hplle, hxe⟩ := HY.out
          obtain ⟨Z, hZ⟩ : ∃ Z, Y.setCell ⟨M, 0, none⟩ (.int .i64 d') = Z := ⟨_, rfl⟩
          have m5 : Boxed Z M 3 (.int .i64 d') := hZ ▸ h2.set _
          have c5 := m5.cell
          have mS : SmA M V0 V1 Z := hZ ▸ h1.set (by omega) 0 _
          have m0 : Boxed Z w.heap.size 4 (.bool false) := hZ ▸ o0.other (by omega) _
          have c00 := m0.cell
          have f00 := m0.frozen
          have kz1 : KeepsFrom V1.heap.size Y Z := hZ ▸ kf_set _ _
          have kz2 : KpC (A + 2) Y Z := hZ ▸ kpC_set h2 (by decide) (by omega) _
          have mq : Z.heap[Bx]? = some (.cells (pcC s x.1) 24) := hZ ▸ set_keeps h2 (by decide) hbx
          obtain ⟨p0, p1, p2, p3⟩ := pcell mq
          have mA : Z.cell? ⟨A, 0, none⟩ = some (.slice (some ⟨g, 0, none⟩) L cap) := by rw [← hZ]; exact (World.cell?_setCell_other _ _ _ _ (by first | (simp; done) | (simp; omega))).trans cA
          have w0 : Z.cell? ⟨g, d' * 4, none⟩ = some (.int .i64 y) := by rw [← hZ]; exact (World.cell?_setCell_other _ _ _ _ (by first | (simp; done) | (simp; omega))).trans z0
          have w1 : Z.cell? ⟨g, d' * 4 + 1, none⟩ = some (.int .i64 (wd s y : Nat)) := by rw [← hZ]; exact (World.cell?_setCell_other _ _ _ _ (by first | (simp; done) | (simp; omega))).trans z1
          have w2' : Z.cell? ⟨g, d' * 4 + 2, none⟩ = some (.int .i32 (rn s y : Nat)) := by rw [← hZ]; exact (World.cell?_setCell_other _ _ _ _ (by first | (simp; done) | (simp; omega))).trans z2
          have w3 : Z.cell? ⟨g, d' * 4 + 3, none⟩ = some (.bool (bk s y)) := by rw [← hZ]; exact (World.cell?_setCell_other _ _ _ _ (by first | (simp; done) | (simp; omega))).trans z3
          have t1 : decide ((d' : Int) < 0) = false := decide_eq_false (by omega)
          have t2 : (0 : Int) ≤ (d' : Int) := by omega
          have t3 : (d' : Int) < (L : Int) := by omega
          rw [hZ]
          have HZ := Lib.hid (And.intro mS (And.intro m5 (And.intro kz1 (And.intro kz2 (And.intro hpl2 (And.intro hplle hxe))))))
          clear hZ cA c0 f0 cm fm h1 h2 o0 hbx hpl2 hplle hxe z0 z1 z2 z3 mq mS m5 kz1 kz2 HY m0
          by_cases hxy : x.1 = y
          · subst hxy
            refine round_quiet (by kernel_rfl) (by kernel_rfl) (by kernel_rfl) (noOut_then (fun _ _ h => h)) ?_
            repeat (go_big_quiet_step (fail))
            refine wpQuiet_nil ?_
            intro _ hw'
            obtain ⟨nq, hw''⟩ := hw'
            subst hw''
            gi_wp2_with (fail)
            obtain ⟨mS, m5, kz1, kz2, hpl2, hplle, hxe⟩ := HZ.out
            have hbq := below_drewN (Below.refl Z.heap.size Z) nq
            exact ⟨kz1.trans (kf_below hbq), kpC_t kz2 (kpC_below hbq (by have := mS.size; omega)), mS.below hbq (by omega), by rw [hpl2]; exact box_old m5 hbq, hplle⟩
          · have e1 : ((x.1 : Int) == (y : Int)) = false := by rw [beq_eq_false_iff_ne]; omega
            refine round_quiet (by kernel_rfl) (by kernel_rfl) (by kernel_rfl) (noOut_then (fun _ _ h => h)) ?_
            repeat (go_big_quiet_step (fail))
            refine wpQuiet_nil ?_
            intro _ hw'
            obtain ⟨nq, hw''⟩ := hw'
            subst hw''
            gi_wp2_with (fail)
            obtain ⟨mS, m5, kz1, kz2, hpl2, hplle, hxe⟩ := HZ.out
            have hbq := below_drewN (Below.refl Z.heap.size Z) nq
            exact ⟨(kz1.trans (kf_below hbq)).trans (kf_set _ _), hxe hxy⟩
      case doneB =>
        rintro D2 xs X2 hD2 hxs ⟨s1, s2, s3⟩ hK2
        have hxl : L - xs.length = 0 := by rw [← HL.out, ← List.length_reverse, ← hxs, List.length_map]; omega
        rw [hxl] at s2
        clear hxs hxl s3 xs
        have hX2z := s1.size
        obtain ⟨qD, qK, qn⟩ := QD.out
        have sn := s1.box qn (by omega)
        have sK := s1.obj qK (by omega)
        have sD : ∀ D ∈ Ds, A + 4 ≤ D ∧ D < N ∧ X2.heap[D]? = some (.deferred (some [])) := fun D hd => ⟨(qD D hd).1, (qD D hd).2.1, s1.obj (qD D hd).2.2 (by have := (qD D hd).2.1; omega)⟩
        obtain ⟨o0, oA, o1, o2, o3, oR⟩ := HV.out.old s1.2
        rw [HL.out] at oA
        have cA := oA.cell
        have cn := sn.cell
        have cm := s2.cell
        have e1 : ((L : Int) == (L : Int)) = true := by rw [beq_iff_eq]
        have hK2l := (Array.getElem?_eq_some_iff.1 hK2).1
        have HS := Lib.hid (And.intro s1.2 (And.intro sD (And.intro sK hK2)))
        clear s1 s2 qD qK qn sn sK sD hK2 o0 oA o1 o2 o3 oR QD
        gi_wp2_with (fail)
        obtain ⟨hB2, sD, sK, hK2⟩ := HS.out
        have x1 := (HV.out.old hB2).2.2.1
        clear cA cn cm
        have hV02 := hB2.size
        refine cut_range 8 (fun D X => X2.heap.size ≤ D ∧ Below X2.heap.size X2 X ∧ X.heap[D]? = some (.deferred (some []))) ?_ (fun _ _ h => h) ?_
        · refine range_all0 s (by omega) (A + 1) x1 rfl (fun _ Y => Below X2.heap.size X2 Y) (fun c _ Y => c = .exit 8 ∧ Below X2.heap.size X2 Y)
            (fun _ Y Z row h hg hr => h.grown hg h.size (fun r e => (hr r e).1)) (fun c _ Y Z row h hg hr => ⟨h.1, h.2.grown hg h.2.size (fun r e => (hr r e).1)⟩) (Below.refl _ _) ?assignC ?bodyC ?doneC ?stopC
          case assignC =>
            intro l x W K hK
            gi_wp2
            exact hK
          case bodyC =>
            intro l pre x Y h
            gi_wp2_with (fail)
            exact ⟨KeepsFrom.refl _ _, rfl, h⟩
          case doneC =>
            rintro D xs Y hD h hK
            exact ⟨.inl rfl, D, ⟨hD, h, hK⟩, rfl⟩
          case stopC =>
            rintro D c pre Y hD ⟨rfl, h⟩ hK
            have HH := Lib.hid (And.intro hD (And.intro h hK))
            clear h hK
            gi_wp2_with (fail)
            exact HH.out.2
        · rintro D3 X3 ⟨hD3, hB3, hK3⟩
          have hb03 := hB2.trans (hB3.mono hB2.size)
          have c3 := (HV.out.old hb03).2.2.2.2.1.cell
          have hz3 := hB3.size
          gi_wp2_with (fail)
          have x2 := (HV.out.old hb03).2.2.2.1
          clear c3
          refine cut_range 10 (fun D X => X3.heap.size ≤ D ∧ Below X3.heap.size X3 X ∧ X.heap[D]? = some (.deferred (some []))) ?_ (fun _ _ h => h) ?_
          · refine range_back0 s (by omega) (A + 2) x2 rfl (fun _ Y => Below X3.heap.size X3 Y) (fun c _ Y => c = .exit 10 ∧ Below X3.heap.size X3 Y)
              (fun _ Y Z row h hg hr => h.grown hg h.size (fun r e => (hr r e).1)) (fun c _ Y Z row h hg hr => ⟨h.1, h.2.grown hg h.2.size (fun r e => (hr r e).1)⟩) (Below.refl _ _) ?assignD ?bodyD ?doneD ?stopD
            case assignD =>
              intro l x W K hK
              gi_wp2
              exact hK
            case bodyD =>
              intro l pre x Y h
              gi_wp2_with (fail)
              exact ⟨KeepsFrom.refl _ _, rfl, h⟩
            case doneD =>
              rintro D xs Y hD h hK
              exact ⟨.inl rfl, D, ⟨hD, h, hK⟩, rfl⟩
            case stopD =>
              rintro D c pre Y hD ⟨rfl, h⟩ hK
              have HH := Lib.hid (And.intro hD (And.intro h hK))
              clear h hK
              gi_wp2_with (fail)
              exact HH.out.2
          · rintro D4 X4 ⟨hD4, hB4, hK4⟩
            have hb04 := hb03.trans (hB4.mono hb03.size)
            have hK3l := (Array.getElem?_eq_some_iff.1 hK3).1
            have up3 : ∀ {D : Nat} {ob : Obj}, X2.heap[D]? = some ob → X4.heap[D]? = some ob := fun {D ob} h => by
              have hl := (Array.getElem?_eq_some_iff.1 h).1
              exact (hB4.block D (by omega)).trans ((hB3.block D hl).trans h)
            have fD : ∀ D ∈ D4 :: D3 :: D2 :: D1 :: Ds, A + 4 ≤ D ∧ X4.heap[D]? = some (.deferred (some [])) := by
              intro D hd
              simp only [List.mem_cons] at hd
              rcases hd with rfl | rfl | rfl | rfl | hd
              · exact ⟨by omega, hK4⟩
              · exact ⟨by omega, (hB4.block _ hK3l).trans hK3⟩
              · exact ⟨by omega, up3 hK2⟩
              · exact ⟨by omega, up3 sK⟩
              · exact ⟨(sD D hd).1, up3 (sD D hd).2.2⟩
            have fP : (D4 :: D3 :: D2 :: D1 :: Ds).Pairwise (· > ·) := by
              have a0 : ∀ D ∈ Ds, D < N := fun D hd => (sD D hd).2.1
              have a1 : ∀ D ∈ Ds, D1 > D := fun D hd => by have := a0 D hd; omega
              have a2 : ∀ D ∈ D1 :: Ds, D2 > D := fun D hd => by
                rcases List.mem_cons.1 hd with rfl | hd
                · omega
                · have := a0 D hd; omega
              have a3 : ∀ D ∈ D2 :: D1 :: Ds, D3 > D := fun D hd => by
                rcases List.mem_cons.1 hd with rfl | hd
                · omega
                · have := a2 D hd; omega
              have a4 : ∀ D ∈ D3 :: D2 :: D1 :: Ds, D4 > D := fun D hd => by
                rcases List.mem_cons.1 hd with rfl | hd
                · omega
                · have := a3 D hd; omega
              exact List.pairwise_cons.2 ⟨a4, List.pairwise_cons.2 ⟨a3, List.pairwise_cons.2 ⟨a2, List.pairwise_cons.2 ⟨a1, GD.out.2.1⟩⟩⟩⟩
            have HE := Lib.hid (And.intro fD (And.intro fP hb04))
            have j9 : IntKind.i64.wrap (kz + 1) = kz + 1 := IntWalk.i64_in _ (by have := GD.out.2.2.2; have := GD.out.2.2.1; omega)
            clear fD fP hb04 up3 sD sK hK2 hK3 hK4 hB4 hB3 hB2 hb03
            gi_wp2_with (fail)
            obtain ⟨_, _, hDs, hkz⟩ := GD.out
            exact ⟨m - 1, by omega, PkM.mk (D4 :: D3 :: D2 :: D1 :: Ds) (kz + 1) (by omega) (by simp only [List.length_cons]; omega) HE.out.2.1 HE.out.1 HE.out.2.2 rfl⟩
  · have i1 : decide (kz < 2) = false := decide_eq_false hk2
    have hDs8 : Ds.length = 8 := by omega
    have hkz2 : kz = 2 := by omega
    obtain ⟨o0, oA, o1, o2, o3, oR⟩ := HV.out.old hBW
    rw [HL.out] at oA
    have cA := oA.cell
    have j1 : IntKind.i64.wrap ((L : Int) - 1) = (L : Int) - 1 := IntWalk.i64_in _ (by omega)
    have j2 : IntKind.i64.wrap ((L : Int) + 1) = (L : Int) + 1 := IntWalk.i64_in _ (by omega)
    clear o0 oA o1 o2 o3 oR hkz
    gi_wp2_with (fail)
    refine wpIn_wide.2 ?_
    go_quiet (fail)
    gi_wp2_with (fail)
    obtain ⟨K4, hK4⟩ : ∃ K, wrap64 ((IntKind.u64.wrap k).tmod ((L : Int) + 1)) = K := ⟨_, rfl⟩
    have hK4b : K4 ≤ 9223372036854775807 := by rw [← hK4]; exact (bounds_i64 (wrap64_wf _)).2
    rw [hK4]
    clear hK4 cA j1 j2 i1
    have hBq : Below W.heap.size W (W.drewN nq) := below_drewN (Below.refl _ _) nq
    have hrun : ∀ i : Int, (i = 0 ∨ i = 1 ∨ i = 2 ∨ i = 3) → ∃ K : Int, K ≤ 9223372036854775807 ∧ ∀ w, (Instr.index 36 (.agg #[.int .i64 k, .int .i64 ((L : Int) - 1), .int .i64 (L : Int), .int .i64 K4]) (.int .i64 i)).run Try.prog w = .ok (.int .i64 K) w := by
      rintro i (rfl | rfl | rfl | rfl)
      · exact ⟨k, hk2', fun _ => by kernel_rfl⟩
      · exact ⟨(L : Int) - 1, by omega, fun _ => by kernel_rfl⟩
      · exact ⟨(L : Int), by omega, fun _ => by kernel_rfl⟩
      · exact ⟨K4, hK4b, fun _ => by kernel_rfl⟩
    have HRU := Lib.hid hrun
    have HW := Lib.hid (And.intro hBW (And.intro hnd (And.intro hD hDs8)))
    clear hrun hBW hnd hD hDs8 hDs
    gi_loopw [121] (fun v wr => PkL W v wr) (fun v _ => 4 - (intOf v).toNat)
    case atStart => exact ⟨0, rfl, by simp, hBq⟩
    case round =>
      clear hBq
      obtain ⟨i, rfl, hi, hB⟩ := hrel
      have hb0 := HW.out.1.trans (hB.mono HW.out.1.size)
      obtain ⟨o0, oA, o1, o2, o3, oR⟩ := HV.out.old hb0
      rw [HL.out] at oA
      by_cases h4 : i = 4
      · subst h4
        have f0 := o0.frozen
        have c0 := o0.cell
        have HB := Lib.hid (And.intro hB o0)
        clear hB hb0 o0 oA o1 o2 o3 oR hi
        gi_wp2_with (fail)
        refine (callsIn_wide.2 (wakes_any _)).mono ?_
        rintro e W6 ⟨rfl, hb6⟩
        obtain ⟨hB, o0⟩ := HB.out
        have hB6 := hB.trans (hb6.mono hB.size)
        have o6 := box_old o0 hb6
        have c6 := o6.cell
        have f6 := o6.frozen
        clear hB hb6 o0 c0 f0 HB
        have H6 := Lib.hid (And.intro hB6 o6)
        clear hB6 o6
        obtain ⟨hBW, hnd, hD, hDs8⟩ := HW.out
        match Ds, hDs8, hnd, hD with
        | [E1, E2, E3, E4, E5, E6, E7, E8], _, hnd, hD =>
          have HE := Lib.hid (And.intro hnd (And.intro hD hBW))
          clear hnd hD hBW HW hDs8
          simp only [List.map_cons, List.map_nil]
          gi_wp2_with (fail)
          obtain ⟨hnd, hD, hBW⟩ := HE.out
          obtain ⟨hB6, o6⟩ := H6.out
          simp only [List.pairwise_cons, List.mem_cons, List.not_mem_nil, or_false, forall_eq_or_imp, forall_eq] at hnd
          obtain ⟨l1, k1⟩ := hD E1 (by simp)
          obtain ⟨l2, k2⟩ := hD E2 (by simp)
          obtain ⟨l3, k3⟩ := hD E3 (by simp)
          obtain ⟨l4, k4⟩ := hD E4 (by simp)
          obtain ⟨l5, k5⟩ := hD E5 (by simp)
          obtain ⟨l6, k6⟩ := hD E6 (by simp)
          obtain ⟨l7, k7⟩ := hD E7 (by simp)
          obtain ⟨l8, k8⟩ := hD E8 (by simp)
          obtain ⟨n1, n2, n3, n4, n5, n6, n7, n8⟩ := hnd
          have hWs := hBW.size
          have g0 : (W6.setCell ⟨w.heap.size, 0, none⟩ (.bool true)).cell? ⟨w.heap.size, 0, none⟩ = some (.bool true) := (o6.set _).cell
          have hV0 := HV.out.2.2.1
          have hBT := ((hV0.trans (hBW.mono hV0.size)).trans (hB6.mono (by omega))).setCell (p := ⟨w.heap.size, 0, none⟩) (Nat.le_refl _) (.bool true)
          replace k1 := (Below.heap_setCell W6 ⟨w.heap.size, 0, none⟩ (.bool true) E1 (by dsimp only; omega)).trans ((hB6.block E1 (Array.getElem?_eq_some_iff.1 k1).1).trans k1)
          replace k2 := (Below.heap_setCell W6 ⟨w.heap.size, 0, none⟩ (.bool true) E2 (by dsimp only; omega)).trans ((hB6.block E2 (Array.getElem?_eq_some_iff.1 k2).1).trans k2)
          replace k3 := (Below.heap_setCell W6 ⟨w.heap.size, 0, none⟩ (.bool true) E3 (by dsimp only; omega)).trans ((hB6.block E3 (Array.getElem?_eq_some_iff.1 k3).1).trans k3)
          replace k4 := (Below.heap_setCell W6 ⟨w.heap.size, 0, none⟩ (.bool true) E4 (by dsimp only; omega)).trans ((hB6.block E4 (Array.getElem?_eq_some_iff.1 k4).1).trans k4)
          replace k5 := (Below.heap_setCell W6 ⟨w.heap.size, 0, none⟩ (.bool true) E5 (by dsimp only; omega)).trans ((hB6.block E5 (Array.getElem?_eq_some_iff.1 k5).1).trans k5)
          replace k6 := (Below.heap_setCell W6 ⟨w.heap.size, 0, none⟩ (.bool true) E6 (by dsimp only; omega)).trans ((hB6.block E6 (Array.getElem?_eq_some_iff.1 k6).1).trans k6)
          replace k7 := (Below.heap_setCell W6 ⟨w.heap.size, 0, none⟩ (.bool true) E7 (by dsimp only; omega)).trans ((hB6.block E7 (Array.getElem?_eq_some_iff.1 k7).1).trans k7)
          replace k8 := (Below.heap_setCell W6 ⟨w.heap.size, 0, none⟩ (.bool true) E8 (by dsimp only; omega)).trans ((hB6.block E8 (Array.getElem?_eq_some_iff.1 k8).1).trans k8)
          obtain ⟨Z0, hZ0⟩ : ∃ Z, W6.setCell ⟨w.heap.size, 0, none⟩ (.bool true) = Z := ⟨_, rfl⟩
          rw [hZ0] at g0 hBT k1 k2 k3 k4 k5 k6 k7 k8 ⊢
          clear hZ0 hB6 o6 hD hBW
          obtain ⟨g1, hB1', o1⟩ := put_step (show w.heap.size < E1 by omega) (by omega) k1 g0 hBT
          replace k2 := (o1 E2 (by omega)).trans k2
          replace k3 := (o1 E3 (by omega)).trans k3
          replace k4 := (o1 E4 (by omega)).trans k4
          replace k5 := (o1 E5 (by omega)).trans k5
          replace k6 := (o1 E6 (by omega)).trans k6
          replace k7 := (o1 E7 (by omega)).trans k7
          replace k8 := (o1 E8 (by omega)).trans k8
          obtain ⟨g2, hB2', o2⟩ := put_step (show w.heap.size < E2 by omega) (by omega) k2 g1 hB1'
          replace k3 := (o2 E3 (by omega)).trans k3
          replace k4 := (o2 E4 (by omega)).trans k4
          replace k5 := (o2 E5 (by omega)).trans k5
          replace k6 := (o2 E6 (by omega)).trans k6
          replace k7 := (o2 E7 (by omega)).trans k7
          replace k8 := (o2 E8 (by omega)).trans k8
          obtain ⟨g3, hB3', o3⟩ := put_step (show w.heap.size < E3 by omega) (by omega) k3 g2 hB2'
          replace k4 := (o3 E4 (by omega)).trans k4
          replace k5 := (o3 E5 (by omega)).trans k5
          replace k6 := (o3 E6 (by omega)).trans k6
          replace k7 := (o3 E7 (by omega)).trans k7
          replace k8 := (o3 E8 (by omega)).trans k8
          obtain ⟨g4, hB4', o4⟩ := put_step (show w.heap.size < E4 by omega) (by omega) k4 g3 hB3'
          replace k5 := (o4 E5 (by omega)).trans k5
          replace k6 := (o4 E6 (by omega)).trans k6
          replace k7 := (o4 E7 (by omega)).trans k7
          replace k8 := (o4 E8 (by omega)).trans k8
          obtain ⟨g5, hB5', o5⟩ := put_step (show w.heap.size < E5 by omega) (by omega) k5 g4 hB4'
          replace k6 := (o5 E6 (by omega)).trans k6
          replace k7 := (o5 E7 (by omega)).trans k7
          replace k8 := (o5 E8 (by omega)).trans k8
          obtain ⟨g6, hB6', o6⟩ := put_step (show w.heap.size < E6 by omega) (by omega) k6 g5 hB5'
          replace k7 := (o6 E7 (by omega)).trans k7
          replace k8 := (o6 E8 (by omega)).trans k8
          obtain ⟨g7, hB7', o7⟩ := put_step (show w.heap.size < E7 by omega) (by omega) k7 g6 hB6'
          replace k8 := (o7 E8 (by omega)).trans k8
          obtain ⟨g8, hB8', o8⟩ := put_step (show w.heap.size < E8 by omega) (by omega) k8 g7 hB7'
          refine ⟨by simp, .inl ⟨_, _, rfl, run_takeDeferred k1, ?_⟩⟩
          refine ⟨by simp, .inl ⟨_, _, rfl, run_takeDeferred k2, ?_⟩⟩
          refine ⟨by simp, .inl ⟨_, _, rfl, run_takeDeferred k3, ?_⟩⟩
          refine ⟨by simp, .inl ⟨_, _, rfl, run_takeDeferred k4, ?_⟩⟩
          refine ⟨by simp, .inl ⟨_, _, rfl, run_takeDeferred k5, ?_⟩⟩
          refine ⟨by simp, .inl ⟨_, _, rfl, run_takeDeferred k6, ?_⟩⟩
          refine ⟨by simp, .inl ⟨_, _, rfl, run_takeDeferred k7, ?_⟩⟩
          refine ⟨by simp, .inl ⟨_, _, rfl, run_takeDeferred k8, ?_⟩⟩
          refine ⟨.bool true, ?_, rfl, hB8'⟩
          simp [results, Try.f4, go_sem, g8]
      · have i2 : decide (i < 4) = true := decide_eq_true (by omega)
        obtain ⟨K, hKb, hix⟩ := HRU.out i (by omega)
        have jW : IntKind.i64.wrap (i + 1) = i + 1 := IntWalk.i64_in _ (by omega)
        have cA := oA.cell
        have fin : ∀ Y, Below wr.heap.size wr Y → PkL W (.int .i64 (i + 1)) Y := fun Y h => ⟨i + 1, rfl, by omega, hB.trans (h.mono hB.size)⟩
        have hmea : 4 - (i + 1).toNat < 4 - i.toNat := by omega
        have cNN : ∀ Y : World, _ := fun Y => nthZ_any s K (by omega) hKb Y
        have FI := Lib.hid (And.intro fin hmea)
        clear fin hmea hB hb0 o0 o1 o2 o3 hi h4
        by_cases hK0 : K < 0
        · have e1 : decide ((0 : Int) ≤ K) = false := decide_eq_false (by omega)
          unfold nthZ at cNN
          simp only [if_pos hK0, zP] at cNN
          clear oR hK0
          gi_wp2_with (fail)
          refine (callsIn_wide.2 (cNN _)).mono ?_
          rintro e W5 ⟨rfl, hb5⟩
          have b5 := hb5.alloc hb5.size (.cells #[.int .i64 0, .int .i64 0, .int .i32 0, .bool false] 24)
          gi_wp2_with (fail)
          exact ⟨FI.out.1 _ b5, FI.out.2⟩
        · obtain ⟨n, rfl⟩ : ∃ n : Nat, K = (n : Int) := ⟨K.toNat, by omega⟩
          have e1 : decide ((0 : Int) ≤ (n : Int)) = true := decide_eq_true (by omega)
          unfold nthZ at cNN
          simp only [if_neg hK0, Int.toNat_natCast] at cNN
          by_cases hnL : n < L
          · obtain ⟨y, hy⟩ : ∃ y, (posns s)[n]? = some y := ⟨_, List.getElem?_eq_getElem (by rw [HL.out]; exact hnL)⟩
            obtain ⟨g, rfl, z0, z1, z2, z3⟩ := oR n y hy
            rw [nthR_yes hy] at cNN
            simp only [pcC] at cNN
            have e2 : decide ((n : Int) < (L : Int)) = true := decide_eq_true (by omega)
            have e3 : (0 : Int) ≤ (n : Int) := by omega
            have e4 : (n : Int) < (L : Int) := by omega
            clear oR hy hK0
            gi_wp2_with (fail)
            refine (callsIn_wide.2 (cNN _)).mono ?_
            rintro e W5 ⟨rfl, hb5⟩
            have oA5 := box_old oA hb5
            have cA5 := fun o' => (oA5.alloc o').cell
            have b5 := hb5.alloc hb5.size (.cells #[.int .i64 y, .int .i64 (wd s y : Nat), .int .i32 (rn s y : Nat), .bool (bk s y)] 24)
            have y0 := fun o' => (hb5.alloc hb5.size o').cell (p := ⟨g, n * 4, none⟩) (lt_cell z0) |>.trans z0
            have y1 := fun o' => (hb5.alloc hb5.size o').cell (p := ⟨g, n * 4 + 1, none⟩) (lt_cell z1) |>.trans z1
            have y2 := fun o' => (hb5.alloc hb5.size o').cell (p := ⟨g, n * 4 + 2, none⟩) (lt_cell z2) |>.trans z2
            have y3 := fun o' => (hb5.alloc hb5.size o').cell (p := ⟨g, n * 4 + 3, none⟩) (lt_cell z3) |>.trans z3
            clear z0 z1 z2 z3 cA oA oA5
            gi_wp2_with (fail)
            refine wpIn_wide.2 ?_
            go_quiet (fail)
            gi_wp2_with (fail)
            exact ⟨FI.out.1 _ (below_drewN b5 _), FI.out.2⟩
          · have e2 : decide ((n : Int) < (L : Int)) = false := decide_eq_false (by omega)
            rw [nthR_no (by rw [HL.out]; omega)] at cNN
            simp only [zP] at cNN
            clear oR hK0
            gi_wp2_with (fail)
            refine (callsIn_wide.2 (cNN _)).mono ?_
            rintro e W5 ⟨rfl, hb5⟩
            have oA5 := box_old oA hb5
            have cA5 := fun o' => (oA5.alloc o').cell
            have b5 := hb5.alloc hb5.size (.cells #[.int .i64 0, .int .i64 0, .int .i32 0, .bool false] 24)
            clear cA oA oA5
            gi_wp2_with (fail)
            exact ⟨FI.out.1 _ b5, FI.out.2⟩
theorem lpk_any (s : ByteArray) (k : Int) (hs : s.size ≤ 1048576) (hk1 : -9223372036854775808 ≤ k) (hk2 : k ≤ 9223372036854775807) (w : World) :
    Calls Try.prog 4 #[.string s, .int .i64 k] w fun e w' => e = .returned (.bool true) ∧ Below w.heap.size w w' :=
  callsIn_wide.1 (lpk_in s k hk1 hk2 hs w)
end Go.Proofs.Ytgpnheaefagfiaa
