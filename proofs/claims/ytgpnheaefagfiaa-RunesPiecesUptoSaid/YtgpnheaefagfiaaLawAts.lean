/- RunesAts: of every text of at most 2^20 values and every place, At and Before tell what the document's pieces are. -/
import Derived.Test.YtgpnheaefagfiaaBef
import Derived.Test.YtgpnheaefagfiaaRefB
import Derived.Handy
namespace Go.Proofs.Ytgpnheaefagfiaa
set_option linter.unusedVariables false
set_option linter.unusedSimpArgs false
open Go Go.RowKit
set_option maxRecDepth 100000

set_option maxHeartbeats 400000 in
theorem bef_ok (s : ByteArray) (i : Nat) (h1 : 1 ≤ i) (hi : i ≤ s.size) (hs : s.size ≤ 281474976710656) (w : World) (T : ByteArray) (p : Nat) (hT : s.extract 0 i = T) (hp : lp T = p) :
    Calls Try.prog 18 #[.string s, .int .i64 (i : Int)] w fun e w' => e = .returned (.tuple #[.agg #[.int .i64 p, .int .i64 (wd T p : Nat), .int .i32 (rn T p : Nat), .bool (bk T p)], .int .i64 0]) ∧ Below w.heap.size w w' := by
  have hb0 := before_any s i h1 hi hs
  rw [hT, hp] at hb0
  simp only [pcV, pcC] at hb0
  clear hT
  go_enter Try.func18, Try.ntmps18
  go_wp2_with (go_at_call 69; refine (hb0 _).mono ?_; rintro e w' ⟨rfl, hb⟩; obtain ⟨hc2, hf2⟩ := bcell hb; have hz2 := hb.size)
  refine bodyPost_ret (v := .tuple #[.agg #[.int .i64 p, .int .i64 (wd T p : Nat), .int .i32 (rn T p : Nat), .bool (bk T p)], .int .i64 0]) (by simp [results, Try.f18, go_sem, hc2, hz2]) rfl ⟨rfl, ?_⟩
  exact (((((((Below.refl _ _).alloc (Nat.le_refl _) _).trans (hb.mono (by simp))).setCell (p := ⟨_, 0, none⟩) (Nat.le_refl _) _).setCell (p := ⟨_, 1, none⟩) (Nat.le_refl _) _).setCell (p := ⟨_, 2, none⟩) (Nat.le_refl _) _).setCell (p := ⟨_, 3, none⟩) (Nat.le_refl _) _)

set_option maxHeartbeats 400000 in
theorem bef_no (s : ByteArray) (i : Int) (hi : i < 1 ∨ (s.size : Int) < i) (w : World) :
    Calls Try.prog 18 #[.string s, .int .i64 i] w fun e w' => e = .returned (.tuple #[.agg #[.int .i64 0, .int .i64 0, .int .i32 0, .bool false], .int .i64 5]) ∧ Below w.heap.size w w' := by
  rcases hi with hi | hi
  · go_enter Try.func18, Try.ntmps18
    go_wp2
    refine bodyPost_ret (v := .tuple #[.agg #[.int .i64 0, .int .i64 0, .int .i32 0, .bool false], .int .i64 5]) (by simp [results, Try.f18, go_sem]) rfl ⟨rfl, ?_⟩
    exact (Below.refl _ _).alloc (Nat.le_refl _) _
  · have h0 : ¬ i < 1 := by omega
    go_enter Try.func18, Try.ntmps18
    go_wp2
    refine bodyPost_ret (v := .tuple #[.agg #[.int .i64 0, .int .i64 0, .int .i32 0, .bool false], .int .i64 5]) (by simp [results, Try.f18, go_sem]) rfl ⟨rfl, ?_⟩
    exact (Below.refl _ _).alloc (Nat.le_refl _) _

theorem new4 (w : World) (a b c d : Value) (t : TypeId) : ∃ W, w.alloc (.cells #[a, b, c, d] t) = W ∧ W.heap.size = w.heap.size + 1 ∧ Below w.heap.size w W ∧ W.cell? ⟨w.heap.size, 0, none⟩ = some a ∧ W.cell? ⟨w.heap.size, 1, none⟩ = some b ∧ W.cell? ⟨w.heap.size, 2, none⟩ = some c ∧ W.cell? ⟨w.heap.size, 3, none⟩ = some d := by
  refine ⟨_, rfl, by simp, (Below.refl _ _).alloc (Nat.le_refl _) _, ?_⟩
  simp only [World.cell?, World.alloc_heap_new]
  exact ⟨rfl, rfl, rfl, rfl⟩

theorem alloc4 (w : World) (a b c d : Value) (t : TypeId) : (w.alloc (.cells #[a, b, c, d] t)).cell? ⟨w.heap.size, 0, none⟩ = some a ∧ (w.alloc (.cells #[a, b, c, d] t)).cell? ⟨w.heap.size, 1, none⟩ = some b ∧ (w.alloc (.cells #[a, b, c, d] t)).cell? ⟨w.heap.size, 2, none⟩ = some c ∧ (w.alloc (.cells #[a, b, c, d] t)).cell? ⟨w.heap.size, 3, none⟩ = some d := by
  simp only [World.cell?, World.alloc_heap_new]
  exact ⟨rfl, rfl, rfl, rfl⟩

/-- The last piece of a list of pieces, where it lies. -/
theorem last_cells {T : ByteArray} {pre : List Nat} {p base : Nat} {v : Value} {w : World} (h : w.ownsRow base 24 4 v (posns T).length (pcs T (posns T))) (hp : posns T = pre ++ [p]) :
    ∃ g cap, v = .slice (some ⟨g, 0, none⟩) (pre.length + 1) cap ∧ g < w.heap.size ∧ w.cell? ⟨g, pre.length * 4, none⟩ = some (.int .i64 p) ∧ w.cell? ⟨g, pre.length * 4 + 1, none⟩ = some (.int .i64 (wd T p : Nat)) ∧
      w.cell? ⟨g, pre.length * 4 + 2, none⟩ = some (.int .i32 (rn T p : Nat)) ∧ w.cell? ⟨g, pre.length * 4 + 3, none⟩ = some (.bool (bk T p)) := by
  rw [hp, pcs_snoc, show (pre ++ [p]).length = pre.length + 1 by simp] at h
  obtain ⟨g, cap, rfl⟩ := ownsRow_succ h
  have hl := pcs_len T pre
  have hc := fun j (hj : j < (pre.length + 1) * 4) => h.cellAt j hj
  refine ⟨g, cap, rfl, (h.lt g rfl).2, ?_, ?_, ?_, ?_⟩
  · rw [hc _ (by omega), List.getElem?_append_right (by omega), show pre.length * 4 - (pcs T pre).length = 0 by omega]; rfl
  · rw [hc _ (by omega), List.getElem?_append_right (by omega), show pre.length * 4 + 1 - (pcs T pre).length = 1 by omega]; rfl
  · rw [hc _ (by omega), List.getElem?_append_right (by omega), show pre.length * 4 + 2 - (pcs T pre).length = 2 by omega]; rfl
  · rw [hc _ (by omega), List.getElem?_append_right (by omega), show pre.length * 4 + 3 - (pcs T pre).length = 3 by omega]; rfl

theorem keep4 {W w3 : World} {b : Nat} {v0 v1 v2 v3 : Value} (hb : Below W.heap.size W w3) (hlt : b < W.heap.size)
    (h0 : W.cell? ⟨b, 0, none⟩ = some v0) (h1 : W.cell? ⟨b, 1, none⟩ = some v1) (h2 : W.cell? ⟨b, 2, none⟩ = some v2) (h3 : W.cell? ⟨b, 3, none⟩ = some v3) :
    w3.cell? ⟨b, 0, none⟩ = some v0 ∧ w3.cell? ⟨b, 1, none⟩ = some v1 ∧ w3.cell? ⟨b, 2, none⟩ = some v2 ∧ w3.cell? ⟨b, 3, none⟩ = some v3 :=
  ⟨(hb.cell (p := ⟨b, 0, none⟩) hlt).trans h0, (hb.cell (p := ⟨b, 1, none⟩) hlt).trans h1, (hb.cell (p := ⟨b, 2, none⟩) hlt).trans h2, (hb.cell (p := ⟨b, 3, none⟩) hlt).trans h3⟩

set_option maxHeartbeats 2000000 in
/-- A place within the text, and not its beginning. -/
theorem ats4 (s : ByteArray) (i : Nat) (h1 : 1 ≤ i) (hi : i < s.size) (hs : s.size ≤ 1048576) (w : World) :
    Calls Try.prog 3 #[.string s, .int .i64 (i : Int)] w fun e w' => e = .returned (.bool true) ∧ Below w.heap.size w w' := by
  obtain ⟨T, hT⟩ : ∃ T, s.extract 0 i = T := ⟨_, rfl⟩
  have hTs : T.size = i := by rw [← hT]; exact size_head s i (by omega)
  obtain ⟨pre, p, hpp, hpe⟩ := posns_last T (by omega)
  have hlp := lp_eq T pre p hpp
  have cA := at_ok s i hi (by omega)
  have cR := atR_any s i hi (by omega)
  have cB := fun w => bef_ok s i h1 (by omega) (by omega) w T p hT hlp
  have cP := piecesR_any T (by omega)
  have HT := Lib.hid hT; clear hT
  have HTs := Lib.hid hTs
  have hNb : pre.length + 1 ≤ 1048576 := by
    have h1 := posns_len T
    rw [hpp] at h1; simp at h1; omega
  have HP := Lib.hid hpp
  clear hpp hpe hlp hTs
  obtain ⟨a1, ha1⟩ : ∃ x, wd s i = x := ⟨_, rfl⟩
  obtain ⟨a2, ha2⟩ : ∃ x, rn s i = x := ⟨_, rfl⟩
  obtain ⟨a3, ha3⟩ : ∃ x, bk s i = x := ⟨_, rfl⟩
  rw [ha1, ha2, ha3] at cA cR
  clear ha1 ha2 ha3
  go_enter Try.func3, Try.ntmps3
  go_wp2_with (first | (go_at_call 15; refine (wakes_any _).mono ?_; rintro e w1 ⟨rfl, hb1⟩) | (go_at_call 16; refine (cA _).mono ?_; rintro e w2 ⟨rfl, hb2⟩))
  obtain ⟨W, hW, hWs, hWb, p0, p1, p2, p3⟩ := new4 w2 (.int .i64 i) (.int .i64 a1) (.int .i32 a2) (.bool a3) 24
  rw [hW]
  clear hW
  have hBW : Below w.heap.size w W := (hb1.trans (hb2.mono hb1.size)).trans (hWb.mono (Nat.le_trans hb1.size hb2.size))
  obtain ⟨B, hB⟩ : ∃ B, w2.heap.size = B := ⟨_, rfl⟩
  rw [hB] at p0 p1 p2 p3 hWs ⊢
  clear hB hb1 hb2 hWb
  go_region_held3 (fun w' => w'.cell? ⟨B, 0, none⟩ = some (.int .i64 i) ∧ w'.cell? ⟨B, 1, none⟩ = some (.int .i64 a1) ∧ w'.cell? ⟨B, 2, none⟩ = some (.int .i32 a2) ∧ w'.cell? ⟨B, 3, none⟩ = some (.bool a3)) (first | go_keep | exact keep4 hb3 (by simp; omega) p0 p1 p2 p3) (first | (go_at_call 17; refine (cR _).mono ?_; rintro e w3 ⟨rfl, hb3⟩))
  have hB3 : Below w.heap.size w w3 := (hBW.drew).trans (hb3.mono hBW.size)
  rename_i hHeld
  clear hHeld p0 p1 p2 p3 hb3 hBW hWs
  have HT' := HT.out
  go_wp2_with (first | (go_at_call 18; refine (cB _).mono ?_; rintro e w4 ⟨rfl, hb4⟩) | (go_at_call 19; refine (cP _).mono ?_; rintro e w5 ⟨v, rfl, hown, hb5⟩; obtain ⟨g, cap, rfl, hg, k0, k1, k2, k3⟩ := last_cells hown HP.out))
  obtain ⟨q0, q1, q2, q3⟩ := keep4 hb5 (b := w4.heap.size) (by simp) (alloc4 w4 _ _ _ _ _).1 (alloc4 w4 _ _ _ _ _).2.1 (alloc4 w4 _ _ _ _ _).2.2.1 (alloc4 w4 _ _ _ _ _).2.2.2
  have hB5 : Below w.heap.size w w5 := (((hB3.trans (hb4.mono hB3.size)).alloc (Nat.le_trans hB3.size hb4.size) _).trans (hb5.mono (by have := hB3.size; have := hb4.size; simp; omega)))
  have hq5 : w4.heap.size < w5.heap.size := by have := hb5.size; simp at this; omega
  obtain ⟨Q, hQ⟩ : ∃ Q, w4.heap.size = Q := ⟨_, rfl⟩
  obtain ⟨N, hN⟩ : ∃ N, pre.length = N := ⟨_, rfl⟩
  rw [hQ] at q0 q1 q2 q3 hq5
  rw [hN] at k0 k1 k2 k3 hNb
  simp only [hQ, hN]
  clear hown hb5 hb4 hQ hN HP
  obtain ⟨b1, hb1'⟩ : ∃ x, wd T p = x := ⟨_, rfl⟩
  obtain ⟨b2, hb2'⟩ : ∃ x, rn T p = x := ⟨_, rfl⟩
  obtain ⟨b3, hb3'⟩ : ∃ x, bk T p = x := ⟨_, rfl⟩
  rw [hb1'] at q1 k1
  rw [hb2'] at q2 k2
  rw [hb3'] at q3 k3
  simp only [hb1', hb2', hb3']
  clear hb1' hb2' hb3'
  have f1 : IntKind.i64.wrap (N : Int) = (N : Int) := IntWalk.i64_in _ (by omega)
  have f2 : (0 : Int) ≤ (N : Int) := by omega
  have f3 : (N : Int) < (N : Int) + 1 := by omega
  go_region_held3 (fun w' => w'.cell? ⟨Q, 0, none⟩ = some (.int .i64 p) ∧ w'.cell? ⟨Q, 1, none⟩ = some (.int .i64 b1) ∧ w'.cell? ⟨Q, 2, none⟩ = some (.int .i32 b2) ∧ w'.cell? ⟨Q, 3, none⟩ = some (.bool b3) ∧ w'.cell? ⟨g, N * 4, none⟩ = some (.int .i64 p) ∧ w'.cell? ⟨g, N * 4 + 1, none⟩ = some (.int .i64 b1) ∧ w'.cell? ⟨g, N * 4 + 2, none⟩ = some (.int .i32 b2) ∧ w'.cell? ⟨g, N * 4 + 3, none⟩ = some (.bool b3)) (first | go_keep | exact ⟨(hb6.cell (p := ⟨Q, 0, none⟩) (by simp; omega)).trans q0, (hb6.cell (p := ⟨Q, 1, none⟩) (by simp; omega)).trans q1, (hb6.cell (p := ⟨Q, 2, none⟩) (by simp; omega)).trans q2, (hb6.cell (p := ⟨Q, 3, none⟩) (by simp; omega)).trans q3, (hb6.cell (p := ⟨g, N * 4, none⟩) (by simp; omega)).trans k0, (hb6.cell (p := ⟨g, N * 4 + 1, none⟩) (by simp; omega)).trans k1, (hb6.cell (p := ⟨g, N * 4 + 2, none⟩) (by simp; omega)).trans k2, (hb6.cell (p := ⟨g, N * 4 + 3, none⟩) (by simp; omega)).trans k3⟩) (first | (go_at_call 15; refine (wakes_any _).mono ?_; rintro e w6 ⟨rfl, hb6⟩))
  go_wp2
  go_ret
  exact ⟨rfl, (hB5.drew).trans (hb6.mono hB5.size)⟩

set_option maxHeartbeats 2000000 in
/-- The text's beginning. -/
theorem ats3 (s : ByteArray) (hi : 0 < s.size) (hs : s.size ≤ 1048576) (w : World) :
    Calls Try.prog 3 #[.string s, .int .i64 0] w fun e w' => e = .returned (.bool true) ∧ Below w.heap.size w w' := by
  have cA : ∀ w, Calls Try.prog 16 #[.string s, .int .i64 0] w fun e w' => e = .returned (.tuple #[.agg #[.int .i64 0, .int .i64 (wd s 0 : Nat), .int .i32 (rn s 0 : Nat), .bool (bk s 0)], .int .i64 0]) ∧ Below w.heap.size w w' := fun w => at_ok s 0 hi (by omega) w
  have cR : ∀ w, Calls Try.prog 17 #[.string s, .int .i64 0] w fun e w' => e = .returned (.agg #[.int .i64 0, .int .i64 (wd s 0 : Nat), .int .i32 (rn s 0 : Nat), .bool (bk s 0)]) ∧ Below w.heap.size w w' := fun w => atR_any s 0 hi (by omega) w
  have cB := bef_no s 0 (.inl (by omega))
  obtain ⟨a1, ha1⟩ : ∃ x, wd s 0 = x := ⟨_, rfl⟩
  obtain ⟨a2, ha2⟩ : ∃ x, rn s 0 = x := ⟨_, rfl⟩
  obtain ⟨a3, ha3⟩ : ∃ x, bk s 0 = x := ⟨_, rfl⟩
  rw [ha1, ha2, ha3] at cA cR
  clear ha1 ha2 ha3
  go_enter Try.func3, Try.ntmps3
  go_wp2_with (first | (go_at_call 15; refine (wakes_any _).mono ?_; rintro e w1 ⟨rfl, hb1⟩) | (go_at_call 16; refine (cA _).mono ?_; rintro e w2 ⟨rfl, hb2⟩))
  obtain ⟨W, hW, hWs, hWb, p0, p1, p2, p3⟩ := new4 w2 (.int .i64 0) (.int .i64 a1) (.int .i32 a2) (.bool a3) 24
  rw [hW]
  clear hW
  have hBW : Below w.heap.size w W := (hb1.trans (hb2.mono hb1.size)).trans (hWb.mono (Nat.le_trans hb1.size hb2.size))
  obtain ⟨B, hB⟩ : ∃ B, w2.heap.size = B := ⟨_, rfl⟩
  rw [hB] at p0 p1 p2 p3 hWs ⊢
  clear hB hb1 hb2 hWb
  go_region_held3 (fun w' => w'.cell? ⟨B, 0, none⟩ = some (.int .i64 0) ∧ w'.cell? ⟨B, 1, none⟩ = some (.int .i64 a1) ∧ w'.cell? ⟨B, 2, none⟩ = some (.int .i32 a2) ∧ w'.cell? ⟨B, 3, none⟩ = some (.bool a3)) (first | go_keep | exact keep4 hb3 (by simp; omega) p0 p1 p2 p3) (first | (go_at_call 17; refine (cR _).mono ?_; rintro e w3 ⟨rfl, hb3⟩))
  have hB3 : Below w.heap.size w w3 := (hBW.drew).trans (hb3.mono hBW.size)
  rename_i hHeld
  clear hHeld p0 p1 p2 p3 hb3 hBW hWs
  go_wp2_with (first | (go_at_call 18; refine (cB _).mono ?_; rintro e w4 ⟨rfl, hb4⟩) | (go_at_call 15; refine (wakes_any _).mono ?_; rintro e w6 ⟨rfl, hb6⟩))
  go_ret
  exact ⟨rfl, ((hB3.trans (hb4.mono hB3.size)).alloc (Nat.le_trans hB3.size hb4.size) _).trans (hb6.mono (by have := hB3.size; have := hb4.size; simp; omega))⟩

set_option maxHeartbeats 2000000 in
/-- The text's end. -/
theorem ats5 (s : ByteArray) (i : Nat) (h1 : 1 ≤ i) (hi : i = s.size) (hs : s.size ≤ 1048576) (w : World) :
    Calls Try.prog 3 #[.string s, .int .i64 (i : Int)] w fun e w' => e = .returned (.bool true) ∧ Below w.heap.size w w' := by
  obtain ⟨T, hT⟩ : ∃ T, s.extract 0 i = T := ⟨_, rfl⟩
  have hTs : T.size = i := by rw [← hT]; exact size_head s i (by omega)
  obtain ⟨pre, p, hpp, hpe⟩ := posns_last T (by omega)
  have hlp := lp_eq T pre p hpp
  have cA := at_no s i (.inr (by omega))
  have cB := fun w => bef_ok s i h1 (by omega) (by omega) w T p hT hlp
  have cP := piecesR_any T (by omega)
  have HT := Lib.hid hT; clear hT
  have HTs := Lib.hid hTs
  have hNb : pre.length + 1 ≤ 1048576 := by
    have h1 := posns_len T
    rw [hpp] at h1; simp at h1; omega
  have HP := Lib.hid hpp
  clear hpp hpe hlp hTs
  have hsi : ¬ i < s.size := by omega
  have hle : i ≤ s.size := by omega
  have HI := Lib.hid hi; clear hi
  go_enter Try.func3, Try.ntmps3
  have HT' := HT.out
  go_wp2_with (first | (go_at_call 15; refine (wakes_any _).mono ?_; rintro e w1 ⟨rfl, hb1⟩) | (go_at_call 16; refine (cA _).mono ?_; rintro e w2 ⟨rfl, hb2⟩) | (go_at_call 18; refine (cB _).mono ?_; rintro e w4 ⟨rfl, hb4⟩) | (go_at_call 19; refine (cP _).mono ?_; rintro e w5 ⟨v, rfl, hown, hb5⟩; obtain ⟨g, cap, rfl, hg, k0, k1, k2, k3⟩ := last_cells hown HP.out))
  obtain ⟨q0, q1, q2, q3⟩ := keep4 hb5 (b := w4.heap.size) (by simp) (alloc4 w4 _ _ _ _ _).1 (alloc4 w4 _ _ _ _ _).2.1 (alloc4 w4 _ _ _ _ _).2.2.1 (alloc4 w4 _ _ _ _ _).2.2.2
  have hB5 : Below w.heap.size w w5 := ((((((hb1.trans (hb2.mono hb1.size)).alloc (Nat.le_trans hb1.size hb2.size) _).trans (hb4.mono (by have := hb1.size; have := hb2.size; simp; omega))).alloc (by have := hb1.size; have := hb2.size; have := hb4.size; simp at this; omega) _).trans (hb5.mono (by have := hb1.size; have := hb2.size; have := hb4.size; simp at this ⊢; omega))))
  have hq5 : w4.heap.size < w5.heap.size := by have := hb5.size; simp at this; omega
  obtain ⟨Q, hQ⟩ : ∃ Q, w4.heap.size = Q := ⟨_, rfl⟩
  obtain ⟨N, hN⟩ : ∃ N, pre.length = N := ⟨_, rfl⟩
  rw [hQ] at q0 q1 q2 q3 hq5
  rw [hN] at k0 k1 k2 k3 hNb
  simp only [hQ, hN]
  clear hown hb5 hb4 hQ hN HP
  obtain ⟨b1, hb1'⟩ : ∃ x, wd T p = x := ⟨_, rfl⟩
  obtain ⟨b2, hb2'⟩ : ∃ x, rn T p = x := ⟨_, rfl⟩
  obtain ⟨b3, hb3'⟩ : ∃ x, bk T p = x := ⟨_, rfl⟩
  rw [hb1'] at q1 k1
  rw [hb2'] at q2 k2
  rw [hb3'] at q3 k3
  simp only [hb1', hb2', hb3']
  clear hb1' hb2' hb3'
  have f1 : IntKind.i64.wrap (N : Int) = (N : Int) := IntWalk.i64_in _ (by omega)
  have f2 : (0 : Int) ≤ (N : Int) := by omega
  have f3 : (N : Int) < (N : Int) + 1 := by omega
  go_region_held3 (fun w' => w'.cell? ⟨Q, 0, none⟩ = some (.int .i64 p) ∧ w'.cell? ⟨Q, 1, none⟩ = some (.int .i64 b1) ∧ w'.cell? ⟨Q, 2, none⟩ = some (.int .i32 b2) ∧ w'.cell? ⟨Q, 3, none⟩ = some (.bool b3) ∧ w'.cell? ⟨g, N * 4, none⟩ = some (.int .i64 p) ∧ w'.cell? ⟨g, N * 4 + 1, none⟩ = some (.int .i64 b1) ∧ w'.cell? ⟨g, N * 4 + 2, none⟩ = some (.int .i32 b2) ∧ w'.cell? ⟨g, N * 4 + 3, none⟩ = some (.bool b3)) (first | go_keep | exact ⟨(hb6.cell (p := ⟨Q, 0, none⟩) (by simp; omega)).trans q0, (hb6.cell (p := ⟨Q, 1, none⟩) (by simp; omega)).trans q1, (hb6.cell (p := ⟨Q, 2, none⟩) (by simp; omega)).trans q2, (hb6.cell (p := ⟨Q, 3, none⟩) (by simp; omega)).trans q3, (hb6.cell (p := ⟨g, N * 4, none⟩) (by simp; omega)).trans k0, (hb6.cell (p := ⟨g, N * 4 + 1, none⟩) (by simp; omega)).trans k1, (hb6.cell (p := ⟨g, N * 4 + 2, none⟩) (by simp; omega)).trans k2, (hb6.cell (p := ⟨g, N * 4 + 3, none⟩) (by simp; omega)).trans k3⟩) (first | (go_at_call 15; refine (wakes_any _).mono ?_; rintro e w6 ⟨rfl, hb6⟩))
  go_wp2
  go_ret
  exact ⟨rfl, (hB5.drew).trans (hb6.mono hB5.size)⟩

set_option maxHeartbeats 2000000 in
/-- No place of the text. -/
theorem ats6 (s : ByteArray) (i : Int) (hn : i < 0 ∨ (s.size : Int) < i ∨ (i = 0 ∧ s.size = 0)) (hs : s.size ≤ 1048576) (w : World) :
    Calls Try.prog 3 #[.string s, .int .i64 i] w fun e w' => e = .returned (.bool true) ∧ Below w.heap.size w w' := by
  have cA := at_no s i (by omega)
  have cB := bef_no s i (by omega)
  have HN := Lib.hid hn
  rcases (show i < 0 ∨ (¬ i < 0 ∧ ¬ i < (s.size : Int) ∧ (i < 1 ∨ (1 ≤ i ∧ ¬ i ≤ (s.size : Int)))) by omega) with h | ⟨h, h', h'' | ⟨h'', h3⟩⟩
  all_goals
    clear hn
    go_enter Try.func3, Try.ntmps3
    go_wp2_with (first | (go_at_call 15; refine (wakes_any _).mono ?_; rintro e w1 ⟨rfl, hb1⟩) | (go_at_call 16; refine (cA _).mono ?_; rintro e w2 ⟨rfl, hb2⟩))
    go_wp2_with (first | (go_at_call 18; refine (cB _).mono ?_; rintro e w4 ⟨rfl, hb4⟩) | (go_at_call 15; refine (wakes_any _).mono ?_; rintro e w6 ⟨rfl, hb6⟩))
    go_ret
    have hB2 : Below w.heap.size w w2 := hb1.trans (hb2.mono hb1.size)
    have hB4 := (hB2.alloc hB2.size _).trans (hb4.mono (by have := hB2.size; simp; omega))
    have hB5 := hB4.alloc hB4.size (.cells #[.int .i64 0, .int .i64 0, .int .i32 0, .bool false] 24)
    exact ⟨rfl, hB5.trans (hb6.mono hB5.size)⟩

/-- RunesAts answers true, whatever it is asked. -/
theorem ats_any (s : ByteArray) (i : Int) (hs : s.size ≤ 1048576) (w : World) :
    Calls Try.prog 3 #[.string s, .int .i64 i] w fun e w' => e = .returned (.bool true) ∧ Below w.heap.size w w' := by
  by_cases h : i < 0 ∨ (s.size : Int) < i ∨ (i = 0 ∧ s.size = 0)
  · exact ats6 s i h hs w
  · obtain ⟨n, rfl⟩ := Int.eq_ofNat_of_zero_le (show 0 ≤ i by omega)
    by_cases h0 : n = 0
    · subst h0; exact ats3 s (by omega) hs w
    · by_cases hn : n = s.size
      · exact ats5 s n (by omega) hn hs w
      · exact ats4 s n (by omega) (by omega) hs w
end Go.Proofs.Ytgpnheaefagfiaa
