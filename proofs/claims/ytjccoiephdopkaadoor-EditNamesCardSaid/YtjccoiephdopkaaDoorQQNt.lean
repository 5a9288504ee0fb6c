/- What Nth and both Cut answer. -/
import Derived.Test.YtjccoiephdopkaaDoorQQSeqB
import Derived.Test.YtjccoiephdopkaaDoorQQBlk
import Derived.Test.YtjccoiephdopkaaDoorQQEnds
namespace Go.Proofs.YtjccoiephdopkaaDoor.SQ
set_option linter.unusedVariables false
set_option linter.unusedSimpArgs false
open Go Go.RowKit Go.Shelf
set_option maxRecDepth 100000
attribute [local go_sem] Oper.semAt_some

theorem blk_own {β : Type} (B : Nat) (t : TypeId) (f : β → Array Value) : Own (fun s W => Blk W B (f s) t) := fun s X Y row hs hg hrow =>
  hs.kept hg (fun e' => by
    obtain ⟨o, ho, hc⟩ := hrow B e'.symm
    rw [show X.heap[B]? = _ from hs] at ho; cases ho; cases hc)

def zP : Array Value := #[.int .i64 0, .int .i64 0, .int .i32 0, .bool false]
/-- The last place of a list. -/
def lstN {s : ByteArray} (l : List (Pos s)) : Nat := match l.getLast? with | some x => x.1 | none => 0
theorem lstN_snoc {s : ByteArray} (l : List (Pos s)) (x : Pos s) : lstN (l ++ [x]) = x.1 := by simp [lstN]

def nthR (s : ByteArray) (k : Nat) : Value := match (posns s)[k]? with
  | some p => .tuple #[.agg (pcC s p), .bool true]
  | none => .tuple #[.agg zP, .bool false]
theorem nthR_no {s : ByteArray} {k : Nat} (h : (posns s).length ≤ k) : nthR s k = .tuple #[.agg zP, .bool false] := by
  unfold nthR; rw [List.getElem?_eq_none h]
theorem nthR_yes {s : ByteArray} {k p : Nat} (h : (posns s)[k]? = some p) : nthR s k = .tuple #[.agg (pcC s p), .bool true] := by
  unfold nthR; rw [h]
theorem pre_nth {s : ByteArray} {pre : List (Pos s)} {k : Nat} (h : pre.map (·.1) <+: posns s) (hl : pre.length = k + 1) : (posns s)[k]? = some (lstN pre) := by
  obtain ⟨rest, hr⟩ := h
  have hne : pre ≠ [] := by rintro rfl; cases hl
  obtain ⟨l, x, rfl⟩ : ∃ l x, pre = l ++ [x] := ⟨pre.dropLast, pre.getLast hne, (List.dropLast_concat_getLast hne).symm⟩
  have : l.length = k := by simp at hl; exact hl
  rw [← hr, lstN_snoc, List.map_append, List.map_singleton, List.append_assoc, List.getElem?_append_right (by simp; omega)]
  simp [this]

set_option maxHeartbeats 2000000 in
theorem nth_in (s : ByteArray) (k : Nat) (hs : s.size ≤ 9223372036854775807) (hk : k ≤ 9223372036854775807) (w : World) :
    CallsIn Fence.wide 11 Tryd.prog 70 #[.string s, .int .i64 (k : Int)] w fun e w' => e = .returned (nthR s k) ∧ Below w.heap.size w w' := by
  refine callsIn_of_wp_marks Tryd.func70 rfl trivial ?_ rfl
  simp only [Tryd.ntmps70, List.size_toArray, List.length_cons, List.length_nil, Nat.reduceAdd, Nat.reduceSub, Array.replicate_succ, Array.replicate_zero, List.push_toArray, List.append_toArray, List.nil_append, List.cons_append]
  have hF : ∀ f, Fence.wide.fn f := fun _ => trivial
  have hk0 : ¬ (k : Int) < 0 := by omega
  gi_wp2_with (gi_at_call 82; refine (callsIn_wide.2 (pieces_any _ _)).mono ?_; rintro e w' ⟨rfl, rfl⟩)
  have b0 := (((Boxed.new w 3 (.int .i64 k)).alloc (.cells zP 120)).alloc (.cells #[.bool false] 4)).alloc (.cells #[.string s] 9)
  have b1 := ((Blk.new (w.alloc (.cells #[.int .i64 k] 3)) zP 120).alloc (.cells #[.bool false] 4)).alloc (.cells #[.string s] 9)
  have b2 := (Boxed.new ((w.alloc (.cells #[.int .i64 k] 3)).alloc (.cells zP 120)) 4 (.bool false)).alloc (.cells #[.string s] 9)
  have b3 := Boxed.new (((w.alloc (.cells #[.int .i64 k] 3)).alloc (.cells zP 120)).alloc (.cells #[.bool false] 4)) 9 (.string s)
  simp only [World.size_alloc] at b1 b2 b3
  have hB0 : Below w.heap.size w ((((w.alloc (.cells #[.int .i64 k] 3)).alloc (.cells zP 120)).alloc (.cells #[.bool false] 4)).alloc (.cells #[.string s] 9)) := ((((Below.refl _ w).alloc (Nat.le_refl _) _).alloc (by simp) _).alloc (by simp; omega) _).alloc (by simp; omega) _
  have hsz : ((((w.alloc (.cells #[.int .i64 k] 3)).alloc (.cells zP 120)).alloc (.cells #[.bool false] 4)).alloc (.cells #[.string s] 9)).heap.size = w.heap.size + 4 := by simp
  simp only [zP] at b0 b1 b2 b3 hB0 hsz ⊢
  obtain ⟨W0, hW0⟩ : ∃ W0, ((((w.alloc (.cells #[.int .i64 k] 3)).alloc (.cells #[.int .i64 0, .int .i64 0, .int .i32 0, .bool false] 120)).alloc (.cells #[.bool false] 4)).alloc (.cells #[.string s] 9)) = W0 := ⟨_, rfl⟩
  rw [hW0] at b0 b1 b2 b3 hB0 hsz ⊢
  clear hW0
  refine range_pieces 6 s hs (w.heap.size + 1 + 1 + 1) b3 rfl
    (fun pre W => ((((Boxed W w.heap.size 3 (.int .i64 ((k - pre.length : Nat) : Int)) ∧ Blk W (w.heap.size + 1) #[.int .i64 0, .int .i64 0, .int .i32 0, .bool false] 120) ∧ Boxed W (w.heap.size + 1 + 1) 4 (.bool false)) ∧ Boxed W (w.heap.size + 1 + 1 + 1) 9 (.string s)) ∧ pre.length ≤ k) ∧ Below w.heap.size w W)
    (fun c pre W => ((Blk W (w.heap.size + 1) (pcC s (lstN pre)) 120 ∧ Boxed W (w.heap.size + 1 + 1) 4 (.bool true)) ∧ c = .ret ∧ pre.length = k + 1) ∧ Below w.heap.size w W)
    (OwnFrom.and (OwnFrom.and (OwnFrom.and (OwnFrom.and (OwnFrom.and (Own.from (boxed_own _ _ _) _) (Own.from (blk_own _ _ _) _)) (Own.from (boxed_own _ _ _) _)) (Own.from (boxed_own _ _ _) _)) (fun _ _ _ _ hs _ _ => hs)) (ownFrom_below (Nat.le_refl _) (by omega)))
    (fun c => OwnFrom.and (OwnFrom.and (OwnFrom.and (Own.from (blk_own _ _ _) _) (Own.from (boxed_own _ _ _) _)) (fun _ _ _ _ hs _ _ => hs)) (ownFrom_below (Nat.le_refl _) (by omega))) ⟨⟨⟨⟨⟨b0, b1⟩, b2⟩, b3⟩, Nat.zero_le _⟩, hB0⟩ ?assign ?body ?done ?stop
  case assign =>
    intro l x W K hK
    simp only [pcC] at hK ⊢
    gi_wp2
    exact hK
  case body =>
    rintro l pre x Bx W ⟨⟨⟨⟨⟨h0, h1⟩, h2⟩, h3⟩, hlk⟩, hB⟩ hle hbx hlen
    rw [hsz] at hle
    obtain ⟨d, hd⟩ : ∃ d, k - pre.length = d := ⟨_, rfl⟩
    rw [hd] at h0
    have hc0 := h0.cell
    have hf0 := h0.frozen
    have hc2 := h2.cell
    have hf2 := h2.frozen
    have k0 : W.cell? ⟨w.heap.size + 1, 0, none⟩ = some (.int .i64 0) := h1.cell 0
    have k1 : W.cell? ⟨w.heap.size + 1, 1, none⟩ = some (.int .i64 0) := h1.cell 1
    have k2 : W.cell? ⟨w.heap.size + 1, 2, none⟩ = some (.int .i32 0) := h1.cell 2
    have k3 : W.cell? ⟨w.heap.size + 1, 3, none⟩ = some (.bool false) := h1.cell 3
    have g0 := h1.frozen 0
    have g1 := h1.frozen 1
    have g2 := h1.frozen 2
    have g3 := h1.frozen 3
    obtain ⟨p0, p1, p2, p3⟩ := pcell hbx
    have HD := Lib.hid hd
    simp only [pcC]
    by_cases h : d = 0
    · subst h
      clear hd
      gi_wp2
      have x1 := ((((h1.set 0 (.int .i64 x.1)).set 1 (.int .i64 (wd s x.1 : Nat))).set 2 (.int .i32 (rn s x.1 : Nat))).set 3 (.bool (bk s x.1))).other (B' := w.heap.size + 1 + 1) (by omega) 0 (.bool true)
      have x2 := ((((((show Blk W (w.heap.size + 1 + 1) #[.bool false] 4 from h2).other (B' := w.heap.size + 1) (by omega) 0 (.int .i64 x.1)).other (B' := w.heap.size + 1) (by omega) 1 (.int .i64 (wd s x.1 : Nat))).other (B' := w.heap.size + 1) (by omega) 2 (.int .i32 (rn s x.1 : Nat))).other (B' := w.heap.size + 1) (by omega) 3 (.bool (bk s x.1))).set 0 (.bool true))
      refine ⟨(((((KeepsOthers.setCell _ _ _).trans (KeepsOthers.setCell _ _ _)).trans (KeepsOthers.setCell _ _ _)).trans (KeepsOthers.setCell _ _ _)).trans (KeepsOthers.setCell _ _ _)).from _, ⟨⟨?_, x2⟩, rfl, by simp; have := HD.out; omega⟩, ?_⟩
      · rw [lstN_snoc]; exact x1
      · exact ((((hB.setCell (p := ⟨w.heap.size + 1, 0, none⟩) (by simp) _).setCell (p := ⟨w.heap.size + 1, 1, none⟩) (by simp) _).setCell (p := ⟨w.heap.size + 1, 2, none⟩) (by simp) _).setCell (p := ⟨w.heap.size + 1, 3, none⟩) (by simp) _).setCell (p := ⟨w.heap.size + 1 + 1, 0, none⟩) (by dsimp only; omega) _
    · obtain ⟨d', rfl⟩ : ∃ d', d = d' + 1 := ⟨d - 1, by omega⟩
      have hdb : d' + 1 ≤ 9223372036854775807 := by omega
      clear hd h
      gi_wp2
      have hv : (k - (pre ++ [x]).length : Nat) = d' := by rw [List.length_append]; simp; have := HD.out; omega
      refine ⟨(KeepsOthers.setCell _ _ _).from _, ⟨KeepsWalks.setCell _ _ _, ?_⟩, ⟨⟨⟨⟨?_, h1.other (by omega) 0 _⟩, h2.other (by omega) _⟩, h3.other (by omega) _⟩, by simp; have := HD.out; omega⟩, hB.setCell (p := ⟨w.heap.size, 0, none⟩) (Nat.le_refl _) _⟩
      · rw [Below.heap_setCell _ _ _ _ (by dsimp only; omega)]
      · rw [hv]
        have := h0.set (.int .i64 d')
        exact this
  case done =>
    rintro D xs W hD hxs ⟨⟨⟨⟨⟨h0, h1⟩, h2⟩, h3⟩, hlk⟩, hB⟩ hK
    have hno : nthR s k = .tuple #[.agg #[.int .i64 0, .int .i64 0, .int .i32 0, .bool false], .bool false] := nthR_no (by rw [← hxs, List.length_map]; exact hlk)
    have HN := Lib.hid hno
    clear hno hxs hlk
    have hc2 := h2.cell
    have hf2 := h2.frozen
    have k0 : W.cell? ⟨w.heap.size + 1, 0, none⟩ = some (.int .i64 0) := h1.cell 0
    have k1 : W.cell? ⟨w.heap.size + 1, 1, none⟩ = some (.int .i64 0) := h1.cell 1
    have k2 : W.cell? ⟨w.heap.size + 1, 2, none⟩ = some (.int .i32 0) := h1.cell 2
    have k3 : W.cell? ⟨w.heap.size + 1, 3, none⟩ = some (.bool false) := h1.cell 3
    have g0 := h1.frozen 0
    have g1 := h1.frozen 1
    have g2 := h1.frozen 2
    have g3 := h1.frozen 3
    gi_wp2
    have y1 := ((((h1.set 0 (.int .i64 0)).set 1 (.int .i64 0)).set 2 (.int .i32 0)).set 3 (.bool false)).other (B' := w.heap.size + 1 + 1) (by omega) 0 (.bool false)
    have y2 := ((((((show Blk W (w.heap.size + 1 + 1) #[.bool false] 4 from h2).other (B' := w.heap.size + 1) (by omega) 0 (.int .i64 0)).other (B' := w.heap.size + 1) (by omega) 1 (.int .i64 0)).other (B' := w.heap.size + 1) (by omega) 2 (.int .i32 0)).other (B' := w.heap.size + 1) (by omega) 3 (.bool false)).set 0 (.bool false))
    have hB2 := ((((hB.setCell (p := ⟨w.heap.size + 1, 0, none⟩) (by simp) (.int .i64 0)).setCell (p := ⟨w.heap.size + 1, 1, none⟩) (by simp) (.int .i64 0)).setCell (p := ⟨w.heap.size + 1, 2, none⟩) (by simp) (.int .i32 0)).setCell (p := ⟨w.heap.size + 1, 3, none⟩) (by simp) (.bool false)).setCell (p := ⟨w.heap.size + 1 + 1, 0, none⟩) (by dsimp only; omega) (.bool false)
    have hK2 : (((((W.setCell ⟨w.heap.size + 1, 0, none⟩ (.int .i64 0)).setCell ⟨w.heap.size + 1, 1, none⟩ (.int .i64 0)).setCell ⟨w.heap.size + 1, 2, none⟩ (.int .i32 0)).setCell ⟨w.heap.size + 1, 3, none⟩ (.bool false)).setCell ⟨w.heap.size + 1 + 1, 0, none⟩ (.bool false)).heap[D]? = some (.deferred (some [])) := by
      rw [Below.heap_setCell _ _ _ _ (by dsimp only; omega), Below.heap_setCell _ _ _ _ (by dsimp only; omega), Below.heap_setCell _ _ _ _ (by dsimp only; omega), Below.heap_setCell _ _ _ _ (by dsimp only; omega), Below.heap_setCell _ _ _ _ (by dsimp only; omega)]
      exact hK
    obtain ⟨W2, hW2⟩ : ∃ W2, ((((W.setCell ⟨w.heap.size + 1, 0, none⟩ (.int .i64 0)).setCell ⟨w.heap.size + 1, 1, none⟩ (.int .i64 0)).setCell ⟨w.heap.size + 1, 2, none⟩ (.int .i32 0)).setCell ⟨w.heap.size + 1, 3, none⟩ (.bool false)).setCell ⟨w.heap.size + 1 + 1, 0, none⟩ (.bool false) = W2 := ⟨_, rfl⟩
    rw [hW2] at y1 y2 hB2 hK2 ⊢
    clear hW2
    have e0 : (W2.putObj D (.deferred none)).cell? ⟨w.heap.size + 1, 0, none⟩ = some (.int .i64 0) := (World.cell?_of_block (w := W2) (World.putObj_heap_other (by dsimp only; omega))).trans (y1.cell 0)
    have e1 : (W2.putObj D (.deferred none)).cell? ⟨w.heap.size + 1, 1, none⟩ = some (.int .i64 0) := (World.cell?_of_block (w := W2) (World.putObj_heap_other (by dsimp only; omega))).trans (y1.cell 1)
    have e2 : (W2.putObj D (.deferred none)).cell? ⟨w.heap.size + 1, 2, none⟩ = some (.int .i32 0) := (World.cell?_of_block (w := W2) (World.putObj_heap_other (by dsimp only; omega))).trans (y1.cell 2)
    have e3 : (W2.putObj D (.deferred none)).cell? ⟨w.heap.size + 1, 3, none⟩ = some (.bool false) := (World.cell?_of_block (w := W2) (World.putObj_heap_other (by dsimp only; omega))).trans (y1.cell 3)
    have e4 : (W2.putObj D (.deferred none)).cell? ⟨w.heap.size + 1 + 1, 0, none⟩ = some (.bool false) := (World.cell?_of_block (w := W2) (World.putObj_heap_other (by dsimp only; omega))).trans (y2.cell 0)
    refine ⟨by simp, .inl ⟨_, _, rfl, run_takeDeferred (w := W2) hK2, ?_⟩⟩
    refine ⟨.tuple #[.agg #[.int .i64 0, .int .i64 0, .int .i32 0, .bool false], .bool false], ?_, by rw [HN.out]; try rfl, hB2.trans (belowK_b (w := w) (Nat.le_refl _) W2 D _ _ (by omega) hK2 rfl rfl)⟩
    simp [results, Tryd.f70, go_sem, e0, e1, e2, e3, e4]
  case stop =>
    rintro D c pre W hD hp ⟨⟨⟨h1, h2⟩, rfl, hl⟩, hB⟩ hK
    have hyes := nthR_yes (pre_nth hp hl)
    obtain ⟨q, hq⟩ : ∃ q, lstN pre = q := ⟨_, rfl⟩
    rw [hq] at hyes h1
    have HN := Lib.hid hyes
    clear hyes hq hp hl
    have hc2 := h2.cell
    gi_wp2
    have y1 := h1
    have y2 := (show Blk W (w.heap.size + 1 + 1) #[.bool true] 4 from h2)
    have hB2 := hB
    have hK2 := hK
    have e0 : (W.putObj D (.deferred none)).cell? ⟨w.heap.size + 1, 0, none⟩ = some (.int .i64 q) := (World.cell?_of_block (w := W) (World.putObj_heap_other (by dsimp only; omega))).trans (y1.cell 0)
    have e1 : (W.putObj D (.deferred none)).cell? ⟨w.heap.size + 1, 1, none⟩ = some (.int .i64 (wd s q : Nat)) := (World.cell?_of_block (w := W) (World.putObj_heap_other (by dsimp only; omega))).trans (y1.cell 1)
    have e2 : (W.putObj D (.deferred none)).cell? ⟨w.heap.size + 1, 2, none⟩ = some (.int .i32 (rn s q : Nat)) := (World.cell?_of_block (w := W) (World.putObj_heap_other (by dsimp only; omega))).trans (y1.cell 2)
    have e3 : (W.putObj D (.deferred none)).cell? ⟨w.heap.size + 1, 3, none⟩ = some (.bool (bk s q)) := (World.cell?_of_block (w := W) (World.putObj_heap_other (by dsimp only; omega))).trans (y1.cell 3)
    have e4 : (W.putObj D (.deferred none)).cell? ⟨w.heap.size + 1 + 1, 0, none⟩ = some (.bool true) := (World.cell?_of_block (w := W) (World.putObj_heap_other (by dsimp only; omega))).trans (y2.cell 0)
    refine ⟨by simp, .inl ⟨_, _, rfl, run_takeDeferred (w := W) hK2, ?_⟩⟩
    refine ⟨.tuple #[.agg #[.int .i64 q, .int .i64 (wd s q : Nat), .int .i32 (rn s q : Nat), .bool (bk s q)], .bool true], ?_, by rw [HN.out]; try rfl, hB2.trans (belowK_b (w := w) (Nat.le_refl _) W D _ _ (by omega) hK2 rfl rfl)⟩
    simp [results, Tryd.f70, go_sem, e0, e1, e2, e3, e4]

theorem nth_any (s : ByteArray) (k : Nat) (hs : s.size ≤ 9223372036854775807) (hk : k ≤ 9223372036854775807) (w : World) :
    Calls Tryd.prog 70 #[.string s, .int .i64 (k : Int)] w fun e w' => e = .returned (nthR s k) ∧ Below w.heap.size w w' := callsIn_wide.1 (nth_in s k hs hk w)

/-- The text of the first n pieces ends here. -/
def cutN (s : ByteArray) (n : Int) : Nat := (ends s).getD (min n.toNat ((ends s).length - 1)) 0
theorem ends_len (s : ByteArray) : (ends s).length = (posns s).length + 1 := by simp [ends]
theorem cutN_low (s : ByteArray) (n : Int) (h : n ≤ 0) : cutN s n = 0 := by
  unfold cutN
  rw [show n.toNat = 0 by omega, Nat.zero_min]
  unfold ends
  by_cases h0 : 0 < s.size
  · rw [posns_G, posG_cons s 0 h0]; rfl
  · have hz : s.size = 0 := by omega
    rw [posns_G, posG_end s 0 (by omega)]; simp [hz]
theorem cutN_in (s : ByteArray) (n : Nat) (p : Nat) (h : (posns s)[n]? = some p) : cutN s n = p := by
  have hl : n < (posns s).length := by
    rcases Nat.lt_or_ge n (posns s).length with h' | h'
    · exact h'
    · rw [List.getElem?_eq_none h'] at h; cases h
  unfold cutN
  rw [ends_len, show min ((n : Int).toNat) ((posns s).length + 1 - 1) = n by omega, List.getD_eq_getElem?_getD]
  unfold ends
  rw [List.getElem?_append_left hl, h]; rfl
theorem cutN_out (s : ByteArray) (n : Nat) (h : (posns s).length ≤ n) : cutN s n = s.size := by
  unfold cutN
  rw [ends_len, show min ((n : Int).toNat) ((posns s).length + 1 - 1) = (posns s).length by omega, List.getD_eq_getElem?_getD]
  unfold ends
  rw [List.getElem?_append_right (Nat.le_refl _)]; simp
theorem ext_none (s : ByteArray) : s.extract 0 0 = ByteArray.empty := by
  apply ByteArray.ext; simp
theorem ext_full (s : ByteArray) : s.extract 0 s.size = s := by simp
theorem ext_over (s : ByteArray) : s.extract s.size s.size = ByteArray.empty := by
  apply ByteArray.ext; simp

set_option maxHeartbeats 1000000 in
theorem cut_any (s : ByteArray) (n : Int) (hs : s.size ≤ 281474976710656) (hn : n ≤ 9223372036854775807) (w : World) :
    Calls Tryd.prog 45 #[.string s, .int .i64 n] w fun e w' => e = .returned (.tuple #[.string (s.extract 0 (cutN s n)), .string (s.extract (cutN s n) s.size)]) ∧ Below w.heap.size w w' := by
  by_cases h0 : n ≤ 0
  · rw [cutN_low s n h0, ext_none, ext_full]
    go_enter Tryd.func45, Tryd.ntmps45
    go_wp2
    go_ret2
    exact ⟨rfl, Below.refl _ _⟩
  · obtain ⟨k, rfl⟩ := Int.eq_ofNat_of_zero_le (show 0 ≤ n by omega)
    have cN := nth_any s k (by omega) (by omega)
    rcases Nat.lt_or_ge k (posns s).length with hk | hk
    · obtain ⟨p, hp⟩ : ∃ p, (posns s)[k]? = some p := ⟨_, List.getElem?_eq_getElem hk⟩
      have hps := (posG_ge s 0 p (List.mem_of_getElem? hp)).2
      rw [nthR_yes hp] at cN
      rw [cutN_in s k p hp]
      simp only [pcC] at cN
      clear hp hk
      have f2 : (0 : Int) ≤ (p : Int) := by omega
      have f4 : (p : Int) ≤ (s.size : Int) := by omega
      go_enter Tryd.func45, Tryd.ntmps45
      go_wp2_with (first | (go_at_call 70; refine (cN _).mono ?_; rintro e w1 ⟨rfl, hb1⟩))
      go_quiet (fail)
      go_wp2
      go_ret2
      exact ⟨rfl, below_drewN (hb1.alloc hb1.size _) _⟩
    · rw [nthR_no hk] at cN
      rw [cutN_out s k hk, ext_full, ext_over]
      simp only [zP] at cN
      go_enter Tryd.func45, Tryd.ntmps45
      go_wp2_with (first | (go_at_call 70; refine (cN _).mono ?_; rintro e w1 ⟨rfl, hb1⟩))
      go_ret2
      exact ⟨rfl, hb1.alloc hb1.size _⟩

theorem cutN_get (s : ByteArray) (n : Int) : (ends s)[min n.toNat (posns s).length]? = some (cutN s n) := by
  unfold cutN
  have h := ends_len s
  rw [h, show (posns s).length + 1 - 1 = (posns s).length by omega, List.getD_eq_getElem?_getD, List.getElem?_eq_getElem (by omega)]
  rfl
theorem cutN_le (s : ByteArray) (n : Int) : cutN s n ≤ s.size := by
  have h := List.mem_of_getElem? (cutN_get s n)
  rcases (mem_ends s _).1 h with h | h
  · have := (posG_ge s 0 _ h).2; omega
  · omega

end Go.Proofs.YtjccoiephdopkaaDoor.SQ
