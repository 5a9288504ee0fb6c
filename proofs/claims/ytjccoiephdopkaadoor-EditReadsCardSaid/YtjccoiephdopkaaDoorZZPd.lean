/- Layer 3: the document's Pieces: a text's pieces as Go's own range tells them. -/
import Derived.Test.YtjccoiephdopkaaDoorZZR3
import Derived.Test.YtjccoiephdopkaaDoorBd
namespace Go.Proofs.YtjccoiephdopkaaDoor.SZ
set_option linter.unusedVariables false
set_option linter.unusedSimpArgs false
open Go Go.RowKit Go.Shelf
set_option maxRecDepth 100000

/-- Cells of four each. -/
def q4 (l : List (Nat × Nat × Nat × Bool)) : List Value := l.flatMap fun x => [.int .i64 (x.1 : Nat), .int .i64 (x.2.1 : Nat), .int .i32 (x.2.2.1 : Nat), .bool x.2.2.2]
theorem q4_app (a b : List (Nat × Nat × Nat × Bool)) : q4 (a ++ b) = q4 a ++ q4 b := by simp [q4]
theorem q4_one (i w r : Nat) (b : Bool) : q4 [(i, w, r, b)] = [.int .i64 (i : Nat), .int .i64 (w : Nat), .int .i32 (r : Nat), .bool b] := by simp [q4]
theorem q4_len (l : List (Nat × Nat × Nat × Bool)) : (q4 l).length = l.length * 4 := by
  induction l with
  | nil => rfl
  | cons x l ih => simp only [q4, List.flatMap_cons, List.length_append, List.length_cons, List.length_nil] at ih ⊢; omega
theorem q4_set1 (a b : List (Nat × Nat × Nat × Bool)) (i w r : Nat) (c : Bool) (v : Nat) : (q4 (a ++ (i, w, r, c) :: b)).set (a.length * 4 + 1) (.int .i64 v) = q4 (a ++ (i, v, r, c) :: b) := by
  rw [show (i, w, r, c) :: b = [(i, w, r, c)] ++ b from rfl, show (i, v, r, c) :: b = [(i, v, r, c)] ++ b from rfl]
  rw [q4_app, q4_app, q4_app, q4_app, q4_one, q4_one, List.set_append_right _ _ (by rw [q4_len]; omega), q4_len, show a.length * 4 + 1 - a.length * 4 = 1 by omega]
  rfl
theorem q4_set3 (a b : List (Nat × Nat × Nat × Bool)) (i w r : Nat) (c d : Bool) : (q4 (a ++ (i, w, r, c) :: b)).set (a.length * 4 + 3) (.bool d) = q4 (a ++ (i, w, r, d) :: b) := by
  rw [show (i, w, r, c) :: b = [(i, w, r, c)] ++ b from rfl, show (i, w, r, d) :: b = [(i, w, r, d)] ++ b from rfl]
  rw [q4_app, q4_app, q4_app, q4_app, q4_one, q4_one, List.set_append_right _ _ (by rw [q4_len]; omega), q4_len, show a.length * 4 + 3 - a.length * 4 = 3 by omega]
  rfl
theorem q4_at (a b : List (Nat × Nat × Nat × Bool)) (i w r : Nat) (c : Bool) {e : TypeId} {base g cap n : Nat} {W : World} (h : W.ownsRow base e 4 (.slice (some ⟨g, 0, none⟩) n cap) n (q4 (a ++ (i, w, r, c) :: b))) (hn : a.length + 1 + b.length = n) :
    W.cell? ⟨g, a.length * 4, none⟩ = some (.int .i64 i) ∧ W.cell? ⟨g, a.length * 4 + 1, none⟩ = some (.int .i64 w) ∧ W.cell? ⟨g, a.length * 4 + 2, none⟩ = some (.int .i32 r) ∧ W.cell? ⟨g, a.length * 4 + 3, none⟩ = some (.bool c) := by
  have hc := fun j (hj : j < n * 4) => h.cellAt j hj
  have hq : q4 (a ++ (i, w, r, c) :: b) = q4 a ++ ([.int .i64 (i : Nat), .int .i64 (w : Nat), .int .i32 (r : Nat), .bool c] ++ q4 b) := by
    rw [show (i, w, r, c) :: b = [(i, w, r, c)] ++ b from rfl, q4_app, q4_app, q4_one]
  have hl := q4_len a
  refine ⟨?_, ?_, ?_, ?_⟩
  · rw [hc _ (by omega), hq, List.getElem?_append_right (by omega), show a.length * 4 - (q4 a).length = 0 by omega]; rfl
  · rw [hc _ (by omega), hq, List.getElem?_append_right (by omega), show a.length * 4 + 1 - (q4 a).length = 1 by omega]; rfl
  · rw [hc _ (by omega), hq, List.getElem?_append_right (by omega), show a.length * 4 + 2 - (q4 a).length = 2 by omega]; rfl
  · rw [hc _ (by omega), hq, List.getElem?_append_right (by omega), show a.length * 4 + 3 - (q4 a).length = 3 by omega]; rfl

def pHalf (s : ByteArray) (i : Nat) : Nat × Nat × Nat × Bool := (i, wd s i, rn s i, false)
def pFull (s : ByteArray) (i : Nat) : Nat × Nat × Nat × Bool := (i, wd s i, rn s i, bk s i)
theorem q4_pcs (s : ByteArray) (l : List Nat) : q4 (l.map (pFull s)) = pcs s l := by
  simp only [q4, pcs, List.flatMap_map]; rfl

theorem iter_not_row {W : World} {k : Nat} {t : ByteArray} {p : Nat} (h : W.heap[k]? = some (.stringIter t p)) {base size n : Nat} {e : TypeId} {v : Value} {xs : List Value} (hr : W.ownsRow base e size v n xs) : some k ≠ v.ownBlock := by
  rcases hr.2 with ⟨rfl, _⟩ | ⟨g, cap, cur, rfl, _, hgb, _⟩
  · simp [Value.ownBlock]
  · intro e'
    obtain rfl : k = g := by simpa [Value.ownBlock] using e'
    rw [h] at hgb; cases hgb

def PdRel (s : ByteArray) (w : World) (it : Nat) (l : Value) (wr : World) : Prop :=
  ∃ (pre : List Nat) (pos : Nat), posns s = pre ++ posG s pos ∧ wr.heap[it]? = some (.stringIter s pos) ∧ Below w.heap.size w wr ∧
    ((pre = [] ∧ pos = 0 ∧ l = .slice none 0 0) ∨
      ∃ q x, pre = q ++ [x] ∧ x < s.size ∧ pos = x + wd s x ∧ wr.ownsRow w.heap.size 109 4 l (q.length + 1) (q4 (q.map (pHalf s) ++ [(x, 0, rn s x, false)])))
def PdRel2 (s : ByteArray) (n : Nat) (w : World) (g cap : Nat) (i : Value) (wr : World) : Prop :=
  ∃ k : Nat, i = .int .i64 k ∧ k ≤ n ∧ wr.ownsRow w.heap.size 109 4 (.slice (some ⟨g, 0, none⟩) n cap) n (q4 (((posns s).take k).map (pFull s) ++ ((posns s).drop k).map (pHalf s))) ∧ Below w.heap.size w wr

def PdPost (s : ByteArray) (w : World) (e : Ending) (w' : World) : Prop :=
  ∃ v, e = .returned v ∧ w'.ownsRow w.heap.size 109 4 v (posns s).length (pcs s (posns s)) ∧ Below w.heap.size w w'

theorem infoD : (Tryd.prog.info? 109).map (fun i => (i.zero, i.size, i.bytes)) = some (some (.agg #[.int .i64 0, .int .i64 0, .int .i32 0, .bool false]), 4, 24) := by kernel_rfl

set_option maxHeartbeats 4000000 in
theorem piecesD_any (s : ByteArray) (hs : s.size ≤ 17179869184) (w : World) : Calls Tryd.prog 61 #[.string s] w (PdPost s w) := by
  obtain ⟨i0, hi, hz0, hz1, hz2⟩ := info_parts infoD
  go_enter Tryd.func61, Tryd.ntmps61
  go_wp2
  go_loopw [3] (fun l wr => PdRel s w w.heap.size l wr) (fun _ wr => s.size - wr.iterPos w.heap.size)
  case atStart => exact ⟨[], 0, by simp [posns_G], World.iter_heap w s 0, (Below.refl _ _).alloc (Nat.le_refl _) _, .inl ⟨rfl, rfl, rfl⟩⟩
  case round =>
    obtain ⟨pre, pos, hpp, hit, hB, hd⟩ := hrel
    by_cases hps : pos < s.size
    · have hnx : ∀ ty, (Instr.next (.pointer (some ⟨w.heap.size, 0, none⟩)) true ty).run Tryd.prog wr = _ := fun ty => Lib.run_next_any_at wr w.heap.size s pos ty hit hps
      rw [dec_eq s pos hps] at hnx
      have hit1 := Lib.iterAt_heap wr w.heap.size s pos (pos + wd s pos) hit
      have hB1 : Below w.heap.size w (wr.iterAt w.heap.size s (pos + wd s pos)) := Lib.below_iterAt hB (Nat.le_refl _) s _
      have hmeas : s.size - (pos + wd s pos) < s.size - wr.iterPos w.heap.size := by
        have := wd_pos s pos
        simp only [World.iterPos, hit]; omega
      have hlen : pre.length < s.size := by
        have h1 := posns_len s
        rw [hpp, posG_cons s pos hps] at h1
        simp at h1; omega
      have hpp2 : posns s = (pre ++ [pos]) ++ posG s (pos + wd s pos) := by rw [hpp, posG_cons s pos hps]; simp
      have hgi := grown_iterAt wr w.heap.size s (pos + wd s pos)
      rcases hd with ⟨rfl, rfl, rfl⟩ | ⟨q, x, rfl, hx, hpx, hown⟩
      · obtain ⟨P, hP⟩ : ∃ P, wr.iterAt w.heap.size s (0 + wd s 0) = P := ⟨_, rfl⟩
        rw [hP] at hnx hit1 hB1
        have HM := Lib.hid hmeas
        have HP := Lib.hid hpp2
        have hown : P.ownsRow w.heap.size 109 4 (.slice none 0 0) 0 [] := World.ownsRow_nil _ _ _ _
        clear hP hpp hpp2 hmeas hit hB hgi
        go_wp2_with (at_builtin; refine wpList_append_own _ rfl _ _ 106 rfl w.heap.size 109 i0 (.agg #[.int .i64 0, .int .i64 0, .int .i32 0, .bool false]) 4 24 Tryd.underlying106 hi hz0 hz1 hz2 rfl (by decide) (.slice none 0 0) _ _ rfl (hown.alloc _) ⟨P.heap.size, 0, none⟩ 1 1 [.int .i64 0, .int .i64 0, .int .i32 (rn s 0 : Nat), .bool false] rfl rfl (World.news_of_block (cs := #[.int .i64 0, .int .i64 0, .int .i32 (rn s 0 : Nat), .bool false]) (t := 109) (fr := (0, 0)) (World.alloc_heap_new P _)) (fun x hx => by simp at hx; rcases hx with rfl | rfl | rfl | rfl <;> rfl) (by unfold maxLen; omega) (by omega) (by have := hB1.size; simp; omega) ?_; intro v' w2 hown' hgrow _; obtain ⟨g', cap', rfl⟩ := ownsRow_succ hown')
        go_roundw
        case rel =>
          refine ⟨[0], 0 + wd s 0, HP.out, (hgrow.block _ (by have := (Array.getElem?_eq_some_iff.1 hit1).1; simp; omega) (by simp [Value.ownBlock])).trans ((Below.heap_alloc P _ _ (Array.getElem?_eq_some_iff.1 hit1).1).trans hit1), (hB1.alloc hB1.size _).grown hgrow (by have := hB1.size; simp; omega) (fun j hj => by simp [Value.ownBlock] at hj), .inr ⟨[], 0, rfl, hps, rfl, ?_⟩⟩
          rw [List.map_nil, List.nil_append, q4_one]
          exact hown'
        case measure => simp only [World.iterPos, (hgrow.block _ (by have := (Array.getElem?_eq_some_iff.1 hit1).1; simp; omega) (by simp [Value.ownBlock])).trans ((Below.heap_alloc P _ _ (Array.getElem?_eq_some_iff.1 hit1).1).trans hit1)]; exact HM.out
      · obtain ⟨P, hP⟩ : ∃ P, wr.iterAt w.heap.size s (pos + wd s pos) = P := ⟨_, rfl⟩
        have ownP := hown.kept hgi (.inr (fun e => iter_not_row hit hown e.symm))
        rw [hP] at hnx hit1 hB1 ownP
        have HM := Lib.hid hmeas
        have HP := Lib.hid hpp2
        obtain ⟨m, hm⟩ : ∃ m, q.length = m := ⟨_, rfl⟩
        obtain ⟨o, cap, rfl, ho⟩ := own_slice ownP
        obtain ⟨g, rfl⟩ := ho (by omega)
        obtain ⟨A, hA⟩ : ∃ A, q.map (pHalf s) = A := ⟨_, rfl⟩
        have hAm : A.length = m := by rw [← hA, List.length_map, hm]
        rw [hA, hm] at ownP
        rw [hm]
        obtain ⟨W1, hW1⟩ : ∃ W1, wd s x = W1 := ⟨_, rfl⟩
        rw [hW1] at hpx
        have hsub : (pos : Int) - (x : Int) = (W1 : Int) := by omega
        obtain ⟨z0, z1, z2, z3⟩ := q4_at A [] x 0 (rn s x) false ownP (by simp [hAm])
        rw [hAm] at z0 z1 z2 z3
        have zf := ownP.frozenAt (m * 4 + 1)
        have hg0 : w.heap.size ≤ g := (ownP.lt g rfl).1
        have hgne : g ≠ w.heap.size := fun e => iter_not_row hit1 ownP (by rw [← e]; rfl)
        obtain ⟨st, sg⟩ := ownP.stored (m * 4 + 1) (.int .i64 W1)
        rw [← hAm, q4_set1, hAm] at st
        have hit2 := (Below.heap_setCell P ⟨g, m * 4 + 1, none⟩ (.int .i64 W1) w.heap.size (by dsimp only; omega)).trans hit1
        have hB2 := hB1.setCell (p := ⟨g, m * 4 + 1, none⟩) hg0 (.int .i64 W1)
        have hmb : m + 1 ≤ 17179869184 := by rw [List.length_append, hm] at hlen; simp at hlen; omega
        have hmj : ((m + 1 : Nat) : Int) - 1 = (m : Int) := by omega
        have hmi : (m : Int) < ((m + 1 : Nat) : Int) := by omega
        have HA := Lib.hid hA
        have HAm := Lib.hid hAm
        have HW := Lib.hid hW1
        have Hm := Lib.hid hm
        have HX := Lib.hid hpx
        clear hP hpp hpp2 hmeas hit hB hgi hown hA hAm hW1 hm hpx hlen
        go_wp2_with (at_builtin; refine wpList_append_own _ rfl _ _ 106 rfl w.heap.size 109 i0 (.agg #[.int .i64 0, .int .i64 0, .int .i32 0, .bool false]) 4 24 Tryd.underlying106 hi hz0 hz1 hz2 rfl (by decide) (.slice (some ⟨g, 0, none⟩) (m + 1) cap) _ _ rfl (st.alloc _) ⟨P.heap.size, 0, none⟩ 1 1 [.int .i64 pos, .int .i64 0, .int .i32 (rn s pos : Nat), .bool false] rfl rfl (World.news_of_block (cs := #[.int .i64 pos, .int .i64 0, .int .i32 (rn s pos : Nat), .bool false]) (t := 109) (fr := (0, 0)) (by have := World.alloc_heap_new (P.setCell ⟨g, m * 4 + 1, none⟩ (.int .i64 W1)) (.cells #[.int .i64 pos, .int .i64 0, .int .i32 (rn s pos : Nat), .bool false] 109); rw [show (P.setCell ⟨g, m * 4 + 1, none⟩ (.int .i64 W1)).heap.size = P.heap.size by simp] at this; exact this)) (fun x hx => by simp at hx; rcases hx with rfl | rfl | rfl | rfl <;> rfl) (by unfold maxLen; omega) (by omega) (by have := hB1.size; simp; omega) ?_; intro v' w2 hown' hgrow _; obtain ⟨g', cap', rfl⟩ := ownsRow_succ hown')
        go_roundw
        case rel =>
          have hi3 := (hgrow.block w.heap.size (by have := (Array.getElem?_eq_some_iff.1 hit2).1; simp at this ⊢; omega) (by simp only [Value.ownBlock, ne_eq, Option.some.injEq]; omega)).trans ((Below.heap_alloc _ _ _ (Array.getElem?_eq_some_iff.1 hit2).1).trans hit2)
          refine ⟨(q ++ [x]) ++ [pos], pos + wd s pos, HP.out, hi3, (hB2.alloc hB2.size _).grown hgrow (by have := hB2.size; simp at this ⊢; omega) (fun j hj => (st.lt j hj).1), .inr ⟨q ++ [x], pos, rfl, hps, rfl, ?_⟩⟩
          rw [List.map_append, HA.out, q4_app, q4_one, List.length_append, Hm.out]
          have e : [x].map (pHalf s) = [(x, W1, rn s x, false)] := by simp [pHalf, HW.out]
          rw [e]
          exact hown'
        case measure =>
          have hi3 := (hgrow.block w.heap.size (by have := (Array.getElem?_eq_some_iff.1 hit2).1; simp at this ⊢; omega) (by simp only [Value.ownBlock, ne_eq, Option.some.injEq]; omega)).trans ((Below.heap_alloc _ _ _ (Array.getElem?_eq_some_iff.1 hit2).1).trans hit2)
          simp only [World.iterPos, hi3]; exact HM.out
    · have hsz : s.size ≤ pos := by omega
      have hnx : ∀ ty, (Instr.next (.pointer (some ⟨w.heap.size, 0, none⟩)) true ty).run Tryd.prog wr = _ := fun ty => Lib.run_next_end_at wr w.heap.size s pos ty hit hps
      rw [posG_end s pos hsz, List.append_nil] at hpp
      rcases hd with ⟨rfl, rfl, rfl⟩ | ⟨q, x, rfl, hx, hpx, hown⟩
      · have HP := Lib.hid hpp
        clear hpp hit
        go_wp2
        go_loopw [6] (fun i wq => i = .int .i64 0 ∧ wq = wr) (fun _ _ => 0)
        case atStart => exact ⟨rfl, rfl⟩
        case round =>
          obtain ⟨rfl, rfl⟩ := hrel
          go_wp2
          go_ret
          exact ⟨_, rfl, by rw [HP.out]; exact World.ownsRow_nil _ _ _ _, hB⟩
      · obtain ⟨m, hm⟩ : ∃ m, q.length = m := ⟨_, rfl⟩
        obtain ⟨o, cap, rfl, ho⟩ := own_slice hown
        obtain ⟨g, rfl⟩ := ho (by omega)
        obtain ⟨A, hA⟩ : ∃ A, q.map (pHalf s) = A := ⟨_, rfl⟩
        have hAm : A.length = m := by rw [← hA, List.length_map, hm]
        have hn1 : (posns s).length = m + 1 := by rw [hpp, List.length_append, hm]; rfl
        rw [hA, hm] at hown
        rw [hm]
        obtain ⟨W1, hW1⟩ : ∃ W1, wd s x = W1 := ⟨_, rfl⟩
        have hwf := wd_fits s x hx
        rw [hW1] at hpx hwf
        have hsub : (s.size : Int) - (x : Int) = (W1 : Int) := by omega
        obtain ⟨z0, z1, z2, z3⟩ := q4_at A [] x 0 (rn s x) false hown (by simp [hAm])
        rw [hAm] at z0 z1 z2 z3
        have zf := hown.frozenAt (m * 4 + 1)
        have hg0 : w.heap.size ≤ g := (hown.lt g rfl).1
        obtain ⟨st, sg⟩ := hown.stored (m * 4 + 1) (.int .i64 W1)
        rw [← hAm, q4_set1, hAm] at st
        have hB2 := hB.setCell (p := ⟨g, m * 4 + 1, none⟩) hg0 (.int .i64 W1)
        have hlen := posns_len s
        rw [hn1] at hlen
        have hmb : m + 1 ≤ 17179869184 := by omega
        have hmj : ((m + 1 : Nat) : Int) - 1 = (m : Int) := by omega
        have hmi : (m : Int) < ((m + 1 : Nat) : Int) := by omega
        have hst : (posns s).map (pHalf s) = A ++ [(x, W1, rn s x, false)] := by rw [hpp, List.map_append, hA]; simp [pHalf, hW1]
        rw [← hst] at st
        have HN := Lib.hid hn1
        clear hit hown hA hAm hW1 hm hpx hwf hlen hst hpp hn1
        go_wp2
        go_loopw [6] (fun i wq => PdRel2 s (m + 1) w g cap i wq) (fun i _ => m + 1 - (intOf i).toNat)
        case atStart => exact ⟨0, rfl, by omega, by rw [List.take_zero, List.drop_zero]; exact st, hB2⟩
        case round =>
          clear st sg hB2 hB z0 z1 z2 z3 zf hsub
          obtain ⟨k, rfl, hk, hv, hB⟩ := hrel
          by_cases hlt : k < m + 1
          · have hlti : (k : Int) < ((m + 1 : Nat) : Int) := by omega
            have hkl : k < (posns s).length := by rw [HN.out]; exact hlt
            obtain ⟨p, hpk⟩ : ∃ p, (posns s)[k]? = some p := ⟨_, List.getElem?_eq_getElem hkl⟩
            have hps := (posG_ge s 0 p (List.mem_of_getElem? hpk)).2
            have hdr : (posns s).drop k = p :: (posns s).drop (k + 1) := by
              have := List.getElem?_eq_some_iff.1 hpk
              obtain ⟨h1, h2⟩ := this
              rw [← h2, List.getElem_cons_drop]
            have htk := take_next hpk
            obtain ⟨a, ha⟩ : ∃ a, ((posns s).take k).map (pFull s) = a := ⟨_, rfl⟩
            obtain ⟨b, hb⟩ : ∃ b, ((posns s).drop (k + 1)).map (pHalf s) = b := ⟨_, rfl⟩
            have hal : a.length = k := by rw [← ha, List.length_map, List.length_take]; omega
            have hbl : b.length = m + 1 - (k + 1) := by rw [← hb, List.length_map, List.length_drop, HN.out]
            have hrow : q4 (((posns s).take k).map (pFull s) ++ ((posns s).drop k).map (pHalf s)) = q4 (a ++ (p, wd s p, rn s p, false) :: b) := by rw [hdr, List.map_cons, ha, hb]; rfl
            have hrow2 : q4 (((posns s).take (k + 1)).map (pFull s) ++ ((posns s).drop (k + 1)).map (pHalf s)) = q4 (a ++ (p, wd s p, rn s p, bk s p) :: b) := by rw [htk, List.map_append, ha, hb]; simp [pFull]
            rw [hrow] at hv
            have HR := Lib.hid hrow2
            obtain ⟨y0, y1, y2, y3⟩ := q4_at a b p (wd s p) (rn s p) false hv (by omega)
            rw [hal] at y0 y1 y2 y3
            have yf := hv.frozenAt (k * 4 + 3)
            have hg0 : w.heap.size ≤ g := (hv.lt g rfl).1
            obtain ⟨st, sg⟩ := hv.stored (k * 4 + 3) (.bool (bk s p))
            rw [← hal, q4_set3, hal, ← HR.out] at st
            have hB2 := hB.setCell (p := ⟨g, k * 4 + 3, none⟩) hg0 (.bool (bk s p))
            have hwz := wid_rn s p hps
            clear hrow hrow2 HR hdr htk ha hb hal hbl hv hB sg hpk hkl
            cases hbk : bk s p with
            | true =>
              obtain ⟨e1, e2⟩ := bk_rn s p hbk
              rw [e1] at y2
              rw [e2] at y1
              rw [hbk] at st hB2
              clear hwz hbk
              go_wp2
              go_roundw
              case rel => exact ⟨k + 1, by go_num, by omega, st, hB2⟩
              case measure => simp [intOf]; omega
            | false =>
              have hw2 := hwz hbk
              rw [hbk] at st hB2
              by_cases h5 : rn s p = 65533
              · have h3 : wd s p = 3 := by rw [← hw2, h5]; rfl
                rw [h5] at y2
                rw [h3] at y1
                clear hwz hbk hw2
                go_wp2
                go_roundw
                case rel => exact ⟨k + 1, by go_num, by omega, st, hB2⟩
                case measure => simp [intOf]; omega
              · have h5b : ((rn s p : Int) == 65533) = false := by rw [beq_eq_false_iff_ne]; omega
                clear hwz hbk hw2
                go_wp2
                go_roundw
                case rel => exact ⟨k + 1, by go_num, by omega, st, hB2⟩
                case measure => simp [intOf]; omega
          · have hkm : k = m + 1 := by omega
            subst hkm
            rw [← HN.out, List.take_length, List.drop_length, List.map_nil, List.append_nil, q4_pcs, HN.out] at hv
            go_wp2
            go_ret
            exact ⟨_, rfl, by rw [HN.out]; exact hv, hB⟩
end Go.Proofs.YtjccoiephdopkaaDoor.SZ
