/- Stage 27: quote of the program. -/
import Derived.Test.YtjccoiephdopkaaDoorQo1
namespace Go.Proofs.YtjccoiephdopkaaDoor
set_option linter.unusedVariables false
set_option linter.unusedSimpArgs false
open Go Go.RowKit Go.Shelf
set_option maxRecDepth 100000

def QoRel (s : ByteArray) (w : World) (it : Nat) (l : Value) (wr : World) : Prop :=
  ∃ (pre : List Nat) (pos : Nat), posns s = pre ++ posG s pos ∧ wr.heap[it]? = some (.stringIter s pos) ∧ Below w.heap.size w wr ∧ w.heap.size ≤ it ∧ l.ownBlock ≠ some it ∧
    wr.ownsRow w.heap.size 5 1 l (qL s pre).length (bC (qL s pre)) ∧ (∀ i ∈ pre, i < s.size) ∧ pre.length ≤ s.size
theorem u8_of {r : Nat} (h : r < 256) : ((UInt8.ofNat r).toNat : Int) = (r : Int) := by
  rw [UInt8.toNat_ofNat', Nat.mod_eq_of_lt h]
theorem itr_not_row {W : World} {k : Nat} {t : ByteArray} {p : Nat} (h : W.heap[k]? = some (.stringIter t p)) {base size n : Nat} {e : TypeId} {v : Value} {xs : List Value} (hr : W.ownsRow base e size v n xs) : v.ownBlock ≠ some k := by
  rcases hr.2 with ⟨rfl, _⟩ | ⟨g, cap, cur, rfl, _, hgb, _⟩
  · simp [Value.ownBlock]
  · intro e'
    obtain rfl : g = k := by simpa [Value.ownBlock] using e'
    rw [h] at hgb; cases hgb
/-- A piece more: behind an append. -/
theorem qo_next {s : ByteArray} {w X w2 : World} {it pos n : Nat} {pre : List Nat} {Q M : List UInt8} {v v' : Value} {xs : List Value}
    (h : posns s = (pre ++ [pos]) ++ posG s (pos + wd s pos) ∧ (∀ i ∈ pre, i < s.size) ∧ pre.length < s.size) (hps : pos < s.size) (hQ : qL s pre = Q ∧ qL s (pre ++ [pos]) = Q ++ qP s pos) (hM : qP s pos = M)
    (hit : X.heap[it]? = some (.stringIter s (pos + wd s pos))) (hB : Below w.heap.size w X) (hle : w.heap.size ≤ it)
    (hown : X.ownsRow w.heap.size 5 1 v n xs) (hown' : w2.ownsRow w.heap.size 5 1 v' (Q.length + M.length) (bC Q ++ bC M)) (hgrow : X.grownBy w2 v.ownBlock) :
    QoRel s w it v' w2 ∧ w2.heap[it]? = some (.stringIter s (pos + wd s pos)) := by
  have hit2 : w2.heap[it]? = some (.stringIter s (pos + wd s pos)) := (hgrow.block it (Array.getElem?_eq_some_iff.1 hit).1 (fun e => itr_not_row hit hown e.symm)).trans hit
  refine ⟨⟨pre ++ [pos], pos + wd s pos, h.1, hit2, ?_, hle, itr_not_row hit2 hown', ?_, ?_, by simp; omega⟩, hit2⟩
  · exact hB.grown hgrow hB.size (fun j hj => (hown.lt j hj).1)
  · rw [hQ.2, hM, List.length_append, bC_app]; exact hown'
  · intro i hi
    rcases List.mem_append.1 hi with hi | hi
    · exact h.2.1 i hi
    · rw [List.mem_singleton.1 hi]; exact hps
theorem below_cell {n : Nat} {w w' : World} {p : Addr} {u : Value} (hB : Below n w w') (hn : w.heap.size ≤ n) (h : w.cell? p = some u) : w'.cell? p = some u := by
  have hl : p.block < w.heap.size := by
    refine Decidable.byContradiction fun hh => ?_
    unfold World.cell? at h
    rw [Array.getElem?_eq_none (by omega)] at h
    cases h
  rw [hB.cell (by omega)]; exact h
/-- A piece that is U+FFFD: of one byte, if and only if it is broken. -/
theorem lone_bk (s : ByteArray) (i : Nat) (hi : i < s.size) (h : rn s i = 65533) : bk s i = decide (wd s i = 1) := by
  cases hk : bk s i with
  | true => rw [decide_eq_true (bk_rn s i hk).2]
  | false =>
    have := wid_rn s i hi hk
    rw [h] at this
    have e : widZ ((65533 : Nat) : Int) = 3 := by decide
    rw [decide_eq_false]
    omega
set_option maxHeartbeats 4000000 in
theorem quote_any (s : ByteArray) (hs : s.size ≤ 1099511627776) (w : World) (h16 : w.cell? ⟨2, 15, none⟩ = some (.int .u8 4)) :
    Calls Tryd.prog 58 #[.string s] w fun e w' => e = .returned (.string (quoB s)) ∧ Below w.heap.size w w' := by
  obtain ⟨i0, hi, hz0, hz1, hz2⟩ := info_parts infoZ8
  go_enter Tryd.func58, Tryd.ntmps58
  go_wp2
  go_loopw [3] (fun l wr => QoRel s w (w.heap.size + 1) l wr) (fun _ wr => s.size - wr.iterPos (w.heap.size + 1))
  case atStart =>
    refine ⟨[], 0, by simp [posns_G], ?_, (((Below.refl w.heap.size w).alloc (Nat.le_refl _) _).alloc (by simp) _), by omega, by simp [Value.ownBlock], ?_, by simp, by simp⟩
    · have := World.iter_heap (w.alloc (.cells #[.int .u8 34] 5)) s 0
      simpa using this
    · exact (World.ownsRow_lit (base := w.heap.size) (e := 5) (size := 1) w #[.int .u8 34] 1 (Nat.le_refl _) (by unfold maxLen; omega) (by simp)).alloc _
  case round =>
    obtain ⟨pre, pos, hpp, hit, hB, hle, hne, hown, hpre, hpl⟩ := hrel
    by_cases hps : pos < s.size
    · have hnx : ∀ ty, (Instr.next (.pointer (some ⟨w.heap.size + 1, 0, none⟩)) true ty).run Tryd.prog wr = _ := fun ty => Lib.run_next_any_at wr (w.heap.size + 1) s pos ty hit hps
      rw [dec_eq s pos hps] at hnx
      have hit1 := Lib.iterAt_heap wr (w.heap.size + 1) s pos (pos + wd s pos) hit
      have hB1 : Below w.heap.size w (wr.iterAt (w.heap.size + 1) s (pos + wd s pos)) := Lib.below_iterAt hB (by omega) s _
      have hmeas : s.size - (pos + wd s pos) < s.size - wr.iterPos (w.heap.size + 1) := by
        have := wd_pos s pos
        simp only [World.iterPos, hit]; omega
      have hpp2 : posns s = (pre ++ [pos]) ++ posG s (pos + wd s pos) := by rw [hpp, posG_cons s pos hps]; simp
      have hlen : pre.length < s.size := by
        have h1 := posns_len s
        rw [hpp, posG_cons s pos hps] at h1
        simp at h1; omega
      have hgi := grown_iterAt wr (w.heap.size + 1) s (pos + wd s pos)
      have ownP := hown.kept hgi (.inr (fun e => hne e))
      obtain ⟨P, hP⟩ : ∃ P, wr.iterAt (w.heap.size + 1) s (pos + wd s pos) = P := ⟨_, rfl⟩
      rw [hP] at hnx hit1 hB1 ownP
      have h16P := Lib.hid (below_cell hB1 (Nat.le_refl _) h16)
      have cL := fun W => lone_any s pos hps (by omega) W
      have hlb := lone_bk s pos hps
      have hr0 := rn_lt s pos hps
      have HM := Lib.hid hmeas
      have HP := Lib.hid (And.intro hpp2 (And.intro hpre hlen))
      have hql := qL_len s pre hpre
      have hqn := qL_next s pre pos
      obtain ⟨o, c, rfl, ho⟩ := own_slice ownP
      obtain ⟨Q, hQ⟩ : ∃ Q, qL s pre = Q := ⟨_, rfl⟩
      rw [hQ] at hqn ownP hql ⊢
      have hQl : Q.length ≤ 10995116277761 := by omega
      have HQ := Lib.hid (And.intro hQ hqn)
      obtain ⟨r, hr⟩ : ∃ r, rn s pos = r := ⟨_, rfl⟩
      rw [hr] at hnx hlb hr0
      clear hP hpp hpp2 hmeas hit hB hgi hown hpre hpl hlen hQ hqn hql
      have hcs : r = 34 ∨ r = 92 ∨ (32 ≤ r ∧ r ≤ 126 ∧ r ≠ 34 ∧ r ≠ 92) ∨ (r = 65533 ∧ wd s pos = 1) ∨ (r = 65533 ∧ ¬ wd s pos = 1) ∨ (r < 32 ∧ r ≠ 65533) ∨ (127 ≤ r ∧ r ≠ 65533) := by omega
      rcases hcs with ha | ha | ha | ha | ha | ha | ha
      · subst ha
        have eM : bC [92, 34] = [.int .u8 92, .int .u8 34] := rfl
        have hqM : qP s pos = [92, 34] := by
          unfold qP qR
          rw [hr, if_neg (fun hk => by have := (bk_rn s pos hk).1; omega), if_pos (by omega)]
          rfl
        clear hlb hr0 cL
        go_wp2_with (at_builtin; refine wpList_append_own _ rfl _ _ 46 rfl w.heap.size 5 i0 (.int .u8 0) 1 1 Tryd.underlying46 hi hz0 hz1 hz2 rfl (by decide) (.slice o Q.length c) _ _ rfl (ownP.alloc _) ⟨P.heap.size, 0, none⟩ 2 2 [.int .u8 92, .int .u8 34] rfl rfl (World.news_of_block (cs := #[.int .u8 92, .int .u8 34]) (t := 5) (fr := (0, 0)) (World.alloc_heap_new P _)) (fun x hx => by simp at hx; rcases hx with rfl | rfl <;> rfl) (by unfold maxLen; omega) (by omega) (by have := hB1.size; simp; omega) ?_; intro v' w2 hown' hgrow _)
        have HN := Lib.hid (qo_next (M := [92, 34]) HP.out hps HQ.out hqM ((Below.heap_alloc P _ _ (Array.getElem?_eq_some_iff.1 hit1).1).trans hit1) (hB1.alloc hB1.size _) (by omega) (ownP.alloc _) (by rw [eM]; exact hown') hgrow)
        clear hown' hgrow
        go_roundw
        case rel => exact HN.out.1
        case measure => simp only [World.iterPos, HN.out.2]; exact HM.out
      · subst ha
        have eM : bC [92, 92] = [.int .u8 92, .int .u8 92] := rfl
        have hqM : qP s pos = [92, 92] := by
          unfold qP qR
          rw [hr, if_neg (fun hk => by have := (bk_rn s pos hk).1; omega), if_pos (by omega)]
          rfl
        clear hlb hr0 cL
        go_wp2_with (at_builtin; refine wpList_append_own _ rfl _ _ 46 rfl w.heap.size 5 i0 (.int .u8 0) 1 1 Tryd.underlying46 hi hz0 hz1 hz2 rfl (by decide) (.slice o Q.length c) _ _ rfl (ownP.alloc _) ⟨P.heap.size, 0, none⟩ 2 2 [.int .u8 92, .int .u8 92] rfl rfl (World.news_of_block (cs := #[.int .u8 92, .int .u8 92]) (t := 5) (fr := (0, 0)) (World.alloc_heap_new P _)) (fun x hx => by simp at hx; rcases hx with rfl | rfl <;> rfl) (by unfold maxLen; omega) (by omega) (by have := hB1.size; simp; omega) ?_; intro v' w2 hown' hgrow _)
        have HN := Lib.hid (qo_next (M := [92, 92]) HP.out hps HQ.out hqM ((Below.heap_alloc P _ _ (Array.getElem?_eq_some_iff.1 hit1).1).trans hit1) (hB1.alloc hB1.size _) (by omega) (ownP.alloc _) (by rw [eM]; exact hown') hgrow)
        clear hown' hgrow
        go_roundw
        case rel => exact HN.out.1
        case measure => simp only [World.iterPos, HN.out.2]; exact HM.out
      · have a1 : ¬ (r : Int) = 34 := by omega
        have a2 : ¬ (r : Int) = 92 := by omega
        have a3 : (32 : Int) ≤ (r : Int) := by omega
        have a4 : (r : Int) ≤ 126 := by omega
        have a5 : IntKind.u8.wrap (r : Int) = (r : Int) := by rw [IntKind.wrap_u8]; omega
        have b1 : ¬ r = 34 := by omega
        have b2 : ¬ r = 92 := by omega
        have b3 : 32 ≤ r := by omega
        have b4 : r ≤ 126 := by omega
        have c1 : ((r : Int) == 34) = false := by rw [beq_eq_false_iff_ne]; exact a1
        have c2 : ((r : Int) == 92) = false := by rw [beq_eq_false_iff_ne]; exact a2
        have eM : bC [UInt8.ofNat r] = [.int .u8 (r : Int)] := by
          show [Value.int .u8 _] = _
          rw [u8_of (by omega)]
        have hqM : qP s pos = [UInt8.ofNat r] := by
          unfold qP qR
          rw [hr, if_neg (fun hk => by have := (bk_rn s pos hk).1; omega), if_neg (by omega), if_pos ⟨b3, b4⟩]
        have HA := Lib.hid ha
        clear ha hlb hr0 cL
        go_wp2_with (at_builtin; refine wpList_append_own _ rfl _ _ 46 rfl w.heap.size 5 i0 (.int .u8 0) 1 1 Tryd.underlying46 hi hz0 hz1 hz2 rfl (by decide) (.slice o Q.length c) _ _ rfl (ownP.alloc _) ⟨P.heap.size, 0, none⟩ 1 1 [.int .u8 (r : Int)] rfl rfl (World.news_of_block (cs := #[.int .u8 (r : Int)]) (t := 5) (fr := (0, 0)) (World.alloc_heap_new P _)) (fun x hx => by simp at hx; subst hx; rfl) (by unfold maxLen; omega) (by omega) (by have := hB1.size; simp; omega) ?_; intro v' w2 hown' hgrow _)
        have HN := Lib.hid (qo_next (M := [UInt8.ofNat r]) HP.out hps HQ.out hqM ((Below.heap_alloc P _ _ (Array.getElem?_eq_some_iff.1 hit1).1).trans hit1) (hB1.alloc hB1.size _) (by omega) (ownP.alloc _) (by rw [eM]; exact hown') hgrow)
        clear hown' hgrow
        go_roundw
        case rel => exact HN.out.1
        case measure => simp only [World.iterPos, HN.out.2]; exact HM.out
      · obtain ⟨ha, hw1⟩ := ha
        have hbk := hlb ha
        subst ha
        rw [decide_eq_true hw1] at hbk cL
        obtain ⟨b, hb⟩ : ∃ b, bt s pos = b := ⟨_, rfl⟩
        obtain ⟨x, hx⟩ : ∃ x, b / 16 = x := ⟨_, rfl⟩
        obtain ⟨y, hy⟩ : ∃ y, b % 16 = y := ⟨_, rfl⟩
        have hqM : qP s pos = [92, 120, hxD x, hxD y] := by
          unfold qP
          rw [if_pos hbk, hb, ← hx, ← hy]; rfl
        have hb8 : b < 256 := by rw [← hb]; exact bt_lt s pos
        have hbi : ((s[pos]'hps).toNat : Int) = (b : Int) := by rw [bt_get s pos hps, hb]
        have eM : bC [92, 120, hxD x, hxD y] = [.int .u8 92, .int .u8 120, .int .u8 ((hxD x).toNat : Int), .int .u8 ((hxD y).toNat : Int)] := rfl
        have cD1 := fun W => digit_any x (by omega) W
        have cD2 := fun W => digit_any y (by omega) W
        have hxb := Lib.hid (And.intro hx hy)
        clear hlb hr0 hx hy
        go_wp2_with (go_at_call 76; refine (cL _).mono ?_; rintro e w1 ⟨rfl, hbL⟩)
        refine wp_region_noPanic ?_
        refine wp_region_g (S := untilG [] (fun _ => True)) (by kernel_rfl) ?_
        obtain ⟨X0, hX0⟩ : ∃ Z, w1.drew = Z := ⟨_, rfl⟩
        have U0 : Below w1.heap.size w1 X0 := hX0 ▸ (Below.refl w1.heap.size w1).drew
        have T0 : True := trivial
        rw [hX0]
        clear hX0
        have U1 := hbL.trans (U0.mono hbL.size)
        have own0 := own_below ownP U1
        have h0i := (U1.block _ (Array.getElem?_eq_some_iff.1 hit1).1).trans hit1
        have hB0 := hB1.trans (U1.mono hB1.size)
        have hd1 : (b : Int) / 16 = (x : Int) := by have := hxb.out.1; omega
        have hd2 : bits .and .u8 (b : Int) 15 = (y : Int) := by
          have h := bits_mask .u8 8 (by decide) (fun n h0 h1 => by rw [IntKind.wrap_u8]; omega) 4 (by decide) (b : Int) (by omega) (by omega)
          have e : ((2 : Int) ^ 4 - 1) = 15 := by decide
          have e2 : ((2 : Int) ^ 4) = 16 := by decide
          rw [e, e2] at h
          rw [h]
          have := hxb.out.2
          omega
        refine wpAnyG_take [0, 12, 13] (i := 0) (v := (.slice o Q.length c)) rfl (by kernel_rfl) (by kernel_rfl) (by kernel_rfl) (by kernel_rfl) (by kernel_rfl) (by kernel_rfl) (by kernel_rfl) (by kernel_rfl) (fun _ _ _ h => h) (Or.inl ⟨by rfl, ?hy⟩) T0 ?_
        case hy =>
          intro X hX
          go_simp
        try simp only [Act.put, List.getElem_toArray, List.getElem_cons_zero, List.getElem_cons_succ, List.setIfInBounds_toArray, List.set_cons_zero, List.set_cons_succ]
        refine wpAnyG_take [1, 3, 4, 5, 11, 12, 13] (i := 1) (v := (.string s)) rfl (by kernel_rfl) (by kernel_rfl) (by kernel_rfl) (by kernel_rfl) (by kernel_rfl) (by kernel_rfl) (by kernel_rfl) (by kernel_rfl) (fun _ _ _ h => h) (Or.inl ⟨by rfl, ?hy⟩) T0 ?_
        case hy =>
          intro X hX
          go_simp
        try simp only [Act.put, List.getElem_toArray, List.getElem_cons_zero, List.getElem_cons_succ, List.setIfInBounds_toArray, List.set_cons_zero, List.set_cons_succ]
        refine wpAnyG_take [2, 3, 4, 5, 11, 12, 13] (i := 2) (v := (.int .i64 pos)) rfl (by kernel_rfl) (by kernel_rfl) (by kernel_rfl) (by kernel_rfl) (by kernel_rfl) (by kernel_rfl) (by kernel_rfl) (by kernel_rfl) (fun _ _ _ h => h) (Or.inl ⟨by rfl, ?hy⟩) T0 ?_
        case hy =>
          intro X hX
          go_simp
        try simp only [Act.put, List.getElem_toArray, List.getElem_cons_zero, List.getElem_cons_succ, List.setIfInBounds_toArray, List.set_cons_zero, List.set_cons_succ]
        refine wpAnyG_take [3, 4, 5, 11, 12, 13] (i := 3) (v := (.int .u8 b)) rfl (by kernel_rfl) (by kernel_rfl) (by kernel_rfl) (by kernel_rfl) (by kernel_rfl) (by kernel_rfl) (by kernel_rfl) (by kernel_rfl) (fun _ _ _ h => h) (Or.inl ⟨by rfl, ?hy⟩) T0 ?_
        case hy =>
          intro X hX
          go_simp
        try simp only [Act.put, List.getElem_toArray, List.getElem_cons_zero, List.getElem_cons_succ, List.setIfInBounds_toArray, List.set_cons_zero, List.set_cons_succ]
        refine wpAnyG_take [4, 5, 11, 12, 13] (i := 4) (v := (.int .u8 x)) rfl (by kernel_rfl) (by kernel_rfl) (by kernel_rfl) (by kernel_rfl) (by kernel_rfl) (by kernel_rfl) (by kernel_rfl) (by kernel_rfl) (fun _ _ _ h => h) (Or.inl ⟨by rfl, ?hy⟩) T0 ?_
        case hy =>
          intro X hX
          go_simp
        try simp only [Act.put, List.getElem_toArray, List.getElem_cons_zero, List.getElem_cons_succ, List.setIfInBounds_toArray, List.set_cons_zero, List.set_cons_succ]
        refine wpAnyG_take [6, 8, 9, 10, 11, 12, 13] (i := 6) (v := (.string s)) rfl (by kernel_rfl) (by kernel_rfl) (by kernel_rfl) (by kernel_rfl) (by kernel_rfl) (by kernel_rfl) (by kernel_rfl) (by kernel_rfl) (fun _ _ _ h => h) (Or.inl ⟨by rfl, ?hy⟩) T0 ?_
        case hy =>
          intro X hX
          go_simp
        try simp only [Act.put, List.getElem_toArray, List.getElem_cons_zero, List.getElem_cons_succ, List.setIfInBounds_toArray, List.set_cons_zero, List.set_cons_succ]
        refine wpAnyG_take [7, 8, 9, 10, 11, 12, 13] (i := 7) (v := (.int .i64 pos)) rfl (by kernel_rfl) (by kernel_rfl) (by kernel_rfl) (by kernel_rfl) (by kernel_rfl) (by kernel_rfl) (by kernel_rfl) (by kernel_rfl) (fun _ _ _ h => h) (Or.inl ⟨by rfl, ?hy⟩) T0 ?_
        case hy =>
          intro X hX
          go_simp
        try simp only [Act.put, List.getElem_toArray, List.getElem_cons_zero, List.getElem_cons_succ, List.setIfInBounds_toArray, List.set_cons_zero, List.set_cons_succ]
        refine wpAnyG_take [8, 9, 10, 11, 12, 13] (i := 8) (v := (.int .u8 b)) rfl (by kernel_rfl) (by kernel_rfl) (by kernel_rfl) (by kernel_rfl) (by kernel_rfl) (by kernel_rfl) (by kernel_rfl) (by kernel_rfl) (fun _ _ _ h => h) (Or.inl ⟨by rfl, ?hy⟩) T0 ?_
        case hy =>
          intro X hX
          go_simp
        try simp only [Act.put, List.getElem_toArray, List.getElem_cons_zero, List.getElem_cons_succ, List.setIfInBounds_toArray, List.set_cons_zero, List.set_cons_succ]
        refine wpAnyG_take [9, 10, 11, 12, 13] (i := 9) (v := (.int .u8 y)) rfl (by kernel_rfl) (by kernel_rfl) (by kernel_rfl) (by kernel_rfl) (by kernel_rfl) (by kernel_rfl) (by kernel_rfl) (by kernel_rfl) (fun _ _ _ h => h) (Or.inl ⟨by rfl, ?hy⟩) T0 ?_
        case hy =>
          intro X hX
          go_simp
        try simp only [Act.put, List.getElem_toArray, List.getElem_cons_zero, List.getElem_cons_succ, List.setIfInBounds_toArray, List.set_cons_zero, List.set_cons_succ]
        refine wpAnyG_all (rs := [5]) (by kernel_rfl) (by simp) ?_
        intro i hi
        simp only [List.mem_cons, List.not_mem_nil, or_false] at hi
        subst hi
        refine wpOp_now rfl rfl ?_
        go_simp
        refine (cD1 _).mono ?_
        rintro e Y5 ⟨rfl, hY⟩
        rw [hY]; clear hY
        refine ⟨fun _ => T0, ?_⟩
        try simp only [Act.put, List.getElem_toArray, List.getElem_cons_zero, List.getElem_cons_succ, List.setIfInBounds_toArray, List.set_cons_zero, List.set_cons_succ]
        refine wpAnyG_all (rs := [10]) (by kernel_rfl) (by simp) ?_
        intro i hi
        simp only [List.mem_cons, List.not_mem_nil, or_false] at hi
        subst hi
        refine wpOp_now rfl rfl ?_
        go_simp
        refine (cD2 _).mono ?_
        rintro e Y10 ⟨rfl, hY⟩
        rw [hY]; clear hY
        refine ⟨fun _ => T0, ?_⟩
        try simp only [Act.put, List.getElem_toArray, List.getElem_cons_zero, List.getElem_cons_succ, List.setIfInBounds_toArray, List.set_cons_zero, List.set_cons_succ]
        refine wpAnyG_all (rs := [11]) (by kernel_rfl) (by simp) ?_
        intro i hi
        simp only [List.mem_cons, List.not_mem_nil, or_false] at hi
        subst hi
        refine wpOp_now rfl rfl ?_
        go_simp
        refine ⟨fun _ => T0, ?_⟩
        try simp only [Act.put, List.getElem_toArray, List.getElem_cons_zero, List.getElem_cons_succ, List.setIfInBounds_toArray, List.set_cons_zero, List.set_cons_succ]
        refine wpAnyG_all (rs := [12]) (by kernel_rfl) (by simp) ?_
        intro i hi
        simp only [List.mem_cons, List.not_mem_nil, or_false] at hi
        subst hi
        refine wpOp_now rfl rfl ?_
        refine opwp_append _ _ 46 rfl w.heap.size 5 i0 (.int .u8 0) 1 1 Tryd.underlying46 hi hz0 hz1 hz2 rfl (by decide) (.slice o Q.length c) _ _ rfl (own0.alloc _) ⟨X0.heap.size, 0, none⟩ 4 4 [.int .u8 92, .int .u8 120, .int .u8 ((hxD x).toNat : Int), .int .u8 ((hxD y).toNat : Int)] rfl rfl (World.news_of_block (cs := #[.int .u8 92, .int .u8 120, .int .u8 ((hxD x).toNat : Int), .int .u8 ((hxD y).toNat : Int)]) (t := 5) (fr := (0, 0)) (World.alloc_heap_new X0 _)) (fun x hx => by simp at hx; rcases hx with rfl | rfl | rfl | rfl <;> rfl) (by unfold maxLen; omega) (by omega) (by have := hB0.size; simp; omega) ?_
        intro v' w2 hown' hgrow
        have HN := Lib.hid (qo_next (M := [92, 120, hxD x, hxD y]) HP.out hps HQ.out hqM ((Below.heap_alloc X0 _ _ (Array.getElem?_eq_some_iff.1 h0i).1).trans h0i) (hB0.alloc hB0.size _) (by omega) (own0.alloc _) (by rw [eM]; exact hown') hgrow)
        clear hown' hgrow
        refine ⟨fun _ => T0, ?_⟩
        try simp only [Act.put, List.getElem_toArray, List.getElem_cons_zero, List.getElem_cons_succ, List.setIfInBounds_toArray, List.set_cons_zero, List.set_cons_succ]
        refine wpAnyG_all (rs := [13]) (by kernel_rfl) (by simp) ?_
        intro i hi
        simp only [List.mem_cons, List.not_mem_nil, or_false] at hi
        subst hi
        refine wpOp_now rfl rfl ?_
        go_simp
        refine ⟨fun _ => T0, ?_⟩
        try simp only [Act.put, List.getElem_toArray, List.getElem_cons_zero, List.getElem_cons_succ, List.setIfInBounds_toArray, List.set_cons_zero, List.set_cons_succ]
        refine wpAnyG_done (by kernel_rfl) ?_ _
        refine NoPanic.normal ?_
        go_wp2
        go_roundw
        case rel => exact HN.out.1
        case measure => simp only [World.iterPos, HN.out.2]; exact HM.out
      · obtain ⟨ha, hw1⟩ := ha
        have hbk : ¬ bk s pos = true := by rw [hlb ha, decide_eq_false hw1]; simp
        subst ha
        rw [decide_eq_false hw1] at cL
        have hqM : qP s pos = 92 :: 123 :: (hexL 65533 ++ [125]) := by
          unfold qP qR
          rw [if_neg hbk, hr, if_neg (by omega), if_neg (by omega)]
          simp
        have e16 : (16 : Nat) ^ 8 = 4294967296 := by decide
        have e17 : (16 : Nat) ^ (5 + 1) = 16777216 := by decide
        have cF := fun W h => fmt_16 65533 (by omega) W h
        have hxl : (hexL 65533).length ≤ 6 := hexL_len 5 (by omega)
        clear e16 e17
        obtain ⟨M, hM⟩ : ∃ M, 92 :: 123 :: (hexL 65533 ++ [125]) = M := ⟨_, rfl⟩
        have eM2 : Lib.strCells ⟨M.toArray⟩ = bC M := bC_str M
        have eM3 : (⟨M.toArray⟩ : ByteArray).size = M.length := rfl
        have eM4 : M.length ≤ 9 := by rw [← hM]; simp; omega
        rw [hM] at hqM
        have hc32 : IntKind.i64.wrap 65533 = 65533 := by rw [IntKind.wrap_i64]; omega
        clear hlb hr0 
        have HA := Lib.hid (hbk)
        clear hbk
        go_wp2_with (first
          | (go_at_call 76; refine (cL _).mono ?_; rintro e w1 ⟨rfl, hbL⟩)
          | (go_at_call 78; refine (cF _ (below_cell (hB1.trans (hbL.mono hB1.size)) (Nat.le_refl _) h16)).mono ?_; rintro e w3 ⟨rfl, hbF⟩; have hb2 := hbL.trans (hbF.mono hbL.size))
          | (at_builtin; refine Lib.wpList_append_own_string _ rfl _ _ 46 9 rfl w.heap.size 5 i0 Tryd.underlying46 Tryd.underlying9 hi hz0 hz1 hz2 (.slice o Q.length c) _ _ rfl (own_below ownP hb2) ⟨M.toArray⟩ (by first | rfl | (refine congrArg Value.string ?_; rw [← hM]; done) | (refine congrArg Value.string ?_; rw [← hM]; apply ByteArray.ext; simp [ByteArray.data_append]; done)) (by rw [eM3]; unfold maxLen; omega) (by rw [eM3]; omega) (by have := hB1.size; have := hb2.size; omega) ?_; intro v' w2 hown' hgrow _))
        rw [eM2, eM3] at hown'
        have HN := Lib.hid (qo_next (M := M) HP.out hps HQ.out hqM ((hb2.block _ (Array.getElem?_eq_some_iff.1 hit1).1).trans hit1) (hB1.trans (hb2.mono hB1.size)) (by omega) (own_below ownP hb2) hown' hgrow)
        clear hown' hgrow
        go_roundw
        case rel => exact HN.out.1
        case measure => simp only [World.iterPos, HN.out.2]; exact HM.out
      · obtain ⟨ha, hn⟩ := ha
        have hbk : ¬ bk s pos = true := fun hk => hn (by rw [← hr]; exact (bk_rn s pos hk).1)
        have hqM : qP s pos = 92 :: 123 :: (hexL r ++ [125]) := by
          unfold qP qR
          rw [if_neg hbk, hr, if_neg (by omega), if_neg (by omega)]
          simp
        have e16 : (16 : Nat) ^ 8 = 4294967296 := by decide
        have e17 : (16 : Nat) ^ (5 + 1) = 16777216 := by decide
        have cF := fun W h => fmt_16 r (by omega) W h
        have hxl : (hexL r).length ≤ 6 := hexL_len 5 (by omega)
        clear e16 e17
        obtain ⟨M, hM⟩ : ∃ M, 92 :: 123 :: (hexL r ++ [125]) = M := ⟨_, rfl⟩
        have eM2 : Lib.strCells ⟨M.toArray⟩ = bC M := bC_str M
        have eM3 : (⟨M.toArray⟩ : ByteArray).size = M.length := rfl
        have eM4 : M.length ≤ 9 := by rw [← hM]; simp; omega
        rw [hM] at hqM
        have hc32 : IntKind.i64.wrap (r : Int) = (r : Int) := by rw [IntKind.wrap_i64]; omega
        have a1 : ¬ (r : Int) = 34 := by omega
        have a2 : ¬ (r : Int) = 92 := by omega
        have a3 : ¬ (r : Int) = 65533 := by omega
        have b1 : ¬ r = 34 := by omega
        have b2 : ¬ r = 92 := by omega
        have c1 : ((r : Int) == 34) = false := by rw [beq_eq_false_iff_ne]; exact a1
        have c2 : ((r : Int) == 92) = false := by rw [beq_eq_false_iff_ne]; exact a2
        have c3 : ((r : Int) == 65533) = false := by rw [beq_eq_false_iff_ne]; exact a3
        have a4 : ¬ (32 : Int) ≤ (r : Int) := by omega
        have a5 : ¬ 32 ≤ r := by omega
        clear hlb hr0 cL
        have HA := Lib.hid (And.intro ha hbk)
        clear ha hbk
        go_wp2_with (first
          | (go_at_call 76; refine (cL _).mono ?_; rintro e w1 ⟨rfl, hbL⟩)
          | (go_at_call 78; refine (cF _ h16P.out).mono ?_; rintro e w3 ⟨rfl, hbF⟩; have hb2 := hbF)
          | (at_builtin; refine Lib.wpList_append_own_string _ rfl _ _ 46 9 rfl w.heap.size 5 i0 Tryd.underlying46 Tryd.underlying9 hi hz0 hz1 hz2 (.slice o Q.length c) _ _ rfl (own_below ownP hb2) ⟨M.toArray⟩ (by first | rfl | (refine congrArg Value.string ?_; rw [← hM]; done) | (refine congrArg Value.string ?_; rw [← hM]; apply ByteArray.ext; simp [ByteArray.data_append]; done)) (by rw [eM3]; unfold maxLen; omega) (by rw [eM3]; omega) (by have := hB1.size; have := hb2.size; omega) ?_; intro v' w2 hown' hgrow _))
        rw [eM2, eM3] at hown'
        have HN := Lib.hid (qo_next (M := M) HP.out hps HQ.out hqM ((hb2.block _ (Array.getElem?_eq_some_iff.1 hit1).1).trans hit1) (hB1.trans (hb2.mono hB1.size)) (by omega) (own_below ownP hb2) hown' hgrow)
        clear hown' hgrow
        go_roundw
        case rel => exact HN.out.1
        case measure => simp only [World.iterPos, HN.out.2]; exact HM.out
      · obtain ⟨ha, hn⟩ := ha
        have hbk : ¬ bk s pos = true := fun hk => hn (by rw [← hr]; exact (bk_rn s pos hk).1)
        have hqM : qP s pos = 92 :: 123 :: (hexL r ++ [125]) := by
          unfold qP qR
          rw [if_neg hbk, hr, if_neg (by omega), if_neg (by omega)]
          simp
        have e16 : (16 : Nat) ^ 8 = 4294967296 := by decide
        have e17 : (16 : Nat) ^ (5 + 1) = 16777216 := by decide
        have cF := fun W h => fmt_16 r (by omega) W h
        have hxl : (hexL r).length ≤ 6 := hexL_len 5 (by omega)
        clear e16 e17
        obtain ⟨M, hM⟩ : ∃ M, 92 :: 123 :: (hexL r ++ [125]) = M := ⟨_, rfl⟩
        have eM2 : Lib.strCells ⟨M.toArray⟩ = bC M := bC_str M
        have eM3 : (⟨M.toArray⟩ : ByteArray).size = M.length := rfl
        have eM4 : M.length ≤ 9 := by rw [← hM]; simp; omega
        rw [hM] at hqM
        have hc32 : IntKind.i64.wrap (r : Int) = (r : Int) := by rw [IntKind.wrap_i64]; omega
        have a1 : ¬ (r : Int) = 34 := by omega
        have a2 : ¬ (r : Int) = 92 := by omega
        have a3 : ¬ (r : Int) = 65533 := by omega
        have b1 : ¬ r = 34 := by omega
        have b2 : ¬ r = 92 := by omega
        have c1 : ((r : Int) == 34) = false := by rw [beq_eq_false_iff_ne]; exact a1
        have c2 : ((r : Int) == 92) = false := by rw [beq_eq_false_iff_ne]; exact a2
        have c3 : ((r : Int) == 65533) = false := by rw [beq_eq_false_iff_ne]; exact a3
        have a4 : (32 : Int) ≤ (r : Int) := by omega
        have a5 : ¬ (r : Int) ≤ 126 := by omega
        have a6 : 32 ≤ r := by omega
        have a7 : ¬ r ≤ 126 := by omega
        clear hlb hr0 cL
        have HA := Lib.hid (And.intro ha hbk)
        clear ha hbk
        go_wp2_with (first
          | (go_at_call 76; refine (cL _).mono ?_; rintro e w1 ⟨rfl, hbL⟩)
          | (go_at_call 78; refine (cF _ h16P.out).mono ?_; rintro e w3 ⟨rfl, hbF⟩; have hb2 := hbF)
          | (at_builtin; refine Lib.wpList_append_own_string _ rfl _ _ 46 9 rfl w.heap.size 5 i0 Tryd.underlying46 Tryd.underlying9 hi hz0 hz1 hz2 (.slice o Q.length c) _ _ rfl (own_below ownP hb2) ⟨M.toArray⟩ (by first | rfl | (refine congrArg Value.string ?_; rw [← hM]; done) | (refine congrArg Value.string ?_; rw [← hM]; apply ByteArray.ext; simp [ByteArray.data_append]; done)) (by rw [eM3]; unfold maxLen; omega) (by rw [eM3]; omega) (by have := hB1.size; have := hb2.size; omega) ?_; intro v' w2 hown' hgrow _))
        rw [eM2, eM3] at hown'
        have HN := Lib.hid (qo_next (M := M) HP.out hps HQ.out hqM ((hb2.block _ (Array.getElem?_eq_some_iff.1 hit1).1).trans hit1) (hB1.trans (hb2.mono hB1.size)) (by omega) (own_below ownP hb2) hown' hgrow)
        clear hown' hgrow
        go_roundw
        case rel => exact HN.out.1
        case measure => simp only [World.iterPos, HN.out.2]; exact HM.out
    · have hge : s.size ≤ pos := by omega
      have hnx : ∀ ty, (Instr.next (.pointer (some ⟨w.heap.size + 1, 0, none⟩)) true ty).run Tryd.prog wr = _ := fun ty => Lib.run_next_end_at wr (w.heap.size + 1) s pos ty hit hps
      rw [posG_end s pos hge, List.append_nil] at hpp
      have hql := qL_len s pre hpre
      obtain ⟨o, c, rfl, ho⟩ := own_slice hown
      have hqs : quoB s = ⟨(qL s pre ++ [34]).toArray⟩ := by unfold quoB; rw [hpp]
      obtain ⟨Q, hQ⟩ : ∃ Q, qL s pre = Q := ⟨_, rfl⟩
      rw [hQ] at hown hql hqs ⊢
      have hQl : Q.length ≤ 10995116277761 := by omega
      have HQ := Lib.hid hqs
      clear hpp hpre hpl hQ hql hqs hne hge hps
      have eS : Lib.strCells ⟨(Q ++ [34]).toArray⟩ = bC Q ++ [.int .u8 34] := by rw [bC_str, bC_app]; rfl
      have eZ : (⟨(Q ++ [34]).toArray⟩ : ByteArray).size = Q.length + 1 := by
        show (Q ++ [34]).toArray.size = _
        simp
      go_wp2_with (at_builtin; refine wpList_append_own _ rfl _ _ 46 rfl w.heap.size 5 i0 (.int .u8 0) 1 1 Tryd.underlying46 hi hz0 hz1 hz2 rfl (by decide) (.slice o Q.length c) _ _ rfl (hown.alloc _) ⟨wr.heap.size, 0, none⟩ 1 1 [.int .u8 34] rfl rfl (World.news_of_block (cs := #[.int .u8 34]) (t := 5) (fr := (0, 0)) (World.alloc_heap_new wr _)) (fun x hx => by simp at hx; subst hx; rfl) (by unfold maxLen; omega) (by omega) (by have := hB.size; simp; omega) ?_; intro v' w2 hown' hgrow _; have hcv := conv_own eZ (by rw [eS]; exact hown'); have HB := Lib.hid ((hB.alloc hB.size _).grown hgrow (by have := hB.size; simp; omega) (fun j hj => (hown.lt j hj).1)); clear hown' hgrow)
      go_ret
      exact ⟨by rw [HQ.out]; rfl, HB.out⟩
end Go.Proofs.YtjccoiephdopkaaDoor
