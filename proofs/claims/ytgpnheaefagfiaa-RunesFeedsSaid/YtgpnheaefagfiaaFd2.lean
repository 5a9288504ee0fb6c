/- What a Feed answers: Put and End. -/
import Derived.Test.YtgpnheaefagfiaaFd1
import Derived.Deep.Onto
namespace Go.Proofs.Ytgpnheaefagfiaa
set_option linter.unusedVariables false
set_option linter.unusedSimpArgs false
open Go Go.RowKit Go.Shelf
set_option maxRecDepth 100000

theorem FdB.some {W : World} {b t : Nat} {H : ByteArray} (h : FdB W b H t) (i : Nat) (hi : i < 5) : ∃ v, W.cell? ⟨b, i, none⟩ = .some v := by
  obtain ⟨z, hz, hb⟩ := h
  have e := strC_len H
  have hl : i < (fdC H z t).size := by simp only [fdC, List.size_toArray, List.length_append, List.length_cons, List.length_nil]; omega
  exact ⟨(fdC H z t)[i], by rw [hb.cell i, Array.getElem?_eq_getElem hl]⟩
theorem five_cells (cs : Array Value) (h : cs.size = 5) : ∃ x0 x1 x2 x3 x4, cs = #[x0, x1, x2, x3, x4] := by
  obtain ⟨l⟩ := cs
  simp only [List.size_toArray] at h
  match l, h with
  | [a, b, c, d, e], _ => exact ⟨a, b, c, d, e, rfl⟩
theorem five_set {W : World} {b : Nat} {cs : Array Value} {T : TypeId} (h : Blk W b cs T) (h5 : cs.size = 5) (y0 y1 y2 y3 y4 : Value) :
    Blk (((((W.setCell ⟨b, 0, none⟩ y0).setCell ⟨b, 1, none⟩ y1).setCell ⟨b, 2, none⟩ y2).setCell ⟨b, 3, none⟩ y3).setCell ⟨b, 4, none⟩ y4) b #[y0, y1, y2, y3, y4] T := by
  obtain ⟨x0, x1, x2, x3, x4, rfl⟩ := five_cells cs h5
  have h6 := ((((h.set 0 y0).set 1 y1).set 2 y2).set 3 y3).set 4 y4
  simpa using h6
theorem FdB.zeroed {W : World} {b t : Nat} {H : ByteArray} (h : FdB W b H t) : FdB (((((W.setCell ⟨b, 0, none⟩ (.int .u8 0)).setCell ⟨b, 1, none⟩ (.int .u8 0)).setCell ⟨b, 2, none⟩ (.int .u8 0)).setCell ⟨b, 3, none⟩ (.int .i64 0)).setCell ⟨b, 4, none⟩ (.int .i64 0)) b ByteArray.empty 0 := by
  obtain ⟨z, hz, hb⟩ := h
  have e := strC_len H
  have h5 := five_set hb (by simp only [fdC, List.size_toArray, List.length_append, List.length_cons, List.length_nil]; omega) (.int .u8 0) (.int .u8 0) (.int .u8 0) (.int .i64 0) (.int .i64 0)
  exact ⟨[.int .u8 0, .int .u8 0, .int .u8 0], rfl, h5⟩
theorem zero_grown (W : World) (b : Nat) : W.grownBy (((((W.setCell ⟨b, 0, none⟩ (.int .u8 0)).setCell ⟨b, 1, none⟩ (.int .u8 0)).setCell ⟨b, 2, none⟩ (.int .u8 0)).setCell ⟨b, 3, none⟩ (.int .i64 0)).setCell ⟨b, 4, none⟩ (.int .i64 0)) (.some b) :=
  ((((grownBy_setCell _ _ _ _).trans (grownBy_setCell _ _ _ _)).trans (grownBy_setCell _ _ _ _)).trans (grownBy_setCell _ _ _ _)).trans (grownBy_setCell _ _ _ _)
/-- copy(b[..], s) of a text that is no longer than the row. -/
theorem wpList_copy_text {P : Program} {w : World} {ops : Array Oper} {rest : List Oper} {o : Oper} {a : Act} {Q : Exit → Act → World → Prop} (hgd : o.guard = none) (d s : Operand) (dT sT : TypeId)
    (ho : o.op = .call { callee := .builtin .copy, args := #[d, s], argTypes := #[dT, sT] }) (elem : TypeId) (hu : P.underlying dT = some (.slice elem)) (hsz : (P.info? elem).map (·.size) = some 1)
    (g off dLen dCap : Nat) (R : ByteArray) (hd : a.eval d = .slice (some ⟨g, off, none⟩) dLen dCap) (hs : a.eval s = .string R)
    (cur : Array Value) (t : TypeId) (hg : w.heap[g]? = some (.cells cur t (0, 0))) (hle : R.size ≤ dLen) (hfit : off + R.size ≤ cur.size)
    (h : ∀ w', Blk w' g (cur.toList.take off ++ (Lib.byteCells R.data.toList ++ cur.toList.drop (off + R.size))).toArray t → w.grownBy w' (some g) → wpList P ops Q rest (a.put o.dst (goInt R.size)) w') : wpList P ops Q (o :: rest) a w := by
  refine wpList_plain hgd fun K hK => ?_
  have hrun := Lib.run_copy_row_string (P := P) w dT sT o.type elem g off dLen dCap R cur t hu hsz hg hle hfit
  unfold Oper.wp
  simp [execOp, ho, resolve, invoke, builtin, hd, hs, hrun, Result.andThen]
  refine hK _ _ (h _ (setRow_heap w g _ _ t _ hg) ⟨rfl, rfl, rfl, by simp [World.setRow], fun k hk hne => setRow_other w g k _ (fun e => hne (by rw [e]))⟩)

theorem FdB.copied {w' : World} {b t : Nat} {H R : ByteArray} {z : List Value} (hz : H.size + z.length = 3) (hR : R.size ≤ 3)
    (h : Blk w' b ((fdC H z t).toList.take 0 ++ (Lib.byteCells R.data.toList ++ (fdC H z t).toList.drop (0 + R.size))).toArray 102) : FdB (w'.setCell ⟨b, 3, none⟩ (.int .i64 (R.size : Nat))) b R t := by
  have e := strC_len H
  have e2 : (Lib.strCells R).length = R.size := strC_len R
  have e3 : Lib.byteCells R.data.toList = Lib.strCells R := rfl
  have h2 := h.set 3 (.int .i64 (R.size : Nat))
  refine ⟨(Lib.strCells H ++ z).drop R.size, by rw [List.length_drop, List.length_append]; omega, ?_⟩
  rw [show ((fdC H z t).toList.take 0 ++ (Lib.byteCells R.data.toList ++ (fdC H z t).toList.drop (0 + R.size))).toArray.setIfInBounds 3 (.int .i64 (R.size : Nat)) = fdC R ((Lib.strCells H ++ z).drop R.size) t by
    unfold fdC
    rw [List.setIfInBounds_toArray, e3]
    congr 1
    rw [List.take_zero, List.nil_append, Nat.zero_add, List.drop_append, show R.size - (Lib.strCells H ++ z).length = 0 by rw [List.length_append]; omega, List.drop_zero, ← List.append_assoc]
    have hl : (Lib.strCells R ++ (Lib.strCells H ++ z).drop R.size).length = 3 := by rw [List.length_append, List.length_drop, List.length_append]; omega
    rw [List.set_append, if_neg (by omega), hl]
    rfl] at h2
  exact h2

def FeEnd (k : Nat) (w : World) (b : Nat) (H : ByteArray) (e : Ending) (w' : World) : Prop :=
  ∃ v, e = .returned v ∧ w'.ownsRow w.heap.size 24 4 v (posns H).length (pcz k H (posns H)) ∧ w.grownBy w' (some b) ∧ FdB w' b ByteArray.empty 0

theorem end_nil (w : World) : Calls Try.prog 58 #[.pointer none] w fun e w' => e = .returned (.slice none 0 0) ∧ w = w' := by
  go_enter Try.func58, Try.ntmps58
  go_wp2
  go_ret
  exact ⟨rfl, rfl⟩
theorem put_nil (s : ByteArray) (w : World) : Calls Try.prog 60 #[.pointer none, .string s] w fun e w' => e = .returned (.slice none 0 0) ∧ w = w' := by
  go_enter Try.func60, Try.ntmps60
  go_wp2
  go_ret
  exact ⟨rfl, rfl⟩

set_option maxHeartbeats 1000000 in
theorem end_any (k : Nat) (hk : k ≤ 1048576) (w : World) (b : Nat) (H : ByteArray) (h : FdB w b H k) : Calls Try.prog 58 #[.pointer (some ⟨b, 0, none⟩)] w (FeEnd k w b H) := by
  have hlt := h.lt
  have hle := h.le
  have cH := held_any w b k H h
  go_enter Try.func58, Try.ntmps58
  go_wp2_with (first | (go_at_call 63; refine cH.mono ?_; rintro e w1 ⟨rfl, hb1⟩; have h1 := h.below hb1 hlt; have s1 := hb1.size) | (go_at_call 85; refine (tell_any H k (by omega) hk w1 b H h1).mono ?_; rintro e w2 ⟨v, rfl, hrow, hg2, h2⟩; obtain ⟨x0, c0⟩ := h2.some 0 (by omega); obtain ⟨x1, c1⟩ := h2.some 1 (by omega); obtain ⟨x2, c2⟩ := h2.some 2 (by omega); obtain ⟨x3, c3⟩ := h2.some 3 (by omega); obtain ⟨x4, c4⟩ := h2.some 4 (by omega); have f0 := h2.frozen 0; have f1 := h2.frozen 1; have f2 := h2.frozen 2; have f3 := h2.frozen 3; have f4 := h2.frozen 4))
  have hg1 : w.grownBy w1 (some b) := (grown_none hb1).but _
  have hg3 := (hg1.trans hg2).trans (zero_grown w2 b)
  have hr3 := (hrow.mono s1).kept (zero_grown w2 b) (.inr (fun e => h2.not_row (by decide) hrow e.symm))
  have h3 := h2.zeroed
  go_ret
  exact ⟨v, rfl, hr3, hg3, h3⟩

def FePut (k q : Nat) (T : ByteArray) (w : World) (b : Nat) (e : Ending) (w' : World) : Prop :=
  ∃ v, e = .returned v ∧ w'.ownsRow w.heap.size 24 4 v (posns (T.extract 0 q)).length (pcz k (T.extract 0 q) (posns (T.extract 0 q))) ∧ w.grownBy w' (some b) ∧ FdB w' b (T.extract q T.size) (k + q)

set_option maxHeartbeats 400000 in
theorem put_any (k : Nat) (hk : k ≤ 1048576) (w : World) (b : Nat) (H s : ByteArray) (hs : s.size ≤ 1024) (h : FdB w b H k) (T : ByteArray) (hT : H ++ s = T) (q : Nat) (hq : T.size - opN T = q) :
    Calls Try.prog 60 #[.pointer (some ⟨b, 0, none⟩), .string s] w (FePut k q T w b) := by
  have hlt := h.lt
  have hle := h.le
  have cH := held_any w b k H h
  have hTs : T.size = H.size + s.size := by rw [← hT, ByteArray.size_append]
  have hop := opN_cases T
  have cO := open_any T (by omega)
  obtain ⟨n, hn⟩ : ∃ n, opN T = n := ⟨_, rfl⟩
  rw [hn] at cO hop hq
  have hn3 : n ≤ 3 ∧ n ≤ T.size := by omega
  have f1 : (T.size : Int) - (n : Int) = (q : Int) := by omega
  have f2 : (q : Int) ≤ (T.size : Int) := by omega
  have hz1 : (T.extract 0 q).size = q := by rw [ByteArray.size_extract]; omega
  have hz2 : (T.extract q T.size).size = n := by rw [ByteArray.size_extract]; omega
  have cT := tell_any (T.extract 0 q) k (by omega) hk
  have hT1 : T.size ≤ 1027 := by omega
  clear hop hn hTs
  go_enter Try.func60, Try.ntmps60
  go_wp2_with (first | (go_at_call 63; refine cH.mono ?_; rintro e w1 ⟨rfl, hb1⟩; have h1 := h.below hb1 hlt; have s1 := hb1.size) | (go_at_call 82; refine (cO _).mono ?_; rintro e w5 ⟨rfl, rfl⟩))
  go_quiet (fail)
  have h4 : FdB (w1.drewN nq) b H k := h1.below (n := b + 1) ⟨rfl, rfl, rfl, Nat.le_refl _, fun _ _ => rfl⟩ (by omega)
  obtain ⟨w4, hw4⟩ : ∃ y, w1.drewN nq = y := ⟨_, rfl⟩
  have hb4 : Below w.heap.size w w4 := by rw [← hw4]; exact hb1.trans ⟨rfl, rfl, rfl, Nat.le_refl _, fun _ _ => rfl⟩
  rw [hw4] at h4 ⊢
  clear hw4 hb1 cH cO h1
  have cT4 := cT w4 b H h4
  clear cT
  have hR : (T.extract q T.size).size ≤ 3 := by omega
  obtain ⟨R, hRe⟩ : ∃ R, T.extract q T.size = R := ⟨_, rfl⟩
  obtain ⟨Z, hZe⟩ : ∃ Z, T.extract 0 q = Z := ⟨_, rfl⟩
  have HR := Lib.hid hRe
  have HZ := Lib.hid hZe
  rw [hRe] at hR hz2
  rw [hZe] at cT4 hz1
  simp only [hRe, hZe]
  clear hRe hZe
  go_wp2_with (first | (go_at_call 85; refine cT4.mono ?_; rintro e w2 ⟨v, rfl, hrow, hg2, h2⟩; obtain ⟨z, hz, hblk⟩ := h2) | (refine wpList_copy_text rfl _ _ 92 9 rfl 5 Try.underlying92 (by kernel_rfl) b 0 3 3 R rfl rfl _ _ hblk hR (by have e := strC_len H; simp only [fdC, List.size_toArray, List.length_append, List.length_cons, List.length_nil]; omega) ?_; intro w3 hb3 hg3; have f3 := hb3.frozen 3; obtain ⟨y3, c3⟩ : ∃ y, w3.cell? ⟨b, 3, none⟩ = some y := ⟨_, (hb3.cell 3).trans (Array.getElem?_eq_getElem (by have e := strC_len H; have e2 : (Lib.byteCells R.data.toList).length = R.size := strC_len R; simp only [fdC, List.size_toArray, List.length_append, List.length_cons, List.length_nil, List.length_drop, List.length_take]; omega))⟩))
  have hc := FdB.copied hz hR hb3
  rw [hz2, hz1] at hc
  have hg := (((grown_none hb4).but (some b)).trans hg2).trans (hg3.trans (grownBy_setCell w3 b 3 (.int .i64 (n : Nat))))
  have hnr := (show FdB w2 b H (k + Z.size) from ⟨z, hz, hblk⟩).not_row (by decide) hrow
  have hr3 := (hrow.mono hb4.size).kept (hg3.trans (grownBy_setCell w3 b 3 (.int .i64 (n : Nat)))) (.inr (fun e => hnr e.symm))
  go_ret
  refine ⟨v, rfl, ?_, hg, ?_⟩
  · rw [HZ.out]; exact hr3
  · rw [HR.out]; exact hc
end Go.Proofs.Ytgpnheaefagfiaa
