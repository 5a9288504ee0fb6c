/- The document's At and Under of layer 5. -/
import Derived.Test.YtnbhdgbhmcbeoaaDq
import Derived.Test.YtnbhdgbhmcbeoaaCln
namespace Go.Proofs.Ytnbhdgbhmcbeoaa
set_option linter.unusedVariables false
set_option linter.unusedSimpArgs false
open Go Go.RowKit Go.Shelf
set_option maxRecDepth 100000

def optB (o : Option Cel) : Value := match o with | some c => .tuple #[celV c, .bool true] | none => .tuple #[cel0, .bool false]
def AdRel (s : ByteArray) (at' : Int) (n : Nat) (w1 : World) (i : Value) (wr : World) : Prop := ∃ k : Nat, i = .int .i64 k ∧ k ≤ n ∧ (∀ c ∈ (cellsL s).take k, at' < 0 ∨ (c.2.1 : Int) ≤ at') ∧ w1 = wr
theorem end_le_at (s : ByteArray) (k : Nat) (at' : Int) (h0 : 0 ≤ at') (h : ∀ c ∈ (cellsL s).take k, at' < 0 ∨ (c.2.1 : Int) ≤ at') : (endC ((cellsL s).take k) : Int) ≤ at' := by
  rcases List.eq_nil_or_concat ((cellsL s).take k) with e | ⟨q, x, e⟩
  · rw [e]; exact h0
  · rw [List.concat_eq_append] at e
    rw [e, endC_snoc]
    have := h x (by rw [e]; simp)
    omega

set_option maxHeartbeats 4000000 in
theorem atD_any (s : ByteArray) (hs : s.size ≤ 1048576) (at' : Int) (w : World) :
    Calls Try.prog 29 #[.string s, .int .i64 at'] w fun e w' => e = .returned (optB (atF s at')) ∧ Below w.heap.size w w' := by
  have cC := fun W => cells5_any s (by omega) W
  go_enter Try.func29, Try.ntmps29
  go_wp2_with (fail)
  refine (cC _).mono ?_
  rintro e w1 ⟨v, rfl, hv, hb1⟩
  obtain ⟨o, cap, rfl, ho⟩ := own_slice hv
  have rL := RowC.of_own hv rfl
  have q0 := (Blk.new w #[.int .i64 0, .int .i64 0, .int .i64 0] 26).below' hb1
  have hB := ((Below.refl _ w).alloc (Nat.le_refl _) (.cells #[.int .i64 0, .int .i64 0, .int .i64 0] 26)).trans (hb1.mono (by simp))
  obtain ⟨n, hn⟩ : ∃ n, (cellsL s).length = n := ⟨_, rfl⟩
  have H := Lib.hid (And.intro hn (And.intro rL (And.intro hB q0)))
  have hnz : n ≤ 1048576 := by have := cellsL_len s; omega
  rw [hn]
  clear hn rL hv ho hb1 q0 hB
  go_wp2
  go_loopw [7] (fun i wr => AdRel s at' n w1 i wr) (fun i _ => n - (intOf i).toNat)
  case atStart => exact ⟨0, rfl, Nat.zero_le _, fun c h => by simp at h, rfl⟩
  case round =>
    obtain ⟨k, rfl, hk, hno, rfl⟩ := hrel
    by_cases hlt : k < n
    · obtain ⟨x, hx⟩ : ∃ x, (cellsL s)[k]? = some x := ⟨_, List.getElem?_eq_getElem (by rw [H.out.1]; exact hlt)⟩
      obtain ⟨g, off, rfl, c0, c1, c2⟩ := H.out.2.1 k x hx
      have hts : (cellsL s).take (k + 1) = (cellsL s).take k ++ [x] := by rw [List.take_add_one, hx]; rfl
      have hdue := take_snoc' hx
      have hd := due_cell hdue
      have i1 : (k : Int) < (n : Int) := by omega
      have i2 : (0 : Int) ≤ (k : Int) := by omega
      have i3 : decide ((k : Int) < (n : Int)) = true := decide_eq_true i1
      by_cases h0 : at' < 0
      · have f1 : decide ((x.1 : Int) ≤ at') = false := decide_eq_false (by omega)
        have HN := Lib.hid (And.intro hno (And.intro hts h0))
        clear hno hts hx hdue hd h0
        go_wp2
        go_roundw
        case rel =>
          refine ⟨k + 1, by go_num, by omega, ?_, rfl⟩
          exact fun c _ => .inl HN.out.2.2
        case measure => simp [intOf]; omega
      · have hel := end_le_at s k at' (by omega) hno
        have f1 : decide ((x.1 : Int) ≤ at') = true := decide_eq_true (by rw [hd.1]; exact hel)
        by_cases hit : at' < (x.2.1 : Int)
        · have f2 : decide (at' < (x.2.1 : Int)) = true := decide_eq_true hit
          have hf : atF s at' = some x := by
            unfold atF
            rw [if_neg h0]
            exact find_first hdue (fun c hc => decide_eq_false (by have := hno c hc; omega)) (decide_eq_true hit)
          have HF := Lib.hid hf
          clear hno hts hx hdue hd h0 hel hit hf
          have qb := H.out.2.2.2
          have r0 := qb.cell 0
          have r1 := qb.cell 1
          have r2 := qb.cell 2
          have rf := qb.frozen
          simp only [List.getElem?_toArray, List.getElem?_cons_succ, List.getElem?_cons_zero] at r0 r1 r2
          clear qb
          go_wp2
          have qn := ((H.out.2.2.2.set 0 (.int .i64 (x.1 : Nat))).set 1 (.int .i64 (x.2.1 : Nat))).set 2 (.int .i64 (x.2.2 : Nat))
          simp only [List.setIfInBounds_toArray, List.set_cons_zero, List.set_cons_succ] at qn
          have u0 := qn.cell 0
          have u1 := qn.cell 1
          have u2 := qn.cell 2
          simp only [List.getElem?_toArray, List.getElem?_cons_succ, List.getElem?_cons_zero] at u0 u1 u2
          refine bodyPost_ret (v := optB (some x)) (by simp [results, Try.f29, go_sem, optB, celV, u0, u1, u2]) rfl ⟨by rw [HF.out], ?_⟩
          exact ((H.out.2.2.1.setCell (p := ⟨_, 0, none⟩) (Nat.le_refl _) _).setCell (p := ⟨_, 1, none⟩) (Nat.le_refl _) _).setCell (p := ⟨_, 2, none⟩) (Nat.le_refl _) _
        · have f2 : decide (at' < (x.2.1 : Int)) = false := decide_eq_false hit
          have HN := Lib.hid (And.intro hno (And.intro hts hit))
          clear hno hts hx hdue hd h0 hel hit
          go_wp2
          go_roundw
          case rel =>
            refine ⟨k + 1, by go_num, by omega, ?_, rfl⟩
            intro c hc
            rw [HN.out.2.1] at hc
            rcases List.mem_append.1 hc with hc | hc
            · exact HN.out.1 c hc
            · rw [List.mem_singleton.1 hc]; exact .inr (Int.not_lt.1 HN.out.2.2)
          case measure => simp [intOf]; omega
    · have hkn : k = n := by omega
      have i3 : decide ((k : Int) < (n : Int)) = false := decide_eq_false (by omega)
      have i4 : ¬ (k : Int) < (n : Int) := by omega
      have hfull : (cellsL s).take k = cellsL s := by rw [hkn, ← H.out.1]; exact List.take_length ..
      rw [hfull] at hno
      have hf : atF s at' = none := by
        unfold atF
        split
        · rfl
        · exact find_no (fun c hc => decide_eq_false (by have := hno c hc; omega))
      have HF := Lib.hid hf
      clear hkn hfull hno hf
      have qb := H.out.2.2.2
      have r0 := qb.cell 0
      have r1 := qb.cell 1
      have r2 := qb.cell 2
      have rf := qb.frozen
      simp only [List.getElem?_toArray, List.getElem?_cons_succ, List.getElem?_cons_zero] at r0 r1 r2
      clear qb
      go_wp2
      have qn := ((H.out.2.2.2.set 0 (.int .i64 0)).set 1 (.int .i64 0)).set 2 (.int .i64 0)
      simp only [List.setIfInBounds_toArray, List.set_cons_zero, List.set_cons_succ] at qn
      have u0 := qn.cell 0
      have u1 := qn.cell 1
      have u2 := qn.cell 2
      simp only [List.getElem?_toArray, List.getElem?_cons_succ, List.getElem?_cons_zero] at u0 u1 u2
      refine bodyPost_ret (v := optB none) (by simp [results, Try.f29, go_sem, optB, cel0, u0, u1, u2]) rfl ⟨by rw [HF.out], ?_⟩
      exact ((H.out.2.2.1.setCell (p := ⟨_, 0, none⟩) (Nat.le_refl _) _).setCell (p := ⟨_, 1, none⟩) (Nat.le_refl _) _).setCell (p := ⟨_, 2, none⟩) (Nat.le_refl _) _

def UdRel (s : ByteArray) (cl : Int) (n : Nat) (w1 : World) (i nv : Value) (wr : World) : Prop := ∃ k : Nat, i = .int .i64 k ∧ k ≤ n ∧ nv = .int .i64 (colsL ((cellsL s).take k) : Nat) ∧ (0 ≤ cl → (colsL ((cellsL s).take k) : Int) ≤ cl ∧ undF (cellsL s) cl = undF ((cellsL s).drop k) (cl - (colsL ((cellsL s).take k) : Nat))) ∧ w1 = wr

set_option maxHeartbeats 4000000 in
theorem underD_any (s : ByteArray) (hs : s.size ≤ 1048576) (cl : Int) (w : World) :
    Calls Try.prog 30 #[.string s, .int .i64 cl] w fun e w' => e = .returned (optB (unF s cl)) ∧ Below w.heap.size w w' := by
  have cC := fun W => cells5_any s (by omega) W
  go_enter Try.func30, Try.ntmps30
  go_wp2_with (fail)
  refine (cC _).mono ?_
  rintro e w1 ⟨v, rfl, hv, hb1⟩
  obtain ⟨o, cap, rfl, ho⟩ := own_slice hv
  have rL := RowC.of_own hv rfl
  have q0 := (Blk.new w #[.int .i64 0, .int .i64 0, .int .i64 0] 26).below' hb1
  have hB := ((Below.refl _ w).alloc (Nat.le_refl _) (.cells #[.int .i64 0, .int .i64 0, .int .i64 0] 26)).trans (hb1.mono (by simp))
  obtain ⟨n, hn⟩ : ∃ n, (cellsL s).length = n := ⟨_, rfl⟩
  have H := Lib.hid (And.intro hn (And.intro rL (And.intro hB q0)))
  have hnz : n ≤ 1048576 := by have := cellsL_len s; omega
  rw [hn]
  clear hn rL hv ho hb1 q0 hB
  go_wp2
  go_loopw [8, 7] (fun i nv wr => UdRel s cl n w1 i nv wr) (fun i _ _ => n - (intOf i).toNat)
  case atStart => exact ⟨0, rfl, Nat.zero_le _, rfl, fun h => by simp [colsL]; exact h, rfl⟩
  case round =>
    obtain ⟨k, rfl, hk, rfl, hno, rfl⟩ := hrel
    by_cases hlt : k < n
    · obtain ⟨x, hx⟩ : ∃ x, (cellsL s)[k]? = some x := ⟨_, List.getElem?_eq_getElem (by rw [H.out.1]; exact hlt)⟩
      obtain ⟨g, off, rfl, c0, c1, c2⟩ := H.out.2.1 k x hx
      have hts : (cellsL s).take (k + 1) = (cellsL s).take k ++ [x] := by rw [List.take_add_one, hx]; rfl
      have hdr : (cellsL s).drop k = x :: (cellsL s).drop (k + 1) := by
        obtain ⟨h1, h2⟩ := List.getElem?_eq_some_iff.1 hx
        rw [← h2, List.getElem_cons_drop]
      have hdue := due_cols (take_snoc' hx)
      have hcs : colsL ((cellsL s).take (k + 1)) = colsL ((cellsL s).take k) + x.2.2 := by rw [hts, colsL_snoc]
      obtain ⟨tk, htk⟩ : ∃ y, colsL ((cellsL s).take k) = y := ⟨_, rfl⟩
      rw [htk] at hdue hno hcs
      rw [htk]
      rw [hdr] at hno
      have i1 : (k : Int) < (n : Int) := by omega
      have i2 : (0 : Int) ≤ (k : Int) := by omega
      have i3 : decide ((k : Int) < (n : Int)) = true := decide_eq_true i1
      have j1 : IntKind.i64.wrap ((tk : Int) + (x.2.2 : Int)) = (tk : Int) + (x.2.2 : Int) := IntWalk.i64_in _ (by omega)
      by_cases h0 : 0 ≤ cl
      · obtain ⟨h1, h2⟩ := hno h0
        have f1 : decide ((tk : Int) ≤ cl) = true := decide_eq_true h1
        by_cases hit : cl < (tk : Int) + (x.2.2 : Int)
        · have f2 : decide (cl < (tk : Int) + (x.2.2 : Int)) = true := decide_eq_true hit
          have hf : unF s cl = some x := by
            unfold unF
            rw [if_neg (by omega), h2]
            show (if cl - (tk : Int) < (x.2.2 : Int) then some x else _) = some x
            rw [if_pos (by omega)]
          have HF := Lib.hid hf
          clear hno hts hx hdue h0 hit hf h1 h2 hdr hcs htk
          have qb := H.out.2.2.2
          have r0 := qb.cell 0
          have r1 := qb.cell 1
          have r2 := qb.cell 2
          have rf := qb.frozen
          simp only [List.getElem?_toArray, List.getElem?_cons_succ, List.getElem?_cons_zero] at r0 r1 r2
          clear qb
          go_wp2
          have qn := ((H.out.2.2.2.set 0 (.int .i64 (x.1 : Nat))).set 1 (.int .i64 (x.2.1 : Nat))).set 2 (.int .i64 (x.2.2 : Nat))
          simp only [List.setIfInBounds_toArray, List.set_cons_zero, List.set_cons_succ] at qn
          have u0 := qn.cell 0
          have u1 := qn.cell 1
          have u2 := qn.cell 2
          simp only [List.getElem?_toArray, List.getElem?_cons_succ, List.getElem?_cons_zero] at u0 u1 u2
          refine bodyPost_ret (v := optB (some x)) (by simp [results, Try.f30, go_sem, optB, celV, u0, u1, u2]) rfl ⟨by rw [HF.out], ?_⟩
          exact ((H.out.2.2.1.setCell (p := ⟨_, 0, none⟩) (Nat.le_refl _) _).setCell (p := ⟨_, 1, none⟩) (Nat.le_refl _) _).setCell (p := ⟨_, 2, none⟩) (Nat.le_refl _) _
        · have f2 : decide (cl < (tk : Int) + (x.2.2 : Int)) = false := decide_eq_false hit
          have hn2 : (colsL ((cellsL s).take (k + 1)) : Int) ≤ cl ∧ undF (cellsL s) cl = undF ((cellsL s).drop (k + 1)) (cl - (colsL ((cellsL s).take (k + 1)) : Nat)) := by
            rw [hcs]
            refine ⟨by push_cast; omega, ?_⟩
            rw [h2]
            show (if cl - (tk : Int) < (x.2.2 : Int) then some x else undF ((cellsL s).drop (k + 1)) (cl - (tk : Int) - (x.2.2 : Int))) = _
            rw [if_neg (by omega)]
            congr 1
            push_cast
            omega
          have HN := Lib.hid (And.intro hn2 hcs)
          clear hno hts hx hdue h0 hit h1 h2 hdr hcs htk hn2
          go_wp2
          go_roundw
          case rel => exact ⟨k + 1, by go_num, by omega, by rw [HN.out.2]; push_cast; rfl, fun _ => HN.out.1, rfl⟩
          case measure => simp [intOf]; omega
      · have f1 : decide ((tk : Int) ≤ cl) = false := decide_eq_false (by omega)
        have HN := Lib.hid (And.intro h0 hcs)
        clear hno hts hx hdue h0 hdr hcs htk
        go_wp2
        go_roundw
        case rel => exact ⟨k + 1, by go_num, by omega, by rw [HN.out.2]; push_cast; rfl, fun h => absurd h HN.out.1, rfl⟩
        case measure => simp [intOf]; omega
    · have hkn : k = n := by omega
      have i3 : decide ((k : Int) < (n : Int)) = false := decide_eq_false (by omega)
      have i4 : ¬ (k : Int) < (n : Int) := by omega
      have hf : unF s cl = none := by
        unfold unF
        split
        · rfl
        · rw [(hno (by omega)).2, hkn, ← H.out.1, List.drop_length]; rfl
      have HF := Lib.hid hf
      obtain ⟨tk, htk⟩ : ∃ y, colsL ((cellsL s).take k) = y := ⟨_, rfl⟩
      rw [htk]
      clear hkn hno hf htk
      have qb := H.out.2.2.2
      have r0 := qb.cell 0
      have r1 := qb.cell 1
      have r2 := qb.cell 2
      have rf := qb.frozen
      simp only [List.getElem?_toArray, List.getElem?_cons_succ, List.getElem?_cons_zero] at r0 r1 r2
      clear qb
      go_wp2
      have qn := ((H.out.2.2.2.set 0 (.int .i64 0)).set 1 (.int .i64 0)).set 2 (.int .i64 0)
      simp only [List.setIfInBounds_toArray, List.set_cons_zero, List.set_cons_succ] at qn
      have u0 := qn.cell 0
      have u1 := qn.cell 1
      have u2 := qn.cell 2
      simp only [List.getElem?_toArray, List.getElem?_cons_succ, List.getElem?_cons_zero] at u0 u1 u2
      refine bodyPost_ret (v := optB none) (by simp [results, Try.f30, go_sem, optB, cel0, u0, u1, u2]) rfl ⟨by rw [HF.out], ?_⟩
      exact ((H.out.2.2.1.setCell (p := ⟨_, 0, none⟩) (Nat.le_refl _) _).setCell (p := ⟨_, 1, none⟩) (Nat.le_refl _) _).setCell (p := ⟨_, 2, none⟩) (Nat.le_refl _) _
end Go.Proofs.Ytnbhdgbhmcbeoaa
