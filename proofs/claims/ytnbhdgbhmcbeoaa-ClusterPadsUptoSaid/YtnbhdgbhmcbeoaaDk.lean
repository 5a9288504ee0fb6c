/- The document's Cut of layer 5. -/
import Derived.Test.YtnbhdgbhmcbeoaaDc
namespace Go.Proofs.Ytnbhdgbhmcbeoaa
set_option linter.unusedVariables false
set_option linter.unusedSimpArgs false
open Go Go.RowKit Go.Shelf
set_option maxRecDepth 100000

/-- What is cut off is one. -/
theorem cutOf_one {s : ByteArray} {cz : Int} {P Q : List Cel} (h : CutOf s cz P) (h' : CutOf s cz Q) : P = Q := by
  have key : ∀ {P Q : List Cel}, CutOf s cz P → CutOf s cz Q → P.length ≤ Q.length → P = Q := by
    intro P Q ⟨h1, h2, h3⟩ ⟨g1, g2, g3⟩ hl
    have hpq : P <+: Q := List.prefix_of_prefix_length_le h1 g1 hl
    obtain ⟨R, rfl⟩ := hpq
    cases R with
    | nil => simp
    | cons x R =>
      have h4 : P ++ [x] <+: cellsL s := List.IsPrefix.trans ⟨R, by simp⟩ g1
      have h5 := h3 x h4
      rw [colsL_app, colsL_cons] at g2
      push_cast at g2
      omega
  by_cases hl : P.length ≤ Q.length
  · exact key h h' hl
  · exact (key h' h (by omega)).symm
theorem take_snoc' {L : List Cel} {k : Nat} {x : Cel} (h : L[k]? = some x) : L.take k ++ [x] <+: L := by
  refine ⟨L.drop (k + 1), ?_⟩
  obtain ⟨hk, e⟩ := List.getElem?_eq_some_iff.1 h
  rw [List.append_assoc, List.singleton_append, ← e, List.getElem_cons_drop, List.take_append_drop]
theorem pre_at {L P : List Cel} {y : Cel} (h : P ++ [y] <+: L) : L[P.length]? = some y := by
  obtain ⟨R, rfl⟩ := h
  simp
def CkRel (s : ByteArray) (cz : Int) (n : Nat) (w1 : World) (i nv av : Value) (wr : World) : Prop := ∃ k : Nat, i = .int .i64 k ∧ k ≤ n ∧ nv = .int .i64 (colsL ((cellsL s).take k) : Nat) ∧ av = .int .i64 (endC ((cellsL s).take k) : Nat) ∧ (colsL ((cellsL s).take k) : Int) ≤ max cz 0 ∧ w1 = wr

set_option maxHeartbeats 4000000 in
theorem cutD_any (s : ByteArray) (hs : s.size ≤ 1048576) (cz : Int) (w : World) :
    Calls Try.prog 31 #[.string s, .int .i64 cz] w (CutPost s cz w) := by
  have cC := fun W => cells5_any s (by omega) W
  obtain ⟨mx, hmx⟩ : ∃ m, max cz 0 = m := ⟨_, rfl⟩
  have hcase : (cz < 0 ∧ 0 = mx) ∨ (¬ cz < 0 ∧ cz = mx) := by omega
  have hll := cellsL_len s
  rcases hcase with ⟨hcz, rfl⟩ | ⟨hcz, rfl⟩
  · go_enter Try.func31, Try.ntmps31
    go_wp2_with (fail)
    refine (cC _).mono ?_
    rintro e w1 ⟨v, rfl, hv, hb1⟩
    obtain ⟨o, cap, rfl, ho⟩ := own_slice hv
    have rL := RowC.of_own hv rfl
    obtain ⟨n, hn⟩ : ∃ n, (cellsL s).length = n := ⟨_, rfl⟩
    rw [hn] at hll
    rw [hn]
    have hnz : n ≤ 1048576 := by omega
    have H := Lib.hid (And.intro hn (And.intro rL (And.intro hb1 hmx)))
    clear hn rL hv ho hmx hll hb1
    go_wp2
    go_loopw [10, 8, 9] (fun i nv av wr => CkRel s cz n w1 i nv av wr) (fun i _ _ _ => n - (intOf i).toNat)
    case atStart => exact ⟨0, rfl, Nat.zero_le _, rfl, rfl, by simp [colsL]; omega, rfl⟩
    case round =>
      obtain ⟨k, rfl, hk, rfl, rfl, hle, rfl⟩ := hrel
      rw [H.out.2.2.2] at hle
      have HL := Lib.hid (And.intro hle hk)
      clear hle
      by_cases hlt : k < n
      · obtain ⟨x, hx⟩ : ∃ x, (cellsL s)[k]? = some x := ⟨_, List.getElem?_eq_getElem (by rw [H.out.1]; exact hlt)⟩
        obtain ⟨g, off, rfl, c0, c1, c2⟩ := H.out.2.1 k x hx
        have hts : (cellsL s).take (k + 1) = (cellsL s).take k ++ [x] := by rw [List.take_add_one, hx]; rfl
        have hdue := due_cols (take_snoc' hx)
        have hcl : x.2.2 ≤ 2 := (due_cell (take_snoc' hx)).2.2.2.1
        have i1 : (k : Int) < (n : Int) := by omega
        have i2 : (0 : Int) ≤ (k : Int) := by omega
        have i3 : decide ((k : Int) < (n : Int)) = true := decide_eq_true i1
        by_cases hfit : (colsL ((cellsL s).take k) : Int) + (x.2.2 : Int) ≤ 0
        · have HX := Lib.hid (And.intro hts hfit)
          obtain ⟨tk, htk⟩ : ∃ y, colsL ((cellsL s).take k) = y := ⟨_, rfl⟩
          obtain ⟨ek, hek⟩ : ∃ y, endC ((cellsL s).take k) = y := ⟨_, rfl⟩
          rw [htk] at hfit hdue
          have f1 : decide ((tk : Int) + (x.2.2 : Int) ≤ 0) = true := decide_eq_true hfit
          have j1 : IntKind.i64.wrap ((tk : Int) + (x.2.2 : Int)) = (tk : Int) + (x.2.2 : Int) := IntWalk.i64_in _ (by omega)
          rw [htk, hek]
          have HT := Lib.hid (And.intro htk hek)
          clear htk hek hts hx hfit hdue
          go_wp2
          go_roundw
          case rel =>
            refine ⟨k + 1, by go_num, by omega, ?_, ?_, ?_, rfl⟩
            · rw [HX.out.1, colsL_snoc, HT.out.1]; push_cast; rfl
            · rw [HX.out.1, endC_snoc]
            · rw [HX.out.1, colsL_snoc, H.out.2.2.2]; have := HX.out.2; push_cast; omega
          case measure => simp [intOf]; omega
        · have hmax : ∀ y, (cellsL s).take k ++ [y] <+: cellsL s → max cz 0 < (colsL ((cellsL s).take k) : Int) + (y.2.2 : Int) := fun y hy => by
            have := (pre_at hy).symm.trans (by rw [List.length_take, H.out.1, Nat.min_eq_left hk, hx])
            have e : y = x := Option.some.inj this
            rw [e, H.out.2.2.2]; omega
          clear hts
          have hc5 : CutOf s cz ((cellsL s).take k) := ⟨List.take_prefix _ _, by rw [H.out.2.2.2]; exact HL.out.1, hmax⟩
          have hez : endC ((cellsL s).take k) ≤ s.size := endC_le s _ _ (List.take_append_drop k _).symm
          have HC := Lib.hid (And.intro hc5 hez)
          obtain ⟨tk, htk⟩ : ∃ x, colsL ((cellsL s).take k) = x := ⟨_, rfl⟩
          obtain ⟨ek, hek⟩ : ∃ x, endC ((cellsL s).take k) = x := ⟨_, rfl⟩
          rw [hek] at hez
          have HT := Lib.hid (And.intro htk hek)
          rw [htk] at hfit hdue
          have f1 : decide ((tk : Int) + (x.2.2 : Int) ≤ 0) = false := decide_eq_false hfit
          have j1 : IntKind.i64.wrap ((tk : Int) + (x.2.2 : Int)) = (tk : Int) + (x.2.2 : Int) := IntWalk.i64_in _ (by omega)
          rw [htk, hek]
          clear hfit hdue hx
          clear hc5 hmax htk hek
          have z1 : (0 : Int) ≤ (ek : Int) := by omega
          have z2 : (ek : Int) ≤ (s.size : Int) := by omega
          go_wp2
          go_quiet ((fail))
          go_wp2
          refine bodyPost_ret (v := .tuple #[.string (s.extract 0 ek), .string (s.extract ek s.size), .int .i64 (tk : Nat)]) (by simp [results, Try.f31, go_sem]) rfl ?_
          exact ⟨(cellsL s).take k, HC.out.1, HC.out.2, by rw [HT.out.1, HT.out.2], ⟨H.out.2.2.1.os, H.out.2.2.1.tape, H.out.2.2.1.output, H.out.2.2.1.size, H.out.2.2.1.block⟩⟩
      · have hkn : k = n := by omega
        have i3 : decide ((k : Int) < (n : Int)) = false := decide_eq_false (by omega)
        have i4 : ¬ (k : Int) < (n : Int) := by omega
        have hmax : ∀ y, (cellsL s).take k ++ [y] <+: cellsL s → max cz 0 < (colsL ((cellsL s).take k) : Int) + (y.2.2 : Int) := fun y hy => by
          have h1 := hy.length_le
          rw [List.length_append, List.length_take, H.out.1, List.length_singleton] at h1
          omega
        clear hkn
        have hc5 : CutOf s cz ((cellsL s).take k) := ⟨List.take_prefix _ _, by rw [H.out.2.2.2]; exact HL.out.1, hmax⟩
        have hez : endC ((cellsL s).take k) ≤ s.size := endC_le s _ _ (List.take_append_drop k _).symm
        have HC := Lib.hid (And.intro hc5 hez)
        obtain ⟨tk, htk⟩ : ∃ x, colsL ((cellsL s).take k) = x := ⟨_, rfl⟩
        obtain ⟨ek, hek⟩ : ∃ x, endC ((cellsL s).take k) = x := ⟨_, rfl⟩
        rw [hek] at hez
        have HT := Lib.hid (And.intro htk hek)
        rw [htk, hek]
        clear hc5 hmax htk hek
        have z1 : (0 : Int) ≤ (ek : Int) := by omega
        have z2 : (ek : Int) ≤ (s.size : Int) := by omega
        go_wp2
        go_quiet ((fail))
        go_wp2
        refine bodyPost_ret (v := .tuple #[.string (s.extract 0 ek), .string (s.extract ek s.size), .int .i64 (tk : Nat)]) (by simp [results, Try.f31, go_sem]) rfl ?_
        exact ⟨(cellsL s).take k, HC.out.1, HC.out.2, by rw [HT.out.1, HT.out.2], ⟨H.out.2.2.1.os, H.out.2.2.1.tape, H.out.2.2.1.output, H.out.2.2.1.size, H.out.2.2.1.block⟩⟩
  · go_enter Try.func31, Try.ntmps31
    go_wp2_with (fail)
    refine (cC _).mono ?_
    rintro e w1 ⟨v, rfl, hv, hb1⟩
    obtain ⟨o, cap, rfl, ho⟩ := own_slice hv
    have rL := RowC.of_own hv rfl
    obtain ⟨n, hn⟩ : ∃ n, (cellsL s).length = n := ⟨_, rfl⟩
    rw [hn] at hll
    rw [hn]
    have hnz : n ≤ 1048576 := by omega
    have H := Lib.hid (And.intro hn (And.intro rL (And.intro hb1 hmx)))
    clear hn rL hv ho hmx hll hb1
    go_wp2
    go_loopw [10, 8, 9] (fun i nv av wr => CkRel s cz n w1 i nv av wr) (fun i _ _ _ => n - (intOf i).toNat)
    case atStart => exact ⟨0, rfl, Nat.zero_le _, rfl, rfl, by simp [colsL]; omega, rfl⟩
    case round =>
      obtain ⟨k, rfl, hk, rfl, rfl, hle, rfl⟩ := hrel
      rw [H.out.2.2.2] at hle
      have HL := Lib.hid (And.intro hle hk)
      clear hle
      by_cases hlt : k < n
      · obtain ⟨x, hx⟩ : ∃ x, (cellsL s)[k]? = some x := ⟨_, List.getElem?_eq_getElem (by rw [H.out.1]; exact hlt)⟩
        obtain ⟨g, off, rfl, c0, c1, c2⟩ := H.out.2.1 k x hx
        have hts : (cellsL s).take (k + 1) = (cellsL s).take k ++ [x] := by rw [List.take_add_one, hx]; rfl
        have hdue := due_cols (take_snoc' hx)
        have hcl : x.2.2 ≤ 2 := (due_cell (take_snoc' hx)).2.2.2.1
        have i1 : (k : Int) < (n : Int) := by omega
        have i2 : (0 : Int) ≤ (k : Int) := by omega
        have i3 : decide ((k : Int) < (n : Int)) = true := decide_eq_true i1
        by_cases hfit : (colsL ((cellsL s).take k) : Int) + (x.2.2 : Int) ≤ cz
        · have HX := Lib.hid (And.intro hts hfit)
          obtain ⟨tk, htk⟩ : ∃ y, colsL ((cellsL s).take k) = y := ⟨_, rfl⟩
          obtain ⟨ek, hek⟩ : ∃ y, endC ((cellsL s).take k) = y := ⟨_, rfl⟩
          rw [htk] at hfit hdue
          have f1 : decide ((tk : Int) + (x.2.2 : Int) ≤ cz) = true := decide_eq_true hfit
          have j1 : IntKind.i64.wrap ((tk : Int) + (x.2.2 : Int)) = (tk : Int) + (x.2.2 : Int) := IntWalk.i64_in _ (by omega)
          rw [htk, hek]
          have HT := Lib.hid (And.intro htk hek)
          clear htk hek hts hx hfit hdue
          go_wp2
          go_roundw
          case rel =>
            refine ⟨k + 1, by go_num, by omega, ?_, ?_, ?_, rfl⟩
            · rw [HX.out.1, colsL_snoc, HT.out.1]; push_cast; rfl
            · rw [HX.out.1, endC_snoc]
            · rw [HX.out.1, colsL_snoc, H.out.2.2.2]; have := HX.out.2; push_cast; omega
          case measure => simp [intOf]; omega
        · have hmax : ∀ y, (cellsL s).take k ++ [y] <+: cellsL s → max cz 0 < (colsL ((cellsL s).take k) : Int) + (y.2.2 : Int) := fun y hy => by
            have := (pre_at hy).symm.trans (by rw [List.length_take, H.out.1, Nat.min_eq_left hk, hx])
            have e : y = x := Option.some.inj this
            rw [e, H.out.2.2.2]; omega
          clear hts
          have hc5 : CutOf s cz ((cellsL s).take k) := ⟨List.take_prefix _ _, by rw [H.out.2.2.2]; exact HL.out.1, hmax⟩
          have hez : endC ((cellsL s).take k) ≤ s.size := endC_le s _ _ (List.take_append_drop k _).symm
          have HC := Lib.hid (And.intro hc5 hez)
          obtain ⟨tk, htk⟩ : ∃ x, colsL ((cellsL s).take k) = x := ⟨_, rfl⟩
          obtain ⟨ek, hek⟩ : ∃ x, endC ((cellsL s).take k) = x := ⟨_, rfl⟩
          rw [hek] at hez
          have HT := Lib.hid (And.intro htk hek)
          rw [htk] at hfit hdue
          have f1 : decide ((tk : Int) + (x.2.2 : Int) ≤ cz) = false := decide_eq_false hfit
          have j1 : IntKind.i64.wrap ((tk : Int) + (x.2.2 : Int)) = (tk : Int) + (x.2.2 : Int) := IntWalk.i64_in _ (by omega)
          rw [htk, hek]
          clear hfit hdue hx
          clear hc5 hmax htk hek
          have z1 : (0 : Int) ≤ (ek : Int) := by omega
          have z2 : (ek : Int) ≤ (s.size : Int) := by omega
          go_wp2
          go_quiet ((fail))
          go_wp2
          refine bodyPost_ret (v := .tuple #[.string (s.extract 0 ek), .string (s.extract ek s.size), .int .i64 (tk : Nat)]) (by simp [results, Try.f31, go_sem]) rfl ?_
          exact ⟨(cellsL s).take k, HC.out.1, HC.out.2, by rw [HT.out.1, HT.out.2], ⟨H.out.2.2.1.os, H.out.2.2.1.tape, H.out.2.2.1.output, H.out.2.2.1.size, H.out.2.2.1.block⟩⟩
      · have hkn : k = n := by omega
        have i3 : decide ((k : Int) < (n : Int)) = false := decide_eq_false (by omega)
        have i4 : ¬ (k : Int) < (n : Int) := by omega
        have hmax : ∀ y, (cellsL s).take k ++ [y] <+: cellsL s → max cz 0 < (colsL ((cellsL s).take k) : Int) + (y.2.2 : Int) := fun y hy => by
          have h1 := hy.length_le
          rw [List.length_append, List.length_take, H.out.1, List.length_singleton] at h1
          omega
        clear hkn
        have hc5 : CutOf s cz ((cellsL s).take k) := ⟨List.take_prefix _ _, by rw [H.out.2.2.2]; exact HL.out.1, hmax⟩
        have hez : endC ((cellsL s).take k) ≤ s.size := endC_le s _ _ (List.take_append_drop k _).symm
        have HC := Lib.hid (And.intro hc5 hez)
        obtain ⟨tk, htk⟩ : ∃ x, colsL ((cellsL s).take k) = x := ⟨_, rfl⟩
        obtain ⟨ek, hek⟩ : ∃ x, endC ((cellsL s).take k) = x := ⟨_, rfl⟩
        rw [hek] at hez
        have HT := Lib.hid (And.intro htk hek)
        rw [htk, hek]
        clear hc5 hmax htk hek
        have z1 : (0 : Int) ≤ (ek : Int) := by omega
        have z2 : (ek : Int) ≤ (s.size : Int) := by omega
        go_wp2
        go_quiet ((fail))
        go_wp2
        refine bodyPost_ret (v := .tuple #[.string (s.extract 0 ek), .string (s.extract ek s.size), .int .i64 (tk : Nat)]) (by simp [results, Try.f31, go_sem]) rfl ?_
        exact ⟨(cellsL s).take k, HC.out.1, HC.out.2, by rw [HT.out.1, HT.out.2], ⟨H.out.2.2.1.os, H.out.2.2.1.tape, H.out.2.2.1.output, H.out.2.2.1.size, H.out.2.2.1.block⟩⟩
end Go.Proofs.Ytnbhdgbhmcbeoaa
