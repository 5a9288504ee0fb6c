/- The document's Columns and Edge of layer 5. -/
import Derived.Test.YtnbhdgbhmcbeoaaDk
import Derived.Test.YtnbhdgbhmcbeoaaCle
namespace Go.Proofs.Ytnbhdgbhmcbeoaa
set_option linter.unusedVariables false
set_option linter.unusedSimpArgs false
open Go Go.RowKit Go.Shelf
set_option maxRecDepth 100000

def CoRel (s : ByteArray) (n : Nat) (w1 : World) (i nv : Value) (wr : World) : Prop := ∃ k : Nat, i = .int .i64 k ∧ k ≤ n ∧ nv = .int .i64 (colsL ((cellsL s).take k) : Nat) ∧ w1 = wr

set_option maxHeartbeats 4000000 in
theorem columnsD_any (s : ByteArray) (hs : s.size ≤ 1048576) (w : World) :
    Calls Try.prog 24 #[.string s] w fun e w' => e = .returned (.int .i64 (colsL (cellsL s) : Nat)) ∧ Below w.heap.size w w' := by
  have cC := fun W => cells5_any s (by omega) W
  go_enter Try.func24, Try.ntmps24
  go_wp2_with (fail)
  refine (cC _).mono ?_
  rintro e w1 ⟨v, rfl, hv, hb1⟩
  obtain ⟨o, cap, rfl, ho⟩ := own_slice hv
  have rL := RowC.of_own hv rfl
  obtain ⟨n, hn⟩ : ∃ n, (cellsL s).length = n := ⟨_, rfl⟩
  have H := Lib.hid (And.intro hn (And.intro rL hb1))
  have hnz : n ≤ 1048576 := by have := cellsL_len s; omega
  rw [hn]
  clear hn rL hv ho hb1
  go_wp2
  go_loopw [5, 4] (fun i nv wr => CoRel s n w1 i nv wr) (fun i _ _ => n - (intOf i).toNat)
  case atStart => exact ⟨0, rfl, Nat.zero_le _, rfl, rfl⟩
  case round =>
    obtain ⟨k, rfl, hk, rfl, rfl⟩ := hrel
    by_cases hlt : k < n
    · obtain ⟨x, hx⟩ : ∃ x, (cellsL s)[k]? = some x := ⟨_, List.getElem?_eq_getElem (by rw [H.out.1]; exact hlt)⟩
      obtain ⟨g, off, rfl, c0, c1, c2⟩ := H.out.2.1 k x hx
      have hts : (cellsL s).take (k + 1) = (cellsL s).take k ++ [x] := by rw [List.take_add_one, hx]; rfl
      have hdue := due_cols (take_snoc' hx)
      have i1 : (k : Int) < (n : Int) := by omega
      have i2 : (0 : Int) ≤ (k : Int) := by omega
      have i3 : decide ((k : Int) < (n : Int)) = true := decide_eq_true i1
      obtain ⟨tk, htk⟩ : ∃ y, colsL ((cellsL s).take k) = y := ⟨_, rfl⟩
      rw [htk] at hdue
      have j1 : IntKind.i64.wrap ((tk : Int) + (x.2.2 : Int)) = (tk : Int) + (x.2.2 : Int) := IntWalk.i64_in _ (by omega)
      rw [htk]
      have HT := Lib.hid (And.intro htk hts)
      clear htk hts hx hdue
      go_wp2
      go_roundw
      case rel => exact ⟨k + 1, by go_num, by omega, by rw [HT.out.2, colsL_snoc, HT.out.1]; push_cast; rfl, rfl⟩
      case measure => simp [intOf]; omega
    · have hkn : k = n := by omega
      have i3 : decide ((k : Int) < (n : Int)) = false := decide_eq_false (by omega)
      have i4 : ¬ (k : Int) < (n : Int) := by omega
      have hfull : (cellsL s).take k = cellsL s := by rw [hkn, ← H.out.1]; exact List.take_length ..
      rw [hfull]
      clear hkn hfull
      go_wp2
      go_ret
      exact ⟨rfl, H.out.2.2⟩

def EdRel (s : ByteArray) (at' : Int) (n : Nat) (w1 : World) (i : Value) (wr : World) : Prop := ∃ k : Nat, i = .int .i64 k ∧ k ≤ n ∧ (∀ c ∈ (cellsL s).take k, ((c.1 : Int) == at') = false) ∧ w1 = wr
/-- An edge, as the document reckons it. -/
def edD (s : ByteArray) (at' : Int) : Bool := (cellsL s).any (fun c => (c.1 : Int) == at') || (at' == (s.size : Int))

set_option maxHeartbeats 4000000 in
theorem edgeD_any (s : ByteArray) (hs : s.size ≤ 1048576) (at' : Int) (w : World) :
    Calls Try.prog 25 #[.string s, .int .i64 at'] w fun e w' => e = .returned (.bool (edD s at')) ∧ Below w.heap.size w w' := by
  have cC := fun W => cells5_any s (by omega) W
  go_enter Try.func25, Try.ntmps25
  go_wp2_with (fail)
  refine (cC _).mono ?_
  rintro e w1 ⟨v, rfl, hv, hb1⟩
  obtain ⟨o, cap, rfl, ho⟩ := own_slice hv
  have rL := RowC.of_own hv rfl
  obtain ⟨n, hn⟩ : ∃ n, (cellsL s).length = n := ⟨_, rfl⟩
  have H := Lib.hid (And.intro hn (And.intro rL hb1))
  have hnz : n ≤ 1048576 := by have := cellsL_len s; omega
  rw [hn]
  clear hn rL hv ho hb1
  go_wp2
  go_loopw [6] (fun i wr => EdRel s at' n w1 i wr) (fun i _ => n - (intOf i).toNat)
  case atStart => exact ⟨0, rfl, Nat.zero_le _, fun c h => by simp at h, rfl⟩
  case round =>
    obtain ⟨k, rfl, hk, hno, rfl⟩ := hrel
    by_cases hlt : k < n
    · obtain ⟨x, hx⟩ : ∃ x, (cellsL s)[k]? = some x := ⟨_, List.getElem?_eq_getElem (by rw [H.out.1]; exact hlt)⟩
      obtain ⟨g, off, rfl, c0, c1, c2⟩ := H.out.2.1 k x hx
      have hts : (cellsL s).take (k + 1) = (cellsL s).take k ++ [x] := by rw [List.take_add_one, hx]; rfl
      have i1 : (k : Int) < (n : Int) := by omega
      have i2 : (0 : Int) ≤ (k : Int) := by omega
      have i3 : decide ((k : Int) < (n : Int)) = true := decide_eq_true i1
      have HN := Lib.hid (And.intro hno (And.intro hts (List.mem_of_getElem? hx)))
      clear hno hts hx
      obtain ⟨bb, hbb⟩ : ∃ b, ((x.1 : Int) == at') = b := ⟨_, rfl⟩
      cases bb with
      | true =>
        have HB := Lib.hid hbb
        go_wp2
        go_ret
        refine ⟨?_, H.out.2.2⟩
        have : edD s at' = true := by
          unfold edD
          rw [show (cellsL s).any (fun c => (c.1 : Int) == at') = true from List.any_eq_true.2 ⟨x, HN.out.2.2, HB.out⟩, Bool.true_or]
        rw [this]; rfl
      | false =>
        have HB := Lib.hid hbb
        go_wp2
        go_roundw
        case rel =>
          refine ⟨k + 1, by go_num, by omega, ?_, rfl⟩
          intro c hc
          rw [HN.out.2.1] at hc
          rcases List.mem_append.1 hc with hc | hc
          · exact HN.out.1 c hc
          · rw [List.mem_singleton.1 hc]; exact HB.out
        case measure => simp [intOf]; omega
    · have hkn : k = n := by omega
      have i3 : decide ((k : Int) < (n : Int)) = false := decide_eq_false (by omega)
      have i4 : ¬ (k : Int) < (n : Int) := by omega
      have hfull : (cellsL s).take k = cellsL s := by rw [hkn, ← H.out.1]; exact List.take_length ..
      rw [hfull] at hno
      have hed : edD s at' = (at' == (s.size : Int)) := by
        unfold edD
        rw [show (cellsL s).any (fun c => (c.1 : Int) == at') = false from List.any_eq_false.2 (fun c hc => by rw [hno c hc]; simp), Bool.false_or]
      have HE := Lib.hid hed
      obtain ⟨bb, hbb⟩ : ∃ b, (at' == (s.size : Int)) = b := ⟨_, rfl⟩
      have HB := Lib.hid hbb
      clear hkn hfull hno hed
      go_wp2
      go_ret
      exact ⟨by rw [HE.out, HB.out]; rfl, H.out.2.2⟩
end Go.Proofs.Ytnbhdgbhmcbeoaa
