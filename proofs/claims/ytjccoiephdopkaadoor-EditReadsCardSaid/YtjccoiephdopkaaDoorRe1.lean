/- Stage 27: the document's reader: c, bad, hex. -/
import Derived.Test.YtjccoiephdopkaaDoorRp1
namespace Go.Proofs.YtjccoiephdopkaaDoor
set_option linter.unusedVariables false
set_option linter.unusedSimpArgs false
open Go Go.RowKit Go.Shelf
set_option maxRecDepth 100000

/-- The document's reader in memory. -/
def RdD (W : World) (B : Nat) (s : ByteArray) (p : Nat) (z : Int) : Prop := Blk W B #[.string s, .int .i64 p, .int .i64 z] 69
theorem cD_ok {B p : Nat} {s : ByteArray} {w : World} (h : RdD w B s p (-1)) (hp : p ≤ s.size) (hs : s.size ≤ 1048576) :
    Calls Tryd.prog 32 #[.pointer (some ⟨B, 0, none⟩)] w fun e w' => e = .returned (.int .u8 (lkN s p)) ∧ ∃ n, w' = w.drewN n := by
  have c0 := h.cell 0
  have c1 := h.cell 1
  have c2 := h.cell 2
  simp only [List.getElem?_toArray, List.getElem?_cons_zero, List.getElem?_cons_succ] at c0 c1 c2
  clear h
  by_cases hq : p < s.size
  · have h1 : (p : Int) < (s.size : Int) := by omega
    have h1d : decide ((p : Int) < (s.size : Int)) = true := decide_eq_true h1
    have h0 : decide ((-1 : Int) < 0) = true := by decide
    have e : lkN s p = bt s p := if_pos hq
    have e2 : bt s p = (s[p]'hq).toNat := (bt_get s p hq).symm
    have HE := Lib.hid (And.intro e e2)
    clear e e2 hp
    go_enter Tryd.func32, Tryd.ntmps32
    go_wp2
    go_quiet ((fail))
    go_wp2
    go_quiet ((fail))
    go_wp2
    go_ret
    exact ⟨by rw [HE.out.1, HE.out.2]; rfl, _, World.drewN_drewN _ _ _⟩
  · obtain rfl : p = s.size := by omega
    have h1d : decide ((s.size : Int) < (s.size : Int)) = false := decide_eq_false (by omega)
    have e : lkN s s.size = 0 := if_neg (Nat.lt_irrefl _)
    have HE := Lib.hid e
    clear e hp hq
    go_enter Tryd.func32, Tryd.ntmps32
    go_wp2
    go_quiet ((fail))
    go_wp2
    go_ret
    exact ⟨by rw [HE.out]; rfl, _, rfl⟩
theorem cD_bad {B p : Nat} {z : Int} {s : ByteArray} {w : World} (h : RdD w B s p z) (hz : 0 ≤ z) :
    Calls Tryd.prog 32 #[.pointer (some ⟨B, 0, none⟩)] w fun e w' => e = .returned (.int .u8 0) ∧ ∃ n, w' = w.drewN n := by
  have c0 := h.cell 0
  have c1 := h.cell 1
  have c2 := h.cell 2
  simp only [List.getElem?_toArray, List.getElem?_cons_zero, List.getElem?_cons_succ] at c0 c1 c2
  clear h
  have h0 : decide (z < 0) = false := decide_eq_false (by omega)
  go_enter Tryd.func32, Tryd.ntmps32
  go_wp2
  go_quiet ((fail))
  go_wp2
  go_ret
  exact ⟨rfl, _, rfl⟩
theorem badD_ok {B p : Nat} {s : ByteArray} {w : World} (h : RdD w B s p (-1)) (q : Nat) :
    Calls Tryd.prog 34 #[.pointer (some ⟨B, 0, none⟩), .int .i64 q] w fun e w' => e = .returned (.tuple #[]) ∧ w' = w.setCell ⟨B, 2, none⟩ (.int .i64 q) := by
  have c2 := h.cell 2
  have cf := h.frozen 2
  simp only [List.getElem?_toArray, List.getElem?_cons_zero, List.getElem?_cons_succ] at c2
  clear h
  go_enter Tryd.func34, Tryd.ntmps34
  go_wp2
  refine bodyPost_end (results_none rfl _ _ _) rfl ?_
  exact ⟨rfl, rfl⟩
theorem badD_no {B p : Nat} {z : Int} {s : ByteArray} {w : World} (h : RdD w B s p z) (hz : 0 ≤ z) (q : Nat) :
    Calls Tryd.prog 34 #[.pointer (some ⟨B, 0, none⟩), .int .i64 q] w fun e w' => e = .returned (.tuple #[]) ∧ w' = w := by
  have c2 := h.cell 2
  simp only [List.getElem?_toArray, List.getElem?_cons_zero, List.getElem?_cons_succ] at c2
  clear h
  have hz2 : ¬ z < 0 := by omega
  go_enter Tryd.func34, Tryd.ntmps34
  go_wp2
  refine bodyPost_end (results_none rfl _ _ _) rfl ?_
  exact ⟨rfl, rfl⟩
theorem hx_all : ∀ i : Fin 16, ∀ c : Fin 256, ((hxD i.1).toNat = c.1 ↔ hxV c.1 = some i.1) := by decide +kernel
def hxI (c : Nat) : Int := match hxV c with | some d => (d : Int) | none => -1
set_option maxHeartbeats 4000000 in
theorem hexD_any (c : Nat) (hc : c < 256) (w : World) : Calls Tryd.prog 87 #[.int .u8 c] w fun e w' => e = .returned (.int .i64 (hxI c)) ∧ w' = w := by
  have hx : ∀ i, i < 16 → ((hxD i).toNat = c ↔ hxV c = some i) := fun i hi => hx_all ⟨i, hi⟩ ⟨c, hc⟩
  have ed := dg16_lit
  have HX := Lib.hid hx
  clear hx hc
  go_enter Tryd.func87, Tryd.ntmps87
  rw [ed]
  go_wp2
  go_loopw [3] (fun vi wr => ∃ i : Nat, vi = .int .i64 i ∧ Hid (i ≤ 16 ∧ (∀ d, hxV c = some d → i ≤ d) ∧ wr = w)) (fun vi _ => 16 - (RowKit.intOf vi).toNat)
  case atStart => exact ⟨0, rfl, by omega, fun d _ => by omega, rfl⟩
  case round =>
    obtain ⟨i, rfl, HR⟩ := hrel
    rename World => X
    obtain ⟨h1, h2, rfl⟩ := HR.out
    by_cases hi : i < 16
    · have hiI : (i : Int) < 16 := by omega
      have hix := fun W => idx_hx .i64 (i : Int) i rfl hi W
      have hxi := HX.out i hi
      obtain ⟨g, hg⟩ : ∃ g, (hxD i).toNat = g := ⟨_, rfl⟩
      rw [hg] at hix hxi
      by_cases he : g = c
      · have hv := hxi.1 he
        have hI : hxI c = (i : Int) := by unfold hxI; rw [hv]
        subst he
        have HI := Lib.hid hI
        clear h1 h2 hi hxi hg hv hI HX HR
        go_wp2
        go_ret
        exact ⟨by rw [HI.out]; rfl, rfl⟩
      · have e1 : ¬ (g : Int) = (c : Int) := by omega
        have e2 : ((g : Int) == (c : Int)) = false := by rw [beq_eq_false_iff_ne]; exact e1
        have HN := Lib.hid (show ∀ d, hxV c = some d → i + 1 ≤ d from fun d hd => by
          have := h2 d hd
          have : i ≠ d := fun e => he (hxi.2 (by rw [e]; exact hd))
          omega)
        have HI := Lib.hid hi
        clear h1 h2 hi hxi hg he HX HR
        go_wp2
        go_roundw
        case rel => exact ⟨i + 1, by go_num, by have := HI.out; omega, HN.out, trivial⟩
        case measure => have := HI.out; simp [intOf]; omega
    · have hiI : ¬ (i : Int) < 16 := by omega
      have hv : hxV c = none := by
        rcases hh : hxV c with _ | d
        · rfl
        · have := h2 d hh
          have := (hxV_lt hh).1
          omega
      have HI := Lib.hid (show hxI c = -1 by unfold hxI; rw [hv])
      clear h1 h2 hi hv HX HR
      go_wp2
      go_ret
      exact ⟨by rw [HI.out]; rfl, rfl⟩
end Go.Proofs.YtjccoiephdopkaaDoor
