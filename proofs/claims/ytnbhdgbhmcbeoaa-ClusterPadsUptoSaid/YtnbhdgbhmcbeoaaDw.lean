/- The document's layer 5: which letters take two columns. -/
import Derived.Test.YtnbhdgbhmcbeoaaCl1
namespace Go.Proofs.Ytnbhdgbhmcbeoaa
set_option linter.unusedVariables false
set_option linter.unusedSimpArgs false
open Go Go.RowKit Go.Shelf
set_option maxRecDepth 100000

def rgs : List (Int × Int) := [(4352, 4447), (11904, 12350), (12353, 19903), (19968, 42191), (44032, 55203), (63744, 64255), (65072, 65135), (65280, 65376), (65504, 65510), (127744, 128591), (129280, 129535), (131072, 262141)]
theorem wideZ_rgs (r : Int) : wideZ r = rgs.any fun p => decide (p.1 ≤ r ∧ r ≤ p.2) := by
  unfold wideZ rgs
  rw [Bool.eq_iff_iff]
  simp only [decide_eq_true_eq, List.any_cons, List.any_nil, Bool.or_eq_true, Bool.or_false]
def WdRel (r : Int) (w : World) (b : Nat) (i : Value) (wr : World) : Prop := ∃ k : Nat, i = .int .i64 k ∧ k ≤ 12 ∧ (∀ p ∈ rgs.take k, ¬ (p.1 ≤ r ∧ r ≤ p.2)) ∧ Below w.heap.size w wr ∧
  Blk wr b (rgs.map fun p => Value.int .i32 p.1).toArray 97 ∧ Blk wr (b + 1) (rgs.map fun p => Value.int .i32 p.2).toArray 97

set_option maxHeartbeats 4000000 in
theorem wideD_any (r : Int) (w : World) :
    Calls Try.prog 54 #[.int .i32 r] w fun e w' => e = .returned (.bool (wideZ r)) ∧ Below w.heap.size w w' := by
  go_enter Try.func54, Try.ntmps54
  go_wp2
  have b0 := (Blk.new w (rgs.map fun p => Value.int .i32 p.1).toArray 97).alloc (.cells (rgs.map fun p => Value.int .i32 p.2).toArray 97)
  have b1 := Blk.new (w.alloc (.cells (rgs.map fun p => Value.int .i32 p.1).toArray 97)) (rgs.map fun p => Value.int .i32 p.2).toArray 97
  simp only [World.size_alloc] at b1
  have hB := ((Below.refl _ w).alloc (Nat.le_refl _) (.cells (rgs.map fun p => Value.int .i32 p.1).toArray 97)).alloc (by simp) (.cells (rgs.map fun p => Value.int .i32 p.2).toArray 97)
  have hat : WdRel r w w.heap.size (.int .i64 0) _ := ⟨0, rfl, by omega, fun p h => by simp at h, hB, b0, b1⟩
  have hw := wideZ_rgs r
  clear b0 b1 hB
  go_loopw [5] (fun i wr => WdRel r w w.heap.size i wr) (fun i _ => 12 - (intOf i).toNat)
  case atStart => exact hat
  case round =>
    clear hat
    obtain ⟨k, rfl, hk, hno, hB, h0, h1⟩ := hrel
    by_cases hlt : k < 12
    · have i1 : (k : Int) < 12 := by omega
      have i2 : (0 : Int) ≤ (k : Int) := by omega
      have i3 : decide ((k : Int) < 12) = true := decide_eq_true i1
      have hkl : k < rgs.length := hlt
      obtain ⟨p, hp⟩ : ∃ p, rgs[k]? = some p := ⟨_, List.getElem?_eq_getElem hkl⟩
      have c0 := h0.cell k
      have c1 := h1.cell k
      rw [List.getElem?_toArray, List.getElem?_map, hp] at c0 c1
      simp only [Option.map_some] at c0 c1
      obtain ⟨a, b⟩ := p
      simp only at c0 c1
      have hst : rgs.take (k + 1) = rgs.take k ++ [(a, b)] := by rw [List.take_add_one, hp]; rfl
      have HH := Lib.hid (And.intro hno (And.intro hB (And.intro h0 (And.intro h1 (And.intro hst hp)))))
      have HW := Lib.hid hw
      clear hno hB h0 h1 hst hp hw hkl
      by_cases ha : a ≤ r
      · have e1 : decide (a ≤ r) = true := decide_eq_true ha
        by_cases hb : r ≤ b
        · have e2 : decide (r ≤ b) = true := decide_eq_true hb
          have hfin : wideZ r = true := by
            rw [HW.out, List.any_eq_true]
            exact ⟨(a, b), List.mem_of_getElem? HH.out.2.2.2.2.2, decide_eq_true ⟨ha, hb⟩⟩
          have HF := Lib.hid hfin
          clear hfin ha hb
          go_wp2
          go_ret
          exact ⟨by rw [HF.out]; rfl, HH.out.2.1⟩
        · have e2 : decide (r ≤ b) = false := decide_eq_false hb
          have HB := Lib.hid hb
          clear ha hb
          go_wp2
          go_roundw
          case rel =>
            obtain ⟨hno, hB, h0, h1, hst, hp⟩ := HH.out
            refine ⟨k + 1, by go_num, by omega, ?_, hB, h0, h1⟩
            intro p hp
            rw [hst] at hp
            rcases List.mem_append.1 hp with hp | hp
            · exact hno p hp
            · rw [List.mem_singleton.1 hp]; exact fun h => HB.out h.2
          case measure => simp [intOf]; omega
      · have e1 : decide (a ≤ r) = false := decide_eq_false ha
        have HA := Lib.hid ha
        clear ha
        go_wp2
        go_roundw
        case rel =>
          obtain ⟨hno, hB, h0, h1, hst, hp⟩ := HH.out
          refine ⟨k + 1, by go_num, by omega, ?_, hB, h0, h1⟩
          intro p hp
          rw [hst] at hp
          rcases List.mem_append.1 hp with hp | hp
          · exact hno p hp
          · rw [List.mem_singleton.1 hp]; exact fun h => HA.out h.1
        case measure => simp [intOf]; omega
    · have i3 : decide ((k : Int) < 12) = false := decide_eq_false (by omega)
      have i1 : ¬ (k : Int) < 12 := by omega
      have hk12 : k = 12 := by omega
      have hfin : wideZ r = false := by
        rw [hw, List.any_eq_false]
        intro p hp
        rw [hk12] at hno
        simpa using hno p (by simpa [rgs] using hp)
      have HF := Lib.hid (And.intro hfin hB)
      clear hfin hB hno h0 h1 hk12 hw
      go_wp2
      go_ret
      exact ⟨by rw [HF.out.1]; rfl, HF.out.2⟩
end Go.Proofs.Ytnbhdgbhmcbeoaa
