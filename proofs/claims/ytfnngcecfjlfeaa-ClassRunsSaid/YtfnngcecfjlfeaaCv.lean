/- What vowels and Vowel answer. -/
import Derived.Test.YtfnngcecfjlfeaaCw4
import Derived.Lib.OthersKept
import Derived.Shelf.Abstract
import Derived.Shelf.RegionOpen
namespace Go.Proofs.Ytfnngcecfjlfeaa
set_option linter.unusedVariables false
set_option linter.unusedSimpArgs false
open Go Go.RowKit
set_option maxRecDepth 100000

def vowT : Int → ByteArray
  | 1 => ⟨([97, 101, 105, 111, 117, 121, 195, 160, 195, 161, 195, 162, 195, 163, 195, 164, 195, 165, 195, 166, 195, 168, 195, 169, 195, 170, 195, 171, 195, 172, 195, 173] ++ [195, 174, 195, 175, 195, 178, 195, 179, 195, 180, 195, 181, 195, 182, 195, 184, 195, 185, 195, 186, 195, 187, 195, 188, 195, 189, 195, 191, 196, 129, 196, 131] ++ [196, 133, 196, 147, 196, 149, 196, 151, 196, 153, 196, 155, 196, 169, 196, 171, 196, 173, 196, 175, 196, 177, 197, 141, 197, 143, 197, 145, 197, 147, 197, 169] ++ [197, 171, 197, 173, 197, 175, 197, 177, 197, 179, 197, 183] : List UInt8).toArray⟩
  | 2 => ⟨([206, 144, 206, 172, 206, 173, 206, 174, 206, 175, 206, 176, 206, 177, 206, 181, 206, 183, 206, 185, 206, 191, 207, 133, 207, 137, 207, 138, 207, 139, 207, 140] ++ [207, 141, 207, 142] : List UInt8).toArray⟩
  | 3 => ⟨([208, 176, 208, 181, 208, 184, 208, 190, 209, 131, 209, 139, 209, 141, 209, 142, 209, 143, 209, 144, 209, 145, 209, 148, 209, 150, 209, 151, 209, 157] : List UInt8).toArray⟩
  | _ => ⟨#[]⟩
def vowT4 : ByteArray := ⟨([196, 129, 196, 131, 196, 133, 196, 147, 196, 149, 196, 151, 196, 153, 196, 155, 196, 169, 196, 171, 196, 173, 196, 175, 196, 177, 197, 141, 197, 143, 197, 145] ++ [197, 147, 197, 169, 197, 171, 197, 173, 197, 175, 197, 177, 197, 179, 197, 183, 206, 144, 206, 172, 206, 173, 206, 174, 206, 175, 206, 176, 206, 177, 206, 181] ++ [206, 183, 206, 185, 206, 191, 207, 133, 207, 137, 207, 138, 207, 139, 207, 140, 207, 141, 207, 142, 208, 176, 208, 181, 208, 184, 208, 190, 209, 131, 209, 139] ++ [209, 141, 209, 142, 209, 143, 209, 144, 209, 145, 209, 148, 209, 150, 209, 151, 209, 157] : List UInt8).toArray⟩
/-- The runes of a text, one by one. -/
def runesOf (T : ByteArray) : List Int := (posns T).map fun i => (rn T i : Int)
theorem runes_L : runesOf (vowT 1) = vowL := by kernel_rfl
theorem runes_G : runesOf (vowT 2) = vowG := by kernel_rfl
theorem runes_K : runesOf (vowT 3) = vowK := by kernel_rfl
theorem runes_R : runesOf vowT4 = vowR := by kernel_rfl
theorem runes_N : runesOf ⟨#[]⟩ = [] := by kernel_rfl
theorem scr_four (r : Int) : scrZ r = 0 ∨ scrZ r = 1 ∨ scrZ r = 2 ∨ scrZ r = 3 := by
  unfold scrZ; (repeat' split) <;> simp
theorem vow_runes (r : Int) : (runesOf (vowT (scrZ r))).contains (lowZ r) = vowB r := by
  rw [← (vow_eq r).1]
  unfold vowP
  rcases scr_four r with h | h | h | h
  · rw [h]; show (runesOf ⟨#[]⟩).contains _ = _; rw [runes_N]; rfl
  · rw [h, runes_L]; rfl
  · rw [h, runes_G]; rfl
  · rw [h, runes_K]; rfl

theorem vowels_any (k : Int) (hk : k = 0 ∨ k = 1 ∨ k = 2 ∨ k = 3) (w : World) :
    Calls Try.prog 63 #[.int .i64 k] w fun e w' => e = .returned (.string (vowT k)) ∧ w = w' := by
  rcases hk with rfl | rfl | rfl | rfl
  all_goals
    go_enter Try.func63, Try.ntmps63
    go_wp2
    go_ret
    refine ⟨?_, rfl⟩
    show Ending.returned (.string _) = .returned (.string _)
    congr 2

/-- Between two rounds of a search for a rune in a text. -/
def FiRel (T : ByteArray) (x : Int) (w0 : World) (it : Nat) (wr : World) : Prop :=
  ∃ (pre : List Nat) (pos : Nat), posns T = pre ++ posG T pos ∧ (∀ i ∈ pre, (rn T i : Int) ≠ x) ∧ wr.heap[it]? = some (.stringIter T pos) ∧ Below w0.heap.size w0 wr
theorem fi_yes {T : ByteArray} {x : Int} {pre : List Nat} {pos : Nat} (h : posns T = pre ++ posG T pos) (hp : pos < T.size) (hx : (rn T pos : Int) = x) : (runesOf T).contains x = true := by
  rw [List.contains_iff_mem]
  unfold runesOf
  rw [List.mem_map]
  exact ⟨pos, by rw [h, posG_cons T pos hp]; simp, hx⟩
theorem fi_no {T : ByteArray} {x : Int} {pre : List Nat} {pos : Nat} (h : posns T = pre ++ posG T pos) (hp : T.size ≤ pos) (hx : ∀ i ∈ pre, (rn T i : Int) ≠ x) : (runesOf T).contains x = false := by
  rw [Bool.eq_false_iff]
  intro hc
  rw [List.contains_iff_mem] at hc
  unfold runesOf at hc
  rw [List.mem_map, h, posG_end T pos hp, List.append_nil] at hc
  obtain ⟨i, hi, he⟩ := hc
  exact hx i hi he

set_option maxHeartbeats 2000000 in
theorem vowel_any (r : Int) (w : World) :
    Calls Try.prog 40 #[.int .i32 r] w fun e w' => e = .returned (.bool (vowB r)) ∧ Below w.heap.size w w' := by
  have cL := lower_any r
  have cS := script_any r
  have cV := vowels_any (scrZ r) (scr_four r)
  rw [← vow_runes r]
  obtain ⟨x, hx⟩ : ∃ x, lowZ r = x := ⟨_, rfl⟩
  obtain ⟨k, hk⟩ : ∃ k, scrZ r = k := ⟨_, rfl⟩
  rw [hx] at cL ⊢
  rw [hk] at cS cV ⊢
  obtain ⟨T, hT⟩ : ∃ T, vowT k = T := ⟨_, rfl⟩
  rw [hT] at cV ⊢
  clear hx hk hT
  obtain ⟨y, hy0⟩ : ∃ y, (runesOf T).contains x = y := ⟨_, rfl⟩
  have HY := Lib.hid hy0
  rw [hy0]
  clear hy0
  go_enter Try.func40, Try.ntmps40
  go_wp2_with (first | (go_at_call 33; refine (cL _).mono ?_; rintro e w' ⟨rfl, rfl⟩) | (go_at_call 42; refine (cS _).mono ?_; rintro e w' ⟨rfl, rfl⟩) | (go_at_call 63; refine (cV _).mono ?_; rintro e w' ⟨rfl, rfl⟩))
  go_loopw [] (fun wr => FiRel T x w w.heap.size wr) (fun wr => T.size - wr.iterPos w.heap.size)
  case atStart => exact ⟨[], 0, by simp [posns_G], (fun i hi => by cases hi), World.iter_heap w T 0, (Below.refl _ _).alloc (Nat.le_refl _) _⟩
  case round =>
    obtain ⟨pre, pos, hpp, hno, hit, hB⟩ := hrel
    by_cases hps : pos < T.size
    · have hnx : ∀ ty, (Instr.next (.pointer (some ⟨w.heap.size, 0, none⟩)) true ty).run Try.prog wr = _ := fun ty => Lib.run_next_any_at wr w.heap.size T pos ty hit hps
      rw [dec_eq T pos hps] at hnx
      have hit1 := Lib.iterAt_heap wr w.heap.size T pos (pos + wd T pos) hit
      have hB1 : Below w.heap.size w (wr.iterAt w.heap.size T (pos + wd T pos)) := Lib.below_iterAt hB (Nat.le_refl _) T _
      have hmeas : T.size - (pos + wd T pos) < T.size - wr.iterPos w.heap.size := by
        have := wd_pos T pos
        simp only [World.iterPos, hit]; omega
      have hpp2 : posns T = (pre ++ [pos]) ++ posG T (pos + wd T pos) := by rw [hpp, posG_cons T pos hps]; simp
      obtain ⟨P, hP⟩ : ∃ P, wr.iterAt w.heap.size T (pos + wd T pos) = P := ⟨_, rfl⟩
      rw [hP] at hnx hit1 hB1
      clear hP
      have HM := Lib.hid hmeas
      by_cases he : (rn T pos : Int) = x
      · have hy : Hid (y = true) := Lib.hid (HY.out.symm.trans (fi_yes hpp hps he))
        have heb : ((rn T pos : Int) == x) = true := by rw [beq_iff_eq]; exact he
        clear hpp hpp2 hmeas hit hB hno he
        go_wp2
        go_ret
        exact ⟨by rw [hy.out]; rfl, hB1⟩
      · have HP := Lib.hid hpp2
        have HO := Lib.hid hno
        have HE := Lib.hid he
        have heb : ((rn T pos : Int) == x) = false := by rw [beq_eq_false_iff_ne]; exact he
        clear hpp hpp2 hmeas hit hB hno he
        go_wp2
        go_roundw
        case rel =>
          refine ⟨pre ++ [pos], pos + wd T pos, HP.out, fun i hi => ?_, hit1, hB1⟩
          rcases List.mem_append.1 hi with h | h
          · exact HO.out i h
          · rw [List.mem_singleton.1 h]; exact HE.out
        case measure => simp only [World.iterPos, hit1]; exact HM.out
    · have hy : Hid (y = false) := Lib.hid (HY.out.symm.trans (fi_no hpp (by omega) hno))
      have hnx := fun ty => Lib.run_next_end_at (P := Try.prog) wr w.heap.size T pos ty hit (by omega)
      clear hpp hno
      go_wp2
      go_ret
      exact ⟨by rw [hy.out]; rfl, hB⟩
end Go.Proofs.Ytfnngcecfjlfeaa
