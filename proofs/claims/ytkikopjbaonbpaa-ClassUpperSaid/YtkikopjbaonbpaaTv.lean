/- Layer 3: what class's closures, ahead and lower answer. -/
import Derived.Test.YtkikopjbaonbpaaTu
import Derived.OwnWalk
import Derived.Lib.AppendStr
namespace Go.Proofs.Ytkikopjbaonbpaa
set_option linter.unusedVariables false
set_option linter.unusedSimpArgs false
open Go Go.RowKit Go.Shelf
set_option maxRecDepth 100000

theorem infoU8 : (Try.prog.info? 5).map (fun i => (i.zero, i.size, i.bytes)) = some (some (.int .u8 0), 1, 1) := by kernel_rfl
theorem cells_app (a : List UInt8) (b : ByteArray) : Lib.strCells ⟨(a ++ b.data.toList).toArray⟩ = Lib.strCells ⟨a.toArray⟩ ++ Lib.strCells b := by simp [Lib.strCells]
theorem conv_own {w : World} {base n : Nat} {v : Value} {s : ByteArray} (hn : s.size = n) (h : w.ownsRow base 5 1 v n (Lib.strCells s)) : (convert 39 9 v).run Try.prog w = .ok (.string s) w := by
  have hs : s = ⟨s.data.toList.toArray⟩ := by simp
  rcases h.2 with ⟨rfl, rfl⟩ | ⟨g, cap, cur, rfl, _⟩
  · have : s = ByteArray.empty := by
      have : s.data = #[] := Array.eq_empty_of_size_eq_zero hn
      rw [hs, this]; rfl
    rw [this]
    exact run_convert_bytes_nil w 39 5 Try.underlying39 Try.underlying5 0 0 9 Try.underlying9
  · have hl : s.data.toList.length = n := by rw [Array.length_toList]; exact hn
    have := run_convert_bytes_back (P := Try.prog) w 39 9 5 ⟨g, 0, none⟩ cap s.data.toList Try.underlying39 Try.underlying5 Try.underlying9
      (fun j hj => h.cells (g := g) rfl j _ (by simp only [Lib.strCells, List.getElem?_map, List.getElem?_eq_getElem hj]; rfl))
    rw [hl] at this
    rw [this]

theorem enc_le (r : Int) : (Utf8.encode r).size ≤ 4 := by
  rw [enc_nums, strOfNums_size]
  unfold encL
  (repeat' split) <;> simp

/-- A letter in small letters. -/
def lowG (r : Int) (led fol : Bool) : Int := if r = 931 ∧ led = true ∧ fol = false then 962 else lowZ r
theorem lowC_any (r : Int) (led fol : Bool) (w : World) :
    Calls Try.prog 26 #[.int .i32 r, .bool led, .bool fol] w fun e w' => e = .returned (.int .i32 (lowG r led fol)) ∧ w = w' := by
  have cL := lower_any r
  by_cases h : r = 931
  · subst h
    cases led with
    | false =>
      rw [show lowG 931 false fol = lowZ 931 from rfl]
      obtain ⟨x, hx⟩ : ∃ x, lowZ 931 = x := ⟨_, rfl⟩
      rw [hx] at cL ⊢
      clear hx
      go_enter Try.func26, Try.ntmps26
      go_wp2_with (go_at_call 17; refine (cL _).mono ?_; rintro e w' ⟨rfl, rfl⟩)
      go_ret
      exact ⟨rfl, rfl⟩
    | true =>
      cases fol with
      | false =>
        go_enter Try.func26, Try.ntmps26
        go_wp2
        go_ret
        exact ⟨rfl, rfl⟩
      | true =>
        rw [show lowG 931 true true = lowZ 931 from rfl]
        obtain ⟨x, hx⟩ : ∃ x, lowZ 931 = x := ⟨_, rfl⟩
        rw [hx] at cL ⊢
        clear hx
        go_enter Try.func26, Try.ntmps26
        go_wp2_with (go_at_call 17; refine (cL _).mono ?_; rintro e w' ⟨rfl, rfl⟩)
        go_ret
        exact ⟨rfl, rfl⟩
  · have hb : (r == 931) = false := by rw [beq_eq_false_iff_ne]; exact h
    rw [show lowG r led fol = lowZ r by unfold lowG; rw [if_neg (fun hh => h hh.1)]]
    obtain ⟨x, hx⟩ : ∃ x, lowZ r = x := ⟨_, rfl⟩
    rw [hx] at cL ⊢
    clear hx h
    go_enter Try.func26, Try.ntmps26
    go_wp2_with (go_at_call 17; refine (cL _).mono ?_; rintro e w' ⟨rfl, rfl⟩)
    go_ret
    exact ⟨rfl, rfl⟩

/-- A letter where words have great letters at their heads. -/
def hdG (r : Int) (led fol : Bool) : ByteArray := if led = true then Utf8.encode (lowG r led fol) else Utf8.encode (upZ r)
theorem hdG_le (r : Int) (a b : Bool) : (hdG r a b).size ≤ 4 := by unfold hdG; split <;> exact enc_le _
theorem headC_any (r : Int) (led fol : Bool) (w : World) :
    Calls Try.prog 32 #[.int .i32 r, .bool led, .bool fol] w fun e w' => e = .returned (.string (hdG r led fol)) ∧ w = w' := by
  have cL := lowC_any r led fol
  have cU := upper_any r
  cases led with
  | true =>
    rw [show hdG r true fol = Utf8.encode (lowG r true fol) from rfl]
    obtain ⟨x, hx⟩ : ∃ x, lowG r true fol = x := ⟨_, rfl⟩
    rw [hx] at cL ⊢
    clear hx
    go_enter Try.func32, Try.ntmps32
    go_wp2_with (go_at_call 26; refine (cL _).mono ?_; rintro e w' ⟨rfl, rfl⟩)
    go_ret
    exact ⟨rfl, rfl⟩
  | false =>
    rw [show hdG r false fol = Utf8.encode (upZ r) from rfl]
    obtain ⟨x, hx⟩ : ∃ x, upZ r = x := ⟨_, rfl⟩
    rw [hx] at cU ⊢
    clear hx
    go_enter Try.func32, Try.ntmps32
    go_wp2_with (go_at_call 23; refine (cU _).mono ?_; rintro e w' ⟨rfl, rfl⟩)
    go_ret
    exact ⟨rfl, rfl⟩

theorem folS_cons_m {s : ByteArray} {i : Nat} (h : (kindZ (rn s i) == 2) = true) (l : List Nat) : folS s (i :: l) = folS s l := by simp only [folS]; rw [if_pos h]
theorem folS_cons_n {s : ByteArray} {i : Nat} (h : (kindZ (rn s i) == 2) = false) (l : List Nat) : folS s (i :: l) = leB (rn s i) := by simp only [folS]; rw [if_neg (by rw [h]; simp)]
theorem kind_one (r : Int) : (kindZ r == 1) = leB r := by
  cases h : leB r with
  | true => rw [kind_letter h]; rfl
  | false => exact kind_not h

def AhRel (s : ByteArray) (n : Nat) (w : World) (wr : World) : Prop :=
  ∃ j : Nat, wr.heap[w.heap.size]? = some (.stringIter (s.extract n s.size) j) ∧ folS s (posG s n) = folS s (posG s (n + j)) ∧ Below w.heap.size w wr

set_option maxHeartbeats 1000000 in
theorem ahead_any (s : ByteArray) (n : Nat) (hn : n ≤ s.size) (w : World) :
    Calls Try.prog 33 #[.string (s.extract n s.size)] w fun e w' => e = .returned (.bool (folS s (posG s n))) ∧ Below w.heap.size w w' := by
  obtain ⟨Z, hZ⟩ : ∃ Z, folS s (posG s n) = Z := ⟨_, rfl⟩
  have HZ := Lib.hid hZ
  rw [hZ]
  clear hZ
  go_enter Try.func33, Try.ntmps33
  go_wp2
  go_loopw [] (fun wr => AhRel s n w wr) (fun wr => (s.size - n) - wr.iterPos w.heap.size)
  case atStart => exact ⟨0, World.iter_heap w _ 0, rfl, (Below.refl _ _).alloc (Nat.le_refl _) _⟩
  case round =>
    obtain ⟨j, hit, hf, hB⟩ := hrel
    by_cases hps : j < (s.extract n s.size).size
    · have hjs : n + j < s.size := by rw [tl_size] at hps; omega
      have hnx : ∀ ty, (Instr.next (.pointer (some ⟨w.heap.size, 0, none⟩)) true ty).run Try.prog wr = _ := fun ty => Lib.run_next_any_at wr w.heap.size (s.extract n s.size) j ty hit hps
      rw [dec_eq (s.extract n s.size) j hps, tl_rn, tl_wd] at hnx
      have hit1 := Lib.iterAt_heap wr w.heap.size (s.extract n s.size) j (j + wd s (n + j)) hit
      have hB1 : Below w.heap.size w (wr.iterAt w.heap.size (s.extract n s.size) (j + wd s (n + j))) := Lib.below_iterAt hB (Nat.le_refl _) _ _
      have hmeas : (s.size - n) - (j + wd s (n + j)) < (s.size - n) - wr.iterPos w.heap.size := by
        have := wd_pos s (n + j)
        simp only [World.iterPos, hit]; omega
      rw [posG_cons s (n + j) hjs] at hf
      obtain ⟨P, hP⟩ : ∃ P, wr.iterAt w.heap.size (s.extract n s.size) (j + wd s (n + j)) = P := ⟨_, rfl⟩
      rw [hP] at hnx hit1 hB1
      have HM := Lib.hid hmeas
      have cK := kind_any (rn s (n + j))
      have hk1 := kind_one (rn s (n + j))
      cases hm : (kindZ (rn s (n + j)) == 2) with
      | true =>
        rw [folS_cons_m hm, Nat.add_assoc] at hf
        have HF := Lib.hid hf
        have hK2 : kindZ (rn s (n + j)) = 2 := by rw [beq_iff_eq] at hm; exact hm
        rw [hK2] at cK
        clear hP hmeas hit hB hf hm hK2 hk1
        go_wp2_with (go_at_call 16; refine (cK _).mono ?_; rintro e w' ⟨rfl, rfl⟩)
        go_roundw
        case rel => exact ⟨_, hit1, HF.out, hB1⟩
        case measure => simp only [World.iterPos, hit1]; exact HM.out
      | false =>
        rw [folS_cons_n hm, ← hk1] at hf
        have hZ2 := HZ.out.symm.trans hf
        obtain ⟨K, hKd⟩ : ∃ K, kindZ (rn s (n + j)) = K := ⟨_, rfl⟩
        rw [hKd] at cK hm hZ2
        have HZ2 := Lib.hid hZ2
        clear hP hmeas hit hB hf hk1 hKd hZ2
        go_wp2_with (go_at_call 16; refine (cK _).mono ?_; rintro e w' ⟨rfl, rfl⟩)
        go_ret
        exact ⟨ret_bool HZ2.out.symm, hB1⟩
    · have hnx : ∀ ty, (Instr.next (.pointer (some ⟨w.heap.size, 0, none⟩)) true ty).run Try.prog wr = _ := fun ty => Lib.run_next_end_at wr w.heap.size (s.extract n s.size) j ty hit hps
      rw [tl_size] at hps
      rw [posG_end s (n + j) (by omega)] at hf
      have HZ2 := Lib.hid (HZ.out.symm.trans hf)
      clear hit hf
      go_wp2
      go_ret
      exact ⟨ret_bool HZ2.out.symm, hB⟩

def TuRel (s : ByteArray) (B : List Nat → List UInt8) (w : World) (it : Nat) (o led fr : Value) (wr : World) : Prop :=
  ∃ (d e : List Nat) (F pos : Nat), posns s = d ++ posG s F ∧ posG s F = e ++ posG s pos ∧ (∀ i ∈ e, leB (rn s i) = false) ∧ F ≤ s.size ∧ pos ≤ s.size ∧ fr = .int .i64 (F : Nat) ∧ led = .bool (ledS s (d ++ e)) ∧
    wr.ownsRow w.heap.size 5 1 o (B d).length (Lib.strCells ⟨(B d).toArray⟩) ∧ wr.heap[it]? = some (.stringIter s pos) ∧ Below w.heap.size w wr
end Go.Proofs.Ytkikopjbaonbpaa
