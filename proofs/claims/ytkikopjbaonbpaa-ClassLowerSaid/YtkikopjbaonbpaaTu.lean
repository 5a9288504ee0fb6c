/- Layer 3: a text whose letters are turned: plain facts. -/
import Derived.Test.YtkikopjbaonbpaaCf
namespace Go.Proofs.Ytkikopjbaonbpaa
set_option linter.unusedVariables false
set_option linter.unusedSimpArgs false
open Go

/-- Is the last piece that is no mark a letter? -/
def ledU (s : ByteArray) (led : Bool) (i : Nat) : Bool := if leB (rn s i) = true then true else (led && (kindZ (rn s i) == 2))
def ledS (s : ByteArray) (l : List Nat) : Bool := l.foldl (ledU s) false
theorem ledS_snoc (s : ByteArray) (l : List Nat) (i : Nat) : ledS s (l ++ [i]) = ledU s (ledS s l) i := by simp [ledS]
theorem ledU_t {s : ByteArray} {i : Nat} (h : leB (rn s i) = true) (b : Bool) : ledU s b i = true := by unfold ledU; rw [if_pos h]
theorem ledU_f {s : ByteArray} {i : Nat} (h : leB (rn s i) = false) (b : Bool) : ledU s b i = (b && (kindZ (rn s i) == 2)) := by unfold ledU; rw [if_neg (by rw [h]; simp)]
/-- Is the first piece that is no mark a letter? -/
def folS (s : ByteArray) : List Nat → Bool
  | [] => false
  | i :: l => if kindZ (rn s i) == 2 then folS s l else leB (rn s i)
theorem kind_2 {r : Int} (h : leB r = true) : (kindZ r == 2) = false := by rw [kind_letter h]; rfl

/-- What stands in a piece's place. -/
def tuF (s : ByteArray) (g : Int → Bool → Bool → ByteArray) (led : Bool) (i : Nat) : ByteArray :=
  if leB (rn s i) = true then g (rn s i) led (((rn s i : Int) == 931) && folS s (posG s (i + wd s i))) else s.extract i (i + wd s i)
theorem tuF_t {s : ByteArray} {g : Int → Bool → Bool → ByteArray} {i : Nat} (h : leB (rn s i) = true) (led : Bool) : tuF s g led i = g (rn s i) led (((rn s i : Int) == 931) && folS s (posG s (i + wd s i))) := by unfold tuF; rw [if_pos h]
theorem tuF_f {s : ByteArray} {g : Int → Bool → Bool → ByteArray} {i : Nat} (h : leB (rn s i) = false) (led : Bool) : tuF s g led i = s.extract i (i + wd s i) := by unfold tuF; rw [if_neg (by rw [h]; simp)]
def tuB (s : ByteArray) (g : Int → Bool → Bool → ByteArray) (st : Bool × List UInt8) (i : Nat) : Bool × List UInt8 := (ledU s st.1 i, st.2 ++ (tuF s g st.1 i).data.toList)
def tuS (s : ByteArray) (g : Int → Bool → Bool → ByteArray) (l : List Nat) : Bool × List UInt8 := l.foldl (tuB s g) (false, [])
theorem tuS_snoc (s : ByteArray) (g : Int → Bool → Bool → ByteArray) (l : List Nat) (i : Nat) : tuS s g (l ++ [i]) = tuB s g (tuS s g l) i := by simp [tuS]
theorem tuS_led (s : ByteArray) (g : Int → Bool → Bool → ByteArray) : ∀ (l : List Nat) (st : Bool × List UInt8), (l.foldl (tuB s g) st).1 = l.foldl (ledU s) st.1 := by
  intro l
  induction l with
  | nil => intro st; rfl
  | cons i l ih => intro st; rw [List.foldl_cons, List.foldl_cons, ih]; rfl
theorem tuS_1 (s : ByteArray) (g : Int → Bool → Bool → ByteArray) (l : List Nat) : (tuS s g l).1 = ledS s l := tuS_led s g l _
theorem tuS_2 (s : ByteArray) (g : Int → Bool → Bool → ByteArray) (l : List Nat) (i : Nat) : (tuS s g (l ++ [i])).2 = (tuS s g l).2 ++ (tuF s g (ledS s l) i).data.toList := by
  rw [tuS_snoc]; unfold tuB; rw [tuS_1]
theorem tuF_le (s : ByteArray) (g : Int → Bool → Bool → ByteArray) (hg : ∀ r a b, (g r a b).size ≤ 4) (led : Bool) (i : Nat) : (tuF s g led i).size ≤ 4 := by
  unfold tuF
  split
  · exact hg _ _ _
  · have := wd_le s i
    rw [ByteArray.size_extract]; omega
theorem tuS_fold (s : ByteArray) (g : Int → Bool → Bool → ByteArray) (hg : ∀ r a b, (g r a b).size ≤ 4) : ∀ (l : List Nat) (st : Bool × List UInt8), (l.foldl (tuB s g) st).2.length ≤ st.2.length + 4 * l.length := by
  intro l
  induction l with
  | nil => intro st; simp
  | cons i l ih =>
    intro st
    have h1 := ih (tuB s g st i)
    have h2 := tuF_le s g hg st.1 i
    have h3 : (tuB s g st i).2.length = st.2.length + (tuF s g st.1 i).size := by
      show (st.2 ++ _).length = _
      rw [List.length_append, Array.length_toList]; rfl
    rw [List.foldl_cons, List.length_cons]; omega
theorem tuS_len (s : ByteArray) (g : Int → Bool → Bool → ByteArray) (hg : ∀ r a b, (g r a b).size ≤ 4) (l : List Nat) : (tuS s g l).2.length ≤ 4 * l.length := by
  have := tuS_fold s g hg l (false, [])
  simpa [tuS] using this

theorem ext_join (s : ByteArray) (a b c : Nat) (h1 : a ≤ b) (h2 : b ≤ c) : (s.extract a b).data.toList ++ (s.extract b c).data.toList = (s.extract a c).data.toList := by
  rw [ByteArray.data_extract, ByteArray.data_extract, ByteArray.data_extract, ← Array.toList_append, Array.extract_append_extract]
  congr 2 <;> omega
/-- Pieces that are no letters stay, in one. -/
theorem tuS_raw (s : ByteArray) (g : Int → Bool → Bool → ByteArray) : ∀ (e : List Nat) (d : List Nat) (F pos : Nat), posG s F = e ++ posG s pos → F ≤ s.size → pos ≤ s.size → (∀ i ∈ e, leB (rn s i) = false) →
    (tuS s g (d ++ e)).2 = (tuS s g d).2 ++ (s.extract F pos).data.toList ∧ F ≤ pos := by
  intro e
  induction e with
  | nil =>
    intro d F pos h hF hp _
    have hFp : F = pos := by
      rw [List.nil_append] at h
      by_cases h1 : F < s.size
      · by_cases h2 : pos < s.size
        · rw [posG_cons s F h1, posG_cons s pos h2] at h; exact (List.cons.inj h).1
        · rw [posG_cons s F h1, posG_end s pos (by omega)] at h; cases h
      · by_cases h2 : pos < s.size
        · rw [posG_end s F (by omega), posG_cons s pos h2] at h; cases h
        · omega
    subst hFp
    simp
  | cons i e ih =>
    intro d F pos h hF hp hno
    by_cases h1 : F < s.size
    · rw [posG_cons s F h1, List.cons_append] at h
      obtain ⟨rfl, h2⟩ := List.cons.inj h
      have hw := wd_fits s F h1
      have := ih (d ++ [F]) (F + wd s F) pos h2 hw hp (fun i hi => hno i (List.mem_cons_of_mem _ hi))
      rw [show d ++ F :: e = d ++ [F] ++ e by simp]
      refine ⟨?_, by omega⟩
      rw [this.1, tuS_2, tuF_f (hno F (by simp)), List.append_assoc, ext_join s F (F + wd s F) pos (by omega) (by omega)]
    · rw [posG_end s F (by omega)] at h; cases h
theorem led_raw (s : ByteArray) (d : List Nat) (e : List Nat) (pos : Nat) (h : leB (rn s pos) = false) : ledS s (d ++ (e ++ [pos])) = (ledS s (d ++ e) && (kindZ (rn s pos) == 2)) := by
  rw [← List.append_assoc, ledS_snoc, ledU_f h]
end Go.Proofs.Ytkikopjbaonbpaa
