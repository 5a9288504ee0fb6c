/- Several texts in one. -/
import Derived.WalkKit
import Derived.Test.YtjccoiephdopkaaRows
import Derived.Test.YtjccoiephdopkaaZ14
import Derived.WalkSpells
import Derived.WalkLawsBesides
import Derived.Lib.Hide
import Derived.Deep.Light
import Derived.RangeFuncNested
import Derived.RangeFuncBound
import Derived.RangeFuncCalls
import Derived.RangeFuncLeaves
import Derived.RangeFuncBox
import Derived.Shelf.Abstract
import Derived.Shelf.RegionOpen
import Derived.OwnWalkIn
import Derived.TacticsInMore
import Derived.LoopNIn
import Derived.LoopIn
import Derived.Lib.OthersKept
import Derived.Deep.AppendLies
import Derived.Handy
import Derived.Maps.AppendAt
import Derived.BigQuiet
import Derived.Deep.QuietTactic
/- What kind of thing a rune is: numbers alone; no program is spoken of. -/
namespace Go.Proofs.Ytjccoiephdopkaa
set_option linter.unusedVariables false
set_option linter.unusedSimpArgs false

/-- Is r a great letter? -/
def Gr (r : Int) : Prop := (65 ≤ r ∧ r ≤ 90) ∨ (192 ≤ r ∧ r ≤ 222 ∧ r ≠ 215) ∨ (256 ≤ r ∧ r ≤ 311 ∧ r % 2 = 0) ∨ (330 ≤ r ∧ r ≤ 375 ∧ r % 2 = 0) ∨ (313 ≤ r ∧ r ≤ 328 ∧ r % 2 = 1) ∨ (376 ≤ r ∧ r ≤ 377) ∨ r = 379 ∨ r = 381 ∨ (902 ≤ r ∧ r ≤ 911 ∧ r ≠ 903 ∧ r ≠ 907 ∧ r ≠ 909) ∨ (913 ≤ r ∧ r ≤ 939 ∧ r ≠ 930) ∨ (1024 ≤ r ∧ r ≤ 1071)
/-- Is r a small letter? -/
def Sm (r : Int) : Prop := (97 ≤ r ∧ r ≤ 122) ∨ (223 ≤ r ∧ r ≤ 255 ∧ r ≠ 247) ∨ (256 ≤ r ∧ r ≤ 311 ∧ r % 2 = 1) ∨ (330 ≤ r ∧ r ≤ 375 ∧ r % 2 = 1) ∨ (313 ≤ r ∧ r ≤ 328 ∧ r % 2 = 0) ∨ r = 312 ∨ r = 329 ∨ r = 378 ∨ r = 380 ∨ r = 382 ∨ r = 383 ∨ r = 912 ∨ (940 ≤ r ∧ r ≤ 974) ∨ (1072 ≤ r ∧ r ≤ 1119)
instance (r : Int) : Decidable (Gr r) := by unfold Gr; exact inferInstance
instance (r : Int) : Decidable (Sm r) := by unfold Sm; exact inferInstance
def grB (r : Int) : Bool := decide (Gr r)
def smB (r : Int) : Bool := decide (Sm r)
theorem grB_t {r : Int} (h : Gr r) : grB r = true := decide_eq_true h
theorem grB_f {r : Int} (h : ¬ Gr r) : grB r = false := decide_eq_false h
theorem smB_t {r : Int} (h : Sm r) : smB r = true := decide_eq_true h
theorem smB_f {r : Int} (h : ¬ Sm r) : smB r = false := decide_eq_false h
theorem grB_iff {r : Int} : grB r = true ↔ Gr r := decide_eq_true_iff
theorem smB_iff {r : Int} : smB r = true ↔ Sm r := decide_eq_true_iff
theorem grB_not {r : Int} : grB r = false ↔ ¬ Gr r := decide_eq_false_iff_not
theorem smB_not {r : Int} : smB r = false ↔ ¬ Sm r := decide_eq_false_iff_not
theorem gr_sm {r : Int} (h : Gr r) : ¬ Sm r := by unfold Gr at h; unfold Sm; omega
theorem gr_in {r : Int} (h : Gr r) : 65 ≤ r ∧ r ≤ 1119 := by unfold Gr at h; omega
theorem sm_in {r : Int} (h : Sm r) : 65 ≤ r ∧ r ≤ 1119 := by unfold Sm at h; omega

/-- Its small one. -/
def lowZ (r : Int) : Int := if ¬ Gr r then r else if r = 304 then 105 else if r = 376 then 255 else if r = 902 then 940 else if 904 ≤ r ∧ r ≤ 906 then r + 37 else if r = 908 then 972 else if r = 910 ∨ r = 911 then r + 63 else
  if (65 ≤ r ∧ r ≤ 90) ∨ (192 ≤ r ∧ r ≤ 222) ∨ (913 ≤ r ∧ r ≤ 939) ∨ (1040 ≤ r ∧ r ≤ 1071) then r + 32 else if 1024 ≤ r ∧ r ≤ 1039 then r + 80 else r + 1
/-- Its great one. -/
def upZ (r : Int) : Int := if ¬ Sm r then r else if r = 223 ∨ r = 312 ∨ r = 329 ∨ r = 912 ∨ r = 944 then r else if r = 305 then 73 else if r = 383 then 83 else if r = 255 then 376 else if r = 940 then 902 else if r = 962 then 931 else if r = 972 then 908 else if r = 973 ∨ r = 974 then r - 63 else
  if r ≤ 122 ∨ (224 ≤ r ∧ r ≤ 254) ∨ (945 ≤ r ∧ r ≤ 971) ∨ (1072 ≤ r ∧ r ≤ 1103) then r - 32 else if 1104 ≤ r then r - 80 else if 941 ≤ r ∧ r ≤ 943 then r - 37 else r - 1
/-- Its script. -/
def scrZ (r : Int) : Int := if ¬ Gr r ∧ ¬ Sm r then 0 else if r ≤ 383 then 1 else if r ≤ 974 then 2 else 3

/-- The small vowels. -/
def vowL : List Int := [97, 101, 105, 111, 117, 121, 224, 225, 226, 227, 228, 229, 230, 232, 233, 234, 235, 236, 237, 238, 239, 242, 243, 244, 245, 246, 248, 249, 250, 251, 252, 253, 255, 257, 259, 261, 275, 277, 279, 281, 283, 297, 299, 301, 303, 305, 333, 335, 337, 339, 361, 363, 365, 367, 369, 371, 375]
def vowG : List Int := [912, 940, 941, 942, 943, 944, 945, 949, 951, 953, 959, 965, 969, 970, 971, 972, 973, 974]
def vowK : List Int := [1072, 1077, 1080, 1086, 1091, 1099, 1101, 1102, 1103, 1104, 1105, 1108, 1110, 1111, 1117]
def vowR : List Int := [257, 259, 261, 275, 277, 279, 281, 283, 297, 299, 301, 303, 305, 333, 335, 337, 339, 361, 363, 365, 367, 369, 371, 375, 912, 940, 941, 942, 943, 944, 945, 949, 951, 953, 959, 965, 969, 970, 971, 972, 973, 974, 1072, 1077, 1080, 1086, 1091, 1099, 1101, 1102, 1103, 1104, 1105, 1108, 1110, 1111, 1117]
def vowB (r : Int) : Bool := (vowL ++ vowG ++ vowK).contains (lowZ r)
/-- A rune's kind. -/
def kindZ (r : Int) : Int :=
  if r < 0 ∨ (55296 ≤ r ∧ r ≤ 57343) ∨ 1114111 < r then 0 else if Gr r ∨ Sm r then 1 else if 768 ≤ r ∧ r ≤ 879 then 2 else if 48 ≤ r ∧ r ≤ 57 then 3
  else if r = 10 ∨ r = 13 then 4 else if r = 9 ∨ r = 32 ∨ r = 160 ∨ (8192 ≤ r ∧ r ≤ 8202) ∨ r = 8239 ∨ r = 8287 ∨ r = 12288 then 5 else if r = 45 ∨ (8208 ≤ r ∧ r ≤ 8213) then 6
  else if r = 34 ∨ r = 39 ∨ r = 171 ∨ r = 187 ∨ (8216 ≤ r ∧ r ≤ 8223) ∨ r = 8249 ∨ r = 8250 then 7 else if r = 33 ∨ r = 44 ∨ r = 46 ∨ r = 58 ∨ r = 59 ∨ r = 63 ∨ r = 161 ∨ r = 183 ∨ r = 191 ∨ r = 8230 then 8
  else if (0 ≤ r ∧ r ≤ 31) ∨ (127 ≤ r ∧ r ≤ 159) ∨ (8203 ≤ r ∧ r ≤ 8207) ∨ r = 65279 then 9 else 10

/-- How many bytes the form of r has. -/
def encN (r : Int) : Nat := if r < 128 then 1 else if r < 2048 then 2 else 3

theorem fin {P : Nat → Bool} (h : (List.range 1120).all P = true) (r : Int) (h0 : 0 ≤ r) (h1 : r ≤ 1119) : P r.toNat = true := by
  rw [List.all_eq_true] at h
  exact h r.toNat (List.mem_range.2 (by omega))

/-- All that greatSmall asks of a letter. -/
def askB (r : Int) : Bool :=
  !(grB r || smB r) ||
  (lowZ (lowZ r) == lowZ r && upZ (upZ r) == upZ r && (!grB r || (lowZ r != r && upZ r == r)) && (!smB r || lowZ r == r)
   && (r == 305 || r == 383 || r == 962 || lowZ (upZ r) == lowZ r) && (r == 304 || upZ (lowZ r) == upZ r)
   && scrZ (lowZ r) == scrZ r && scrZ (upZ r) == scrZ r && vowB (lowZ r) == vowB r
   && ((r == 304 || r == 305 || r == 383) != (encN (lowZ r) == encN r && encN (upZ r) == encN r))
   && decide (0 ≤ lowZ r) && decide (lowZ r ≤ 1119) && decide (0 ≤ upZ r) && decide (upZ r ≤ 1119))
theorem ask_all : (List.range 1120).all (fun n => askB (n : Int)) = true := by kernel_rfl
theorem ask (r : Int) : askB r = true := by
  by_cases h : Gr r ∨ Sm r
  · have hr : 0 ≤ r ∧ r ≤ 1119 := by
      rcases h with h | h
      · have := gr_in h; omega
      · have := sm_in h; omega
    have := fin ask_all r hr.1 hr.2
    rwa [Int.toNat_of_nonneg hr.1] at this
  · unfold askB
    rw [grB_f (fun h' => h (.inl h')), smB_f (fun h' => h (.inr h'))]
    rfl

theorem low_none {r : Int} (h : ¬ Gr r) : lowZ r = r := by unfold lowZ; rw [if_pos h]
theorem up_none {r : Int} (h : ¬ Sm r) : upZ r = r := by unfold upZ; rw [if_pos h]

structure Asked (r : Int) : Prop where
  low2 : lowZ (lowZ r) = lowZ r
  up2 : upZ (upZ r) = upZ r
  great : Gr r → lowZ r ≠ r ∧ upZ r = r
  small : Sm r → lowZ r = r
  lowup : ¬ (r = 305 ∨ r = 383 ∨ r = 962) → lowZ (upZ r) = lowZ r
  uplow : r ≠ 304 → upZ (lowZ r) = upZ r
  scr1 : scrZ (lowZ r) = scrZ r
  scr2 : scrZ (upZ r) = scrZ r
  vow : vowB (lowZ r) = vowB r
  wide : (r = 304 ∨ r = 305 ∨ r = 383) ↔ ¬ (encN (lowZ r) = encN r ∧ encN (upZ r) = encN r)
  lowin : 0 ≤ lowZ r ∧ lowZ r ≤ 1119
  upin : 0 ≤ upZ r ∧ upZ r ≤ 1119

theorem asked {r : Int} (h : Gr r ∨ Sm r) : Asked r := by
  have ha := ask r
  unfold askB at ha
  have hl : (grB r || smB r) = true := by
    rcases h with h | h
    · rw [grB_t h]; rfl
    · rw [smB_t h]; simp
  rw [hl] at ha
  simp only [Bool.not_true, Bool.false_or, Bool.and_eq_true, beq_iff_eq, Bool.or_eq_true, Bool.not_eq_true', bne_iff_ne, decide_eq_true_eq] at ha
  obtain ⟨⟨⟨⟨⟨⟨⟨⟨⟨⟨⟨⟨⟨a1, a2⟩, a3⟩, a4⟩, a5⟩, a6⟩, a7⟩, a8⟩, a9⟩, a10⟩, a11⟩, a12⟩, a13⟩, a14⟩ := ha
  refine ⟨a1, a2, fun hg => ?_, fun hs => ?_, fun hn => ?_, fun hn => ?_, a7, a8, a9, ?_, ⟨a11, a12⟩, ⟨a13, a14⟩⟩
  · rw [grB_t hg] at a3; simpa using a3
  · rw [smB_t hs] at a4; simpa using a4
  · rcases a5 with h | h
    · exfalso; apply hn; rcases h with (h | h) | h <;> simp [h]
    · exact h
  · rcases a6 with h | h
    · exact absurd h hn
    · exact h
  · constructor
    · intro h1 ⟨h2, h3⟩
      apply a10
      rw [h2, h3]
      rcases h1 with rfl | rfl | rfl <;> rfl
    · intro h1
      by_cases hd : r = 304 ∨ r = 305 ∨ r = 383
      · exact hd
      · exfalso
        apply a10
        have e1 : (r == 304 || r == 305 || r == 383) = false := by
          simp only [Bool.or_eq_false_iff, beq_eq_false_iff_ne]
          omega
        rw [e1]
        symm
        rw [Bool.and_eq_false_iff]
        by_cases h2 : encN (lowZ r) = encN r
        · right; rw [beq_eq_false_iff_ne]; exact fun h3 => h1 ⟨h2, h3⟩
        · left; rw [beq_eq_false_iff_ne]; exact h2

/-- A vowel by its script. -/
def vowP (r : Int) : Bool := if scrZ r = 1 then vowL.contains (lowZ r) else if scrZ r = 2 then vowG.contains (lowZ r) else if scrZ r = 3 then vowK.contains (lowZ r) else false
/-- A vowel, as the document finds it. -/
def vowD (x : Int) : Bool := (x == 97 || x == 101 || x == 105 || x == 111 || x == 117 || x == 121) || (decide (224 ≤ x) && decide (x ≤ 230) || decide (232 ≤ x) && decide (x ≤ 239) || decide (242 ≤ x) && decide (x ≤ 246) || decide (248 ≤ x) && decide (x ≤ 253) || x == 255) || vowR.contains x
theorem vow_all : (List.range 1120).all (fun n => vowP (n : Int) == vowB (n : Int) && vowD (lowZ (n : Int)) == vowB (n : Int)) = true := by kernel_rfl
theorem vow_in (r : Int) (h : r < 0 ∨ 1119 < r) : vowP r = false ∧ vowB r = false ∧ vowD (lowZ r) = false := by
  have hg : ¬ Gr r := fun h' => by have := gr_in h'; omega
  have hs : ¬ Sm r := fun h' => by have := sm_in h'; omega
  have e0 : scrZ r = 0 := by unfold scrZ; rw [if_pos ⟨hg, hs⟩]
  rw [low_none hg]
  refine ⟨by unfold vowP; rw [e0]; rfl, ?_, ?_⟩
  · unfold vowB; rw [low_none hg, Bool.eq_false_iff]
    intro hc
    have := List.contains_iff_mem.1 hc
    simp [vowL, vowG, vowK] at this
    omega
  · rw [Bool.eq_false_iff]
    intro hc
    unfold vowD at hc
    simp only [Bool.or_eq_true, Bool.and_eq_true, beq_iff_eq, decide_eq_true_eq, List.contains_iff_mem] at hc
    simp [vowR] at hc
    omega
theorem vow_eq (r : Int) : vowP r = vowB r ∧ vowD (lowZ r) = vowB r := by
  by_cases h : 0 ≤ r ∧ r ≤ 1119
  · have := fin vow_all r h.1 h.2
    rw [Int.toNat_of_nonneg h.1] at this
    simpa using this
  · obtain ⟨a, b, c⟩ := vow_in r (by omega)
    rw [a, b, c]; simp
end Go.Proofs.Ytjccoiephdopkaa

/- What the program's class answers of a rune. -/
namespace Go.Proofs.Ytjccoiephdopkaa.SZ
set_option linter.unusedVariables false
set_option linter.unusedSimpArgs false
open Go Go.RowKit
set_option maxRecDepth 100000

theorem ret_int {k : IntKind} {a b : Int} (h : a = b) : Ending.returned (.int k a) = .returned (.int k b) := by rw [h]
theorem ret_bool {a b : Bool} (h : a = b) : Ending.returned (.bool a) = .returned (.bool b) := by rw [h]

end Go.Proofs.Ytjccoiephdopkaa.SZ

/- Rows and blocks of one's own: small facts (layer 3). -/
namespace Go.Proofs.Ytjccoiephdopkaa.SZ
set_option linter.unusedVariables false
set_option linter.unusedSimpArgs false
open Go Go.RowKit Go.Shelf
set_option maxRecDepth 100000

theorem bcell {W w1 : World} (hb : Below W.heap.size W w1) : (∀ b o, b < W.heap.size → w1.cell? ⟨b, o, none⟩ = W.cell? ⟨b, o, none⟩) ∧ (∀ b o, b < W.heap.size → w1.frozen? ⟨b, o, none⟩ = W.frozen? ⟨b, o, none⟩) :=
  ⟨fun b o h => hb.cell (p := ⟨b, o, none⟩) h, fun b o h => hb.frozen (p := ⟨b, o, none⟩) h⟩

theorem grown_none {w w' : World} (h : Below w.heap.size w w') : w.grownBy w' none :=
  ⟨h.os, h.tape, h.output, h.size, fun k hk _ => h.block k hk⟩

theorem grown_iterAt (w : World) (k : Nat) (s : ByteArray) (pos : Nat) : w.grownBy (w.iterAt k s pos) (some k) :=
  ⟨rfl, rfl, rfl, by rw [Lib.iterAt_size]; exact Nat.le_refl _, fun i _ h => Lib.iterAt_other w k i s pos (fun e => h (by rw [e]))⟩

/-- What the body of a round keeps for the iterator over a text's pieces: the walk's own object, and the variable that holds the text. -/
def KpB (B : Nat) (W W' : World) : Prop := KeepsWalks W W' ∧ W'.heap[B]? = W.heap[B]?

theorem kpB_t {B : Nat} {X Y Z : World} (h : KpB B X Y) (k : KpB B Y Z) : KpB B X Z := ⟨h.1.trans k.1, k.2.trans h.2⟩
theorem kpB_b {B : Nat} {w : World} (hB : B < w.heap.size) (W : World) (l : Nat) (o o' : Obj) (hl : w.heap.size ≤ l) (h : W.heap[l]? = some o) (_ : o.isCells = false) (hw : o.isWalk = false) : KpB B W (W.putObj l o') :=
  ⟨KeepsWalks.putObj _ h hw, World.putObj_heap_other (by omega)⟩

/-- The cells of a list of pieces. -/
def pcs (s : ByteArray) (l : List Nat) : List Value := l.flatMap fun (i : Nat) => [.int .i64 i, .int .i64 (wd s i : Nat), .int .i32 (rn s i : Nat), .bool (bk s i)]
theorem pcs_snoc (s : ByteArray) (l : List Nat) (i : Nat) : pcs s (l ++ [i]) = pcs s l ++ [.int .i64 i, .int .i64 (wd s i : Nat), .int .i32 (rn s i : Nat), .bool (bk s i)] := by simp [pcs]
theorem pcs_len (s : ByteArray) (l : List Nat) : (pcs s l).length = l.length * 4 := by
  induction l with
  | nil => rfl
  | cons x l ih => simp only [pcs, List.flatMap_cons, List.length_append, List.length_cons, List.length_nil] at ih ⊢; omega

theorem own_below {w w1 : World} {base : Nat} {e : TypeId} {size n : Nat} {v : Value} {xs : List Value} (h : w.ownsRow base e size v n xs) (hb : Below w.heap.size w w1) : w1.ownsRow base e size v n xs :=
  h.kept (grown_none hb) (by cases v.ownBlock <;> simp)

theorem own_other {w w1 : World} {base : Nat} {e : TypeId} {size n : Nat} {v : Value} {xs : List Value} (h : w.ownsRow base e size v n xs) {k : Nat} (hk : w.heap.size ≤ k) (hw : w.heap.size ≤ w1.heap.size) : some k ≠ v.ownBlock := by
  intro e1
  have := h.lt k e1.symm
  omega

theorem rows_apart {w : World} {b1 b2 : Nat} {e1 e2 : TypeId} {s1 s2 n1 n2 : Nat} {v1 v2 : Value} {x1 x2 : List Value} (h1 : w.ownsRow b1 e1 s1 v1 n1 x1) (h2 : w.ownsRow b2 e2 s2 v2 n2 x2) (he : e1 ≠ e2) : v1.ownBlock = none ∨ v1.ownBlock ≠ v2.ownBlock := by
  rcases h1.2 with ⟨rfl, _⟩ | ⟨g1, c1, cur1, rfl, _, hg1, _⟩
  · exact .inl rfl
  · rcases h2.2 with ⟨rfl, _⟩ | ⟨g2, c2, cur2, rfl, _, hg2, _⟩
    · right; simp [Value.ownBlock]
    · right
      simp only [Value.ownBlock, ne_eq, Option.some.injEq]
      intro e
      rw [e, hg2] at hg1
      cases hg1
      exact he rfl

theorem own_slice {w : World} {b : Nat} {e : TypeId} {sz n : Nat} {v : Value} {xs : List Value} (h : w.ownsRow b e sz v n xs) : ∃ o cap, v = .slice o n cap ∧ (0 < n → ∃ g, o = some ⟨g, 0, none⟩) := by
  rcases h.2 with ⟨rfl, rfl⟩ | ⟨g, cap, cur, rfl, _⟩
  · exact ⟨none, 0, rfl, fun h => by omega⟩
  · exact ⟨_, cap, rfl, fun _ => ⟨g, rfl⟩⟩

/-- Numbers, as values. -/
def ints (l : List Nat) : List Value := l.map fun (i : Nat) => Value.int .i64 i
theorem ints_snoc (l : List Nat) (i : Nat) : ints (l ++ [i]) = ints l ++ [.int .i64 i] := by simp [ints]

/-- Piece number k of a list of pieces, where it lies. -/
theorem nth_cells {T : ByteArray} {l : List Nat} {e : TypeId} {base g cap n : Nat} {w : World} (h : w.ownsRow base e 4 (.slice (some ⟨g, 0, none⟩) n cap) n (pcs T l)) (hn : l.length = n) (k : Nat) (hk : k < n) (p : Nat) (hp : l[k]? = some p) :
    w.cell? ⟨g, k * 4, none⟩ = some (.int .i64 p) ∧ w.cell? ⟨g, k * 4 + 1, none⟩ = some (.int .i64 (wd T p : Nat)) ∧
      w.cell? ⟨g, k * 4 + 2, none⟩ = some (.int .i32 (rn T p : Nat)) ∧ w.cell? ⟨g, k * 4 + 3, none⟩ = some (.bool (bk T p)) := by
  have hc := fun j (hj : j < n * 4) => h.cellAt j hj
  have hs : l = l.take k ++ p :: l.drop (k + 1) := by
    have h1 : k < l.length := by omega
    rw [List.getElem?_eq_getElem h1] at hp
    rw [← Option.some.inj hp, List.getElem_cons_drop, List.take_append_drop]
  have hpcs : pcs T l = pcs T (l.take k) ++ ([.int .i64 p, .int .i64 (wd T p : Nat), .int .i32 (rn T p : Nat), .bool (bk T p)] ++ pcs T (l.drop (k + 1))) := by
    conv => lhs; rw [hs]
    simp [pcs]
  have hl : (pcs T (l.take k)).length = k * 4 := by rw [pcs_len, List.length_take]; omega
  refine ⟨?_, ?_, ?_, ?_⟩
  · rw [hc _ (by omega), hpcs, List.getElem?_append_right (by omega), show k * 4 - (pcs T (l.take k)).length = 0 by omega]; rfl
  · rw [hc _ (by omega), hpcs, List.getElem?_append_right (by omega), show k * 4 + 1 - (pcs T (l.take k)).length = 1 by omega]; rfl
  · rw [hc _ (by omega), hpcs, List.getElem?_append_right (by omega), show k * 4 + 2 - (pcs T (l.take k)).length = 2 by omega]; rfl
  · rw [hc _ (by omega), hpcs, List.getElem?_append_right (by omega), show k * 4 + 3 - (pcs T (l.take k)).length = 3 by omega]; rfl

/-- Number k of a list of numbers, where it lies. -/
theorem nth_int {l : List Nat} {e : TypeId} {base g cap n : Nat} {w : World} (h : w.ownsRow base e 1 (.slice (some ⟨g, 0, none⟩) n cap) n (ints l)) (hn : l.length = n) (k : Nat) (hk : k < n) (p : Nat) (hp : l[k]? = some p) :
    w.cell? ⟨g, k, none⟩ = some (.int .i64 p) := by
  rw [h.cellAt k (by omega)]
  simp [ints, hp]

/-- Block B holds the cells cs of type t, none of them frozen. -/
def Blk (W : World) (B : Nat) (cs : Array Value) (t : TypeId) : Prop := W.heap[B]? = some (.cells cs t (0, 0))

theorem Blk.lt {W : World} {B : Nat} {cs : Array Value} {t : TypeId} (h : Blk W B cs t) : B < W.heap.size := (Array.getElem?_eq_some_iff.1 h).1
theorem Blk.cell {W : World} {B : Nat} {cs : Array Value} {t : TypeId} (h : Blk W B cs t) (o : Nat) : W.cell? ⟨B, o, none⟩ = cs[o]? := by
  simp only [World.cell?, show W.heap[B]? = _ from h]; rfl
theorem Blk.frozen {W : World} {B : Nat} {cs : Array Value} {t : TypeId} (h : Blk W B cs t) (o : Nat) : W.frozen? ⟨B, o, none⟩ = false := by simp [World.frozen?, show W.heap[B]? = _ from h]
theorem Blk.new (W : World) (cs : Array Value) (t : TypeId) : Blk (W.alloc (.cells cs t)) W.heap.size cs t := World.alloc_heap_new W _
theorem Blk.kept {W W' : World} {row : Option Nat} {B : Nat} {cs : Array Value} {t : TypeId} (h : Blk W B cs t) (hg : W.grownBy W' row) (hne : some B ≠ row) : Blk W' B cs t := (hg.block B h.lt hne).trans h
theorem Blk.alloc {W : World} {B : Nat} {cs : Array Value} {t : TypeId} (h : Blk W B cs t) (o : Obj) : Blk (W.alloc o) B cs t := h.kept (World.grownBy_alloc W o none) (by simp)
theorem Blk.below {W W' : World} {B n : Nat} {cs : Array Value} {t : TypeId} (h : Blk W B cs t) (hb : Below n W W') (hn : B < n) : Blk W' B cs t := (hb.block B hn).trans h
theorem Blk.below' {W W' : World} {B : Nat} {cs : Array Value} {t : TypeId} (h : Blk W B cs t) (hb : Below W.heap.size W W') : Blk W' B cs t := h.below hb h.lt
theorem Blk.drew {W : World} {B : Nat} {cs : Array Value} {t : TypeId} (h : Blk W B cs t) : Blk W.drew B cs t := h

theorem Blk.set {W : World} {B : Nat} {cs : Array Value} {t : TypeId} (h : Blk W B cs t) (o : Nat) (v : Value) : Blk (W.setCell ⟨B, o, none⟩ v) B (cs.setIfInBounds o v) t := by
  obtain ⟨hlt, hk⟩ := Array.getElem?_eq_some_iff.1 h
  show (W.heap.modify B _)[B]? = _
  rw [Array.getElem?_eq_getElem (by rw [Array.size_modify]; exact hlt), Array.getElem_modify_self, hk]
  rfl
theorem grownBy_setCell (W : World) (b o : Nat) (v : Value) : W.grownBy (W.setCell ⟨b, o, none⟩ v) (some b) :=
  ⟨rfl, rfl, rfl, (by show W.heap.size ≤ (W.heap.modify _ _).size; rw [Array.size_modify]; exact Nat.le_refl _), fun k _ hk => Below.heap_setCell _ _ _ k (fun e => hk (by rw [e]))⟩
theorem Blk.other {W : World} {B B' : Nat} {cs : Array Value} {t : TypeId} (h : Blk W B cs t) (hne : B ≠ B') (o : Nat) (u : Value) : Blk (W.setCell ⟨B', o, none⟩ u) B cs t := h.kept (grownBy_setCell W B' o u) (fun e => hne (by cases e; rfl))
theorem Blk.not_row {W : World} {B : Nat} {cs : Array Value} {t e : TypeId} (h : Blk W B cs t) (hte : t ≠ e) {base size k : Nat} {v : Value} {xs : List Value} (hr : W.ownsRow base e size v k xs) : some B ≠ v.ownBlock := by
  rcases hr.2 with ⟨rfl, _⟩ | ⟨g, cap, cur, rfl, _, hgb, _⟩
  · simp [Value.ownBlock]
  · intro e'
    obtain rfl : B = g := by simpa [Value.ownBlock] using e'
    have := (show W.heap[B]? = _ from h).symm.trans hgb
    simp at this
    exact hte this.2
/-- A row of another type stands when a cell of B is written. -/
theorem row_other {W : World} {B : Nat} {cs : Array Value} {t e : TypeId} (h : Blk W B cs t) (hte : t ≠ e) {base size k : Nat} {v : Value} {xs : List Value} (hr : W.ownsRow base e size v k xs) (o : Nat) (u : Value) : (W.setCell ⟨B, o, none⟩ u).ownsRow base e size v k xs :=
  hr.kept (grownBy_setCell W B o u) (.inr (fun e1 => h.not_row hte hr e1.symm))
theorem drew_row {W : World} {base : Nat} {e : TypeId} {size k : Nat} {v : Value} {xs : List Value} (hr : W.ownsRow base e size v k xs) : W.drew.ownsRow base e size v k xs := hr
/-- A piece of s: the place at which it begins. -/
abbrev Pos (s : ByteArray) := { i : Nat // i < s.size }
theorem take_next {l : List Nat} {k p : Nat} (h : l[k]? = some p) : l.take (k + 1) = l.take k ++ [p] := by
  rw [List.take_add_one, h]; rfl
end Go.Proofs.Ytjccoiephdopkaa.SZ

/- Layer 3: the document's Pieces: a text's pieces as Go's own range tells them. -/
namespace Go.Proofs.Ytjccoiephdopkaa.SZ
set_option linter.unusedVariables false
set_option linter.unusedSimpArgs false
open Go Go.RowKit Go.Shelf
set_option maxRecDepth 100000

/-- Cells of four each. -/
def q4 (l : List (Nat × Nat × Nat × Bool)) : List Value := l.flatMap fun x => [.int .i64 (x.1 : Nat), .int .i64 (x.2.1 : Nat), .int .i32 (x.2.2.1 : Nat), .bool x.2.2.2]
theorem q4_app (a b : List (Nat × Nat × Nat × Bool)) : q4 (a ++ b) = q4 a ++ q4 b := by simp [q4]
theorem q4_one (i w r : Nat) (b : Bool) : q4 [(i, w, r, b)] = [.int .i64 (i : Nat), .int .i64 (w : Nat), .int .i32 (r : Nat), .bool b] := by simp [q4]
theorem q4_len (l : List (Nat × Nat × Nat × Bool)) : (q4 l).length = l.length * 4 := by
  induction l with
  | nil => rfl
  | cons x l ih => simp only [q4, List.flatMap_cons, List.length_append, List.length_cons, List.length_nil] at ih ⊢; omega
theorem q4_set1 (a b : List (Nat × Nat × Nat × Bool)) (i w r : Nat) (c : Bool) (v : Nat) : (q4 (a ++ (i, w, r, c) :: b)).set (a.length * 4 + 1) (.int .i64 v) = q4 (a ++ (i, v, r, c) :: b) := by
  rw [show (i, w, r, c) :: b = [(i, w, r, c)] ++ b from rfl, show (i, v, r, c) :: b = [(i, v, r, c)] ++ b from rfl]
  rw [q4_app, q4_app, q4_app, q4_app, q4_one, q4_one, List.set_append_right _ _ (by rw [q4_len]; omega), q4_len, show a.length * 4 + 1 - a.length * 4 = 1 by omega]
  rfl
theorem q4_set3 (a b : List (Nat × Nat × Nat × Bool)) (i w r : Nat) (c d : Bool) : (q4 (a ++ (i, w, r, c) :: b)).set (a.length * 4 + 3) (.bool d) = q4 (a ++ (i, w, r, d) :: b) := by
  rw [show (i, w, r, c) :: b = [(i, w, r, c)] ++ b from rfl, show (i, w, r, d) :: b = [(i, w, r, d)] ++ b from rfl]
  rw [q4_app, q4_app, q4_app, q4_app, q4_one, q4_one, List.set_append_right _ _ (by rw [q4_len]; omega), q4_len, show a.length * 4 + 3 - a.length * 4 = 3 by omega]
  rfl
theorem q4_at (a b : List (Nat × Nat × Nat × Bool)) (i w r : Nat) (c : Bool) {e : TypeId} {base g cap n : Nat} {W : World} (h : W.ownsRow base e 4 (.slice (some ⟨g, 0, none⟩) n cap) n (q4 (a ++ (i, w, r, c) :: b))) (hn : a.length + 1 + b.length = n) :
    W.cell? ⟨g, a.length * 4, none⟩ = some (.int .i64 i) ∧ W.cell? ⟨g, a.length * 4 + 1, none⟩ = some (.int .i64 w) ∧ W.cell? ⟨g, a.length * 4 + 2, none⟩ = some (.int .i32 r) ∧ W.cell? ⟨g, a.length * 4 + 3, none⟩ = some (.bool c) := by
  have hc := fun j (hj : j < n * 4) => h.cellAt j hj
  have hq : q4 (a ++ (i, w, r, c) :: b) = q4 a ++ ([.int .i64 (i : Nat), .int .i64 (w : Nat), .int .i32 (r : Nat), .bool c] ++ q4 b) := by
    rw [show (i, w, r, c) :: b = [(i, w, r, c)] ++ b from rfl, q4_app, q4_app, q4_one]
  have hl := q4_len a
  refine ⟨?_, ?_, ?_, ?_⟩
  · rw [hc _ (by omega), hq, List.getElem?_append_right (by omega), show a.length * 4 - (q4 a).length = 0 by omega]; rfl
  · rw [hc _ (by omega), hq, List.getElem?_append_right (by omega), show a.length * 4 + 1 - (q4 a).length = 1 by omega]; rfl
  · rw [hc _ (by omega), hq, List.getElem?_append_right (by omega), show a.length * 4 + 2 - (q4 a).length = 2 by omega]; rfl
  · rw [hc _ (by omega), hq, List.getElem?_append_right (by omega), show a.length * 4 + 3 - (q4 a).length = 3 by omega]; rfl

def pHalf (s : ByteArray) (i : Nat) : Nat × Nat × Nat × Bool := (i, wd s i, rn s i, false)
def pFull (s : ByteArray) (i : Nat) : Nat × Nat × Nat × Bool := (i, wd s i, rn s i, bk s i)
theorem q4_pcs (s : ByteArray) (l : List Nat) : q4 (l.map (pFull s)) = pcs s l := by
  simp only [q4, pcs, List.flatMap_map]; rfl

theorem iter_not_row {W : World} {k : Nat} {t : ByteArray} {p : Nat} (h : W.heap[k]? = some (.stringIter t p)) {base size n : Nat} {e : TypeId} {v : Value} {xs : List Value} (hr : W.ownsRow base e size v n xs) : some k ≠ v.ownBlock := by
  rcases hr.2 with ⟨rfl, _⟩ | ⟨g, cap, cur, rfl, _, hgb, _⟩
  · simp [Value.ownBlock]
  · intro e'
    obtain rfl : k = g := by simpa [Value.ownBlock] using e'
    rw [h] at hgb; cases hgb

def PdRel (s : ByteArray) (w : World) (it : Nat) (l : Value) (wr : World) : Prop :=
  ∃ (pre : List Nat) (pos : Nat), posns s = pre ++ posG s pos ∧ wr.heap[it]? = some (.stringIter s pos) ∧ Below w.heap.size w wr ∧
    ((pre = [] ∧ pos = 0 ∧ l = .slice none 0 0) ∨
      ∃ q x, pre = q ++ [x] ∧ x < s.size ∧ pos = x + wd s x ∧ wr.ownsRow w.heap.size 76 4 l (q.length + 1) (q4 (q.map (pHalf s) ++ [(x, 0, rn s x, false)])))
def PdRel2 (s : ByteArray) (n : Nat) (w : World) (g cap : Nat) (i : Value) (wr : World) : Prop :=
  ∃ k : Nat, i = .int .i64 k ∧ k ≤ n ∧ wr.ownsRow w.heap.size 76 4 (.slice (some ⟨g, 0, none⟩) n cap) n (q4 (((posns s).take k).map (pFull s) ++ ((posns s).drop k).map (pHalf s))) ∧ Below w.heap.size w wr

def PdPost (s : ByteArray) (w : World) (e : Ending) (w' : World) : Prop :=
  ∃ v, e = .returned v ∧ w'.ownsRow w.heap.size 76 4 v (posns s).length (pcs s (posns s)) ∧ Below w.heap.size w w'

theorem infoD : (Try.prog.info? 76).map (fun i => (i.zero, i.size, i.bytes)) = some (some (.agg #[.int .i64 0, .int .i64 0, .int .i32 0, .bool false]), 4, 24) := by kernel_rfl

set_option maxHeartbeats 4000000 in
theorem piecesD_any (s : ByteArray) (hs : s.size ≤ 17179869184) (w : World) : Calls Try.prog 35 #[.string s] w (PdPost s w) := by
  obtain ⟨i0, hi, hz0, hz1, hz2⟩ := info_parts infoD
  go_enter Try.func35, Try.ntmps35
  go_wp2
  go_loopw [3] (fun l wr => PdRel s w w.heap.size l wr) (fun _ wr => s.size - wr.iterPos w.heap.size)
  case atStart => exact ⟨[], 0, by simp [posns_G], World.iter_heap w s 0, (Below.refl _ _).alloc (Nat.le_refl _) _, .inl ⟨rfl, rfl, rfl⟩⟩
  case round =>
    obtain ⟨pre, pos, hpp, hit, hB, hd⟩ := hrel
    by_cases hps : pos < s.size
    · have hnx : ∀ ty, (Instr.next (.pointer (some ⟨w.heap.size, 0, none⟩)) true ty).run Try.prog wr = _ := fun ty => Lib.run_next_any_at wr w.heap.size s pos ty hit hps
      rw [dec_eq s pos hps] at hnx
      have hit1 := Lib.iterAt_heap wr w.heap.size s pos (pos + wd s pos) hit
      have hB1 : Below w.heap.size w (wr.iterAt w.heap.size s (pos + wd s pos)) := Lib.below_iterAt hB (Nat.le_refl _) s _
      have hmeas : s.size - (pos + wd s pos) < s.size - wr.iterPos w.heap.size := by
        have := wd_pos s pos
        simp only [World.iterPos, hit]; omega
      have hlen : pre.length < s.size := by
        have h1 := posns_len s
        rw [hpp, posG_cons s pos hps] at h1
        simp at h1; omega
      have hpp2 : posns s = (pre ++ [pos]) ++ posG s (pos + wd s pos) := by rw [hpp, posG_cons s pos hps]; simp
      have hgi := grown_iterAt wr w.heap.size s (pos + wd s pos)
      rcases hd with ⟨rfl, rfl, rfl⟩ | ⟨q, x, rfl, hx, hpx, hown⟩
      · obtain ⟨P, hP⟩ : ∃ P, wr.iterAt w.heap.size s (0 + wd s 0) = P := ⟨_, rfl⟩
        rw [hP] at hnx hit1 hB1
        have HM := Lib.hid hmeas
        have HP := Lib.hid hpp2
        have hown : P.ownsRow w.heap.size 76 4 (.slice none 0 0) 0 [] := World.ownsRow_nil _ _ _ _
        clear hP hpp hpp2 hmeas hit hB hgi
        go_wp2_with (at_builtin; refine wpList_append_own _ rfl _ _ 73 rfl w.heap.size 76 i0 (.agg #[.int .i64 0, .int .i64 0, .int .i32 0, .bool false]) 4 24 Try.underlying73 hi hz0 hz1 hz2 rfl (by decide) (.slice none 0 0) _ _ rfl (hown.alloc _) ⟨P.heap.size, 0, none⟩ 1 1 [.int .i64 0, .int .i64 0, .int .i32 (rn s 0 : Nat), .bool false] rfl rfl (World.news_of_block (cs := #[.int .i64 0, .int .i64 0, .int .i32 (rn s 0 : Nat), .bool false]) (t := 76) (fr := (0, 0)) (World.alloc_heap_new P _)) (fun x hx => by simp at hx; rcases hx with rfl | rfl | rfl | rfl <;> rfl) (by unfold maxLen; omega) (by omega) (by have := hB1.size; simp; omega) ?_; intro v' w2 hown' hgrow _; obtain ⟨g', cap', rfl⟩ := ownsRow_succ hown')
        go_roundw
        case rel =>
          refine ⟨[0], 0 + wd s 0, HP.out, (hgrow.block _ (by have := (Array.getElem?_eq_some_iff.1 hit1).1; simp; omega) (by simp [Value.ownBlock])).trans ((Below.heap_alloc P _ _ (Array.getElem?_eq_some_iff.1 hit1).1).trans hit1), (hB1.alloc hB1.size _).grown hgrow (by have := hB1.size; simp; omega) (fun j hj => by simp [Value.ownBlock] at hj), .inr ⟨[], 0, rfl, hps, rfl, ?_⟩⟩
          rw [List.map_nil, List.nil_append, q4_one]
          exact hown'
        case measure => simp only [World.iterPos, (hgrow.block _ (by have := (Array.getElem?_eq_some_iff.1 hit1).1; simp; omega) (by simp [Value.ownBlock])).trans ((Below.heap_alloc P _ _ (Array.getElem?_eq_some_iff.1 hit1).1).trans hit1)]; exact HM.out
      · obtain ⟨P, hP⟩ : ∃ P, wr.iterAt w.heap.size s (pos + wd s pos) = P := ⟨_, rfl⟩
        have ownP := hown.kept hgi (.inr (fun e => iter_not_row hit hown e.symm))
        rw [hP] at hnx hit1 hB1 ownP
        have HM := Lib.hid hmeas
        have HP := Lib.hid hpp2
        obtain ⟨m, hm⟩ : ∃ m, q.length = m := ⟨_, rfl⟩
        obtain ⟨o, cap, rfl, ho⟩ := own_slice ownP
        obtain ⟨g, rfl⟩ := ho (by omega)
        obtain ⟨A, hA⟩ : ∃ A, q.map (pHalf s) = A := ⟨_, rfl⟩
        have hAm : A.length = m := by rw [← hA, List.length_map, hm]
        rw [hA, hm] at ownP
        rw [hm]
        obtain ⟨W1, hW1⟩ : ∃ W1, wd s x = W1 := ⟨_, rfl⟩
        rw [hW1] at hpx
        have hsub : (pos : Int) - (x : Int) = (W1 : Int) := by omega
        obtain ⟨z0, z1, z2, z3⟩ := q4_at A [] x 0 (rn s x) false ownP (by simp [hAm])
        rw [hAm] at z0 z1 z2 z3
        have zf := ownP.frozenAt (m * 4 + 1)
        have hg0 : w.heap.size ≤ g := (ownP.lt g rfl).1
        have hgne : g ≠ w.heap.size := fun e => iter_not_row hit1 ownP (by rw [← e]; rfl)
        obtain ⟨st, sg⟩ := ownP.stored (m * 4 + 1) (.int .i64 W1)
        rw [← hAm, q4_set1, hAm] at st
        have hit2 := (Below.heap_setCell P ⟨g, m * 4 + 1, none⟩ (.int .i64 W1) w.heap.size (by dsimp only; omega)).trans hit1
        have hB2 := hB1.setCell (p := ⟨g, m * 4 + 1, none⟩) hg0 (.int .i64 W1)
        have hmb : m + 1 ≤ 17179869184 := by rw [List.length_append, hm] at hlen; simp at hlen; omega
        have hmj : ((m + 1 : Nat) : Int) - 1 = (m : Int) := by omega
        have hmi : (m : Int) < ((m + 1 : Nat) : Int) := by omega
        have HA := Lib.hid hA
        have HAm := Lib.hid hAm
        have HW := Lib.hid hW1
        have Hm := Lib.hid hm
        have HX := Lib.hid hpx
        clear hP hpp hpp2 hmeas hit hB hgi hown hA hAm hW1 hm hpx hlen
        go_wp2_with (at_builtin; refine wpList_append_own _ rfl _ _ 73 rfl w.heap.size 76 i0 (.agg #[.int .i64 0, .int .i64 0, .int .i32 0, .bool false]) 4 24 Try.underlying73 hi hz0 hz1 hz2 rfl (by decide) (.slice (some ⟨g, 0, none⟩) (m + 1) cap) _ _ rfl (st.alloc _) ⟨P.heap.size, 0, none⟩ 1 1 [.int .i64 pos, .int .i64 0, .int .i32 (rn s pos : Nat), .bool false] rfl rfl (World.news_of_block (cs := #[.int .i64 pos, .int .i64 0, .int .i32 (rn s pos : Nat), .bool false]) (t := 76) (fr := (0, 0)) (by have := World.alloc_heap_new (P.setCell ⟨g, m * 4 + 1, none⟩ (.int .i64 W1)) (.cells #[.int .i64 pos, .int .i64 0, .int .i32 (rn s pos : Nat), .bool false] 76); rw [show (P.setCell ⟨g, m * 4 + 1, none⟩ (.int .i64 W1)).heap.size = P.heap.size by simp] at this; exact this)) (fun x hx => by simp at hx; rcases hx with rfl | rfl | rfl | rfl <;> rfl) (by unfold maxLen; omega) (by omega) (by have := hB1.size; simp; omega) ?_; intro v' w2 hown' hgrow _; obtain ⟨g', cap', rfl⟩ := ownsRow_succ hown')
        go_roundw
        case rel =>
          have hi3 := (hgrow.block w.heap.size (by have := (Array.getElem?_eq_some_iff.1 hit2).1; simp at this ⊢; omega) (by simp only [Value.ownBlock, ne_eq, Option.some.injEq]; omega)).trans ((Below.heap_alloc _ _ _ (Array.getElem?_eq_some_iff.1 hit2).1).trans hit2)
          refine ⟨(q ++ [x]) ++ [pos], pos + wd s pos, HP.out, hi3, (hB2.alloc hB2.size _).grown hgrow (by have := hB2.size; simp at this ⊢; omega) (fun j hj => (st.lt j hj).1), .inr ⟨q ++ [x], pos, rfl, hps, rfl, ?_⟩⟩
          rw [List.map_append, HA.out, q4_app, q4_one, List.length_append, Hm.out]
          have e : [x].map (pHalf s) = [(x, W1, rn s x, false)] := by simp [pHalf, HW.out]
          rw [e]
          exact hown'
        case measure =>
          have hi3 := (hgrow.block w.heap.size (by have := (Array.getElem?_eq_some_iff.1 hit2).1; simp at this ⊢; omega) (by simp only [Value.ownBlock, ne_eq, Option.some.injEq]; omega)).trans ((Below.heap_alloc _ _ _ (Array.getElem?_eq_some_iff.1 hit2).1).trans hit2)
          simp only [World.iterPos, hi3]; exact HM.out
    · have hsz : s.size ≤ pos := by omega
      have hnx : ∀ ty, (Instr.next (.pointer (some ⟨w.heap.size, 0, none⟩)) true ty).run Try.prog wr = _ := fun ty => Lib.run_next_end_at wr w.heap.size s pos ty hit hps
      rw [posG_end s pos hsz, List.append_nil] at hpp
      rcases hd with ⟨rfl, rfl, rfl⟩ | ⟨q, x, rfl, hx, hpx, hown⟩
      · have HP := Lib.hid hpp
        clear hpp hit
        go_wp2
        go_loopw [6] (fun i wq => i = .int .i64 0 ∧ wq = wr) (fun _ _ => 0)
        case atStart => exact ⟨rfl, rfl⟩
        case round =>
          obtain ⟨rfl, rfl⟩ := hrel
          go_wp2
          go_ret
          exact ⟨_, rfl, by rw [HP.out]; exact World.ownsRow_nil _ _ _ _, hB⟩
      · obtain ⟨m, hm⟩ : ∃ m, q.length = m := ⟨_, rfl⟩
        obtain ⟨o, cap, rfl, ho⟩ := own_slice hown
        obtain ⟨g, rfl⟩ := ho (by omega)
        obtain ⟨A, hA⟩ : ∃ A, q.map (pHalf s) = A := ⟨_, rfl⟩
        have hAm : A.length = m := by rw [← hA, List.length_map, hm]
        have hn1 : (posns s).length = m + 1 := by rw [hpp, List.length_append, hm]; rfl
        rw [hA, hm] at hown
        rw [hm]
        obtain ⟨W1, hW1⟩ : ∃ W1, wd s x = W1 := ⟨_, rfl⟩
        have hwf := wd_fits s x hx
        rw [hW1] at hpx hwf
        have hsub : (s.size : Int) - (x : Int) = (W1 : Int) := by omega
        obtain ⟨z0, z1, z2, z3⟩ := q4_at A [] x 0 (rn s x) false hown (by simp [hAm])
        rw [hAm] at z0 z1 z2 z3
        have zf := hown.frozenAt (m * 4 + 1)
        have hg0 : w.heap.size ≤ g := (hown.lt g rfl).1
        obtain ⟨st, sg⟩ := hown.stored (m * 4 + 1) (.int .i64 W1)
        rw [← hAm, q4_set1, hAm] at st
        have hB2 := hB.setCell (p := ⟨g, m * 4 + 1, none⟩) hg0 (.int .i64 W1)
        have hlen := posns_len s
        rw [hn1] at hlen
        have hmb : m + 1 ≤ 17179869184 := by omega
        have hmj : ((m + 1 : Nat) : Int) - 1 = (m : Int) := by omega
        have hmi : (m : Int) < ((m + 1 : Nat) : Int) := by omega
        have hst : (posns s).map (pHalf s) = A ++ [(x, W1, rn s x, false)] := by rw [hpp, List.map_append, hA]; simp [pHalf, hW1]
        rw [← hst] at st
        have HN := Lib.hid hn1
        clear hit hown hA hAm hW1 hm hpx hwf hlen hst hpp hn1
        go_wp2
        go_loopw [6] (fun i wq => PdRel2 s (m + 1) w g cap i wq) (fun i _ => m + 1 - (intOf i).toNat)
        case atStart => exact ⟨0, rfl, by omega, by rw [List.take_zero, List.drop_zero]; exact st, hB2⟩
        case round =>
          clear st sg hB2 hB z0 z1 z2 z3 zf hsub
          obtain ⟨k, rfl, hk, hv, hB⟩ := hrel
          by_cases hlt : k < m + 1
          · have hlti : (k : Int) < ((m + 1 : Nat) : Int) := by omega
            have hkl : k < (posns s).length := by rw [HN.out]; exact hlt
            obtain ⟨p, hpk⟩ : ∃ p, (posns s)[k]? = some p := ⟨_, List.getElem?_eq_getElem hkl⟩
            have hps := (posG_ge s 0 p (List.mem_of_getElem? hpk)).2
            have hdr : (posns s).drop k = p :: (posns s).drop (k + 1) := by
              have := List.getElem?_eq_some_iff.1 hpk
              obtain ⟨h1, h2⟩ := this
              rw [← h2, List.getElem_cons_drop]
            have htk := take_next hpk
            obtain ⟨a, ha⟩ : ∃ a, ((posns s).take k).map (pFull s) = a := ⟨_, rfl⟩
            obtain ⟨b, hb⟩ : ∃ b, ((posns s).drop (k + 1)).map (pHalf s) = b := ⟨_, rfl⟩
            have hal : a.length = k := by rw [← ha, List.length_map, List.length_take]; omega
            have hbl : b.length = m + 1 - (k + 1) := by rw [← hb, List.length_map, List.length_drop, HN.out]
            have hrow : q4 (((posns s).take k).map (pFull s) ++ ((posns s).drop k).map (pHalf s)) = q4 (a ++ (p, wd s p, rn s p, false) :: b) := by rw [hdr, List.map_cons, ha, hb]; rfl
            have hrow2 : q4 (((posns s).take (k + 1)).map (pFull s) ++ ((posns s).drop (k + 1)).map (pHalf s)) = q4 (a ++ (p, wd s p, rn s p, bk s p) :: b) := by rw [htk, List.map_append, ha, hb]; simp [pFull]
            rw [hrow] at hv
            have HR := Lib.hid hrow2
            obtain ⟨y0, y1, y2, y3⟩ := q4_at a b p (wd s p) (rn s p) false hv (by omega)
            rw [hal] at y0 y1 y2 y3
            have yf := hv.frozenAt (k * 4 + 3)
            have hg0 : w.heap.size ≤ g := (hv.lt g rfl).1
            obtain ⟨st, sg⟩ := hv.stored (k * 4 + 3) (.bool (bk s p))
            rw [← hal, q4_set3, hal, ← HR.out] at st
            have hB2 := hB.setCell (p := ⟨g, k * 4 + 3, none⟩) hg0 (.bool (bk s p))
            have hwz := wid_rn s p hps
            clear hrow hrow2 HR hdr htk ha hb hal hbl hv hB sg hpk hkl
            cases hbk : bk s p with
            | true =>
              obtain ⟨e1, e2⟩ := bk_rn s p hbk
              rw [e1] at y2
              rw [e2] at y1
              rw [hbk] at st hB2
              clear hwz hbk
              go_wp2
              go_roundw
              case rel => exact ⟨k + 1, by go_num, by omega, st, hB2⟩
              case measure => simp [intOf]; omega
            | false =>
              have hw2 := hwz hbk
              rw [hbk] at st hB2
              by_cases h5 : rn s p = 65533
              · have h3 : wd s p = 3 := by rw [← hw2, h5]; rfl
                rw [h5] at y2
                rw [h3] at y1
                clear hwz hbk hw2
                go_wp2
                go_roundw
                case rel => exact ⟨k + 1, by go_num, by omega, st, hB2⟩
                case measure => simp [intOf]; omega
              · have h5b : ((rn s p : Int) == 65533) = false := by rw [beq_eq_false_iff_ne]; omega
                clear hwz hbk hw2
                go_wp2
                go_roundw
                case rel => exact ⟨k + 1, by go_num, by omega, st, hB2⟩
                case measure => simp [intOf]; omega
          · have hkm : k = m + 1 := by omega
            subst hkm
            rw [← HN.out, List.take_length, List.drop_length, List.map_nil, List.append_nil, q4_pcs, HN.out] at hv
            go_wp2
            go_ret
            exact ⟨_, rfl, by rw [HN.out]; exact hv, hB⟩
end Go.Proofs.Ytjccoiephdopkaa.SZ
