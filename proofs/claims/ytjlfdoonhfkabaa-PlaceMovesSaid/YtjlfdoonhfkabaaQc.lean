/- Places: the lines of a text. -/
import Derived.Test.YtjlfdoonhfkabaaQa
namespace Go.Proofs.Ytjlfdoonhfkabaa
set_option linter.unusedVariables false
set_option linter.unusedSimpArgs false
open Go Go.RowKit
set_option maxRecDepth 100000

/-- How many bytes the line end at a place has; 0 if there is none. -/
def lnE (s : ByteArray) (i : Nat) : Nat := if bt s i = 10 then 1 else if bt s i = 13 then (if lfAt s (i + 1) = true then 2 else 1) else 0
theorem lnE_le (s : ByteArray) (i : Nat) : lnE s i ≤ 2 := by unfold lnE; split <;> (try split) <;> (try split) <;> omega
theorem lnE_fits (s : ByteArray) (i : Nat) (h : i < s.size) : i + lnE s i ≤ s.size := by
  unfold lnE
  split
  · omega
  · split
    · split
      · rename_i h1
        simp [lfAt] at h1; omega
      · omega
    · omega

/-- The lines from a place on: where each begins, where its end begins, how many bytes that has. -/
def rwG (s : ByteArray) : Nat → Nat → Nat → List (Nat × Nat × Nat)
  | 0, b, _ => [(b, s.size, 0)]
  | f + 1, b, i => if i < s.size then (if lnE s i = 0 then rwG s f b (i + 1) else (b, i, lnE s i) :: rwG s f (i + lnE s i) (i + lnE s i)) else [(b, s.size, 0)]
theorem rwG_end (s : ByteArray) (f b i : Nat) (h : s.size ≤ i) : rwG s f b i = [(b, s.size, 0)] := by
  cases f with
  | zero => rfl
  | succ f => rw [rwG, if_neg (by omega)]
theorem rwG_fuel (s : ByteArray) : ∀ f g b i, s.size ≤ i + f → s.size ≤ i + g → rwG s f b i = rwG s g b i := by
  intro f
  induction f with
  | zero => intro g b i h _; rw [rwG_end s g b i (by omega)]; rfl
  | succ f ih =>
    intro g b i h hg
    by_cases hi : i < s.size
    · obtain ⟨g, rfl⟩ : ∃ g', g = g' + 1 := ⟨g - 1, by omega⟩
      rw [rwG, rwG, if_pos hi, if_pos hi]
      by_cases he : lnE s i = 0
      · rw [if_pos he, if_pos he]; exact ih _ _ _ (by omega) (by omega)
      · rw [if_neg he, if_neg he, ih g _ _ (by omega) (by omega)]
    · rw [rwG_end _ _ _ _ (by omega), rwG_end _ _ _ _ (by omega)]
def rwA (s : ByteArray) (b i : Nat) : List (Nat × Nat × Nat) := rwG s (s.size - i) b i
def rws (s : ByteArray) : List (Nat × Nat × Nat) := rwA s 0 0
theorem rwA_end (s : ByteArray) (b i : Nat) (h : s.size ≤ i) : rwA s b i = [(b, s.size, 0)] := rwG_end s _ b i h
theorem rwA_on (s : ByteArray) (b i : Nat) (h : i < s.size) (he : lnE s i = 0) : rwA s b i = rwA s b (i + 1) := by
  obtain ⟨f, hf⟩ : ∃ f, s.size - i = f + 1 := ⟨s.size - i - 1, by omega⟩
  unfold rwA
  rw [hf, rwG, if_pos h, if_pos he]
  exact rwG_fuel s _ _ _ _ (by omega) (by omega)
theorem rwA_line (s : ByteArray) (b i : Nat) (h : i < s.size) (he : lnE s i ≠ 0) : rwA s b i = (b, i, lnE s i) :: rwA s (i + lnE s i) (i + lnE s i) := by
  obtain ⟨f, hf⟩ : ∃ f, s.size - i = f + 1 := ⟨s.size - i - 1, by omega⟩
  unfold rwA
  rw [hf, rwG, if_pos h, if_neg he, rwG_fuel s _ (s.size - (i + lnE s i)) _ _ (by omega) (by omega)]
theorem rwG_len (s : ByteArray) : ∀ f b i, (rwG s f b i).length ≤ f + 1 := by
  intro f
  induction f with
  | zero => intro b i; simp [rwG]
  | succ f ih =>
    intro b i
    rw [rwG]
    split
    · split
      · have := ih b (i + 1); omega
      · have := ih (i + lnE s i) (i + lnE s i); simp only [List.length_cons]; omega
    · simp
theorem rws_len (s : ByteArray) : (rws s).length ≤ s.size + 1 := rwG_len s _ _ _

def rwC (l : List (Nat × Nat × Nat)) : List Value := l.flatMap fun r => [.int .i64 r.1, .int .i64 r.2.1, .int .i64 r.2.2]
theorem rwC_snoc (l : List (Nat × Nat × Nat)) (b i e : Nat) : rwC (l ++ [(b, i, e)]) = rwC l ++ [.int .i64 b, .int .i64 i, .int .i64 e] := by simp [rwC]
theorem rwC_len (l : List (Nat × Nat × Nat)) : (rwC l).length = l.length * 3 := by
  induction l with
  | nil => rfl
  | cons x l ih => simp only [rwC, List.flatMap_cons, List.length_append, List.length_cons, List.length_nil] at ih ⊢; omega

theorem infoRw : (Try.prog.info? 83).map (fun i => (i.zero, i.size, i.bytes)) = some (some (.agg #[.int .i64 0, .int .i64 0, .int .i64 0]), 3, 24) := by kernel_rfl

def RwRel (s : ByteArray) (w : World) (l v u : Value) (wr : World) : Prop :=
  ∃ (pre : List (Nat × Nat × Nat)) (b i : Nat), v = .int .i64 b ∧ u = .int .i64 i ∧ i ≤ s.size ∧ rws s = pre ++ rwA s b i ∧ wr.ownsRow w.heap.size 83 3 l pre.length (rwC pre) ∧ Below w.heap.size w wr

def RwPost (s : ByteArray) (w : World) (e : Ending) (w' : World) : Prop :=
  ∃ v, e = .returned v ∧ w'.ownsRow w.heap.size 83 3 v (rws s).length (rwC (rws s)) ∧ Below w.heap.size w w'

set_option maxHeartbeats 2000000 in
theorem rows_any (s : ByteArray) (hs : s.size ≤ 65536) (w : World) :
    Calls Try.prog 34 #[.string s] w (RwPost s w) := by
  obtain ⟨i0, hi, hz0, hz1, hz2⟩ := info_parts infoRw
  have hrl := rws_len s
  go_enter Try.func34, Try.ntmps34
  go_wp2
  go_step3
  go_wp2
  go_step3
  go_wp2
  go_loopw [3, 4, 5] (fun l v u wr => RwRel s w l v u wr) (fun _ _ u _ => s.size - (intOf u).toNat)
  case atStart => exact ⟨[], 0, 0, rfl, rfl, Nat.zero_le _, rfl, World.ownsRow_nil _ _ _ _, Below.refl _ _⟩
  case round =>
    obtain ⟨pre, b, i, rfl, rfl, hils, hpp, hown, hB⟩ := hrel
    by_cases hlt : i < s.size
    · have hbs := bt_get s i hlt
      have hbl := bt_lt s i
      have hii : (i : Int) < (s.size : Int) := by omega
      have hi0 : (0 : Int) ≤ (i : Int) := by omega
      have cF := feeds_any s (i + 1)
      have hle := lnE_fits s i hlt
      have hcs : (lnE s i = 0 ∧ ((bt s i : Int) == 10) = false ∧ ((bt s i : Int) == 13) = false) ∨ (lnE s i = 1 ∧ ((bt s i : Int) == 10) = true ∧ ((bt s i : Int) == 13) = false) ∨
          (lnE s i = 2 ∧ ((bt s i : Int) == 10) = false ∧ ((bt s i : Int) == 13) = true ∧ lfAt s (i + 1) = true) ∨ (lnE s i = 1 ∧ ((bt s i : Int) == 10) = false ∧ ((bt s i : Int) == 13) = true ∧ lfAt s (i + 1) = false) := by
        unfold lnE
        by_cases h1 : bt s i = 10
        · right; left
          rw [if_pos h1, h1]; exact ⟨rfl, rfl, rfl⟩
        · have e1 : ((bt s i : Int) == 10) = false := by rw [beq_eq_false_iff_ne]; omega
          rw [if_neg h1]
          by_cases h2 : bt s i = 13
          · have e2 : ((bt s i : Int) == 13) = true := by rw [beq_iff_eq]; omega
            rw [if_pos h2]
            cases h3 : lfAt s (i + 1) with
            | true => right; right; left; rw [if_pos rfl]; exact ⟨rfl, e1, e2, rfl⟩
            | false => right; right; right; rw [if_neg (by decide)]; exact ⟨rfl, e1, e2, rfl⟩
          · have e2 : ((bt s i : Int) == 13) = false := by rw [beq_eq_false_iff_ne]; omega
            rw [if_neg h2]
            left; exact ⟨rfl, e1, e2⟩
      have hon := rwA_on s b i hlt
      have hln := rwA_line s b i hlt
      obtain ⟨lf, hlf⟩ : ∃ lf, lfAt s (i + 1) = lf := ⟨_, rfl⟩
      obtain ⟨bx, hbx⟩ : ∃ bx, bt s i = bx := ⟨_, rfl⟩
      rw [hlf] at cF hcs
      rw [hbx] at hbs hbl hcs
      obtain ⟨le, hle'⟩ : ∃ le, lnE s i = le := ⟨_, rfl⟩
      rw [hle'] at hon hln hle hcs
      clear hlf hbx hle'
      have hlen : pre.length ≤ s.size := by
        have h1 : (rws s).length = pre.length + (rwA s b i).length := by rw [hpp, List.length_append]
        have h2 : 1 ≤ (rwA s b i).length := by
          unfold rwA
          cases h3 : rwG s (s.size - i) b i with
          | nil =>
            exfalso
            have : ∀ f b i, rwG s f b i ≠ [] := by
              intro f
              induction f with
              | zero => intro b i h; simp [rwG] at h
              | succ f ih =>
                intro b i h
                rw [rwG] at h
                split at h
                · split at h
                  · exact ih _ _ h
                  · cases h
                · cases h
            exact this _ _ _ h3
          | cons x l => simp
        omega
      rcases hcs with ⟨rfl, e1, e2⟩ | ⟨rfl, e1, e2⟩ | ⟨rfl, e1, e2, rfl⟩ | ⟨rfl, e1, e2, rfl⟩
      · have hp2 := Lib.hid (hpp.trans (by rw [hon rfl]) : rws s = pre ++ rwA s b (i + 1))
        clear hpp hon hln hle
        go_wp2
        go_roundw
        case rel => exact ⟨pre, b, i + 1, rfl, by go_num, by omega, hp2.out, hown, hB⟩
        case measure => simp [intOf]; omega
      · have hp2 := Lib.hid ((hpp.trans (by rw [hln (by decide), List.append_cons])) : rws s = (pre ++ [(b, i, 1)]) ++ rwA s (i + 1) (i + 1))
        clear hpp hon hln
        go_wp2_with (first | (go_at_call 47; rw [show ((i : Int) + 1) = ((i + 1 : Nat) : Int) by omega]; refine (cF _).mono ?_; rintro e w' ⟨rfl, rfl⟩) | (at_builtin; refine wpList_append_own _ rfl _ _ 72 rfl w.heap.size 83 i0 (.agg #[.int .i64 0, .int .i64 0, .int .i64 0]) 3 24 Try.underlying72 hi hz0 hz1 hz2 rfl (by decide) _ _ _ rfl (hown.alloc _) ⟨wr.heap.size, 0, none⟩ 1 1 [.int .i64 b, .int .i64 i, .int .i64 1] rfl rfl (World.news_of_block (cs := #[.int .i64 b, .int .i64 i, .int .i64 1]) (t := 83) (fr := (0, 0)) (World.alloc_heap_new wr _)) (fun x hx => by simp at hx; rcases hx with rfl | rfl | rfl <;> rfl) (by unfold maxLen; omega) (by omega) (by have := hB.size; simp; omega) ?_; intro v' w2 hown' hgrow _))
        go_roundw
        case rel =>
          refine ⟨pre ++ [(b, i, 1)], i + 1, i + 1, by go_num, by go_num, hle, hp2.out, ?_, ?_⟩
          · rw [List.length_append, rwC_snoc]; exact hown'
          · exact (hB.alloc hB.size _).grown hgrow (by have := hB.size; simp; omega) (fun k hk => (hown.lt k hk).1)
        case measure => simp [intOf]; omega
      · have hp2 := Lib.hid ((hpp.trans (by rw [hln (by decide), List.append_cons])) : rws s = (pre ++ [(b, i, 2)]) ++ rwA s (i + 2) (i + 2))
        clear hpp hon hln
        go_wp2_with (first | (go_at_call 47; rw [show ((i : Int) + 1) = ((i + 1 : Nat) : Int) by omega]; refine (cF _).mono ?_; rintro e w' ⟨rfl, rfl⟩) | (at_builtin; refine wpList_append_own _ rfl _ _ 72 rfl w.heap.size 83 i0 (.agg #[.int .i64 0, .int .i64 0, .int .i64 0]) 3 24 Try.underlying72 hi hz0 hz1 hz2 rfl (by decide) _ _ _ rfl (hown.alloc _) ⟨wr.heap.size, 0, none⟩ 1 1 [.int .i64 b, .int .i64 i, .int .i64 2] rfl rfl (World.news_of_block (cs := #[.int .i64 b, .int .i64 i, .int .i64 2]) (t := 83) (fr := (0, 0)) (World.alloc_heap_new wr _)) (fun x hx => by simp at hx; rcases hx with rfl | rfl | rfl <;> rfl) (by unfold maxLen; omega) (by omega) (by have := hB.size; simp; omega) ?_; intro v' w2 hown' hgrow _))
        go_roundw
        case rel =>
          refine ⟨pre ++ [(b, i, 2)], i + 2, i + 2, by go_num, by go_num, hle, hp2.out, ?_, ?_⟩
          · rw [List.length_append, rwC_snoc]; exact hown'
          · exact (hB.alloc hB.size _).grown hgrow (by have := hB.size; simp; omega) (fun k hk => (hown.lt k hk).1)
        case measure => simp [intOf]; omega
      · have hp2 := Lib.hid ((hpp.trans (by rw [hln (by decide), List.append_cons])) : rws s = (pre ++ [(b, i, 1)]) ++ rwA s (i + 1) (i + 1))
        clear hpp hon hln
        go_wp2_with (first | (go_at_call 47; rw [show ((i : Int) + 1) = ((i + 1 : Nat) : Int) by omega]; refine (cF _).mono ?_; rintro e w' ⟨rfl, rfl⟩) | (at_builtin; refine wpList_append_own _ rfl _ _ 72 rfl w.heap.size 83 i0 (.agg #[.int .i64 0, .int .i64 0, .int .i64 0]) 3 24 Try.underlying72 hi hz0 hz1 hz2 rfl (by decide) _ _ _ rfl (hown.alloc _) ⟨wr.heap.size, 0, none⟩ 1 1 [.int .i64 b, .int .i64 i, .int .i64 1] rfl rfl (World.news_of_block (cs := #[.int .i64 b, .int .i64 i, .int .i64 1]) (t := 83) (fr := (0, 0)) (World.alloc_heap_new wr _)) (fun x hx => by simp at hx; rcases hx with rfl | rfl | rfl <;> rfl) (by unfold maxLen; omega) (by omega) (by have := hB.size; simp; omega) ?_; intro v' w2 hown' hgrow _))
        go_roundw
        case rel =>
          refine ⟨pre ++ [(b, i, 1)], i + 1, i + 1, by go_num, by go_num, hle, hp2.out, ?_, ?_⟩
          · rw [List.length_append, rwC_snoc]; exact hown'
          · exact (hB.alloc hB.size _).grown hgrow (by have := hB.size; simp; omega) (fun k hk => (hown.lt k hk).1)
        case measure => simp [intOf]; omega
    · rw [rwA_end s b i (by omega)] at hpp
      have hl2 : pre.length + 1 = (rws s).length := by rw [hpp]; simp
      have HP := Lib.hid hpp
      have HL := Lib.hid hl2
      clear hpp hl2
      have hl3 : pre.length ≤ s.size := by have := HL.out; omega
      go_wp2_with (first | (at_builtin; refine wpList_append_own _ rfl _ _ 72 rfl w.heap.size 83 i0 (.agg #[.int .i64 0, .int .i64 0, .int .i64 0]) 3 24 Try.underlying72 hi hz0 hz1 hz2 rfl (by decide) _ _ _ rfl (hown.alloc _) ⟨wr.heap.size, 0, none⟩ 1 1 [.int .i64 b, .int .i64 s.size, .int .i64 0] rfl rfl (World.news_of_block (cs := #[.int .i64 b, .int .i64 s.size, .int .i64 0]) (t := 83) (fr := (0, 0)) (World.alloc_heap_new wr _)) (fun x hx => by simp at hx; rcases hx with rfl | rfl | rfl <;> rfl) (by unfold maxLen; omega) (by omega) (by have := hB.size; simp; omega) ?_; intro v' w2 hown' hgrow _))
      rw [Exit.noGoto_ret]
      go_ret
      refine ⟨_, rfl, ?_, (hB.alloc hB.size _).grown hgrow (by have := hB.size; simp; omega) (fun k hk => (hown.lt k hk).1)⟩
      rw [← HL.out, HP.out, rwC_snoc]
      exact hown'
end Go.Proofs.Ytjlfdoonhfkabaa
