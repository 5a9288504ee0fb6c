/- Stage 31: few, room. -/
import Derived.Test.YtdlbopaefkbmhaaCht
import Derived.Laws.AppendOwnNone
namespace Go.Proofs.Ytdlbopaefkbmhaa
set_option linter.unusedVariables false
set_option linter.unusedSimpArgs false
open Go Go.RowKit Go.Shelf
set_option maxRecDepth 100000

/-- Notes that came in. -/
def NForm (o : Option Addr) (n cap : Nat) : Prop := (o = none ∧ cap = 0 ∧ n = 0) ∨ ∃ a, o = some a ∧ n ≤ cap ∧ cap ≤ 9223372036854775807
theorem NForm.take {o : Option Addr} {n cap : Nat} (h : NForm o n cap) {m : Nat} (hm : m ≤ n) : NForm o m cap := by
  rcases h with ⟨a, b, c⟩ | ⟨a, b, c, d⟩
  · exact .inl ⟨a, b, by omega⟩
  · exact .inr ⟨a, b, by omega, d⟩
theorem few_any (l : List Nt) (o : Option Addr) (cap : Nat) (hf : NForm o l.length cap) (w : World) :
    Calls Try.prog 5 #[.slice o l.length cap] w fun e w' => e = .returned (.slice o (l.take 200).length cap) ∧ w' = w := by
  have hm : (l.take 200).length = min l.length 200 := by rw [List.length_take, Nat.min_comm]
  obtain ⟨n, hn⟩ : ∃ n, l.length = n := ⟨_, rfl⟩
  rw [hn] at hf hm ⊢
  rw [hm]
  have hmin : min (n : Int) 200 = ((min n 200 : Nat) : Int) := by omega
  have hle : min n 200 ≤ n := Nat.min_le_left _ _
  obtain ⟨m, hmm⟩ : ∃ m, min n 200 = m := ⟨_, rfl⟩
  rw [hmm] at hmin hle ⊢
  clear hn hm hmm
  rcases hf with ⟨rfl, rfl, rfl⟩ | ⟨a, rfl, h1, h2⟩
  · obtain rfl : m = 0 := by omega
    clear hmin
    have hmin : min (0 : Int) 200 = 0 := by decide
    go_enter Try.func5, Try.ntmps5
    go_wp2
    go_ret
    exact ⟨by simp, rfl⟩
  · have h3 : m ≤ cap := by omega
    go_enter Try.func5, Try.ntmps5
    go_wp2
    go_ret
    exact ⟨by simp, rfl⟩

theorem below_of_grown {w w1 : World} (h : w.grownBy w1 none) : Below w.heap.size w w1 := (Below.refl _ _).grown h (Nat.le_refl _) (fun r e => by cases e)
theorem rowAt_news {w : World} {a : Addr} {l : List Nt} (h : RowAt w encN 6 (some a) l) : ∀ j u, (l.flatMap encN)[j]? = some u → w.cell? (a.add j) = some u := by
  intro j u hj
  have hlt : j < l.length * 6 := by
    have := (List.getElem?_eq_some_iff.1 hj).1
    rwa [fl_len encN_len] at this
  have hi : j / 6 < l.length := Nat.div_lt_of_lt_mul (by omega)
  obtain ⟨g, off, ho, hc⟩ := h (j / 6) _ (List.getElem?_eq_getElem hi)
  cases ho
  have h1 := fl_get (enc := encN) encN_len (List.getElem?_eq_getElem hi) (show j % 6 < 6 from Nat.mod_lt _ (by decide))
  have h2 : j / 6 * 6 + j % 6 = j := by omega
  rw [h2, hj] at h1
  have h3 := hc (j % 6) (Nat.mod_lt _ (by decide))
  rw [← h1, show off + j / 6 * 6 + j % 6 = off + j by omega] at h3
  unfold Addr.add
  by_cases hz : j = 0
  · subst hz; simpa using h3
  · simpa [hz] using h3
theorem encN_one : ∀ l : List Nt, ∀ u ∈ l.flatMap encN, u.oneCell' = true := by
  intro l u hu
  obtain ⟨x, _, hx⟩ := List.mem_flatMap.1 hu
  simp only [encN, List.mem_cons, List.not_mem_nil, or_false] at hx
  rcases hx with rfl | rfl | rfl | rfl | rfl | rfl <;> rfl

def sevN : Nt := ⟨-7, 0, 0, false, 0, 0⟩
def room9 (l : List Nt) : List Nt := l ++ List.replicate 9 sevN
theorem infoNote : (Try.prog.info? 37).map (fun i => (i.zero, i.size, i.bytes)) = some (some (.agg #[.int .i64 0, .int .i64 0, .int .i64 0, .bool false, .float .f64 0, .float .f64 0]), 6, 48) := by kernel_rfl
def RmI (l : List Nt) (w : World) (i f : Value) (wr : World) : Prop := ∃ (j : Nat) (v : Value), i = .int .i64 j ∧ v = f ∧ j ≤ 9 ∧ wr.ownsRow w.heap.size 37 6 v (l.length + j) ((l ++ List.replicate j sevN).flatMap encN) ∧ Below w.heap.size w wr
theorem rep_succ (l : List Nt) (j : Nat) : (l ++ List.replicate (j + 1) sevN).flatMap encN = (l ++ List.replicate j sevN).flatMap encN ++ [.int .i64 (-7), .int .i64 0, .int .i64 0, .bool false, .float .f64 0, .float .f64 0] := by
  rw [List.replicate_succ', ← List.append_assoc, List.flatMap_append]; rfl

set_option maxHeartbeats 8000000 in
theorem room_any (l : List Nt) (o : Option Addr) (cap : Nat) (hf : NForm o l.length cap) (hn : l.length ≤ 2932031007317) (w : World) (hr : RowAt w encN 6 o l) :
    Calls Try.prog 7 #[.slice o l.length cap] w fun e w' => ∃ (o' : Option Addr) (c' : Nat), e = .returned (.slice o' (room9 l).length c') ∧ w'.ownsRow w.heap.size 37 6 (.slice o' (room9 l).length c') (room9 l).length ((room9 l).flatMap encN) ∧ Below w.heap.size w w' := by
  obtain ⟨i0, hi, hz0, hz1, hz2⟩ := info_parts infoNote
  have hrl : (room9 l).length = l.length + 9 := by simp [room9]
  rw [hrl]
  go_enter Try.func7, Try.ntmps7
  rcases hf with ⟨rfl, rfl, h0⟩ | ⟨a, rfl, h1, h2⟩
  · obtain rfl : l = [] := List.eq_nil_of_length_eq_zero h0
    simp only [List.length_nil, Nat.zero_add]
    go_wp2_with (at_make; refine wpList_make_own _ rfl _ _ 22 rfl w.heap.size 37 i0 (.agg #[.int .i64 0, .int .i64 0, .int .i64 0, .bool false, .float .f64 0, .float .f64 0]) 6 Try.underlying22 hi hz0 hz1 .i64 .i64 _ 9 rfl rfl rfl (by rw [hz2]; omega) (by unfold maxLen; omega) (Nat.le_refl _) ?_; intro w1 hrow hg1)
    go_loopw [4, 3] (RmI [] w) (fun i _ _ => 9 - (intOf i).toNat)
    case atStart => exact ⟨0, _, rfl, rfl, by omega, by simpa using hrow, below_of_grown hg1⟩
    case round =>
      obtain ⟨j, v, rfl, rfl, hj, hown, hB⟩ := hrel
      try simp only [List.length_nil] at hown
      by_cases hlt : j < 9
      · have hrep := rep_succ [] j
        obtain ⟨xs0, hxs0⟩ : ∃ z, ([] ++ List.replicate j sevN).flatMap encN = z := ⟨_, rfl⟩
        rw [hxs0] at hown hrep
        obtain ⟨oo, oc, rfl, _⟩ := own_slice hown
        have hsz := hB.size
        have HB2 := Lib.hid (And.intro (hB.alloc hsz (.cells #[.int .i64 (-7), .int .i64 0, .int .i64 0, .bool false, .float .f64 0, .float .f64 0] 37)) (And.intro (hown.alloc (.cells #[.int .i64 (-7), .int .i64 0, .int .i64 0, .bool false, .float .f64 0, .float .f64 0] 37)) hrep))
        clear hown hB hxs0 hrep
        go_wp2_with (at_builtin; refine wpList_append_own _ rfl _ _ 22 rfl w.heap.size 37 i0 (.agg #[.int .i64 0, .int .i64 0, .int .i64 0, .bool false, .float .f64 0, .float .f64 0]) 6 48 Try.underlying22 hi hz0 hz1 hz2 rfl (by decide) _ _ _ rfl HB2.out.2.1 ⟨wr.heap.size, 0, none⟩ 1 1 [.int .i64 (-7), .int .i64 0, .int .i64 0, .bool false, .float .f64 0, .float .f64 0] rfl rfl (World.news_of_block (cs := #[.int .i64 (-7), .int .i64 0, .int .i64 0, .bool false, .float .f64 0, .float .f64 0]) (t := 37) (fr := (0, 0)) (World.alloc_heap_new wr _)) (fun x hx => by simp at hx; rcases hx with rfl | rfl | rfl | rfl | rfl <;> rfl) (by unfold maxLen; omega) (by omega) (by simp; omega) ?_; intro v' w2 hown' hgrow _)
        go_roundw
        case rel => exact ⟨j + 1, v', by go_num, rfl, by omega, by rw [HB2.out.2.2]; exact hown', HB2.out.1.grown hgrow (by simp; omega) (fun r hr => (HB2.out.2.1.lt r hr).1)⟩
        case measure => simp [intOf]; omega
      · obtain rfl : j = 9 := by omega
        obtain ⟨oo, oc, rfl, _⟩ := own_slice hown
        have HB2 := Lib.hid (And.intro hown hB)
        clear hown hB
        go_wp2
        go_ret
        exact ⟨oo, oc, by simp, by simpa [room9] using HB2.out.1, HB2.out.2⟩
  · go_wp2_with (first | (at_make; refine wpList_make_own _ rfl _ _ 22 rfl w.heap.size 37 i0 (.agg #[.int .i64 0, .int .i64 0, .int .i64 0, .bool false, .float .f64 0, .float .f64 0]) 6 Try.underlying22 hi hz0 hz1 .i64 .i64 _ (l.length + 9) rfl rfl (by push_cast; rfl) (by rw [hz2]; omega) (by unfold maxLen; omega) (Nat.le_refl _) ?_; intro w1 hrow hg1) | (at_builtin; refine wpList_append_own _ rfl _ _ 22 rfl w.heap.size 37 i0 (.agg #[.int .i64 0, .int .i64 0, .int .i64 0, .bool false, .float .f64 0, .float .f64 0]) 6 48 Try.underlying22 hi hz0 hz1 hz2 rfl (by decide) _ 0 [] rfl hrow a l.length cap (l.flatMap encN) rfl (fl_len encN_len l) (rowAt_news (hr.below encN_len (by decide) (below_of_grown hg1))) (encN_one l) (by unfold maxLen; omega) (by omega) hg1.size ?_; intro v2 w2 hown2 hg2 _))
    have hBs : Below w.heap.size w w2 := (below_of_grown hg1).grown hg2 hg1.size (fun r hr => (hrow.lt r hr).1)
    have hown2' : w2.ownsRow w.heap.size 37 6 v2 (l.length + 0) ((l ++ List.replicate 0 sevN).flatMap encN) := by simpa using hown2
    clear hown2 hg2 hg1 hrow hr
    go_loopw [4, 3] (RmI l w) (fun i _ _ => 9 - (intOf i).toNat)
    case atStart => exact ⟨0, _, rfl, rfl, by omega, hown2', hBs⟩
    case round =>
      obtain ⟨j, v, rfl, rfl, hj, hown, hB⟩ := hrel
      try simp only [List.length_nil] at hown
      by_cases hlt : j < 9
      · have hrep := rep_succ l j
        obtain ⟨xs0, hxs0⟩ : ∃ z, (l ++ List.replicate j sevN).flatMap encN = z := ⟨_, rfl⟩
        rw [hxs0] at hown hrep
        obtain ⟨oo, oc, rfl, _⟩ := own_slice hown
        have hsz := hB.size
        have HB2 := Lib.hid (And.intro (hB.alloc hsz (.cells #[.int .i64 (-7), .int .i64 0, .int .i64 0, .bool false, .float .f64 0, .float .f64 0] 37)) (And.intro (hown.alloc (.cells #[.int .i64 (-7), .int .i64 0, .int .i64 0, .bool false, .float .f64 0, .float .f64 0] 37)) hrep))
        clear hown hB hxs0 hrep
        go_wp2_with (at_builtin; refine wpList_append_own _ rfl _ _ 22 rfl w.heap.size 37 i0 (.agg #[.int .i64 0, .int .i64 0, .int .i64 0, .bool false, .float .f64 0, .float .f64 0]) 6 48 Try.underlying22 hi hz0 hz1 hz2 rfl (by decide) _ _ _ rfl HB2.out.2.1 ⟨wr.heap.size, 0, none⟩ 1 1 [.int .i64 (-7), .int .i64 0, .int .i64 0, .bool false, .float .f64 0, .float .f64 0] rfl rfl (World.news_of_block (cs := #[.int .i64 (-7), .int .i64 0, .int .i64 0, .bool false, .float .f64 0, .float .f64 0]) (t := 37) (fr := (0, 0)) (World.alloc_heap_new wr _)) (fun x hx => by simp at hx; rcases hx with rfl | rfl | rfl | rfl | rfl <;> rfl) (by unfold maxLen; omega) (by omega) (by simp; omega) ?_; intro v' w2 hown' hgrow _)
        go_roundw
        case rel => exact ⟨j + 1, v', by go_num, rfl, by omega, by rw [HB2.out.2.2]; exact hown', HB2.out.1.grown hgrow (by simp; omega) (fun r hr => (HB2.out.2.1.lt r hr).1)⟩
        case measure => simp [intOf]; omega
      · obtain rfl : j = 9 := by omega
        obtain ⟨oo, oc, rfl, _⟩ := own_slice hown
        have HB2 := Lib.hid (And.intro hown hB)
        clear hown hB
        go_wp2
        go_ret
        exact ⟨oo, oc, rfl, HB2.out.1, HB2.out.2⟩
end Go.Proofs.Ytdlbopaefkbmhaa
