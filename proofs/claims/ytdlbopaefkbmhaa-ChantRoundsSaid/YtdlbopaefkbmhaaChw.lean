/- Stage 31: spoil. -/
import Derived.Test.YtdlbopaefkbmhaaChv
namespace Go.Proofs.Ytdlbopaefkbmhaa
set_option linter.unusedVariables false
set_option linter.unusedSimpArgs false
open Go Go.RowKit Go.Shelf
set_option maxRecDepth 100000

theorem grownBy_trans' {X Y Z : World} {r : Option Nat} (h : X.grownBy Y r) (h' : Y.grownBy Z r) : X.grownBy Z r :=
  ⟨h'.os.trans h.os, h'.tape.trans h.tape, h'.output.trans h.output, Nat.le_trans h.size h'.size, fun k hk hn => (h'.block k (Nat.lt_of_lt_of_le hk h.size) hn).trans (h.block k hk hn)⟩
theorem set_row {w W : World} {g S : Nat} {cur : Array Value} (hb : Blk W g cur 37) (hs : cur.size = S) (hg : w.grownBy W (some g)) (o : Nat) (v : Value) : Blk (W.setCell ⟨g, o, none⟩ v) g (cur.setIfInBounds o v) 37 ∧ (cur.setIfInBounds o v).size = S ∧ w.grownBy (W.setCell ⟨g, o, none⟩ v) (some g) :=
  ⟨hb.set o v, by rw [Array.size_setIfInBounds]; exact hs, grownBy_trans' hg (grownBy_setCell W g o v)⟩
theorem own_has {w : World} {base n i : Nat} {e : TypeId} {v : Value} {xs : List Value} (h : w.ownsRow base e 6 v n xs) (hi : i < n * 6) : ∃ u, xs[i]? = some u := ⟨_, List.getElem?_eq_getElem (by rw [h.1]; exact hi)⟩
theorem own_free {w : World} {base n g c : Nat} {e : TypeId} {xs : List Value} (h : w.ownsRow base e 6 (.slice (some ⟨g, 0, none⟩) n c) n xs) (o : Nat) : w.frozen? ⟨g, o, none⟩ = false := by
  rcases h.2 with ⟨e, _⟩ | ⟨g', c', cur, e, _, hg, _⟩
  · cases e
  · simp only [Value.slice.injEq, Option.some.injEq, Addr.mk.injEq, and_true, true_and] at e
    obtain ⟨rfl, rfl⟩ := e
    simp [World.frozen?, hg]
theorem grown_set_new {w X : World} {r : Option Nat} (h : w.grownBy X r) {g : Nat} (hg : w.heap.size ≤ g) (o : Nat) (v : Value) : w.grownBy (X.setCell ⟨g, o, none⟩ v) r := by
  have h2 := grownBy_setCell X g o v
  exact ⟨h2.os.trans h.os, h2.tape.trans h.tape, h2.output.trans h.output, Nat.le_trans h.size h2.size, fun k hk hn => (h2.block k (Nat.lt_of_lt_of_le hk h.size) (by intro e; cases e; omega)).trans (h.block k hk hn)⟩
def SpI (w : World) (g n S : Nat) (i : Value) (wr : World) : Prop := ∃ (k : Nat) (cur : Array Value), i = .int .i64 k ∧ k ≤ n ∧ Blk wr g cur 37 ∧ cur.size = S ∧ w.grownBy wr (some g)
theorem blk_some {W : World} {g o : Nat} {cur : Array Value} {t : TypeId} (h : Blk W g cur t) (ho : o < cur.size) : ∃ c, W.cell? ⟨g, o, none⟩ = some c := ⟨cur[o], by rw [h.cell o, Array.getElem?_eq_getElem ho]⟩

set_option maxHeartbeats 8000000 in
theorem spoil_some (g n cap base : Nat) (xs : List Value) (hn : n ≤ 1048576) (w : World) (h : w.ownsRow base 37 6 (.slice (some ⟨g, 0, none⟩) n cap) n xs) :
    Calls Try.prog 11 #[.slice (some ⟨g, 0, none⟩) n cap] w fun e w' => e = .returned (.tuple #[]) ∧ w.grownBy w' (some g) := by
  obtain ⟨i0, hi, hz0, hz1, hz2⟩ := info_parts infoNote
  obtain ⟨cur0, hg0, hnc, hcm, hs0⟩ : ∃ cur : Array Value, Blk w g cur 37 ∧ n ≤ cap ∧ cap ≤ maxLen ∧ cur.size = cap * 6 := by
    rcases h.2 with ⟨e, _⟩ | ⟨g', c', cur, e, _, hg, h1, h2, h3, _⟩
    · cases e
    · simp only [Value.slice.injEq, Option.some.injEq, Addr.mk.injEq, and_true, true_and] at e
      obtain ⟨rfl, rfl⟩ := e
      exact ⟨cur, hg, h1, h2, h3⟩
  have hbg := (h.lt g rfl).1
  go_enter Try.func11, Try.ntmps11
  go_wp2
  go_loopw [5] (SpI w g n (cap * 6)) (fun i _ => n - (intOf i).toNat)
  case atStart => exact ⟨0, cur0, rfl, by omega, hg0, hs0, grownBy_none_refl _ _⟩
  case round =>
    obtain ⟨k, cur, rfl, hk, hb, hs, hgr⟩ := hrel
    by_cases hlt : k < n
    · have hc6 : k * 6 + 6 ≤ cap * 6 := by omega
      obtain ⟨c0, d0⟩ := blk_some hb (o := k * 6) (by omega)
      obtain ⟨c1, d1⟩ := blk_some hb (o := k * 6 + 1) (by omega)
      obtain ⟨c2, d2⟩ := blk_some hb (o := k * 6 + 2) (by omega)
      obtain ⟨c3, d3⟩ := blk_some hb (o := k * 6 + 3) (by omega)
      obtain ⟨c4, d4⟩ := blk_some hb (o := k * 6 + 4) (by omega)
      obtain ⟨c5, d5⟩ := blk_some hb (o := k * 6 + 5) (by omega)
      have f0 := hb.frozen (k * 6)
      have f1 := hb.frozen (k * 6 + 1)
      have f2 := hb.frozen (k * 6 + 2)
      have f3 := hb.frozen (k * 6 + 3)
      have f4 := hb.frozen (k * 6 + 4)
      have f5 := hb.frozen (k * 6 + 5)
      have HB := Lib.hid (And.intro hb (And.intro hs hgr))
      clear hb hs hgr hg0 h
      go_wp2
      obtain ⟨hb, hs, hgr⟩ := HB.out
      obtain ⟨hb, hs, hgr⟩ := set_row hb hs hgr (k * 6) (.int .i64 (-9))
      obtain ⟨hb, hs, hgr⟩ := set_row hb hs hgr (k * 6 + 1) (.int .i64 0)
      obtain ⟨hb, hs, hgr⟩ := set_row hb hs hgr (k * 6 + 2) (.int .i64 0)
      obtain ⟨hb, hs, hgr⟩ := set_row hb hs hgr (k * 6 + 3) (.bool false)
      obtain ⟨hb, hs, hgr⟩ := set_row hb hs hgr (k * 6 + 4) (.float .f64 0)
      obtain ⟨hb, hs, hgr⟩ := set_row hb hs hgr (k * 6 + 5) (.float .f64 0)
      refine ⟨⟨k + 1, _, by go_num, by omega, hb, hs, hgr⟩, ?_⟩
      simp [intOf]; omega
    · obtain rfl : k = n := by omega
      have hown : wr.ownsRow base 37 6 (.slice (some ⟨g, 0, none⟩) k cap) k (cur.toList.take (k * 6)) :=
        ⟨by rw [List.length_take, Array.length_toList, hs]; omega, .inr ⟨g, cap, cur, rfl, hbg, hb, hnc, hcm, hs, rfl⟩⟩
      obtain ⟨ys, hys⟩ : ∃ ys, cur.toList.take (k * 6) = ys := ⟨_, rfl⟩
      rw [hys] at hown
      have hsz := hgr.size
      have hown2 := hown.alloc (.cells #[.int .i64 (-9), .int .i64 0, .int .i64 0, .bool false, .float .f64 0, .float .f64 0, .int .i64 0, .int .i64 0, .int .i64 0, .bool false, .float .f64 0, .float .f64 0, .int .i64 0, .int .i64 0, .int .i64 0, .bool false, .float .f64 0, .float .f64 0] 37)
      have hgr2 := grownBy_trans' hgr (World.grownBy_alloc wr (.cells #[.int .i64 (-9), .int .i64 0, .int .i64 0, .bool false, .float .f64 0, .float .f64 0, .int .i64 0, .int .i64 0, .int .i64 0, .bool false, .float .f64 0, .float .f64 0, .int .i64 0, .int .i64 0, .int .i64 0, .bool false, .float .f64 0, .float .f64 0] 37) (some g))
      have hbase := (h.lt g rfl).2
      have HB := Lib.hid (And.intro hown2 hgr2)
      clear hown hown2 hgr hgr2 hb hs hys hg0 h
      go_wp2_with (at_builtin; refine wpList_append_own_at _ rfl _ _ 22 rfl base 37 i0 (.agg #[.int .i64 0, .int .i64 0, .int .i64 0, .bool false, .float .f64 0, .float .f64 0]) 6 48 Try.underlying22 hi hz0 hz1 hz2 rfl (by decide) _ _ _ rfl HB.out.1 ⟨wr.heap.size, 0, none⟩ 3 3 [.int .i64 (-9), .int .i64 0, .int .i64 0, .bool false, .float .f64 0, .float .f64 0, .int .i64 0, .int .i64 0, .int .i64 0, .bool false, .float .f64 0, .float .f64 0, .int .i64 0, .int .i64 0, .int .i64 0, .bool false, .float .f64 0, .float .f64 0] rfl rfl (World.news_of_block (cs := #[.int .i64 (-9), .int .i64 0, .int .i64 0, .bool false, .float .f64 0, .float .f64 0, .int .i64 0, .int .i64 0, .int .i64 0, .bool false, .float .f64 0, .float .f64 0, .int .i64 0, .int .i64 0, .int .i64 0, .bool false, .float .f64 0, .float .f64 0]) (t := 37) (fr := (0, 0)) (World.alloc_heap_new wr _)) (by decide) (by unfold maxLen; omega) (by omega) (by simp; omega) ?_; intro v' w2 hown' hgrow _ hwh; (obtain ⟨o', c', rfl, ho'⟩ := own_slice hown'); (obtain ⟨g', rfl⟩ := ho' (by omega)); have d4 := hown'.cellAt 4 (by omega); (obtain ⟨u4, hu4⟩ := own_has (i := 4) hown' (by omega)); rw [hu4] at d4; have f4 := own_free hown' 4)
      go_end0
      refine ⟨rfl, ?_⟩
      have h3 := grownBy_trans' HB.out.2 (show World.grownBy _ w2 (some g) from hgrow)
      have hwh : some g' = some g ∨ some g' = some (wr.alloc (.cells #[.int .i64 (-9), .int .i64 0, .int .i64 0, .bool false, .float .f64 0, .float .f64 0, .int .i64 0, .int .i64 0, .int .i64 0, .bool false, .float .f64 0, .float .f64 0, .int .i64 0, .int .i64 0, .int .i64 0, .bool false, .float .f64 0, .float .f64 0] 37)).heap.size := hwh
      rcases hwh with hwh | hwh
      · have : g' = g := by simpa using hwh
        subst this
        exact grownBy_trans' h3 (grownBy_setCell _ _ _ _)
      · have : g' = wr.heap.size + 1 := by simpa using hwh
        exact grown_set_new h3 (by omega) _ _

set_option maxHeartbeats 8000000 in
theorem spoil_nil (w : World) : Calls Try.prog 11 #[.slice none 0 0] w fun e w' => e = .returned (.tuple #[]) ∧ w.grownBy w' none := by
  obtain ⟨i0, hi, hz0, hz1, hz2⟩ := info_parts infoNote
  go_enter Try.func11, Try.ntmps11
  go_wp2
  go_loopw [5] (fun i wr => i = .int .i64 0 ∧ w = wr) (fun i _ => 0)
  case atStart => exact ⟨rfl, rfl⟩
  case round =>
    obtain ⟨rfl, rfl⟩ := hrel
    go_wp2_with (at_builtin; refine wpList_append_own_at _ rfl _ _ 22 rfl w.heap.size 37 i0 (.agg #[.int .i64 0, .int .i64 0, .int .i64 0, .bool false, .float .f64 0, .float .f64 0]) 6 48 Try.underlying22 hi hz0 hz1 hz2 rfl (by decide) _ 0 [] rfl (World.ownsRow_nil _ _ _ _) ⟨w.heap.size, 0, none⟩ 3 3 [.int .i64 (-9), .int .i64 0, .int .i64 0, .bool false, .float .f64 0, .float .f64 0, .int .i64 0, .int .i64 0, .int .i64 0, .bool false, .float .f64 0, .float .f64 0, .int .i64 0, .int .i64 0, .int .i64 0, .bool false, .float .f64 0, .float .f64 0] rfl rfl (World.news_of_block (cs := #[.int .i64 (-9), .int .i64 0, .int .i64 0, .bool false, .float .f64 0, .float .f64 0, .int .i64 0, .int .i64 0, .int .i64 0, .bool false, .float .f64 0, .float .f64 0, .int .i64 0, .int .i64 0, .int .i64 0, .bool false, .float .f64 0, .float .f64 0]) (t := 37) (fr := (0, 0)) (World.alloc_heap_new w _)) (by decide) (by unfold maxLen; omega) (by omega) (by simp) ?_; intro v' w2 hown' hgrow _ hwh; (obtain ⟨o', c', rfl, ho'⟩ := own_slice hown'); (obtain ⟨g', rfl⟩ := ho' (by omega)); have d4 := hown'.cellAt 4 (by omega); (obtain ⟨u4, hu4⟩ := own_has (i := 4) hown' (by omega)); rw [hu4] at d4; have f4 := own_free hown' 4)
    go_end0
    refine ⟨rfl, ?_⟩
    have h3 := grownBy_trans' (World.grownBy_alloc w (.cells #[.int .i64 (-9), .int .i64 0, .int .i64 0, .bool false, .float .f64 0, .float .f64 0, .int .i64 0, .int .i64 0, .int .i64 0, .bool false, .float .f64 0, .float .f64 0, .int .i64 0, .int .i64 0, .int .i64 0, .bool false, .float .f64 0, .float .f64 0] 37) none) hgrow
    exact grown_set_new h3 (hown'.lt g' rfl).1 _ _
/-- Whatever row of one's own. -/
theorem spoil_any (v : Value) (n base : Nat) (xs : List Value) (hn : n ≤ 1048576) (w : World) (h : w.ownsRow base 37 6 v n xs) :
    Calls Try.prog 11 #[v] w fun e w' => e = .returned (.tuple #[]) ∧ w.grownBy w' v.ownBlock := by
  rcases h.2 with ⟨rfl, _⟩ | ⟨g, cap, cur, rfl, _⟩
  · exact spoil_nil w
  · exact spoil_some g n cap base xs hn w h
end Go.Proofs.Ytdlbopaefkbmhaa
