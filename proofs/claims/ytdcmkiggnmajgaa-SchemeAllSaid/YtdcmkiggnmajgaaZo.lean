/- Stage 16: All, the iterator: what it tells. -/
import Derived.Test.YtdcmkiggnmajgaaZn
import Derived.Laws.EntriesVeiled
namespace Go.Proofs.Ytdcmkiggnmajgaa
set_option linter.unusedVariables false
set_option linter.unusedSimpArgs false
open Go Go.RowKit Go.Shelf
set_option maxRecDepth 100000

set_option maxHeartbeats 8000000 in
theorem all_seq (n : Nat) (hn : n ≤ 25) (B : Nat) (w : World) (hB : Blk w B #[.int .i64 n] 3) :
    SeqS Fence.wide 10 Try.prog 71 #[.pointer (some ⟨B, 0, none⟩)] (fun x : Value × Value => #[.agg #[x.1, x.2]]) (KpS w.heap.size B) FrT (fun xs => xs.length = tT n 0) (fun pre => pre.length ≤ tT n 0) (DueS n w.heap.size) (tT n 0) w := by
  intro l J Jx W hW hsz hJ hJx hY h0
  have hBW := hB.below' hW
  have hlt := hB.lt
  have hbb := hW.size
  have hmk := fun X => make_rhymes X n (by omega)
  obtain ⟨Yb, hYb⟩ : ∃ k, W.heap.size = k := ⟨_, rfl⟩
  have hFn : Value := .func (.func 72) #[] #[.pointer (some ⟨B, 0, none⟩), .pointer (some ⟨Yb, 0, none⟩), .pointer (some ⟨Yb + 2, 0, none⟩), .pointer (some ⟨Yb + 3, 0, none⟩)]
  have hIt : ItO n B Yb (Yb + 2) (Yb + 3) (Yb + 1) Yb l ((((W.alloc (.cells #[.func (.yield l) #[] #[]] 27)).alloc (.cells (madeCells #[.int .i64 0, .int .i64 0] (n * 2)) 79)).alloc (.cells #[.slice (some ⟨Yb + 1, 0, none⟩) n n] 22)).alloc (.cells #[.func (.func 72) #[] #[.pointer (some ⟨B, 0, none⟩), .pointer (some ⟨Yb, 0, none⟩), .pointer (some ⟨Yb + 2, 0, none⟩), .pointer (some ⟨Yb + 3, 0, none⟩)]] 104)) (List.replicate n ⟨0, 0⟩) := by
    have b1 := Blk.new W #[.func (.yield l) #[] #[]] 27
    have r1 := World.ownsRow_lit (base := Yb) (e := 79) (size := 2) (W.alloc (.cells #[.func (.yield l) #[] #[]] 27)) (madeCells #[.int .i64 0, .int .i64 0] (n * 2)) n (by simp; omega) (by unfold maxLen; omega) (size_madeCells _ _)
    rw [made_rhymes] at r1
    have b2 := Blk.new ((W.alloc (.cells #[.func (.yield l) #[] #[]] 27)).alloc (.cells (madeCells #[.int .i64 0, .int .i64 0] (n * 2)) 79)) #[.slice (some ⟨Yb + 1, 0, none⟩) n n] 22
    have b3 := Blk.new (((W.alloc (.cells #[.func (.yield l) #[] #[]] 27)).alloc (.cells (madeCells #[.int .i64 0, .int .i64 0] (n * 2)) 79)).alloc (.cells #[.slice (some ⟨Yb + 1, 0, none⟩) n n] 22)) #[.func (.func 72) #[] #[.pointer (some ⟨B, 0, none⟩), .pointer (some ⟨Yb, 0, none⟩), .pointer (some ⟨Yb + 2, 0, none⟩), .pointer (some ⟨Yb + 3, 0, none⟩)]] 104
    simp only [World.size_alloc, hYb, Nat.add_assoc, Nat.reduceAdd] at b1 r1 b2 b3
    exact ⟨(((hBW.alloc _).alloc _).alloc _).alloc _, ((b1.alloc _).alloc _).alloc _, b2.alloc _, b3, (r1.alloc _).alloc _, by simp, fun x hx => by rw [(List.mem_replicate.1 hx).2], by omega, by omega, by omega⟩
  have hB4 : Below W.heap.size W ((((W.alloc (.cells #[.func (.yield l) #[] #[]] 27)).alloc (.cells (madeCells #[.int .i64 0, .int .i64 0] (n * 2)) 79)).alloc (.cells #[.slice (some ⟨Yb + 1, 0, none⟩) n n] 22)).alloc (.cells #[.func (.func 72) #[] #[.pointer (some ⟨B, 0, none⟩), .pointer (some ⟨Yb, 0, none⟩), .pointer (some ⟨Yb + 2, 0, none⟩), .pointer (some ⟨Yb + 3, 0, none⟩)]] 104)) :=
    ((((Below.refl _ W).alloc (Nat.le_refl _) _).alloc (by simp) _).alloc (by simp; omega) _).alloc (by simp; omega) _
  have c0 : W.cell? ⟨B, 0, none⟩ = some (.int .i64 n) := hBW.cell 0
  have hBl : B < W.heap.size := hBW.lt
  have hj4 := hJ _ _ _ none h0 (grown_none hB4) (fun r e => by cases e)
  obtain ⟨V, hV⟩ : ∃ V, ((((W.alloc (.cells #[.func (.yield l) #[] #[]] 27)).alloc (.cells (madeCells #[.int .i64 0, .int .i64 0] (n * 2)) 79)).alloc (.cells #[.slice (some ⟨Yb + 1, 0, none⟩) n n] 22)).alloc (.cells #[.func (.func 72) #[] #[.pointer (some ⟨B, 0, none⟩), .pointer (some ⟨Yb, 0, none⟩), .pointer (some ⟨Yb + 2, 0, none⟩), .pointer (some ⟨Yb + 3, 0, none⟩)]] 104)) = V := ⟨_, rfl⟩
  rw [hV] at hIt hj4 hB4
  have hVs : Yb ≤ V.heap.size := by have := hB4.size; omega
  rw [hYb] at hJ hbb
  have cF := from_any (b := w.heap.size) hn (by omega : B < Yb) hbb hJ (fun pre x X h1 h2 => by
    obtain ⟨fn, tmps, assign, body, hy, hR⟩ := yield_wide (m' := 9) (hY pre x X h1 h2 h2.1)
    refine ⟨fn, tmps, assign, body, hy, hR.mono ?_⟩
    rintro e Y (⟨rfl, a, b⟩ | ⟨rfl, a, _⟩)
    · exact .inl ⟨rfl, a, b⟩
    · exact .inr ⟨rfl, a⟩) n 0 0 _ [] V (by omega) (Nat.le_refl _) hIt hVs hj4 (fun i hi => by simp) (by simp)
  have d1 : decide ((n : Int) < 0) = false := decide_eq_false (by omega)
  have d2 : decide ((25 : Int) < (n : Int)) = false := decide_eq_false (by omega)
  have d3 : decide (25 < n) = false := decide_eq_false (by omega)
  have hF : ∀ f, Fence.wide.fn f := fun _ => trivial
  have HV := Lib.hid hV
  have HYb := Lib.hid hYb
  clear hIt hB4 hj4 hV hVs hJ hJx hY h0 hBW hFn hW hsz hbb hYb
  refine callsIn_of_wp Try.func71 rfl trivial ?_ rfl
  simp only [Try.ntmps71, List.size_toArray, List.length_cons, List.length_nil, Nat.reduceAdd, Nat.reduceSub, Array.replicate_succ, Array.replicate_zero, List.push_toArray, List.append_toArray, List.nil_append, List.cons_append]
  gi_wp2_with (fail)
  rw [HYb.out]
  rw [HV.out]
  refine CallsIn.mono (callsIn_wide.2 ((callsIn_wide (n := 11)).1 cF)) ?_
  rintro e Y (⟨rfl, pre', L', hj, hl, hI, ht, hb⟩ | ⟨rfl, pre', hl, hx⟩)
  · gi_wp2
    exact bodyPost_end (results_none rfl _ _ _) rfl ⟨⟨_, rfl⟩, .inl ⟨pre', by simpa using hl, hj⟩⟩
  · gi_wp2
    exact bodyPost_end (results_none rfl _ _ _) rfl ⟨⟨_, rfl⟩, .inr ⟨pre', hl, hx⟩⟩
end Go.Proofs.Ytdcmkiggnmajgaa
