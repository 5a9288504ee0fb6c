/- Stage 31: wakes; ChantTempos. -/
import Derived.Test.YtdlbopaefkbmhaaCh4
namespace Go.Proofs.Ytdlbopaefkbmhaa
set_option linter.unusedVariables false
set_option linter.unusedSimpArgs false
open Go Go.RowKit Go.Shelf
set_option maxRecDepth 100000

def nt1 : Nt := ⟨0, 0, 0, false, 4607182418800017408, 0⟩
def nt0 : Nt := ⟨0, 0, 0, false, 0, 0⟩
theorem two_sorted {L : List Sg} (hp : L.Perm (allS [[nt1], [nt0]])) (hs : L.Pairwise (fun x y => ¬ ltS y x)) : L = [⟨1, 0, nt0⟩, ⟨0, 0, nt1⟩] := by
  have e : allS [[nt1], [nt0]] = [⟨0, 0, nt1⟩, ⟨1, 0, nt0⟩] := rfl
  rw [e] at hp
  have hl : L.length = 2 := hp.length_eq
  match L, hl with
  | [a, b], _ =>
    have h1 : a = ⟨0, 0, nt1⟩ ∨ a = ⟨1, 0, nt0⟩ := by simpa using hp.subset (show a ∈ [a, b] by simp)
    have h2 : ¬ ltS b a := by simpa using hs
    have hp' := hp
    rcases h1 with rfl | rfl
    · have h3 : [b].Perm [⟨1, 0, nt0⟩] := (List.perm_cons _).1 hp
      have h4 : b = ⟨1, 0, nt0⟩ := by simpa using h3
      subst h4
      exact absurd (show ltS ⟨1, 0, nt0⟩ ⟨0, 0, nt1⟩ by decide) h2
    · have h3 := (hp.trans (List.Perm.swap _ _ _))
      have h4 : [b].Perm [⟨0, 0, nt1⟩] := (List.perm_cons _).1 h3
      have h5 : b = ⟨0, 0, nt1⟩ := by simpa using h4
      subst h5
      rfl
theorem may_yes : mayB 4607182418800017408 4607182418800017408 4607182418800017408 0 4607182418800017408 = true := by decide +kernel
theorem may_nought : mayB 0 0 0 0 0 = false := by decide +kernel

set_option maxHeartbeats 4000000 in
theorem wakes_any (w : World) : Calls Try.prog 4 #[] w fun e w' => e = .returned (.bool true) ∧ Below w.heap.size w w' := by
  go_enter Try.func4, Try.ntmps4
  go_wp2_with (fail)
  have b0 : Blk _ _ _ _ := ((Blk.new w #[.int .i64 0, .int .i64 0, .int .i64 0, .bool false, .float .f64 4607182418800017408, .float .f64 0] 37).alloc (.cells #[.int .i64 0, .int .i64 0, .int .i64 0, .bool false, .float .f64 0, .float .f64 0] 37)).alloc (.cells #[.slice (some ⟨w.heap.size, 0, none⟩) 1 1, .slice (some ⟨w.heap.size + 1, 0, none⟩) 1 1] 22)
  have b1 : Blk _ _ _ _ := (Blk.new (w.alloc (.cells #[.int .i64 0, .int .i64 0, .int .i64 0, .bool false, .float .f64 4607182418800017408, .float .f64 0] 37)) #[.int .i64 0, .int .i64 0, .int .i64 0, .bool false, .float .f64 0, .float .f64 0] 37).alloc (.cells #[.slice (some ⟨w.heap.size, 0, none⟩) 1 1, .slice (some ⟨w.heap.size + 1, 0, none⟩) 1 1] 22)
  have b2 : Blk _ _ _ _ := Blk.new ((w.alloc (.cells #[.int .i64 0, .int .i64 0, .int .i64 0, .bool false, .float .f64 4607182418800017408, .float .f64 0] 37)).alloc (.cells #[.int .i64 0, .int .i64 0, .int .i64 0, .bool false, .float .f64 0, .float .f64 0] 37)) #[.slice (some ⟨w.heap.size, 0, none⟩) 1 1, .slice (some ⟨w.heap.size + 1, 0, none⟩) 1 1] 22
  have hB := (((Below.refl w.heap.size w).alloc (Nat.le_refl _) (.cells #[.int .i64 0, .int .i64 0, .int .i64 0, .bool false, .float .f64 4607182418800017408, .float .f64 0] 37)).alloc (by simp) (.cells #[.int .i64 0, .int .i64 0, .int .i64 0, .bool false, .float .f64 0, .float .f64 0] 37)).alloc (by simp; omega) (.cells #[.slice (some ⟨w.heap.size, 0, none⟩) 1 1, .slice (some ⟨w.heap.size + 1, 0, none⟩) 1 1] 22)
  simp only [World.size_alloc] at b0 b1 b2
  obtain ⟨W3, hW3⟩ : ∃ Z, ((w.alloc (.cells #[.int .i64 0, .int .i64 0, .int .i64 0, .bool false, .float .f64 4607182418800017408, .float .f64 0] 37)).alloc (.cells #[.int .i64 0, .int .i64 0, .int .i64 0, .bool false, .float .f64 0, .float .f64 0] 37)).alloc (.cells #[.slice (some ⟨w.heap.size, 0, none⟩) 1 1, .slice (some ⟨w.heap.size + 1, 0, none⟩) 1 1] 22) = Z := ⟨_, rfl⟩
  rw [hW3] at b0 b1 b2 hB ⊢
  clear hW3
  have hV : VoicesAt W3 (some ⟨w.heap.size + 1 + 1, 0, none⟩) [[nt1], [nt0]] := by
    intro k l hk
    match k, hk with
    | 0, hk =>
      cases hk
      refine ⟨_, 0, some ⟨w.heap.size, 0, none⟩, 1, rfl, b2.cell 0, fun i x hi => ?_⟩
      match i, hi with
      | 0, hi =>
        cases hi
        exact ⟨_, 0, rfl, fun j hj => by rw [Nat.zero_add]; exact (b0.cell j).trans (by simp [encN, nt0, nt1])⟩
    | 1, hk =>
      cases hk
      refine ⟨_, 0, some ⟨w.heap.size + 1, 0, none⟩, 1, rfl, b2.cell 1, fun i x hi => ?_⟩
      match i, hi with
      | 0, hi =>
        cases hi
        exact ⟨_, 0, rfl, fun j hj => by rw [Nat.zero_add]; exact (b1.cell j).trans (by simp [encN, nt0, nt1])⟩
  have cM := merge_any [[nt1], [nt0]] (some ⟨w.heap.size + 1 + 1, 0, none⟩) 2 (by decide) (by decide) (by decide) W3 hV
  clear b0 b1 b2 hV
  refine cM.mono ?_
  rintro e w4 ⟨v, L, rfl, hp, hs, hown, hB4⟩
  obtain rfl := two_sorted hp hs
  obtain ⟨o, cap, rfl, ho⟩ := own_slice hown
  obtain ⟨g, rfl⟩ := ho (by decide)
  have hr := RowAt.of_own encS_len hown rfl
  obtain ⟨g', off, ho', hc⟩ := hr 0 ⟨1, 0, nt0⟩ rfl
  cases ho'
  have c0 := hc 0 (by decide)
  simp only [encS, List.getElem?_cons_zero, Nat.zero_mul, Nat.add_zero] at c0
  have hB5 := hB.trans (hB4.mono hB.size)
  have cY := fun W => may_any 4607182418800017408 4607182418800017408 4607182418800017408 0 4607182418800017408 W
  have cN := fun W => may_any 0 0 0 0 0 W
  rw [may_yes] at cY
  rw [may_nought] at cN
  clear cM hp hs hown hr hc ho hB hB4
  simp only [List.length_cons, List.length_nil, Nat.zero_add, Nat.reduceAdd]
  go_wp2_with (fail)
  refine (cY _).mono ?_
  rintro e w5 ⟨rfl, hb5⟩
  go_wp2_with (fail)
  refine (cN _).mono ?_
  rintro e w6 ⟨rfl, hb6⟩
  have hB6 := (hB5.trans (hb5.mono hB5.size))
  have hB7 := hB6.trans (hb6.mono hB6.size)
  go_wp2
  go_ret
  exact ⟨rfl, hB7⟩

end Go.Proofs.Ytdlbopaefkbmhaa
