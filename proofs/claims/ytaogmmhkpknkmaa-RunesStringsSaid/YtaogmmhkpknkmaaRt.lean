/- What runes.Right answers: is there no broken byte among a text's pieces? -/
import Derived.Test.YtaogmmhkpknkmaaSeqB
namespace Go.Proofs.Ytaogmmhkpknkmaa
set_option linter.unusedVariables false
set_option linter.unusedSimpArgs false
open Go Go.RowKit Go.Shelf
set_option maxRecDepth 100000
attribute [local go_sem] Oper.semAt_some

def allR (s : ByteArray) : Bool := (posns s).all fun i => !bk s i
theorem allR_t {s : ByteArray} {xs : List (Pos s)} (h : xs.map (·.1) = posns s) (hx : ∀ x ∈ xs, bk s x.1 = false) : allR s = true := by
  unfold allR
  rw [List.all_eq_true]
  intro i hi
  rw [← h] at hi
  obtain ⟨x, hm, rfl⟩ := List.mem_map.1 hi
  simp [hx x hm]
theorem allR_f {s : ByteArray} {pre : List (Pos s)} (h : pre.map (·.1) <+: posns s) (hx : ∃ x ∈ pre, bk s x.1 = true) : allR s = false := by
  obtain ⟨x, hm, hb⟩ := hx
  unfold allR
  rw [List.all_eq_false]
  refine ⟨x.1, h.subset (List.mem_map.2 ⟨x, hm, rfl⟩), by simp [hb]⟩

set_option maxHeartbeats 1000000 in
theorem right_in (s : ByteArray) (hs : s.size ≤ 9223372036854775807) (w : World) :
    CallsIn Fence.wide 11 Try.prog 13 #[.string s] w fun e w' => e = .returned (.bool (allR s)) ∧ Below w.heap.size w w' := by
  refine callsIn_of_wp_marks Try.func13 rfl trivial ?_ rfl
  simp only [Try.ntmps13, List.size_toArray, List.length_cons, List.length_nil, Nat.reduceAdd, Nat.reduceSub, Array.replicate_succ, Array.replicate_zero, List.push_toArray, List.append_toArray, List.nil_append, List.cons_append]
  have hF : ∀ f, Fence.wide.fn f := fun _ => trivial
  gi_wp2_with (gi_at_call 17; refine (callsIn_wide.2 (pieces_any _ _)).mono ?_; rintro e w' ⟨rfl, rfl⟩)
  have b0 := (Boxed.new w 4 (.bool false)).alloc (.cells #[.string s] 9)
  have b2 := Boxed.new (w.alloc (.cells #[.bool false] 4)) 9 (.string s)
  have hB0 : Below w.heap.size w ((w.alloc (.cells #[.bool false] 4)).alloc (.cells #[.string s] 9)) := ((Below.refl _ w).alloc (Nat.le_refl _) _).alloc (by simp) _
  have hsz : ((w.alloc (.cells #[.bool false] 4)).alloc (.cells #[.string s] 9)).heap.size = w.heap.size + 2 := by simp
  obtain ⟨W0, hW0⟩ : ∃ W0, ((w.alloc (.cells #[.bool false] 4)).alloc (.cells #[.string s] 9)) = W0 := ⟨_, rfl⟩
  simp only [World.size_alloc] at b2
  rw [hW0] at b0 b2 hB0 hsz ⊢
  clear hW0
  refine range_pieces 3 s hs (w.heap.size + 1) b2 rfl
    (fun pre W => (Boxed W w.heap.size 4 (.bool false) ∧ ∀ x ∈ pre, bk s x.1 = false) ∧ Below w.heap.size w W)
    (fun c pre W => (Boxed W w.heap.size 4 (.bool false) ∧ c = .ret ∧ ∃ x ∈ pre, bk s x.1 = true) ∧ Below w.heap.size w W)
    (OwnFrom.and (OwnFrom.and (Own.from (boxed_own _ _ _) _) (fun _ _ _ _ hs _ _ => hs)) (ownFrom_below (Nat.le_refl _) (by omega)))
    (fun c => OwnFrom.and (OwnFrom.and (Own.from (boxed_own _ _ _) _) (fun _ _ _ _ hs _ _ => hs)) (ownFrom_below (Nat.le_refl _) (by omega))) ⟨⟨b0, fun x hx => by cases hx⟩, hB0⟩ ?assign ?body ?done ?stop
  case assign =>
    intro l x W K hK
    simp only [pcC] at hK ⊢
    gi_wp2
    exact hK
  case body =>
    rintro l pre x Bx W ⟨⟨h0, h1⟩, hB⟩ hle hbx hlen
    rw [hsz] at hle
    have hc0 := h0.cell
    have hf0 := h0.frozen
    obtain ⟨p0, p1, p2, p3⟩ := pcell hbx
    simp only [pcC]
    cases hbk : bk s x.1 with
    | true =>
      rw [hbk] at p3
      have HB := Lib.hid hbk; clear hbk h1
      gi_wp2
      exact ⟨(KeepsOthers.setCell _ _ _).from _, ⟨h0.set (.bool false), rfl, x, by simp, HB.out⟩, hB.setCell (p := ⟨w.heap.size, 0, none⟩) (Nat.le_refl _) _⟩
    | false =>
      rw [hbk] at p3
      have HB := Lib.hid hbk; clear hbk
      have H1 := Lib.hid h1; clear h1
      gi_wp2
      refine ⟨(KeepsOthers.refl _).from _, ⟨KeepsWalks.refl _, rfl⟩, ⟨h0, fun y hy => ?_⟩, hB⟩
      rcases List.mem_append.1 hy with h | h
      · exact H1.out y h
      · rw [List.mem_singleton.1 h]; exact HB.out
  case done =>
    rintro D xs W hD hxs ⟨⟨h0, h1⟩, hB⟩ hK
    have ha := allR_t hxs h1
    clear h1 hxs
    have hc0 := h0.cell
    have hf0 := h0.frozen
    have HA := Lib.hid ha; clear ha
    gi_wp2
    have h2 := h0.set (.bool true)
    have hK2 : (W.setCell ⟨w.heap.size, 0, none⟩ (.bool true)).heap[D]? = some (.deferred (some [])) := by rw [Below.heap_setCell _ _ _ _ (by dsimp only; omega)]; exact hK
    have hB2 := hB.setCell (p := ⟨w.heap.size, 0, none⟩) (Nat.le_refl _) (.bool true)
    obtain ⟨W2, hW2⟩ : ∃ W2, W.setCell ⟨w.heap.size, 0, none⟩ (.bool true) = W2 := ⟨_, rfl⟩
    rw [hW2] at h2 hK2 hB2 ⊢
    have e1 : (W2.putObj D (.deferred none)).cell? ⟨w.heap.size, 0, none⟩ = some (.bool true) := (World.cell?_of_block (w := W2) (World.putObj_heap_other (by dsimp only; omega))).trans h2.cell
    refine ⟨by simp, .inl ⟨_, _, rfl, run_takeDeferred (w := W2) hK2, ?_⟩⟩
    refine ⟨.bool true, ?_, by rw [HA.out], hB2.trans (belowK_b (w := w) (Nat.le_refl _) W2 D _ _ (by omega) hK2 rfl rfl)⟩
    simp [results, Try.f13, go_sem, e1]
  case stop =>
    rintro D c pre W hD hp ⟨⟨h0, rfl, hx⟩, hB⟩ hK
    have ha := allR_f hp hx
    clear hx hp
    have hc0 := h0.cell
    have HA := Lib.hid ha; clear ha
    gi_wp2
    have e1 : (W.putObj D (.deferred none)).cell? ⟨w.heap.size, 0, none⟩ = some (.bool false) := (World.cell?_of_block (w := W) (World.putObj_heap_other (by dsimp only; omega))).trans hc0
    refine ⟨by simp, .inl ⟨_, _, rfl, run_takeDeferred (w := W) hK, ?_⟩⟩
    refine ⟨.bool false, ?_, by rw [HA.out], hB.trans (belowK_b (w := w) (Nat.le_refl _) W D _ _ (by omega) hK rfl rfl)⟩
    simp [results, Try.f13, go_sem, e1]

theorem right_any (s : ByteArray) (hs : s.size ≤ 9223372036854775807) (w : World) :
    Calls Try.prog 13 #[.string s] w fun e w' => e = .returned (.bool (allR s)) ∧ Below w.heap.size w w' := callsIn_wide.1 (right_in s hs w)
end Go.Proofs.Ytaogmmhkpknkmaa
