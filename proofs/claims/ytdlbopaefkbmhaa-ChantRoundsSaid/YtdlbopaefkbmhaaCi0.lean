/- Stage 31: ChantScales. -/
import Derived.Test.YtdlbopaefkbmhaaChz
namespace Go.Proofs.Ytdlbopaefkbmhaa
set_option linter.unusedVariables false
set_option linter.unusedSimpArgs false
open Go Go.RowKit Go.Shelf
set_option maxRecDepth 100000

theorem fin_nan {x : Nat} (h : fnan x = true) : finB x = false := by
  unfold fnan at h; unfold finB
  cases e : rd x with
  | nan => rfl
  | number => simp [e, Ieee.Datum.isNaN] at h
  | infinity => simp [e, Ieee.Datum.isNaN] at h
theorem fin_ok {x : Nat} (h : finB x = true) : fnan x = false := by
  cases e : fnan x with
  | false => rfl
  | true => simp [fin_nan e] at h
theorem okS_same {r r' : Nat} (total : Nat) (h : FSame r r') : okS total r = okE total r' := by
  have key : ∀ x, okS total x = okE total x := fun x => by
    unfold okS okE
    cases hf : finB x with
    | false => cases finB total <;> rfl
    | true =>
      have hn := fin_ok hf
      unfold flt feq fgt
      have e0 := ford_cases x 0
      have n0 : fnan 0 = false := by unfold fnan; rw [rd_0]; rfl
      rw [hn, n0] at e0
      rcases e0 with ⟨_, h | h⟩ | ⟨_, _, ⟨_, e⟩ | ⟨_, e⟩ | ⟨_, e⟩⟩ <;> first | (cases h; done) | (rw [e]; cases finB total <;> cases (ford total 0 == some Ordering.lt) <;> rfl)
  rcases h with rfl | ⟨a, b⟩
  · exact key r
  · unfold okS okE
    rw [fin_nan a, fin_nan b]; cases finB total <;> rfl
theorem okE_fin {total r : Nat} (h : okE total r = true) : fnan r = false := by
  unfold okE at h
  simp only [Bool.and_eq_true] at h
  exact fin_ok h.1.1.2
theorem ScOK.same {q q' : Nat} {l a b : List Nt} (ha : ScOK q l a) (hb : ScOK q' l b) (hq : FSame q q') : NotesSame a b := by
  refine ⟨ha.1.trans hb.1.symm, fun i x y hx hy => ?_⟩
  have hi : i < l.length := by have := (List.getElem?_eq_some_iff.1 hx).1; rw [ha.1] at this; exact this
  obtain ⟨z, hz⟩ : ∃ z, l[i]? = some z := ⟨_, List.getElem?_eq_getElem hi⟩
  obtain ⟨a1, a2, a3, a4, ⟨p, a5, a6⟩, ⟨p', a7, a8⟩⟩ := ha.2 i z x hz hx
  obtain ⟨b1, b2, b3, b4, ⟨s, b5, b6⟩, ⟨s', b7, b8⟩⟩ := hb.2 i z y hz hy
  refine ⟨a1.trans b1.symm, a2.trans b2.symm, a3.trans b3.symm, a4.trans b4.symm, ?_, ?_⟩
  · rw [a6, b6]; exact plain_same (a5.same (.refl _) hq b5)
  · rw [a8, b8]; exact plain_same (a7.same (.refl _) hq b7)
theorem RowAt.keep {w w' : World} {r : Option Nat} {o : Option Addr} {l : List Nt} (h : RowAt w encN 6 o l) (hg : w.grownBy w' r) (hne : ∀ g off, o = some ⟨g, off, none⟩ → l ≠ [] → r ≠ some g) : RowAt w' encN 6 o l := by
  intro i x hi
  obtain ⟨g, off, ho, hc⟩ := h i x hi
  have hl : l ≠ [] := fun e => by rw [e] at hi; simp at hi
  have h0 := hc 0 (by decide)
  have hlt : g < w.heap.size := lt_cell (h0.trans (show (encN x)[0]? = some (.int .i64 x.line) from rfl))
  have hb := hg.block g hlt (fun e => hne g off ho hl e.symm)
  exact ⟨g, off, ho, fun j hj => by rw [World.cell?_of_block (w := w) (w' := w') (a := ⟨g, off + i * 6 + j, none⟩) hb]; exact hc j hj⟩
theorem RowAt.pre {w : World} {o : Option Addr} {l : List Nt} (h : RowAt w encN 6 o (room9 l)) : RowAt w encN 6 o l := fun i x hi => h i x (by
  unfold room9
  rw [List.getElem?_append_left (List.getElem?_eq_some_iff.1 hi).1]; exact hi)

end Go.Proofs.Ytdlbopaefkbmhaa
