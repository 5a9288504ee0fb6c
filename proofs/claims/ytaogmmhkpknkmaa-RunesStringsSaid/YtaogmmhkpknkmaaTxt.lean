/- A text that is made of runes: its pieces are their forms. -/
import Derived.Test.YtaogmmhkpknkmaaOf
import Derived.Test.YtaogmmhkpknkmaaTo
import Derived.Test.YtaogmmhkpknkmaaRt
import Derived.Laws.Cover4
namespace Go.Proofs.Ytaogmmhkpknkmaa
set_option linter.unusedVariables false
set_option linter.unusedSimpArgs false
open Go Go.RowKit
set_option maxRecDepth 100000

/-- The rune that a rune's form says. -/
def rr (r : Int) : Int := if noR r = true then 65533 else r
theorem noR_rr (r : Int) : noR (rr r) = false := by
  unfold rr; split
  · decide
  · next h => simpa using h
theorem enc_rr (r : Int) : Utf8.encode (rr r) = Utf8.encode r := by
  unfold rr; split
  · next h =>
    have e1 : encL r = [239, 191, 189] := by unfold encL; rw [if_pos h]
    have e2 : encL 65533 = [239, 191, 189] := by decide
    rw [enc_nums, enc_nums, e1, e2]
  · rfl
theorem enc_wid (r : Int) : (Utf8.encode r).size = widZ (rr r) := by
  rw [← enc_rr r, enc_nums, strOfNums_size]
  have h := noR_rr r
  obtain ⟨q, hq⟩ : ∃ q, rr r = q := ⟨_, rfl⟩
  rw [hq] at h ⊢
  unfold encL widZ
  rw [noR_not] at h
  rw [if_neg h, if_neg (by rw [noR_iff]; exact h)]
  repeat' split
  all_goals rfl
theorem wid_none (r : Int) (h : noR r = true) : widZ r = 0 ∧ rr r = 65533 := ⟨(widZ_0 r).2 ((noR_iff r).1 h), by unfold rr; rw [if_pos h]⟩
theorem wid_some (r : Int) (h : noR r = false) : widZ r = (Utf8.encode r).size ∧ rr r = r ∧ widZ r ≠ 0 := by
  have e : rr r = r := by unfold rr; rw [if_neg (by rw [h]; simp)]
  refine ⟨by rw [enc_wid, e], e, fun h0 => ?_⟩
  rw [widZ_0, ← noR_iff, h] at h0
  cases h0

theorem str_mid (a b c : List Int) : (strOfNums (a ++ b ++ c)).extract a.length (a.length + b.length) = strOfNums b := by
  apply ByteArray.ext
  apply Array.ext'
  rw [ByteArray.data_extract, Array.toList_extract, List.extract_eq_take_drop]
  simp [strOfNums]

theorem at_form (pre post : List Int) (r : Int) (T : ByteArray) (hT : T = encA (pre ++ r :: post)) :
    (rn T (encA pre).size : Int) = rr r ∧ lenN T (encA pre).size = (Utf8.encode r).size ∧ (encA pre).size + (Utf8.encode r).size ≤ T.size ∧ 1 ≤ (Utf8.encode r).size := by
  have hs : T.size = (encA pre).size + (Utf8.encode r).size + (encA post).size := by
    rw [hT, enc_nums, encA, encA, encA, strOfNums_size, strOfNums_size, strOfNums_size, strOfNums_size]; simp; omega
  have h1 : 1 ≤ (Utf8.encode r).size := by
    rw [enc_wid]
    have : widZ (rr r) ≠ 0 := by
      intro h0
      have h := noR_rr r
      rw [widZ_0, ← noR_iff, h] at h0
      cases h0
    omega
  have hx : T.extract (encA pre).size ((encA pre).size + (Utf8.encode r).size) = Utf8.encode r := by
    rw [hT]
    have := str_mid (pre.flatMap encL) (encL r) (post.flatMap encL)
    rw [encA, encA, enc_nums, strOfNums_size, strOfNums_size]
    rw [show (pre ++ r :: post).flatMap encL = pre.flatMap encL ++ encL r ++ post.flatMap encL by simp]
    exact this
  have hf := form_of_enc T (encA pre).size (Utf8.encode r).size (rr r) h1 (enc_size r) (by omega) (noR_rr r) (enc_wid r).symm (by rw [enc_rr, hx])
  exact ⟨hf.2.1, hf.2.2, by omega, h1⟩

theorem forms_of (zs : List Int) (T : ByteArray) (hT : T = encA zs) : ∀ post pre : List Int, zs = pre ++ post →
    rns T (posG T (encA pre).size) = post.map (fun r => Value.int .i32 (rr r)) ∧ ∀ i ∈ posG T (encA pre).size, bk T i = false := by
  intro post
  induction post with
  | nil =>
    intro pre h
    have : posG T (encA pre).size = [] := posG_end _ _ (by rw [hT, h, List.append_nil]; exact Nat.le_refl _)
    rw [this]
    exact ⟨rfl, fun i hi => by cases hi⟩
  | cons r post ih =>
    intro pre h
    obtain ⟨f1, f2, f3, f4⟩ := at_form pre post r T (by rw [hT, h])
    have hbk : bk T (encA pre).size = false := (bk_not T _).2 (by omega)
    have hwd : wd T (encA pre).size = (Utf8.encode r).size := by unfold wd; rw [if_neg (by omega)]; exact f2
    obtain ⟨i1, i2⟩ := ih (pre ++ [r]) (by rw [h]; simp)
    rw [encA_snoc_size] at i1 i2
    rw [posG_cons T _ (by omega), hwd]
    refine ⟨?_, fun i hi => ?_⟩
    · rw [show rns T ((encA pre).size :: posG T ((encA pre).size + (Utf8.encode r).size)) = Value.int .i32 (rn T (encA pre).size : Nat) :: rns T (posG T ((encA pre).size + (Utf8.encode r).size)) from rfl, i1, f1]; rfl
    · rcases List.mem_cons.1 hi with rfl | hi
      · exact hbk
      · exact i2 i hi

theorem text_of (zs : List Int) : rns (encA zs) (posns (encA zs)) = zs.map (fun r => Value.int .i32 (rr r)) ∧ allR (encA zs) = true ∧ (posns (encA zs)).length = zs.length := by
  obtain ⟨h1, h2⟩ := forms_of zs (encA zs) rfl zs [] rfl
  have e : (encA []).size = 0 := rfl
  rw [e, ← posns_G] at h1 h2
  refine ⟨h1, ?_, ?_⟩
  · unfold allR
    rw [List.all_eq_true]
    intro i hi
    simp [h2 i hi]
  · have := congrArg List.length h1
    simpa [rns] using this

theorem str_app (a b : List Int) : strOfNums a ++ strOfNums b = strOfNums (a ++ b) := by
  apply ByteArray.ext
  simp [strOfNums]
theorem runes_enc (zs : List Int) : runesBytes zs = encA zs := by
  have : ∀ (l xs : List Int), l.foldl (fun r n => r ++ Utf8.encode n) (strOfNums xs) = strOfNums (xs ++ l.flatMap encL) := by
    intro l
    induction l with
    | nil => intro xs; simp
    | cons x l ih => intro xs; rw [List.foldl_cons, enc_nums, str_app, ih]; simp
  exact this zs []

/-- string(l) of a list of runes. -/
theorem conv_runes {w : World} {o : Option Addr} {n cap : Nat} {zs : List Int} (hn : zs.length = n) (h : RowI w o zs) : (convert 22 9 (.slice o n cap)).run Try.prog w = .ok (.string (encA zs)) w := by
  have hz : zs.take n = zs := List.take_of_length_le (by omega)
  cases o with
  | none =>
    have : zs = [] := by
      rcases zs with _ | ⟨x, zs⟩
      · rfl
      · obtain ⟨b, off, e, _⟩ := h 0 (by simp); cases e
    subst this
    exact run_convert_runes_nil w 22 9 21 n cap Try.underlying22 Try.underlying21 Try.underlying9
  | some a =>
    have := run_convert_runes (P := Try.prog) w 22 9 21 a n cap zs (by omega) Try.underlying22 Try.underlying21 Try.underlying9
      (fun j hj => by
        obtain ⟨b, off, e, hc⟩ := h j hj
        cases e
        rw [Go.WideShapes.add_plain]
        exact hc)
    rw [this, hz, runes_enc]
end Go.Proofs.Ytaogmmhkpknkmaa
