/- Stage 27: Apply, whatever comes in; what is put together again. -/
import Derived.Test.YtepbplmggladfaaJl
namespace Go.Proofs.Ytepbplmggladfaa
set_option linter.unusedVariables false
set_option linter.unusedSimpArgs false
open Go Go.RowKit Go.Shelf
set_option maxRecDepth 100000

/-- What Apply answers. -/
def appF (s : ByteArray) (l : List Sp) : ByteArray × Nat :=
  match sizeG l 0 0 with
  | none => (.empty, 2)
  | some (F, _) => if F ≠ s.size then (.empty, 5) else match runA (atL l) (bL s) with | none => (.empty, 270) | some r => (⟨⟨r.1⟩⟩, 0)
theorem bL_mk (s : ByteArray) : (⟨⟨bL s⟩⟩ : ByteArray) = s := bL_inj rfl
theorem bL_mk' (l : List UInt8) : bL ⟨⟨l⟩⟩ = l := rfl
theorem appF_ok {s : ByteArray} {l : List Sp} (h : (appF s l).2 = 0) : ∃ T, sizeG l 0 0 = some (s.size, T) ∧ runA (atL l) (bL s) = some (bL (appF s l).1, []) := by
  unfold appF at h ⊢
  cases hz : sizeG l 0 0 with
  | none => rw [hz] at h; simp at h
  | some ft =>
    obtain ⟨F, T⟩ := ft
    rw [hz] at h
    simp only at h ⊢
    by_cases hF : F = s.size
    · rw [if_neg (by simpa using hF)] at h ⊢
      subst hF
      cases hr : runA (atL l) (bL s) with
      | none => rw [hr] at h; simp at h
      | some r =>
        obtain ⟨r1, r2⟩ := r
        refine ⟨T, rfl, ?_⟩
        have h1 := (run_len hr).1
        have h2 := (sizeG_in l 0 0 _ _ hz).1
        rw [bL_len] at h1
        have : r2 = [] := List.length_eq_zero_iff.1 (by omega)
        subst this
        rfl
    · rw [if_pos hF] at h; simp at h
theorem appF_run {s : ByteArray} {l : List Sp} {T : Nat} {w : List UInt8} (hz : sizeG l 0 0 = some (s.size, T)) (hr : runA (atL l) (bL s) = some (w, [])) : appF s l = (⟨⟨w⟩⟩, 0) := by
  unfold appF
  rw [hz]
  simp only
  rw [if_neg (by simp), hr]
set_option maxHeartbeats 4000000 in
theorem apply_any (s : ByteArray) (l : List Sp) (o : Option Addr) (c : Nat) (hn : l.length ≤ 9223372036854775807) (hs : s.size ≤ 9223372036854775807) (ho : OkS l) (w : World) (hr : RowAt w encS 3 o l) :
    Calls Try.prog 12 #[.string s, .slice o l.length c] w fun e w' => e = .returned (.tuple #[.string (appF s l).1, .int .i64 (appF s l).2]) ∧ Below w.heap.size w w' := by
  cases hz : sizeG l 0 0 with
  | none =>
    have e : appF s l = (.empty, 2) := by unfold appF; rw [hz]
    rw [e]
    have cS := sizes_any l o c hn ho w hr
    rw [hz] at cS
    clear hr ho e
    go_enter Try.func12, Try.ntmps12
    go_wp2_with (fail)
    refine cS.mono ?_
    rintro e W ⟨rfl, hB⟩
    simp only [szV]
    have HB := Lib.hid hB
    clear hB cS
    go_wp2
    refine bodyPost_ret (results_tmp2 rfl _ _ _) rfl ?_
    exact ⟨rfl, HB.out⟩
  | some ft =>
    obtain ⟨F, T⟩ := ft
    by_cases hF : F = s.size
    · subst hF
      refine (apply_of s l o c T hn ho hz w hr).mono ?_
      rintro e w' ⟨h, hB⟩
      refine ⟨?_, hB⟩
      rcases h with ⟨h1, rfl⟩ | ⟨t, h1, rfl⟩
      · have : appF s l = (.empty, 270) := by unfold appF; rw [hz]; simp only; rw [if_neg (by simp), h1]
        rw [this]
        rfl
      · rw [appF_run hz h1, bL_mk]
        rfl
    · have e : appF s l = (.empty, 5) := by unfold appF; rw [hz]; simp only; rw [if_pos hF]
      rw [e]
      have cS := sizes_any l o c hn ho w hr
      rw [hz] at cS
      have e1 : ((s.size : Int) == (F : Int)) = false := by rw [beq_eq_false_iff_ne]; omega
      have e2 : (s.size == F) = false := by rw [beq_eq_false_iff_ne]; omega
      have HF := Lib.hid hF
      clear hr ho e hF
      go_enter Try.func12, Try.ntmps12
      go_wp2_with (fail)
      refine cS.mono ?_
      rintro e W ⟨rfl, hB⟩
      simp only [szV]
      have HB := Lib.hid hB
      clear hB cS
      go_wp2
      refine bodyPost_ret (results_tmp2 rfl _ _ _) rfl ?_
      exact ⟨rfl, HB.out⟩
/-- The one form of few bytes: its sizes, and that it may come in. -/
theorem nf_ok {A : List Atm} (hi : inA A ≤ 65536) (ho : outA A ≤ 65536) : sizeG (nfA A) 0 0 = some (inA A, outA A) ∧ OkS (nfA A) ∧ (nfA A).length ≤ 131072 := by
  obtain ⟨g1, g2⟩ := nf_eq A
  have i1 := g1.inn
  have i2 := g1.out
  have hA := at_len (atL (nfA A))
  have hl := len_le _ g2
  refine ⟨?_, fun x hx => ?_, by omega⟩
  · rw [sizeG_of _ 0 0 g2 (by omega) (by omega), i1, i2, Nat.zero_add, Nat.zero_add]
  · have := mem_bd hx
    have hk := kind_pos (g2 x hx)
    exact ⟨by omega, by omega, by omega, by omega⟩
theorem appF_nf {A : List Atm} {s : ByteArray} {w : List UInt8} (hr : runA A (bL s) = some (w, [])) (hs : s.size ≤ 65536) (hw : w.length ≤ 65536) : appF s (nfA A) = (⟨⟨w⟩⟩, 0) ∧ inA A = s.size ∧ outA A = w.length := by
  have h1 := run_len hr
  rw [bL_len] at h1
  simp only [List.length_nil, Nat.add_zero] at h1
  obtain ⟨h2, _⟩ := nf_ok (A := A) (by omega) (by omega)
  rw [← h1.1] at h2
  exact ⟨appF_run h2 (by rw [(nf_eq A).1.run]; exact hr), h1.1.symm, h1.2.symm⟩
theorem plain_run {l : List Sp} {s : ByteArray} {t : List UInt8} (h : runA (atL l) (bL s) = some (t, [])) : runA (atL (plainM l)) (bL s) = some (t, []) := by
  rw [plain_fd, (nf_eq (atL l)).1.run]; exact h
theorem nf_nf {A : List Atm} {s w : List UInt8} (h : runA A s = some (w, [])) : runA (atL (plainM (nfA A))) s = some (w, []) := by
  rw [plain_fd, (nf_eq _).1.run, (nf_eq A).1.run]; exact h
end Go.Proofs.Ytepbplmggladfaa
