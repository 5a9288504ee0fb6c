/- SchemeFinds: of every scheme and every list of keys (no condition) Found and Faults answer as the document does, and leave the keys and what stands behind them as they were: the law returns true and leaves its arguments as they were. -/
import Derived.Test.YtdcmkiggnmajgaaRows
import Derived.Test.YtdcmkiggnmajgaaYr
import Derived.SizedLaws
import Derived.Test.YtdcmkiggnmajgaaSo
import Derived.ProofKit
import Derived.OpenShut
import Derived.JoinedCond
import Derived.Carry
namespace Go.Proofs.Ytdcmkiggnmajgaa.schemeFinds
set_option linter.unusedVariables false
set_option linter.unusedSimpArgs false
open Go Go.ChangeShapes Go.WideShapes Go.ChangeAt Go.RowKit
open Go.ChangeMaps (open_string shut_string)
set_option maxRecDepth 100000

theorem keys_sized {H : Type} {enc : TypeId × Value → H} {W : World} {fuel n c : Nat} {o : Option Addr} {d : DataW H} {p : List MemPlace} (h : DataW.trod enc Try.prog W 0 (fun _ => true) true fuel 56 [.slice o n c] = some (d, p)) (hk : ∀ a b, d = .slice a b → (a.length + b.length) * 16 ≤ reachBytes) : n ≤ 8796093021952 := by
  rcases Go.Deep.open_slice Try.underlying56 h with ⟨hc, _⟩ | ⟨a, len, cap, m, n', D, Pl, hc, hb, hl, hm, hmm, hx, _⟩
  · simp only [List.cons.injEq, Value.slice.injEq, and_true] at hc
    omega
  · simp only [List.cons.injEq, Value.slice.injEq, and_true] at hc
    obtain ⟨_, rfl, _⟩ := hc
    rw [Prod.mk.injEq] at hx
    obtain ⟨rfl, _⟩ := hx
    have := hk _ _ rfl
    rw [List.length_map, List.length_range] at this
    unfold reachBytes at this
    omega
theorem bytesStr : Try.prog.bytesOf 9 = 16 := by kernel_rfl

theorem own : ownKnob Try.prog.godebug = none := by kernel_rfl
theorem contract (H : Type) (enc : TypeId × Value → H) (W : World) (base : Nat) (args : Array Value) (ds gs : List (DataW H)) (before : List MemPlace)
    (hval : ∀ (j : Nat) t v, Try.f7.params[j]? = some t → args[j]? = some v → Value.okWide Try.prog W .any base t v)
    (hW : DataW.Whole enc Try.prog Try.f7.params.toList Rows.schemeFindsSpec.vars false W args.toList ds gs before)
    (hsz : (DataW.weightsEach Try.prog (Try.f7.params.toList ++ Rows.schemeFindsSpec.plain.varTypes Try.prog) (ds ++ gs)).all (· ≤ reachBytes) = true) :
    Calls Try.prog 7 args W fun e W' => ∃ v, e = .returned v ∧ Rows.schemeFindsSpec.post enc Try.prog Try.f7 false true false false W args v W' := by
  have hW' := hW
  obtain ⟨p, q, hA0, hV, rfl, hfz, hnd⟩ := hW
  have hA : DataW.TrodAll enc Try.prog W 0 (fun _ => true) true Try.f7.params.toList args.toList ds p := hA0
  rw [Try.params7] at hA hval
  obtain ⟨v0, vs0', d0, ds0, p0, q0, hargs, rfl, rfl, h0, r0⟩ := trodAll_cons hA
  obtain ⟨v1, vs1', d1, ds1, p1, q1, rfl, rfl, rfl, h1, r1⟩ := trodAll_cons r0
  obtain ⟨rfl, rfl, rfl⟩ := trodAll_nil r1
  obtain rfl : args = #[v0, v1] := by cases args; simp_all
  obtain ⟨rfl, rfl⟩ := trodVars_none hV
  have h0k := h0
  obtain ⟨ol0, os0, cl0, cs0, s0, rfl, hV0⟩ := open_scheme (hval 0 25 v0 rfl rfl) h0
  have h1k := h1
  obtain ⟨ao1, len1, cap1, rfl⟩ := okWide_slice Try.underlying56 (hval 1 56 v1 rfl rfl)
  obtain ⟨fu1, hf1⟩ := h1k
  have hb := keys_sized hf1 (fun a b e => by
    have h := sized_slice (j := 1) (t := 56) (e := 9) (elems := a) (spare := b) hsz (by kernel_rfl) (by rw [← e]; rfl) Try.underlying56
    rw [bytesStr] at h
    exact h)
  have h1k := h1
  obtain ⟨ks1, hkl1, hK1⟩ := open_keys h1
  subst hkl1
  clear hA0
  simp only [List.append_nil] at hW'
  refine (Pr.finds_law s0 ks1 ol0 os0 ao1 cl0 cs0 cap1 hV0.2.2.2.2.1 hV0.2.2.2.2.2 hb W hV0.1 hV0.2.1 hK1).mono fun e W' ⟨he, hg⟩ => ?_
  subst he
  have hArgs := trodAll_cons_mk (Below.trod laidOut (by kernel_rfl) (of_decide_eq_true (by kernel_rfl)) h0k hg (fun x hx => hW'.lt x (by simp [hx]))) (trodAll_cons_mk (Below.trod laidOut (by kernel_rfl) (of_decide_eq_true (by kernel_rfl)) h1k hg (fun x hx => hW'.lt x (by simp [hx]))) (trodAll_mk0))
  simp only [List.append_nil] at hArgs
  exact ⟨_, rfl, _, _, _, [], _, [], hW', trodAll_cons_mk (shut_bool Try.underlying4 _) trodAll_mk0, hArgs, rfl, hg.frame _, fun h => by cases h⟩

theorem lifted (os : Os) (started : os.Started) (H : Type) (enc : TypeId × Value → H) :
    ReturnsInHanded {} Try.checked os 7 .any (Rows.schemeFindsSpec.pre6 enc Try.prog Try.f7 Rows.schemeFindsRow.domain false) (Rows.schemeFindsSpec.post enc Try.prog Try.f7 false true false false) := by
  refine returnsInHanded_of_change_sized (C := Try.checked) own started (by kernel_rfl) Try.func7
    (ChangeSpec.witness6 (enc := enc) (C := Try.checked) false ⟨#[], #[.agg #[.slice none 0 0, .slice none 0 0], .slice none 0 0], []⟩ 8 (by kernel_rfl) (by kernel_rfl) (by kernel_rfl) (by kernel_rfl)) ?_
  intro W base args ds gs before hval hW _ hsz _
  exact contract H enc W base args ds gs before hval hW hsz

theorem proved : Rows.SchemeFindsSaid :=
  OpenClaim.holds_of_wide 7 Try.f7 rfl rfl rfl rfl rfl rfl rfl ⟨rfl, rfl, rfl, rfl, rfl⟩ rfl rfl rfl rfl rfl (by kernel_rfl) Try.func7 (by kernel_rfl)
    (of_decide_eq_true (by kernel_rfl)) (by unfold Func.isWrapper; first | (rw [if_pos (by decide +kernel)]; kernel_rfl) | (rw [if_neg (by decide +kernel)]; exact ⟨rfl, rfl⟩))
    (fun os started H enc _ => lifted os started H enc)
end Go.Proofs.Ytdcmkiggnmajgaa.schemeFinds
