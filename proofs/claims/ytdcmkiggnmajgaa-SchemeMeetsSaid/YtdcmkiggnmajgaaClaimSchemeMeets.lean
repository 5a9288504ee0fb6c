/- SchemeMeets: of every two schemes (no condition) Within, Meet and Join answer as the document does, in memory of their own, and what can't be held against each other is refused: the law returns true and leaves its arguments as they were. -/
import Derived.Test.YtdcmkiggnmajgaaRows
import Derived.Test.YtdcmkiggnmajgaaZi
import Derived.Test.YtdcmkiggnmajgaaSo
import Derived.SizedLaws
import Derived.ProofKit
import Derived.OpenShut
import Derived.JoinedCond
import Derived.Carry
namespace Go.Proofs.Ytdcmkiggnmajgaa.schemeMeets
set_option linter.unusedVariables false
set_option linter.unusedSimpArgs false
open Go Go.ChangeShapes Go.WideShapes Go.ChangeAt Go.RowKit
open Go.ChangeMaps (open_string shut_string)
set_option maxRecDepth 100000

theorem rows_sized {H : Type} {enc : TypeId × Value → H} {W : World} {fuel n c k : Nat} {o : Option Addr} {t e : TypeId} {d : DataW H} {p : List MemPlace} (hu : Try.prog.underlying t = some (.slice e)) (h : DataW.trod enc Try.prog W 0 (fun _ => true) true fuel t [.slice o n c] = some (d, p)) (hk : ∀ a b, d = .slice a b → (a.length + b.length) * k ≤ reachBytes) : n * k ≤ reachBytes := by
  rcases Go.Deep.open_slice hu h with ⟨hc, _⟩ | ⟨a, len, cap, m, n', D, Pl, hc, hb, hl, hm, hmm, hx, _⟩
  · simp only [List.cons.injEq, Value.slice.injEq, and_true] at hc
    obtain ⟨_, rfl, _⟩ := hc
    rw [Nat.zero_mul]; exact Nat.zero_le _
  · simp only [List.cons.injEq, Value.slice.injEq, and_true] at hc
    obtain ⟨_, rfl, _⟩ := hc
    rw [Prod.mk.injEq] at hx
    obtain ⟨rfl, _⟩ := hx
    have := hk _ _ rfl
    rw [List.length_map, List.length_range] at this
    exact Nat.le_trans (Nat.mul_le_mul_right k (Nat.le_add_right _ _)) this
theorem bytesRhyme : Try.prog.bytesOf 79 = 16 := by kernel_rfl
theorem bytesInt : Try.prog.bytesOf 3 = 8 := by kernel_rfl
theorem scheme_sized {H : Type} {enc : TypeId × Value → H} {W : World} {b0 n m cl cs : Nat} {ol os : Option Addr} {d : DataW H} {p : List MemPlace} (hv : Value.okWide Try.prog W .any b0 25 (.agg #[.slice ol n cl, .slice os m cs])) (h : DataW.Trod enc Try.prog W 0 (fun _ => true) true 25 (.agg #[.slice ol n cl, .slice os m cs]) d p) (hd : ∀ k ∈ d.weights Try.prog 25, k ≤ reachBytes) : n ≤ 8796093021952 ∧ m ≤ 17592186043904 := by
  obtain ⟨c0, c1, y0, y1, q, e, rfl, rfl, h0, h1⟩ := Go.Joins.open_agg2 Try.underlying25 (by kernel_rfl) cellsScheme hv h
  simp only [Value.agg.injEq, Array.mk.injEq, List.cons.injEq, and_true] at e
  obtain ⟨rfl, rfl⟩ := e
  have k0 := rows_sized (k := 16) Try.underlying22 h0 (fun a b e => hd _ (by
    simp only [DataW.weights, Try.underlying25, DataW.weightsEach, List.map_cons, List.map_nil, e, Try.underlying22, bytesRhyme]
    simp))
  have k1 := rows_sized (k := 8) Try.underlying23 h1 (fun a b e => hd _ (by
    simp only [DataW.weights, Try.underlying25, DataW.weightsEach, List.map_cons, List.map_nil, e, Try.underlying23, bytesInt]
    simp))
  unfold reachBytes at k0 k1
  omega

theorem own : ownKnob Try.prog.godebug = none := by kernel_rfl
theorem contract (H : Type) (enc : TypeId × Value → H) (W : World) (base : Nat) (args : Array Value) (ds gs : List (DataW H)) (before : List MemPlace)
    (hval : ∀ (j : Nat) t v, Try.f8.params[j]? = some t → args[j]? = some v → Value.okWide Try.prog W .any base t v)
    (hW : DataW.Whole enc Try.prog Try.f8.params.toList Rows.schemeMeetsSpec.vars false W args.toList ds gs before)
    (hsz : (DataW.weightsEach Try.prog (Try.f8.params.toList ++ Rows.schemeMeetsSpec.plain.varTypes Try.prog) (ds ++ gs)).all (· ≤ reachBytes) = true) :
    Calls Try.prog 8 args W fun e W' => ∃ v, e = .returned v ∧ Rows.schemeMeetsSpec.post enc Try.prog Try.f8 false true false false W args v W' := by
  have hW' := hW
  obtain ⟨p, q, hA0, hV, rfl, hfz, hnd⟩ := hW
  have hA : DataW.TrodAll enc Try.prog W 0 (fun _ => true) true Try.f8.params.toList args.toList ds p := hA0
  rw [Try.params8] at hA hval
  obtain ⟨v0, vs0', d0, ds0, p0, q0, hargs, rfl, rfl, h0, r0⟩ := trodAll_cons hA
  obtain ⟨v1, vs1', d1, ds1, p1, q1, rfl, rfl, rfl, h1, r1⟩ := trodAll_cons r0
  obtain ⟨rfl, rfl, rfl⟩ := trodAll_nil r1
  obtain rfl : args = #[v0, v1] := by cases args; simp_all
  obtain ⟨rfl, rfl⟩ := trodVars_none hV
  have h0k := h0
  obtain ⟨ol0, os0, cl0, cs0, s0, rfl, hV0⟩ := open_scheme (hval 0 25 v0 rfl rfl) h0
  have h1k := h1
  obtain ⟨ol1, os1, cl1, cs1, s1, rfl, hV1⟩ := open_scheme (hval 1 25 v1 rfl rfl) h1
  have hw0 : ∀ k ∈ d0.weights Try.prog 25, k ≤ reachBytes := fun k hk => by
    have := List.all_eq_true.1 hsz k (DataW.weights_mem_each (j := 0) (by kernel_rfl) rfl k hk)
    simpa using this
  have hw1 : ∀ k ∈ d1.weights Try.prog 25, k ≤ reachBytes := fun k hk => by
    have := List.all_eq_true.1 hsz k (DataW.weights_mem_each (j := 1) (by kernel_rfl) rfl k hk)
    simpa using this
  have z0 := scheme_sized (hval 0 25 _ rfl rfl) h0k hw0
  have z1 := scheme_sized (hval 1 25 _ rfl rfl) h1k hw1
  clear hA0
  simp only [List.append_nil] at hW'
  refine (Pr.meets_law s0 s1 ol0 os0 ol1 os1 cl0 cs0 cl1 cs1 z0.1 z0.2 z1.1 z1.2 hV0.2.2.1 hV0.2.2.2.1 hV1.2.2.1 hV1.2.2.2.1 W hV0.1 hV0.2.1 hV1.1 hV1.2.1).mono fun e W' ⟨he, hg⟩ => ?_
  subst he
  have hArgs := trodAll_cons_mk (Below.trod laidOut (by kernel_rfl) (of_decide_eq_true (by kernel_rfl)) h0k hg (fun x hx => hW'.lt x (by simp [hx]))) (trodAll_cons_mk (Below.trod laidOut (by kernel_rfl) (of_decide_eq_true (by kernel_rfl)) h1k hg (fun x hx => hW'.lt x (by simp [hx]))) (trodAll_mk0))
  simp only [List.append_nil] at hArgs
  exact ⟨_, rfl, _, _, _, [], _, [], hW', trodAll_cons_mk (shut_bool Try.underlying4 _) trodAll_mk0, hArgs, rfl, hg.frame _, fun h => by cases h⟩

theorem lifted (os : Os) (started : os.Started) (H : Type) (enc : TypeId × Value → H) :
    ReturnsInHanded {} Try.checked os 8 .any (Rows.schemeMeetsSpec.pre6 enc Try.prog Try.f8 Rows.schemeMeetsRow.domain false) (Rows.schemeMeetsSpec.post enc Try.prog Try.f8 false true false false) := by
  refine returnsInHanded_of_change_sized (C := Try.checked) own started (by kernel_rfl) Try.func8
    (ChangeSpec.witness6 (enc := enc) (C := Try.checked) false ⟨#[], #[.agg #[.slice none 0 0, .slice none 0 0], .agg #[.slice none 0 0, .slice none 0 0]], []⟩ 8 (by kernel_rfl) (by kernel_rfl) (by kernel_rfl) (by kernel_rfl)) ?_
  intro W base args ds gs before hval hW _ hsz _
  exact contract H enc W base args ds gs before hval hW hsz

theorem proved : Rows.SchemeMeetsSaid :=
  OpenClaim.holds_of_wide 8 Try.f8 rfl rfl rfl rfl rfl rfl rfl ⟨rfl, rfl, rfl, rfl, rfl⟩ rfl rfl rfl rfl rfl (by kernel_rfl) Try.func8 (by kernel_rfl)
    (of_decide_eq_true (by kernel_rfl)) (by unfold Func.isWrapper; first | (rw [if_pos (by decide +kernel)]; kernel_rfl) | (rw [if_neg (by decide +kernel)]; exact ⟨rfl, rfl⟩))
    (fun os started H enc _ => lifted os started H enc)
end Go.Proofs.Ytdcmkiggnmajgaa.schemeMeets
