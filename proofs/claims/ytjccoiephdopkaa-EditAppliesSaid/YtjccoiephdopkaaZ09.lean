/- Several texts in one. -/
import Derived.Test.YtjccoiephdopkaaJ2
import Derived.Test.YtjccoiephdopkaaZ08
import Derived.Test.YtjccoiephdopkaaZ02
import Derived.Test.YtjccoiephdopkaaZ07
import Derived.Test.YtjccoiephdopkaaZ00
/- Stage 27: the document's maker: drop, keep. -/
namespace Go.Proofs.Ytjccoiephdopkaa
set_option linter.unusedVariables false
set_option linter.unusedSimpArgs false
open Go Go.RowKit Go.Shelf
set_option maxRecDepth 100000

theorem row_one (X : World) (b : Nat) (c : UInt8) (hb : b ≤ X.heap.size) : (X.alloc (.cells #[.int .u8 c.toNat] 5)).ownsRow b 5 1 (.slice (some ⟨X.heap.size, 0, none⟩) 1 1) 1 (Lib.strCells ⟨#[c]⟩) :=
  World.ownsRow_lit (base := b) (e := 5) (size := 1) X #[.int .u8 c.toNat] 1 hb (by unfold maxLen; omega) rfl
set_option maxHeartbeats 4000000 in
theorem ddrop_any {W : World} {B b : Nat} {vL : Value} {L : List Sp} {pu dr : ByteArray} (h : DkB W B b vL L pu dr) (c : UInt8) (hd : dr.size ≤ 1000000) :
    Calls Try.prog 22 #[.pointer (some ⟨B, 0, none⟩), .int .u8 c.toNat] W fun e W' => e = .returned (.tuple #[]) ∧ DkB W' B b vL L pu (dr ++ ⟨#[c]⟩) ∧ KpD B vL vL W W' := by
  have hsz : (9223372036854775807 < dr.size + 1) = False := eq_false (by omega)
  have HM := Lib.hid h
  clear h
  go_enter Try.func22, Try.ntmps22
  go_wp2
  refine wp_region_noPanic ?_
  refine wp_region_g (S := untilG [11] (fun X => Blk X B #[vL, .string pu, .string dr] 56)) (by kernel_rfl) ?_
  obtain ⟨X0, hX0⟩ : ∃ Z, W.drew = Z := ⟨_, rfl⟩
  have U0 : Below W.heap.size W X0 := hX0 ▸ (Below.refl W.heap.size W).drew
  have T0 := HM.out.blk.below' U0
  rw [hX0]
  clear hX0
  refine wpAnyG_take [0, 9, 10, 11] (i := 0) (v := (.pointer (some ⟨B, 0, none⟩))) rfl (by kernel_rfl) (by kernel_rfl) (by kernel_rfl) (by kernel_rfl) (by kernel_rfl) (by kernel_rfl) (by kernel_rfl) (by kernel_rfl) (fun _ _ _ h => h) (Or.inl ⟨by rfl, ?hy⟩) T0 ?_
  case hy =>
    intro X hX
    go_simp
  try simp only [Act.put, List.getElem_toArray, List.getElem_cons_zero, List.getElem_cons_succ, List.setIfInBounds_toArray, List.set_cons_zero, List.set_cons_succ]
  refine wpAnyG_take [1, 2, 3, 4, 8, 11] (i := 1) (v := (.pointer (some ⟨B, 0, none⟩))) rfl (by kernel_rfl) (by kernel_rfl) (by kernel_rfl) (by kernel_rfl) (by kernel_rfl) (by kernel_rfl) (by kernel_rfl) (by kernel_rfl) (fun _ _ _ h => h) (Or.inl ⟨by rfl, ?hy⟩) T0 ?_
  case hy =>
    intro X hX
    go_simp
  try simp only [Act.put, List.getElem_toArray, List.getElem_cons_zero, List.getElem_cons_succ, List.setIfInBounds_toArray, List.set_cons_zero, List.set_cons_succ]
  refine wpAnyG_take [2, 3, 4, 8, 11] (i := 2) (v := (.pointer (some ⟨B, 0, none⟩))) rfl (by kernel_rfl) (by kernel_rfl) (by kernel_rfl) (by kernel_rfl) (by kernel_rfl) (by kernel_rfl) (by kernel_rfl) (by kernel_rfl) (fun _ _ _ h => h) (Or.inl ⟨by rfl, ?hy⟩) T0 ?_
  case hy =>
    intro X hX
    go_simp
  try simp only [Act.put, List.getElem_toArray, List.getElem_cons_zero, List.getElem_cons_succ, List.setIfInBounds_toArray, List.set_cons_zero, List.set_cons_succ]
  refine wpAnyG_take [3, 4, 8, 11] (i := 3) (v := (.pointer (some ⟨B, 2, none⟩))) rfl (by kernel_rfl) (by kernel_rfl) (by kernel_rfl) (by kernel_rfl) (by kernel_rfl) (by kernel_rfl) (by kernel_rfl) (by kernel_rfl) (fun _ _ _ h => h) (Or.inl ⟨by rfl, ?hy⟩) T0 ?_
  case hy =>
    intro X hX
    go_simp
  try simp only [Act.put, List.getElem_toArray, List.getElem_cons_zero, List.getElem_cons_succ, List.setIfInBounds_toArray, List.set_cons_zero, List.set_cons_succ]
  refine wpAnyG_take [4, 8, 11] (i := 4) (v := (.string dr)) rfl (by kernel_rfl) (by kernel_rfl) (by kernel_rfl) (by kernel_rfl) (by kernel_rfl) (by kernel_rfl) (by kernel_rfl) (by kernel_rfl) (fun _ _ _ h => h) (Or.inl ⟨by rfl, ?hy⟩) T0 ?_
  case hy =>
    intro X hX
    have e0 := Blk.cell hX 2
    simp only [List.getElem?_toArray, List.getElem?_cons_zero, List.getElem?_cons_succ] at e0
    go_simp
  try simp only [Act.put, List.getElem_toArray, List.getElem_cons_zero, List.getElem_cons_succ, List.setIfInBounds_toArray, List.set_cons_zero, List.set_cons_succ]
  refine wpAnyG_take [5, 6, 7, 8, 11] (i := 5) (v := (.int .u8 c.toNat)) rfl (by kernel_rfl) (by kernel_rfl) (by kernel_rfl) (by kernel_rfl) (by kernel_rfl) (by kernel_rfl) (by kernel_rfl) (by kernel_rfl) (fun _ _ _ h => h) (Or.inl ⟨by rfl, ?hy⟩) T0 ?_
  case hy =>
    intro X hX
    go_simp
  try simp only [Act.put, List.getElem_toArray, List.getElem_cons_zero, List.getElem_cons_succ, List.setIfInBounds_toArray, List.set_cons_zero, List.set_cons_succ]
  refine wpAnyG_all (rs := [6]) (by kernel_rfl) (by simp) ?_
  intro i hi
  simp only [List.mem_cons, List.not_mem_nil, or_false] at hi
  subst hi
  refine wpOp_now rfl rfl ?_
  go_simp
  have U1 := U0.alloc U0.size (.cells #[.int .u8 c.toNat] 5)
  have hrow := row_one X0 W.heap.size c U0.size
  have T1 := HM.out.blk.below' U1
  refine ⟨fun _ => T1, ?_⟩
  try simp only [Act.put, List.getElem_toArray, List.getElem_cons_zero, List.getElem_cons_succ, List.setIfInBounds_toArray, List.set_cons_zero, List.set_cons_succ]
  have ec := conv_own rfl hrow
  refine wpAnyG_all (rs := [7]) (by kernel_rfl) (by simp) ?_
  intro i hi
  simp only [List.mem_cons, List.not_mem_nil, or_false] at hi
  subst hi
  refine wpOp_now rfl rfl ?_
  go_simp
  refine ⟨fun _ => T1, ?_⟩
  try simp only [Act.put, List.getElem_toArray, List.getElem_cons_zero, List.getElem_cons_succ, List.setIfInBounds_toArray, List.set_cons_zero, List.set_cons_succ]
  refine wpAnyG_all (rs := [8]) (by kernel_rfl) (by simp) ?_
  intro i hi
  simp only [List.mem_cons, List.not_mem_nil, or_false] at hi
  subst hi
  refine wpOp_now rfl rfl ?_
  go_simp
  refine ⟨fun _ => T1, ?_⟩
  try simp only [Act.put, List.getElem_toArray, List.getElem_cons_zero, List.getElem_cons_succ, List.setIfInBounds_toArray, List.set_cons_zero, List.set_cons_succ]
  refine wpAnyG_all (rs := [9]) (by kernel_rfl) (by simp) ?_
  intro i hi
  simp only [List.mem_cons, List.not_mem_nil, or_false] at hi
  subst hi
  refine wpOp_now rfl rfl ?_
  go_simp
  refine ⟨fun _ => T1, ?_⟩
  try simp only [Act.put, List.getElem_toArray, List.getElem_cons_zero, List.getElem_cons_succ, List.setIfInBounds_toArray, List.set_cons_zero, List.set_cons_succ]
  refine wpAnyG_all (rs := [10]) (by kernel_rfl) (by simp) ?_
  intro i hi
  simp only [List.mem_cons, List.not_mem_nil, or_false] at hi
  subst hi
  refine wpOp_now rfl rfl ?_
  go_simp
  refine ⟨fun _ => T1, ?_⟩
  try simp only [Act.put, List.getElem_toArray, List.getElem_cons_zero, List.getElem_cons_succ, List.setIfInBounds_toArray, List.set_cons_zero, List.set_cons_succ]
  have k2 := Blk.cell T1 2
  have f2 := Blk.frozen T1 2
  simp only [List.getElem?_toArray, List.getElem?_cons_zero, List.getElem?_cons_succ] at k2
  refine wpAnyG_all (rs := [11]) (by kernel_rfl) (by simp) ?_
  intro i hi
  simp only [List.mem_cons, List.not_mem_nil, or_false] at hi
  subst hi
  refine wpOp_now rfl rfl ?_
  go_simp
  refine ⟨fun h => (nomatch (show (false : Bool) = true from h)), ?_⟩
  refine wpAnyG_done (by kernel_rfl) ?_ _
  refine NoPanic.normal ?_
  have HA := Lib.hid (And.intro ((HM.out.below U1).setD (dr ++ ⟨#[c]⟩)) ((KpD.of_below HM.out U1).trans (KpD.set (HM.out.below U1) 2 (.string (dr ++ ⟨#[c]⟩)))))
  clear T0 T1 U0 U1 hrow ec k2 f2
  go_wp2
  refine bodyPost_end (results_none rfl _ _ _) rfl ?_
  exact ⟨rfl, HA.out.1, HA.out.2⟩
/-- The last row that is kept grows, or a new one begins. -/
def kpD (n : Nat) (L : List Sp) : List Sp :=
  match L.getLast? with
  | some x => if 0 < x.k then L.dropLast ++ [⟨x.k + n, x.d, x.p⟩] else L ++ [⟨n, .empty, .empty⟩]
  | none => L ++ [⟨n, .empty, .empty⟩]
theorem DkB.setL {W : World} {B b g c : Nat} {L : List Sp} {pu dr : ByteArray} (h : DkB W B b (.slice (some ⟨g, 0, none⟩) L.length c) L pu dr) {i : Nat} {x : Sp} (hx : L[i]? = some x) (n : Int) :
    DkB (W.setCell ⟨g, i * 3, none⟩ (.int .i64 n)) B b (.slice (some ⟨g, 0, none⟩) L.length c) (L.set i ⟨n, x.d, x.p⟩) pu dr ∧ KpD B (.slice (some ⟨g, 0, none⟩) L.length c) (.slice (some ⟨g, 0, none⟩) L.length c) W (W.setCell ⟨g, i * 3, none⟩ (.int .i64 n)) := by
  have hi := (List.getElem?_eq_some_iff.1 hx).1
  have e1 : g ≠ B := fun e => Blk.not_row h.blk (by decide) h.ro (by rw [← e]; rfl)
  have r2 := own_setK h.ro (o := i * 3) (by omega) (.int .i64 n)
  have h9 := fl_set (enc := encS) (k := 3) encS_len hx (j := 0) (y := ⟨n, x.d, x.p⟩) (v := .int .i64 n) (by decide) rfl
  rw [Nat.add_zero] at h9
  rw [h9] at r2
  refine ⟨⟨h.blk.other (fun e => e1 e.symm) _ _, by rw [List.length_set]; exact r2, h.bb, by simpa using h.bw⟩, ⟨rfl, rfl, rfl, by simp, fun q hq hB hn => ⟨Below.heap_setCell _ _ _ _ (fun e => hn (by rw [e]; rfl)), hn⟩⟩⟩
set_option maxHeartbeats 16000000 in
theorem dkeep_any {W : World} {B b : Nat} {vL : Value} {L : List Sp} {pu dr : ByteArray} (h : DkB W B b vL L pu dr) (n : Nat) (hn : n ≤ 1000000) (hl : L.length ≤ 100000000) (hk : ∀ x ∈ L, x.k ≤ 1000000 ∧ -1000000 ≤ x.k) :
    Calls Try.prog 23 #[.pointer (some ⟨B, 0, none⟩), .int .i64 n] W fun e W' => e = .returned (.tuple #[]) ∧ ((n = 0 ∧ DkB W' B b vL L pu dr ∧ KpD B vL vL W W') ∨ (0 < n ∧ ∃ v', DkB W' B b v' (kpD n (L ++ flD pu dr)) .empty .empty ∧ KpD B vL v' W W')) := by
  obtain ⟨j0, hj, hy0, hy1, hy2⟩ := info_parts infoStep
  by_cases h0 : n = 0
  · subst h0
    have HM := Lib.hid h
    clear h
    go_enter Try.func23, Try.ntmps23
    go_wp2
    refine bodyPost_ret (results_none rfl _ _ _) rfl ?_
    exact ⟨by first | rfl | trivial, .inl ⟨by first | rfl | trivial, HM.out, KpD.refl _ _ _⟩⟩
  · have n1 : ((n : Int) == 0) = false := by rw [beq_eq_false_iff_ne]; omega
    have n2 : (n == 0) = false := by rw [beq_eq_false_iff_ne]; omega
    have hfl : (flD pu dr).length ≤ 2 ∧ ∀ x ∈ flD pu dr, x.k = 0 := by
      unfold flD
      refine ⟨by split <;> split <;> simp, fun x hx => ?_⟩
      rcases List.mem_append.1 hx with hx | hx
      · split at hx
        · simp only [List.mem_singleton] at hx; subst hx; rfl
        · cases hx
      · split at hx
        · simp only [List.mem_singleton] at hx; subst hx; rfl
        · cases hx
    have cE := dend_any h (by omega)
    have hl2 : (L ++ flD pu dr).length ≤ 100000002 := by rw [List.length_append]; omega
    have hk2 : ∀ x ∈ L ++ flD pu dr, x.k ≤ 1000000 ∧ -1000000 ≤ x.k := fun x hx => by
      rcases List.mem_append.1 hx with hx | hx
      · exact hk x hx
      · have := hfl.2 x hx; omega
    obtain ⟨M, hM⟩ : ∃ M, L ++ flD pu dr = M := ⟨_, rfl⟩
    rw [hM] at cE hl2 hk2 ⊢
    have H0 := Lib.hid h0
    clear h hfl hM h0 hl hk
    go_enter Try.func23, Try.ntmps23
    go_wp2_with (fail)
    refine cE.mono ?_
    rintro e V ⟨rfl, v1, hV, hKV⟩
    clear cE
    obtain ⟨c0, c1, c2⟩ := hV.cells
    obtain ⟨ov, cv, rfl, hgo⟩ := own_slice hV.ro
    rcases List.eq_nil_or_concat M with hM | ⟨M0, x, hM⟩
    · subst hM
      have HV := Lib.hid (And.intro hV hKV)
      have HB := Lib.hid (Blk.new V #[.int .i64 n, .string .empty, .string .empty] 54)
      have jw : IntKind.i64.wrap ((0 : Int) - 1) = -1 := by rfl
      clear hV hKV hgo
      simp only [List.length_nil] at c0
      go_wp2_with (at_builtin; refine wpList_append_own_at _ rfl _ _ 30 rfl b 54 j0 (.agg #[.int .i64 0, .string .empty, .string .empty]) 3 40 Try.underlying30 hj hy0 hy1 hy2 rfl (by decide) _ _ _ rfl (own_below HV.out.1.ro ((Below.refl V.heap.size V).alloc (Nat.le_refl _) (.cells #[.int .i64 n, .string .empty, .string .empty] 54))) ⟨V.heap.size, 0, none⟩ 1 1 [.int .i64 n, .string .empty, .string .empty] rfl rfl (World.news_of_block (cs := #[.int .i64 n, .string .empty, .string .empty]) (t := 54) (fr := (0, 0)) HB.out) (fun x hx => by simp at hx; rcases hx with rfl | rfl | rfl <;> rfl) (by unfold maxLen; (try simp only [List.length_nil]); omega) (by (try simp only [List.length_nil]); omega) (by simp; have := HV.out.1.bw; omega) ?_; intro v3 w3 hown3 hg3 _ hv3; have T3 := Blk.kept (HV.out.1.blk.below' ((Below.refl V.heap.size V).alloc (Nat.le_refl _) (.cells #[.int .i64 n, .string .empty, .string .empty] 54))) hg3 (Blk.not_row (HV.out.1.blk.below' ((Below.refl V.heap.size V).alloc (Nat.le_refl _) (.cells #[.int .i64 n, .string .empty, .string .empty] 54))) (by decide) (own_below HV.out.1.ro ((Below.refl V.heap.size V).alloc (Nat.le_refl _) (.cells #[.int .i64 n, .string .empty, .string .empty] 54)))); have k3 := Blk.frozen T3 0; have k0 := Blk.cell T3 0; simp only [List.getElem?_toArray, List.getElem?_cons_zero] at k0; obtain ⟨ov3, cv3, rfl, _⟩ := own_slice hown3; have HA := Lib.hid (DkB.add (x := ⟨n, .empty, .empty⟩) HV.out.1 ((Below.refl V.heap.size V).alloc (Nat.le_refl _) (.cells #[.int .i64 n, .string .empty, .string .empty] 54)) hown3 hg3 hv3); clear hown3 hg3 hv3 T3)
      refine bodyPost_end (results_none rfl _ _ _) rfl ?_
      exact ⟨rfl, .inr ⟨by have := H0.out; omega, _, HA.out.1, HV.out.2.trans HA.out.2⟩⟩
    · have hM' : M = M0 ++ [x] := by rw [hM, List.concat_eq_append]
      have hlen : M.length = M0.length + 1 := by rw [hM']; simp
      have hx : M[M0.length]? = some x := by rw [hM']; simp
      have hxb := hk2 x (by rw [hM']; simp)
      obtain ⟨g, rfl⟩ := hgo (by omega)
      have hcell : V.cell? ⟨g, M0.length * 3, none⟩ = some (.int .i64 x.k) := by
        obtain ⟨g', o', e', hc⟩ := RowAt.of_own encS_len hV.ro rfl M0.length x hx
        cases e'
        have := hc 0 (by decide)
        simpa [encS] using this
      obtain ⟨N, hN⟩ : ∃ N, M0.length = N := ⟨_, rfl⟩
      rw [hN] at hcell hx hlen
      have jw : IntKind.i64.wrap ((M.length : Int) - 1) = (N : Int) := by rw [IntWalk.i64_in _ (by omega)]; omega
      have jk : ((N : Int) < (M.length : Int)) := by omega
      have jN : (0 : Int) ≤ (N : Int) := by omega
      have dN : decide ((0 : Int) ≤ (N : Int)) = true := decide_eq_true jN
      by_cases hx0 : 0 < x.k
      · have dx : decide ((0 : Int) < x.k) = true := decide_eq_true hx0
        have js : IntKind.i64.wrap (x.k + (n : Int)) = x.k + (n : Int) := IntWalk.i64_in _ (by omega)
        have hkp : kpD n M = M.set N ⟨x.k + n, x.d, x.p⟩ := by
          unfold kpD
          rw [hM', List.getLast?_append, List.getLast?_singleton]
          simp only [Option.some_or]
          rw [if_pos hx0, List.dropLast_concat, ← hN, List.set_append_right _ _ (Nat.le_refl _)]
          simp
        have HV := Lib.hid (And.intro hV (And.intro hKV (And.intro hx hkp)))
        clear hV hKV hM hM' hx hkp hlen hN
        go_wp2
        refine wp_region_noPanic ?_
        refine wp_region_g (S := untilG [17] (fun X => Below V.heap.size V X)) (by kernel_rfl) ?_
        obtain ⟨X0, hX0⟩ : ∃ Z, V.drew = Z := ⟨_, rfl⟩
        have T0 : Below V.heap.size V X0 := hX0 ▸ (Below.refl V.heap.size V).drew
        rw [hX0]
        clear hX0
        refine wpAnyG_take [0, 1, 2, 3, 15, 16, 17] (i := 0) (v := (.pointer (some ⟨B, 0, none⟩))) rfl (by kernel_rfl) (by kernel_rfl) (by kernel_rfl) (by kernel_rfl) (by kernel_rfl) (by kernel_rfl) (by kernel_rfl) (by kernel_rfl) (fun _ _ _ h => h) (Or.inl ⟨by rfl, ?hy⟩) T0 ?_
        case hy =>
          intro X hX
          go_simp
        try simp only [Act.put, List.getElem_toArray, List.getElem_cons_zero, List.getElem_cons_succ, List.setIfInBounds_toArray, List.set_cons_zero, List.set_cons_succ]
        refine wpAnyG_take [1, 2, 3, 15, 16, 17] (i := 1) (v := (.pointer (some ⟨B, 0, none⟩))) rfl (by kernel_rfl) (by kernel_rfl) (by kernel_rfl) (by kernel_rfl) (by kernel_rfl) (by kernel_rfl) (by kernel_rfl) (by kernel_rfl) (fun _ _ _ h => h) (Or.inl ⟨by rfl, ?hy⟩) T0 ?_
        case hy =>
          intro X hX
          go_simp
        try simp only [Act.put, List.getElem_toArray, List.getElem_cons_zero, List.getElem_cons_succ, List.setIfInBounds_toArray, List.set_cons_zero, List.set_cons_succ]
        refine wpAnyG_take [2, 3, 15, 16, 17] (i := 2) (v := (.pointer (some ⟨B, 0, none⟩))) rfl (by kernel_rfl) (by kernel_rfl) (by kernel_rfl) (by kernel_rfl) (by kernel_rfl) (by kernel_rfl) (by kernel_rfl) (by kernel_rfl) (fun _ _ _ h => h) (Or.inl ⟨by rfl, ?hy⟩) T0 ?_
        case hy =>
          intro X hX
          go_simp
        try simp only [Act.put, List.getElem_toArray, List.getElem_cons_zero, List.getElem_cons_succ, List.setIfInBounds_toArray, List.set_cons_zero, List.set_cons_succ]
        refine wpAnyG_take [3, 15, 16, 17] (i := 3) (v := (.slice (some ⟨g, 0, none⟩) M.length cv)) rfl (by kernel_rfl) (by kernel_rfl) (by kernel_rfl) (by kernel_rfl) (by kernel_rfl) (by kernel_rfl) (by kernel_rfl) (by kernel_rfl) (fun _ _ _ h => h) (Or.inl ⟨by rfl, ?hy⟩) T0 ?_
        case hy =>
          intro X hX
          have e0 := at_below c0 hX
          go_simp
        try simp only [Act.put, List.getElem_toArray, List.getElem_cons_zero, List.getElem_cons_succ, List.setIfInBounds_toArray, List.set_cons_zero, List.set_cons_succ]
        refine wpAnyG_take [4, 15, 16, 17] (i := 4) (v := (.int .i64 N)) rfl (by kernel_rfl) (by kernel_rfl) (by kernel_rfl) (by kernel_rfl) (by kernel_rfl) (by kernel_rfl) (by kernel_rfl) (by kernel_rfl) (fun _ _ _ h => h) (Or.inl ⟨by rfl, ?hy⟩) T0 ?_
        case hy =>
          intro X hX
          go_simp
        try simp only [Act.put, List.getElem_toArray, List.getElem_cons_zero, List.getElem_cons_succ, List.setIfInBounds_toArray, List.set_cons_zero, List.set_cons_succ]
        refine wpAnyG_take [5, 6, 7, 8, 10, 11, 12, 14, 17] (i := 5) (v := (.pointer (some ⟨B, 0, none⟩))) rfl (by kernel_rfl) (by kernel_rfl) (by kernel_rfl) (by kernel_rfl) (by kernel_rfl) (by kernel_rfl) (by kernel_rfl) (by kernel_rfl) (fun _ _ _ h => h) (Or.inl ⟨by rfl, ?hy⟩) T0 ?_
        case hy =>
          intro X hX
          go_simp
        try simp only [Act.put, List.getElem_toArray, List.getElem_cons_zero, List.getElem_cons_succ, List.setIfInBounds_toArray, List.set_cons_zero, List.set_cons_succ]
        refine wpAnyG_take [6, 7, 8, 10, 11, 12, 14, 17] (i := 6) (v := (.pointer (some ⟨B, 0, none⟩))) rfl (by kernel_rfl) (by kernel_rfl) (by kernel_rfl) (by kernel_rfl) (by kernel_rfl) (by kernel_rfl) (by kernel_rfl) (by kernel_rfl) (fun _ _ _ h => h) (Or.inl ⟨by rfl, ?hy⟩) T0 ?_
        case hy =>
          intro X hX
          go_simp
        try simp only [Act.put, List.getElem_toArray, List.getElem_cons_zero, List.getElem_cons_succ, List.setIfInBounds_toArray, List.set_cons_zero, List.set_cons_succ]
        refine wpAnyG_take [7, 8, 10, 11, 12, 14, 17] (i := 7) (v := (.pointer (some ⟨B, 0, none⟩))) rfl (by kernel_rfl) (by kernel_rfl) (by kernel_rfl) (by kernel_rfl) (by kernel_rfl) (by kernel_rfl) (by kernel_rfl) (by kernel_rfl) (fun _ _ _ h => h) (Or.inl ⟨by rfl, ?hy⟩) T0 ?_
        case hy =>
          intro X hX
          go_simp
        try simp only [Act.put, List.getElem_toArray, List.getElem_cons_zero, List.getElem_cons_succ, List.setIfInBounds_toArray, List.set_cons_zero, List.set_cons_succ]
        refine wpAnyG_take [8, 10, 11, 12, 14, 17] (i := 8) (v := (.slice (some ⟨g, 0, none⟩) M.length cv)) rfl (by kernel_rfl) (by kernel_rfl) (by kernel_rfl) (by kernel_rfl) (by kernel_rfl) (by kernel_rfl) (by kernel_rfl) (by kernel_rfl) (fun _ _ _ h => h) (Or.inl ⟨by rfl, ?hy⟩) T0 ?_
        case hy =>
          intro X hX
          have e0 := at_below c0 hX
          go_simp
        try simp only [Act.put, List.getElem_toArray, List.getElem_cons_zero, List.getElem_cons_succ, List.setIfInBounds_toArray, List.set_cons_zero, List.set_cons_succ]
        refine wpAnyG_take [9, 10, 11, 12, 14, 17] (i := 9) (v := (.int .i64 N)) rfl (by kernel_rfl) (by kernel_rfl) (by kernel_rfl) (by kernel_rfl) (by kernel_rfl) (by kernel_rfl) (by kernel_rfl) (by kernel_rfl) (fun _ _ _ h => h) (Or.inl ⟨by rfl, ?hy⟩) T0 ?_
        case hy =>
          intro X hX
          go_simp
        try simp only [Act.put, List.getElem_toArray, List.getElem_cons_zero, List.getElem_cons_succ, List.setIfInBounds_toArray, List.set_cons_zero, List.set_cons_succ]
        refine wpAnyG_take [10, 11, 12, 14, 17] (i := 10) (v := (.pointer (some ⟨g, N * 3, none⟩))) rfl (by kernel_rfl) (by kernel_rfl) (by kernel_rfl) (by kernel_rfl) (by kernel_rfl) (by kernel_rfl) (by kernel_rfl) (by kernel_rfl) (fun _ _ _ h => h) (Or.inl ⟨by rfl, ?hy⟩) T0 ?_
        case hy =>
          intro X hX
          (go_simp; try rfl)
        try simp only [Act.put, List.getElem_toArray, List.getElem_cons_zero, List.getElem_cons_succ, List.setIfInBounds_toArray, List.set_cons_zero, List.set_cons_succ]
        refine wpAnyG_take [11, 12, 14, 17] (i := 11) (v := (.pointer (some ⟨g, N * 3, none⟩))) rfl (by kernel_rfl) (by kernel_rfl) (by kernel_rfl) (by kernel_rfl) (by kernel_rfl) (by kernel_rfl) (by kernel_rfl) (by kernel_rfl) (fun _ _ _ h => h) (Or.inl ⟨by rfl, ?hy⟩) T0 ?_
        case hy =>
          intro X hX
          (go_simp; try rfl)
        try simp only [Act.put, List.getElem_toArray, List.getElem_cons_zero, List.getElem_cons_succ, List.setIfInBounds_toArray, List.set_cons_zero, List.set_cons_succ]
        refine wpAnyG_take [12, 14, 17] (i := 12) (v := (.int .i64 x.k)) rfl (by kernel_rfl) (by kernel_rfl) (by kernel_rfl) (by kernel_rfl) (by kernel_rfl) (by kernel_rfl) (by kernel_rfl) (by kernel_rfl) (fun _ _ _ h => h) (Or.inl ⟨by rfl, ?hy⟩) T0 ?_
        case hy =>
          intro X hX
          have e0 := at_below hcell hX
          go_simp
        try simp only [Act.put, List.getElem_toArray, List.getElem_cons_zero, List.getElem_cons_succ, List.setIfInBounds_toArray, List.set_cons_zero, List.set_cons_succ]
        refine wpAnyG_take [13, 14, 17] (i := 13) (v := (.int .i64 n)) rfl (by kernel_rfl) (by kernel_rfl) (by kernel_rfl) (by kernel_rfl) (by kernel_rfl) (by kernel_rfl) (by kernel_rfl) (by kernel_rfl) (fun _ _ _ h => h) (Or.inl ⟨by rfl, ?hy⟩) T0 ?_
        case hy =>
          intro X hX
          go_simp
        try simp only [Act.put, List.getElem_toArray, List.getElem_cons_zero, List.getElem_cons_succ, List.setIfInBounds_toArray, List.set_cons_zero, List.set_cons_succ]
        refine wpAnyG_take [14, 17] (i := 14) (v := (.int .i64 (x.k + n))) rfl (by kernel_rfl) (by kernel_rfl) (by kernel_rfl) (by kernel_rfl) (by kernel_rfl) (by kernel_rfl) (by kernel_rfl) (by kernel_rfl) (fun _ _ _ h => h) (Or.inl ⟨by rfl, ?hy⟩) T0 ?_
        case hy =>
          intro X hX
          go_simp
        try simp only [Act.put, List.getElem_toArray, List.getElem_cons_zero, List.getElem_cons_succ, List.setIfInBounds_toArray, List.set_cons_zero, List.set_cons_succ]
        have HX := Lib.hid ((HV.out.1.below T0).setL HV.out.2.2.1 (x.k + n))
        have fX := own_freeK (HV.out.1.below T0).ro (N * 3)
        have cX := at_below hcell T0
        refine wpAnyG_all (rs := [15]) (by kernel_rfl) (by simp) ?_
        intro i hi
        simp only [List.mem_cons, List.not_mem_nil, or_false] at hi
        subst hi
        refine wpOp_now rfl rfl ?_
        go_simp
        refine ⟨fun _ => T0, ?_⟩
        try simp only [Act.put, List.getElem_toArray, List.getElem_cons_zero, List.getElem_cons_succ, List.setIfInBounds_toArray, List.set_cons_zero, List.set_cons_succ]
        refine wpAnyG_all (rs := [16]) (by kernel_rfl) (by simp) ?_
        intro i hi
        simp only [List.mem_cons, List.not_mem_nil, or_false] at hi
        subst hi
        refine wpOp_now rfl rfl ?_
        go_simp
        refine ⟨fun _ => T0, ?_⟩
        try simp only [Act.put, List.getElem_toArray, List.getElem_cons_zero, List.getElem_cons_succ, List.setIfInBounds_toArray, List.set_cons_zero, List.set_cons_succ]
        refine wpAnyG_all (rs := [17]) (by kernel_rfl) (by simp) ?_
        intro i hi
        simp only [List.mem_cons, List.not_mem_nil, or_false] at hi
        subst hi
        refine wpOp_now rfl rfl ?_
        go_simp
        refine ⟨fun h => (nomatch (show (false : Bool) = true from h)), ?_⟩
        refine wpAnyG_done (by kernel_rfl) ?_ _
        refine NoPanic.normal ?_
        have HK := Lib.hid (KpD.of_below HV.out.1 T0)
        clear T0 fX cX hcell c0 c1 c2
        go_wp2
        refine bodyPost_ret (results_none rfl _ _ _) rfl ?_
        exact ⟨rfl, .inr ⟨by have := H0.out; omega, _, by rw [HV.out.2.2.2]; exact HX.out.1, (HV.out.2.1.trans HK.out).trans HX.out.2⟩⟩
      · have dx : decide ((0 : Int) < x.k) = false := decide_eq_false hx0
        have hkp : kpD n M = M ++ [⟨n, .empty, .empty⟩] := by
          unfold kpD
          rw [hM', List.getLast?_append, List.getLast?_singleton]
          simp only [Option.some_or]
          rw [if_neg hx0]
        have HV := Lib.hid (And.intro hV (And.intro hKV hkp))
        have HB := Lib.hid (Blk.new V #[.int .i64 n, .string .empty, .string .empty] 54)
        clear hV hKV hM hM' hx hkp hlen hN
        go_wp2_with (at_builtin; refine wpList_append_own_at _ rfl _ _ 30 rfl b 54 j0 (.agg #[.int .i64 0, .string .empty, .string .empty]) 3 40 Try.underlying30 hj hy0 hy1 hy2 rfl (by decide) _ _ _ rfl (own_below HV.out.1.ro ((Below.refl V.heap.size V).alloc (Nat.le_refl _) (.cells #[.int .i64 n, .string .empty, .string .empty] 54))) ⟨V.heap.size, 0, none⟩ 1 1 [.int .i64 n, .string .empty, .string .empty] rfl rfl (World.news_of_block (cs := #[.int .i64 n, .string .empty, .string .empty]) (t := 54) (fr := (0, 0)) HB.out) (fun x hx => by simp at hx; rcases hx with rfl | rfl | rfl <;> rfl) (by unfold maxLen; (try simp only [List.length_nil]); omega) (by (try simp only [List.length_nil]); omega) (by simp; have := HV.out.1.bw; omega) ?_; intro v3 w3 hown3 hg3 _ hv3; have T3 := Blk.kept (HV.out.1.blk.below' ((Below.refl V.heap.size V).alloc (Nat.le_refl _) (.cells #[.int .i64 n, .string .empty, .string .empty] 54))) hg3 (Blk.not_row (HV.out.1.blk.below' ((Below.refl V.heap.size V).alloc (Nat.le_refl _) (.cells #[.int .i64 n, .string .empty, .string .empty] 54))) (by decide) (own_below HV.out.1.ro ((Below.refl V.heap.size V).alloc (Nat.le_refl _) (.cells #[.int .i64 n, .string .empty, .string .empty] 54)))); have k3 := Blk.frozen T3 0; have k0 := Blk.cell T3 0; simp only [List.getElem?_toArray, List.getElem?_cons_zero] at k0; obtain ⟨ov3, cv3, rfl, _⟩ := own_slice hown3; have HA := Lib.hid (DkB.add (x := ⟨n, .empty, .empty⟩) HV.out.1 ((Below.refl V.heap.size V).alloc (Nat.le_refl _) (.cells #[.int .i64 n, .string .empty, .string .empty] 54)) hown3 hg3 hv3); clear hown3 hg3 hv3 T3)
        refine bodyPost_end (results_none rfl _ _ _) rfl ?_
        exact ⟨rfl, .inr ⟨by have := H0.out; omega, _, by rw [HV.out.2.2]; exact HA.out.1, HV.out.2.1.trans HA.out.2⟩⟩
end Go.Proofs.Ytjccoiephdopkaa

/- Stage 27: mathematics: a change said place by place; more places, no less. -/
namespace Go.Proofs.Ytjccoiephdopkaa
set_option linter.unusedVariables false
set_option linter.unusedSimpArgs false
open Go Go.RowKit Go.Shelf
set_option maxRecDepth 100000

/-- What the document's Move sums up. -/
def sD (Ps : List ByteArray) (Ds : List Bool) (a : Nat) (bh : Bool) : Nat → Nat
  | 0 => 0
  | q + 1 => sD Ps Ds a bh q + (if q < a ∨ bh = true then (Ps[q]?.getD .empty).size else 0) + (if q < a ∧ Ds[q]?.getD false = false then 1 else 0)
theorem sD_put {Ps : List ByteArray} {Ds : List Bool} {a g : Nat} {bh : Bool} {x s : ByteArray} (h : Ps[g]? = some x) : ∀ q, sD (Ps.set g (x ++ s)) Ds a bh q = sD Ps Ds a bh q + (if g < q ∧ (g < a ∨ bh = true) then s.size else 0)
  | 0 => by simp [sD]
  | q + 1 => by
    have ih := sD_put (Ds := Ds) (a := a) (bh := bh) (s := s) h q
    have hl := (List.getElem?_eq_some_iff.1 h).1
    unfold sD
    rw [ih]
    by_cases e : g = q
    · subst e
      rw [List.getElem?_set_self hl, h]
      simp only [Option.getD_some, ByteArray.size_append, Nat.lt_irrefl, false_and, if_false, Nat.add_zero]
      by_cases h1 : g < a ∨ bh = true
      · have e1 : (if g < a ∨ bh = true then x.size + s.size else 0) = x.size + s.size := if_pos h1
        have e2 : (if g < a ∨ bh = true then x.size else 0) = x.size := if_pos h1
        have e3 : (if g < g + 1 ∧ (g < a ∨ bh = true) then s.size else 0) = s.size := if_pos ⟨Nat.lt_succ_self g, h1⟩
        rw [e1, e2, e3]; omega
      · have e1 : (if g < a ∨ bh = true then x.size + s.size else 0) = 0 := if_neg h1
        have e2 : (if g < a ∨ bh = true then x.size else 0) = 0 := if_neg h1
        have e3 : (if g < g + 1 ∧ (g < a ∨ bh = true) then s.size else 0) = 0 := if_neg fun h2 => h1 h2.2
        rw [e1, e2, e3]; omega
    · rw [List.getElem?_set_ne (fun h => e h)]
      have h3 : (g < q + 1 ∧ (g < a ∨ bh = true)) ↔ (g < q ∧ (g < a ∨ bh = true)) := ⟨fun h => ⟨by omega, h.2⟩, fun h => ⟨by omega, h.2⟩⟩
      simp only [h3]; omega
theorem sD_drop {Ps : List ByteArray} {Ds : List Bool} {a g : Nat} {bh : Bool} (h : Ds[g]? = some false) : ∀ q, sD Ps (Ds.set g true) a bh q + (if g < q ∧ g < a then 1 else 0) = sD Ps Ds a bh q
  | 0 => by simp [sD]
  | q + 1 => by
    have ih := sD_drop (Ps := Ps) (a := a) (bh := bh) h q
    have hl := (List.getElem?_eq_some_iff.1 h).1
    unfold sD
    by_cases e : g = q
    · subst e
      rw [List.getElem?_set_self hl, h]
      simp only [Option.getD_some, Nat.lt_irrefl, false_and, if_false, Nat.add_zero] at ih ⊢
      by_cases h1 : g < a
      · simp [h1]; omega
      · simp [h1]; omega
    · rw [List.getElem?_set_ne (fun h => e h)]
      have h3 : (g < q + 1 ∧ g < a) ↔ (g < q ∧ g < a) := by omega
      simp only [h3]; omega
theorem sD_new (fr a : Nat) (bh : Bool) (ha : a ≤ fr) : ∀ q, q ≤ fr + 1 → sD (List.replicate (fr + 1) .empty) (List.replicate fr false) a bh q = min q a
  | 0, _ => by simp [sD]
  | q + 1, hq => by
    unfold sD
    rw [sD_new fr a bh ha q (by omega), List.getElem?_replicate, List.getElem?_replicate]
    have h0 : q < fr + 1 := by omega
    by_cases h1 : q < a
    · have h2 : q < fr := by omega
      simp [h0, h1, h2, emp_size]; omega
    · simp [h0, h1, emp_size]; omega
/-- What holds of a change said so far. -/
structure SayP (fr : Nat) (Ps : List ByteArray) (Ds : List Bool) (pl gp : Nat) (N : Nat → Bool → Nat) : Prop where
  lP : Ps.length = fr + 1
  lD : Ds.length = fr
  gl : gp ≤ pl
  pf : pl ≤ fr
  cl : ∀ i, pl ≤ i → i < fr → Ds[i]? = some false
  sm : ∀ a bh, a ≤ fr → sD Ps Ds a bh (a + 1) = N a bh + (a - pl)
theorem SayP.new (fr : Nat) : SayP fr (List.replicate (fr + 1) .empty) (List.replicate fr false) 0 0 (fun _ _ => 0) :=
  ⟨by simp, by simp, by omega, by omega, fun i _ h => by rw [List.getElem?_replicate, if_pos h], fun a bh ha => by rw [sD_new fr a bh ha _ (by omega)]; omega⟩
theorem SayP.put {fr : Nat} {Ps : List ByteArray} {Ds : List Bool} {pl gp : Nat} {N : Nat → Bool → Nat} (h : SayP fr Ps Ds pl gp N) {x : ByteArray} (hx : Ps[gp]? = some x) (s : ByteArray) : SayP fr (Ps.set gp (x ++ s)) Ds pl gp (fun a bh => N a bh + cnt a bh gp s.size) := by
  refine ⟨by rw [List.length_set]; exact h.lP, h.lD, h.gl, h.pf, h.cl, fun a bh ha => ?_⟩
  rw [sD_put hx, h.sm a bh ha]
  unfold cnt
  by_cases h1 : gp < a ∨ (gp = a ∧ bh = true)
  · rw [if_pos h1, if_pos (by rcases h1 with h1 | h1; exact ⟨by omega, .inl h1⟩; exact ⟨by omega, .inr h1.2⟩)]; omega
  · rw [if_neg h1, if_neg (by rintro ⟨h2, h3⟩; apply h1; rcases h3 with h3 | h3; exact .inl h3; by_cases h4 : gp < a; exact .inl h4; exact .inr ⟨by omega, h3⟩)]; omega
theorem SayP.drop {fr : Nat} {Ps : List ByteArray} {Ds : List Bool} {pl gp : Nat} {N : Nat → Bool → Nat} (h : SayP fr Ps Ds pl gp N) (hp : pl < fr) : SayP fr Ps (Ds.set pl true) (pl + 1) gp N := by
  have hf := h.cl pl (Nat.le_refl _) hp
  refine ⟨h.lP, by rw [List.length_set]; exact h.lD, by have := h.gl; omega, hp, fun i hi h2 => by rw [List.getElem?_set_ne (by omega)]; exact h.cl i (by omega) h2, fun a bh ha => ?_⟩
  have h1 := sD_drop (Ps := Ps) (a := a) (bh := bh) hf (a + 1)
  rw [h.sm a bh ha] at h1
  by_cases h2 : pl < a
  · rw [if_pos ⟨by omega, h2⟩] at h1; omega
  · rw [if_neg (fun h3 => h2 h3.2)] at h1; omega
theorem SayP.keep {fr : Nat} {Ps : List ByteArray} {Ds : List Bool} {pl gp : Nat} {N : Nat → Bool → Nat} (h : SayP fr Ps Ds pl gp N) (k : Nat) (hp : pl + k ≤ fr) : SayP fr Ps Ds (pl + k) (pl + k) (fun a bh => N a bh + min k (a - pl)) :=
  ⟨h.lP, h.lD, Nat.le_refl _, hp, fun i hi h2 => h.cl i (by omega) h2, fun a bh ha => by rw [h.sm a bh ha]; omega⟩

theorem mv_pl (a a' : Nat) (bh bh' : Bool) : ∀ (l : List Sp) (u v : Mv), u.pl = v.pl → u.gp = v.gp → (l.foldl (mvG a bh) u).pl = (l.foldl (mvG a' bh') v).pl ∧ (l.foldl (mvG a bh) u).gp = (l.foldl (mvG a' bh') v).gp
  | [], _, _, h, g => ⟨h, g⟩
  | x :: l, u, v, h, g => by
    rw [List.foldl_cons, List.foldl_cons]
    exact mv_pl a a' bh bh' l _ _ (by simp only [mvG]; rw [h]) (by simp only [mvG]; rw [h, g])
theorem mv_mono {a a' : Nat} {bh bh' : Bool} (ha : a ≤ a') (hc : ∀ g s, cnt a bh g s ≤ cnt a' bh' g s) : ∀ (l : List Sp) (u v : Mv), u.pl = v.pl → u.gp = v.gp → u.n ≤ v.n → (l.foldl (mvG a bh) u).n ≤ (l.foldl (mvG a' bh') v).n
  | [], _, _, _, _, h => h
  | x :: l, u, v, h, g, hn => by
    rw [List.foldl_cons, List.foldl_cons]
    refine mv_mono ha hc l _ _ (by simp only [mvG]; rw [h]) (by simp only [mvG]; rw [h, g]) ?_
    simp only [mvG]
    have := hc v.gp x.p.size
    rw [g, h]; omega
theorem mv_true (a : Nat) (bh : Bool) (l : List Sp) : (l.foldl (mvG a bh) ⟨0, 0, 0⟩).n ≤ (l.foldl (mvG a true) ⟨0, 0, 0⟩).n :=
  mv_mono (Nat.le_refl _) (fun g s => by unfold cnt; split <;> split <;> simp_all <;> omega) l _ _ rfl rfl (Nat.le_refl _)
theorem mv_next (a : Nat) (l : List Sp) : (l.foldl (mvG a true) ⟨0, 0, 0⟩).n ≤ (l.foldl (mvG (a + 1) false) ⟨0, 0, 0⟩).n :=
  mv_mono (Nat.le_succ _) (fun g s => by unfold cnt; split <;> split <;> simp_all <;> omega) l _ _ rfl rfl (Nat.le_refl _)
/-- Of a change that may be each step may be, and the places are as many as its bytes. -/
theorem sizeG_ok : ∀ (l : List Sp) (f t F T : Nat), sizeG l f t = some (F, T) → f ≤ 65536 → t ≤ 65536 → (∀ x ∈ l, kindN x ≠ 0 ∧ x.k ≤ 65536) ∧ F ≤ 65536 ∧ T ≤ 65536 ∧ f ≤ F ∧ ∀ a bh g n, (l.foldl (mvG a bh) ⟨f, g, n⟩).pl = F
  | [], f, t, F, T, h, hf, ht => by
    simp only [sizeG, Option.some.injEq, Prod.mk.injEq] at h
    obtain ⟨rfl, rfl⟩ := h
    exact ⟨(fun _ h => by cases h), hf, ht, Nat.le_refl _, fun _ _ _ _ => rfl⟩
  | x :: l, f, t, F, T, h, hf, ht => by
    unfold sizeG at h
    split at h
    · cases h
    · rename_i h1
      split at h
      · cases h
      · rename_i h2
        obtain ⟨i1, i2, i3, i4, i5⟩ := sizeG_ok l _ _ F T h (by omega) (by omega)
        refine ⟨fun y hy => ?_, i2, i3, by omega, fun a bh g n => ?_⟩
        · rcases List.mem_cons.1 hy with rfl | hy
          · exact ⟨fun e => h1 (.inl e), by omega⟩
          · exact i1 y hy
        · rw [List.foldl_cons]
          exact i5 a bh _ _
end Go.Proofs.Ytjccoiephdopkaa

/- Stage 27: the document's Move, out of what its Say says. -/
namespace Go.Proofs.Ytjccoiephdopkaa
set_option linter.unusedVariables false
set_option linter.unusedSimpArgs false
open Go Go.RowKit Go.Shelf
set_option maxRecDepth 100000

theorem sD_le (Ps : List ByteArray) (Ds : List Bool) (a : Nat) (bh : Bool) (p : Nat) : ∀ d, sD Ps Ds a bh p ≤ sD Ps Ds a bh (p + d)
  | 0 => Nat.le_refl _
  | d + 1 => Nat.le_trans (sD_le Ps Ds a bh p d) (by rw [← Nat.add_assoc, sD]; omega)
theorem mv_le : ∀ (l : List Sp) (f t F T a : Nat) (bh : Bool) (v : Mv), sizeG l f t = some (F, T) → (l.foldl (mvG a bh) v).n + t ≤ v.n + T
  | [], f, t, F, T, a, bh, v, h => by
    simp only [sizeG, Option.some.injEq, Prod.mk.injEq] at h
    obtain ⟨rfl, rfl⟩ := h
    simp
  | x :: l, f, t, F, T, a, bh, v, h => by
    unfold sizeG at h
    split at h
    · cases h
    · split at h
      · cases h
      · have ih := mv_le l _ _ F T a bh (mvG a bh v x) h
        rw [List.foldl_cons]
        have : (mvG a bh v x).n ≤ v.n + x.p.size + x.k.toNat := by
          simp only [mvG]
          unfold cnt
          split <;> omega
        omega
def encP (s : ByteArray) : List Value := [.string s]
def encO (b : Bool) : List Value := [.bool b]
theorem encP_len (s : ByteArray) : (encP s).length = 1 := rfl
theorem encO_len (b : Bool) : (encO b).length = 1 := rfl
/-- What Say hands back. -/
def SayR (l : List Sp) (F : Nat) (w : World) (e : Ending) (w' : World) : Prop :=
  ∃ (Ps : List ByteArray) (Ds : List Bool) (vP vD vB : Value) (gp : Nat), e = .returned (.agg #[vP, vD, vB]) ∧ w'.ownsRow w.heap.size 9 1 vP (F + 1) (Ps.flatMap encP) ∧ w'.ownsRow w.heap.size 4 1 vD F (Ds.flatMap encO) ∧ (∃ n c o, vB = .slice o n c) ∧
    SayP F Ps Ds F gp (fun a bh => (l.foldl (mvG a bh) ⟨0, 0, 0⟩).n) ∧ Below w.heap.size w w'
end Go.Proofs.Ytjccoiephdopkaa

/- A region with several orders, walked to its end once: what holds behind it hangs on values. -/
namespace Go.Proofs.Ytjccoiephdopkaa
open Go

section
variable {P : Program} {ops : Array Oper} {Q : Exit → Act → World → Prop} {md : Region.Mode}
/-- The condition may become stronger on the way. -/
theorem wpAnyG_strong {S S' : Array Bool → World → Prop} (h : ∀ l w, S' l w → S l w) : ∀ (fuel : Nat) (listed : Array Bool) (a : Act) (w : World), wpAnyG P md ops Q S' fuel listed a w → wpAnyG P md ops Q S fuel listed a w
  | 0, _, _, _, H => H
  | fuel + 1, _, _, _, H => ⟨H.1, fun i hi => wpOp_mono (fun a' w' h' => ⟨h _ _ h'.1, wpAnyG_strong h fuel _ a' w' h'.2⟩) (H.2 i hi)⟩
theorem wpAnyG_more {ks : List Nat} {T T' : World → Prop} (h : ∀ w, T' w → T w) {fuel : Nat} {listed : Array Bool} {a : Act} {w : World} (H : wpAnyG P md ops Q (untilG ks T') fuel listed a w) : wpAnyG P md ops Q (untilG ks T) fuel listed a w :=
  wpAnyG_strong (fun _ _ h' hk => h _ (h' hk)) fuel listed a w H
end

/-- The frame with these slots filled. -/
def putsG (a : Act) (l : List (Nat × Value)) : Act := { a with tmps := l.foldl (fun t p => t.setIfInBounds p.1 p.2) a.tmps }
def CutV {α : Type} (T : α → World → Prop) (L : α → List (Nat × Value)) (a : Act) (e : Exit) (a' : Act) (w' : World) : Prop := e = .normal ∧ ∃ v, a' = putsG a (L v) ∧ T v w'
/-- A piece of code that ends in one way but for some values: the walk goes on once. -/
theorem wp_cutV {P : Program} {c : Code} {Q : Exit → Act → World → Prop} {a : Act} {w : World} {α : Type} (T : α → World → Prop) (L : α → List (Nat × Value)) (h1 : c.wp P (CutV T L a) a w) (h2 : ∀ v w', T v w' → Q .normal (putsG a (L v)) w') : c.wp P Q a w :=
  Code.wp_mono (fun _ _ _ ⟨he, v, ha, ht⟩ => he ▸ ha ▸ h2 v _ ht) h1
end Go.Proofs.Ytjccoiephdopkaa

/- Stage 27: the document's Say: what it makes. -/
namespace Go.Proofs.Ytjccoiephdopkaa
set_option linter.unusedVariables false
set_option linter.unusedSimpArgs false
open Go Go.RowKit Go.Shelf
set_option maxRecDepth 100000

theorem infoStr : (Try.prog.info? 9).map (fun i => (i.zero, i.size, i.bytes)) = some (some (.string .empty), 1, 16) := by kernel_rfl
theorem infoBool : (Try.prog.info? 4).map (fun i => (i.zero, i.size, i.bytes)) = some (some (.bool false), 1, 1) := by kernel_rfl
theorem make_strs (w : World) (n : Nat) (h : n ≤ 1000000) : (Instr.makeSlice 39 (.int .i64 (n : Int)) (.int .i64 (n : Int))).run Try.prog w = .ok (.slice (some ⟨w.heap.size, 0, none⟩) n n) (w.alloc (.cells (madeCells #[.string .empty] n) 9)) := by
  obtain ⟨i0, hi, hz0, hz1, hz2⟩ := info_parts infoStr
  have := run_make (P := Try.prog) w 39 9 i0 (.string .empty) Try.underlying39 hi hz0 .i64 .i64 n n (by omega) (by omega) (by rw [hz2]; omega) (by omega)
  rw [hz1, Nat.mul_one] at this
  exact this
theorem make_bools (w : World) (n : Nat) (h : n ≤ 1000000) : (Instr.makeSlice 40 (.int .i64 (n : Int)) (.int .i64 (n : Int))).run Try.prog w = .ok (.slice (some ⟨w.heap.size, 0, none⟩) n n) (w.alloc (.cells (madeCells #[.bool false] n) 4)) := by
  obtain ⟨i0, hi, hz0, hz1, hz2⟩ := info_parts infoBool
  have := run_make (P := Try.prog) w 40 4 i0 (.bool false) Try.underlying40 hi hz0 .i64 .i64 n n (by omega) (by omega) (by rw [hz2]; omega) (by omega)
  rw [hz1, Nat.mul_one] at this
  exact this
theorem made_one (v : Value) (n : Nat) : (madeCells #[v] n).toList = List.replicate n v := by
  apply List.ext_getElem?
  intro i
  simp only [madeCells]
  by_cases hi : i < n <;> simp [hi, List.getElem?_replicate, Nat.mod_one]
theorem flat_rep {α : Type} (f : α → List Value) (x : α) (v : Value) (h : f x = [v]) (n : Nat) : (List.replicate n x).flatMap f = List.replicate n v := by
  induction n with
  | zero => rfl
  | succ n ih => rw [List.replicate_succ, List.flatMap_cons, ih, h, List.replicate_succ]; rfl
theorem rowP0 (X : World) (b F : Nat) (hb : b ≤ X.heap.size) (hF : F ≤ 65536) : (X.alloc (.cells (madeCells #[.string .empty] (F + 1)) 9)).ownsRow b 9 1 (.slice (some ⟨X.heap.size, 0, none⟩) (F + 1) (F + 1)) (F + 1) ((List.replicate (F + 1) ByteArray.empty).flatMap encP) := by
  have h := World.ownsRow_lit (base := b) (e := 9) (size := 1) X (madeCells #[.string .empty] (F + 1)) (F + 1) hb (by unfold maxLen; omega) (by rw [size_madeCells]; omega)
  rw [made_one, ← flat_rep encP .empty (.string .empty) rfl] at h
  exact h
theorem rowD0 (X : World) (b F : Nat) (hb : b ≤ X.heap.size) (hF : F ≤ 65536) : (X.alloc (.cells (madeCells #[.bool false] F) 4)).ownsRow b 4 1 (.slice (some ⟨X.heap.size, 0, none⟩) F F) F ((List.replicate F false).flatMap encO) := by
  have h := World.ownsRow_lit (base := b) (e := 4) (size := 1) X (madeCells #[.bool false] F) F hb (by unfold maxLen; omega) (by rw [size_madeCells]; omega)
  rw [made_one, ← flat_rep encO false (.bool false) rfl] at h
  exact h
theorem rowB0 (X : World) (b F : Nat) (hb : b ≤ X.heap.size) (hF : F ≤ 65536) : (X.alloc (.cells (madeCells #[.int .u8 0] F) 5)).ownsRow b 5 1 (.slice (some ⟨X.heap.size, 0, none⟩) F F) F (List.replicate F (.int .u8 0)) := by
  have h := World.ownsRow_lit (base := b) (e := 5) (size := 1) X (madeCells #[.int .u8 0] F) F hb (by unfold maxLen; omega) (by rw [size_madeCells]; omega)
  rw [made_one] at h
  exact h
theorem row_set3 {X : World} {b6 base n : Nat} {cs : Array Value} {e : TypeId} {v : Value} {xs : List Value} (hb : Blk X b6 cs 43) (h : X.ownsRow base e 1 v n xs) (hte : 43 ≠ e) (v0 v1 v2 : Value) :
    (((X.setCell ⟨b6, 0, none⟩ v0).setCell ⟨b6, 1, none⟩ v1).setCell ⟨b6, 2, none⟩ v2).ownsRow base e 1 v n xs := by
  have hne : v.ownBlock = none ∨ v.ownBlock ≠ some b6 := .inr fun e1 => Blk.not_row hb hte h e1.symm
  exact ((h.kept (grownBy_setCell X b6 0 v0) hne).kept (grownBy_setCell _ b6 1 v1) hne).kept (grownBy_setCell _ b6 2 v2) hne
/-- What Say has made. -/
def SayK (X : World) (W : World) (F gP gD gB b6 : Nat) (Ps : List ByteArray) (Ds : List Bool) (xs : List Value) : Prop :=
  Blk X b6 #[.slice (some ⟨gP, 0, none⟩) (F + 1) (F + 1), .slice (some ⟨gD, 0, none⟩) F F, .slice (some ⟨gB, 0, none⟩) F F] 43 ∧ X.ownsRow W.heap.size 9 1 (.slice (some ⟨gP, 0, none⟩) (F + 1) (F + 1)) (F + 1) (Ps.flatMap encP) ∧
  X.ownsRow W.heap.size 4 1 (.slice (some ⟨gD, 0, none⟩) F F) F (Ds.flatMap encO) ∧ X.ownsRow W.heap.size 5 1 (.slice (some ⟨gB, 0, none⟩) F F) F xs ∧ Below W.heap.size W X
theorem say_cut {X W : World} {F gP gD gB b6 : Nat} {Ps : List ByteArray} {Ds : List Bool} {xs : List Value} (hb6 : W.heap.size ≤ b6) (bk : Blk X b6 #[.slice none 0 0, .slice none 0 0, .slice none 0 0] 43) (rP : X.ownsRow W.heap.size 9 1 (.slice (some ⟨gP, 0, none⟩) (F + 1) (F + 1)) (F + 1) (Ps.flatMap encP))
    (rD : X.ownsRow W.heap.size 4 1 (.slice (some ⟨gD, 0, none⟩) F F) F (Ds.flatMap encO)) (rB : X.ownsRow W.heap.size 5 1 (.slice (some ⟨gB, 0, none⟩) F F) F xs) (T0 : Below W.heap.size W X) :
    SayK (((X.setCell ⟨b6, 0, none⟩ (.slice (some ⟨gP, 0, none⟩) (F + 1) (F + 1))).setCell ⟨b6, 1, none⟩ (.slice (some ⟨gD, 0, none⟩) F F)).setCell ⟨b6, 2, none⟩ (.slice (some ⟨gB, 0, none⟩) F F)) W F gP gD gB b6 Ps Ds xs := by
  have h := ((bk.set 0 (.slice (some ⟨gP, 0, none⟩) (F + 1) (F + 1))).set 1 (.slice (some ⟨gD, 0, none⟩) F F)).set 2 (.slice (some ⟨gB, 0, none⟩) F F)
  simp only [List.setIfInBounds_toArray, List.set_cons_zero, List.set_cons_succ] at h
  exact ⟨h, row_set3 bk rP (by decide) _ _ _, row_set3 bk rD (by decide) _ _ _, row_set3 bk rB (by decide) _ _ _, ((T0.setCell (p := ⟨b6, 0, none⟩) hb6 _).setCell (p := ⟨b6, 1, none⟩) hb6 _).setCell (p := ⟨b6, 2, none⟩) hb6 _⟩
end Go.Proofs.Ytjccoiephdopkaa
