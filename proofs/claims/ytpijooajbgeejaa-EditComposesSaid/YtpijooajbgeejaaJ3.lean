/- Stage 27: the document's maker: drop, keep. -/
import Derived.Test.YtpijooajbgeejaaJ2
import Derived.Test.YtpijooajbgeejaaJm
namespace Go.Proofs.Ytpijooajbgeejaa
set_option linter.unusedVariables false
set_option linter.unusedSimpArgs false
open Go Go.RowKit Go.Shelf
set_option maxRecDepth 100000

theorem row_one (X : World) (b : Nat) (c : UInt8) (hb : b ≤ X.heap.size) : (X.alloc (.cells #[.int .u8 c.toNat] 5)).ownsRow b 5 1 (.slice (some ⟨X.heap.size, 0, none⟩) 1 1) 1 (Lib.strCells ⟨#[c]⟩) :=
  World.ownsRow_lit (base := b) (e := 5) (size := 1) X #[.int .u8 c.toNat] 1 hb (by unfold maxLen; omega) rfl
set_option maxHeartbeats 4000000 in
theorem ddrop_any {W : World} {B b : Nat} {vL : Value} {L : List Sp} {pu dr : ByteArray} (h : DkB W B b vL L pu dr) (c : UInt8) (hd : dr.size ≤ 1000000) :
    Calls Try.prog 27 #[.pointer (some ⟨B, 0, none⟩), .int .u8 c.toNat] W fun e W' => e = .returned (.tuple #[]) ∧ DkB W' B b vL L pu (dr ++ ⟨#[c]⟩) ∧ KpD B vL vL W W' := by
  have hsz : (9223372036854775807 < dr.size + 1) = False := eq_false (by omega)
  have HM := Lib.hid h
  clear h
  go_enter Try.func27, Try.ntmps27
  go_wp2
  refine wp_region_noPanic ?_
  refine wp_region_g (S := untilG [11] (fun X => Blk X B #[vL, .string pu, .string dr] 70)) (by kernel_rfl) ?_
  obtain ⟨X0, hX0⟩ : ∃ Z, W.drew = Z := ⟨_, rfl⟩
  have U0 : Below W.heap.size W X0 := hX0 ▸ (Below.refl W.heap.size W).drew
  have T0 := HM.out.blk.below' U0
  rw [hX0]
  clear hX0
  refine wpAnyG_take [0, 9, 10, 11] (i := 0) (v := (.pointer (some ⟨B, 0, none⟩))) rfl (by kernel_rfl) (by kernel_rfl) (by kernel_rfl) (by kernel_rfl) (by kernel_rfl) (by kernel_rfl) (by kernel_rfl) (by kernel_rfl) (fun _ _ _ h => h) (Or.inl ⟨by rfl, ?hy⟩) T0 ?_
  case hy =>
    intro X hX
    go_simp
  try simp only [Act.put, List.getElem_toArray, List.getElem_cons_zero, List.getElem_cons_succ, List.setIfInBounds_toArray, List.set_cons_zero, List.set_cons_succ]
  refine wpAnyG_take [1, 2, 3, 4, 8, 11] (i := 1) (v := (.pointer (some ⟨B, 0, none⟩))) rfl (by kernel_rfl) (by kernel_rfl) (by kernel_rfl) (by kernel_rfl) (by kernel_rfl) (by kernel_rfl) (by kernel_rfl) (by kernel_rfl) (fun _ _ _ h => h) (Or.inl ⟨by rfl, ?hy⟩) T0 ?_
  case hy =>
    intro X hX
    go_simp
  try simp only [Act.put, List.getElem_toArray, List.getElem_cons_zero, List.getElem_cons_succ, List.setIfInBounds_toArray, List.set_cons_zero, List.set_cons_succ]
  refine wpAnyG_take [2, 3, 4, 8, 11] (i := 2) (v := (.pointer (some ⟨B, 0, none⟩))) rfl (by kernel_rfl) (by kernel_rfl) (by kernel_rfl) (by kernel_rfl) (by kernel_rfl) (by kernel_rfl) (by kernel_rfl) (by kernel_rfl) (fun _ _ _ h => h) (Or.inl ⟨by rfl, ?hy⟩) T0 ?_
  case hy =>
    intro X hX
    go_simp
  try simp only [Act.put, List.getElem_toArray, List.getElem_cons_zero, List.getElem_cons_succ, List.setIfInBounds_toArray, List.set_cons_zero, List.set_cons_succ]
  refine wpAnyG_take [3, 4, 8, 11] (i := 3) (v := (.pointer (some ⟨B, 2, none⟩))) rfl (by kernel_rfl) (by kernel_rfl) (by kernel_rfl) (by kernel_rfl) (by kernel_rfl) (by kernel_rfl) (by kernel_rfl) (by kernel_rfl) (fun _ _ _ h => h) (Or.inl ⟨by rfl, ?hy⟩) T0 ?_
  case hy =>
    intro X hX
    go_simp
  try simp only [Act.put, List.getElem_toArray, List.getElem_cons_zero, List.getElem_cons_succ, List.setIfInBounds_toArray, List.set_cons_zero, List.set_cons_succ]
  refine wpAnyG_take [4, 8, 11] (i := 4) (v := (.string dr)) rfl (by kernel_rfl) (by kernel_rfl) (by kernel_rfl) (by kernel_rfl) (by kernel_rfl) (by kernel_rfl) (by kernel_rfl) (by kernel_rfl) (fun _ _ _ h => h) (Or.inl ⟨by rfl, ?hy⟩) T0 ?_
  case hy =>
    intro X hX
    have e0 := Blk.cell hX 2
    simp only [List.getElem?_toArray, List.getElem?_cons_zero, List.getElem?_cons_succ] at e0
    go_simp
  try simp only [Act.put, List.getElem_toArray, List.getElem_cons_zero, List.getElem_cons_succ, List.setIfInBounds_toArray, List.set_cons_zero, List.set_cons_succ]
  refine wpAnyG_take [5, 6, 7, 8, 11] (i := 5) (v := (.int .u8 c.toNat)) rfl (by kernel_rfl) (by kernel_rfl) (by kernel_rfl) (by kernel_rfl) (by kernel_rfl) (by kernel_rfl) (by kernel_rfl) (by kernel_rfl) (fun _ _ _ h => h) (Or.inl ⟨by rfl, ?hy⟩) T0 ?_
  case hy =>
    intro X hX
    go_simp
  try simp only [Act.put, List.getElem_toArray, List.getElem_cons_zero, List.getElem_cons_succ, List.setIfInBounds_toArray, List.set_cons_zero, List.set_cons_succ]
  refine wpAnyG_all (rs := [6]) (by kernel_rfl) (by simp) ?_
  intro i hi
  simp only [List.mem_cons, List.not_mem_nil, or_false] at hi
  subst hi
  refine wpOp_now rfl rfl ?_
  go_simp
  have U1 := U0.alloc U0.size (.cells #[.int .u8 c.toNat] 5)
  have hrow := row_one X0 W.heap.size c U0.size
  have T1 := HM.out.blk.below' U1
  refine ⟨fun _ => T1, ?_⟩
  try simp only [Act.put, List.getElem_toArray, List.getElem_cons_zero, List.getElem_cons_succ, List.setIfInBounds_toArray, List.set_cons_zero, List.set_cons_succ]
  have ec := conv_own rfl hrow
  refine wpAnyG_all (rs := [7]) (by kernel_rfl) (by simp) ?_
  intro i hi
  simp only [List.mem_cons, List.not_mem_nil, or_false] at hi
  subst hi
  refine wpOp_now rfl rfl ?_
  go_simp
  refine ⟨fun _ => T1, ?_⟩
  try simp only [Act.put, List.getElem_toArray, List.getElem_cons_zero, List.getElem_cons_succ, List.setIfInBounds_toArray, List.set_cons_zero, List.set_cons_succ]
  refine wpAnyG_all (rs := [8]) (by kernel_rfl) (by simp) ?_
  intro i hi
  simp only [List.mem_cons, List.not_mem_nil, or_false] at hi
  subst hi
  refine wpOp_now rfl rfl ?_
  go_simp
  refine ⟨fun _ => T1, ?_⟩
  try simp only [Act.put, List.getElem_toArray, List.getElem_cons_zero, List.getElem_cons_succ, List.setIfInBounds_toArray, List.set_cons_zero, List.set_cons_succ]
  refine wpAnyG_all (rs := [9]) (by kernel_rfl) (by simp) ?_
  intro i hi
  simp only [List.mem_cons, List.not_mem_nil, or_false] at hi
  subst hi
  refine wpOp_now rfl rfl ?_
  go_simp
  refine ⟨fun _ => T1, ?_⟩
  try simp only [Act.put, List.getElem_toArray, List.getElem_cons_zero, List.getElem_cons_succ, List.setIfInBounds_toArray, List.set_cons_zero, List.set_cons_succ]
  refine wpAnyG_all (rs := [10]) (by kernel_rfl) (by simp) ?_
  intro i hi
  simp only [List.mem_cons, List.not_mem_nil, or_false] at hi
  subst hi
  refine wpOp_now rfl rfl ?_
  go_simp
  refine ⟨fun _ => T1, ?_⟩
  try simp only [Act.put, List.getElem_toArray, List.getElem_cons_zero, List.getElem_cons_succ, List.setIfInBounds_toArray, List.set_cons_zero, List.set_cons_succ]
  have k2 := Blk.cell T1 2
  have f2 := Blk.frozen T1 2
  simp only [List.getElem?_toArray, List.getElem?_cons_zero, List.getElem?_cons_succ] at k2
  refine wpAnyG_all (rs := [11]) (by kernel_rfl) (by simp) ?_
  intro i hi
  simp only [List.mem_cons, List.not_mem_nil, or_false] at hi
  subst hi
  refine wpOp_now rfl rfl ?_
  go_simp
  refine ⟨fun h => (nomatch (show (false : Bool) = true from h)), ?_⟩
  refine wpAnyG_done (by kernel_rfl) ?_ _
  refine NoPanic.normal ?_
  have HA := Lib.hid (And.intro ((HM.out.below U1).setD (dr ++ ⟨#[c]⟩)) ((KpD.of_below HM.out U1).trans (KpD.set (HM.out.below U1) 2 (.string (dr ++ ⟨#[c]⟩)))))
  clear T0 T1 U0 U1 hrow ec k2 f2
  go_wp2
  refine bodyPost_end (results_none rfl _ _ _) rfl ?_
  exact ⟨rfl, HA.out.1, HA.out.2⟩
/-- The last row that is kept grows, or a new one begins. -/
def kpD (n : Nat) (L : List Sp) : List Sp :=
  match L.getLast? with
  | some x => if 0 < x.k then L.dropLast ++ [⟨x.k + n, x.d, x.p⟩] else L ++ [⟨n, .empty, .empty⟩]
  | none => L ++ [⟨n, .empty, .empty⟩]
theorem DkB.setL {W : World} {B b g c : Nat} {L : List Sp} {pu dr : ByteArray} (h : DkB W B b (.slice (some ⟨g, 0, none⟩) L.length c) L pu dr) {i : Nat} {x : Sp} (hx : L[i]? = some x) (n : Int) :
    DkB (W.setCell ⟨g, i * 3, none⟩ (.int .i64 n)) B b (.slice (some ⟨g, 0, none⟩) L.length c) (L.set i ⟨n, x.d, x.p⟩) pu dr ∧ KpD B (.slice (some ⟨g, 0, none⟩) L.length c) (.slice (some ⟨g, 0, none⟩) L.length c) W (W.setCell ⟨g, i * 3, none⟩ (.int .i64 n)) := by
  have hi := (List.getElem?_eq_some_iff.1 hx).1
  have e1 : g ≠ B := fun e => Blk.not_row h.blk (by decide) h.ro (by rw [← e]; rfl)
  have r2 := own_setK h.ro (o := i * 3) (by omega) (.int .i64 n)
  have h9 := fl_set (enc := encS) (k := 3) encS_len hx (j := 0) (y := ⟨n, x.d, x.p⟩) (v := .int .i64 n) (by decide) rfl
  rw [Nat.add_zero] at h9
  rw [h9] at r2
  refine ⟨⟨h.blk.other (fun e => e1 e.symm) _ _, by rw [List.length_set]; exact r2, h.bb, by simpa using h.bw⟩, ⟨rfl, rfl, rfl, by simp, fun q hq hB hn => ⟨Below.heap_setCell _ _ _ _ (fun e => hn (by rw [e]; rfl)), hn⟩⟩⟩
set_option maxHeartbeats 16000000 in
theorem dkeep_any {W : World} {B b : Nat} {vL : Value} {L : List Sp} {pu dr : ByteArray} (h : DkB W B b vL L pu dr) (n : Nat) (hn : n ≤ 1000000) (hl : L.length ≤ 100000000) (hk : ∀ x ∈ L, x.k ≤ 1000000 ∧ -1000000 ≤ x.k) :
    Calls Try.prog 28 #[.pointer (some ⟨B, 0, none⟩), .int .i64 n] W fun e W' => e = .returned (.tuple #[]) ∧ ((n = 0 ∧ DkB W' B b vL L pu dr ∧ KpD B vL vL W W') ∨ (0 < n ∧ ∃ v', DkB W' B b v' (kpD n (L ++ flD pu dr)) .empty .empty ∧ KpD B vL v' W W')) := by
  obtain ⟨j0, hj, hy0, hy1, hy2⟩ := info_parts infoStep
  by_cases h0 : n = 0
  · subst h0
    have HM := Lib.hid h
    clear h
    go_enter Try.func28, Try.ntmps28
    go_wp2
    refine bodyPost_ret (results_none rfl _ _ _) rfl ?_
    exact ⟨by first | rfl | trivial, .inl ⟨by first | rfl | trivial, HM.out, KpD.refl _ _ _⟩⟩
  · have n1 : ((n : Int) == 0) = false := by rw [beq_eq_false_iff_ne]; omega
    have n2 : (n == 0) = false := by rw [beq_eq_false_iff_ne]; omega
    have hfl : (flD pu dr).length ≤ 2 ∧ ∀ x ∈ flD pu dr, x.k = 0 := by
      unfold flD
      refine ⟨by split <;> split <;> simp, fun x hx => ?_⟩
      rcases List.mem_append.1 hx with hx | hx
      · split at hx
        · simp only [List.mem_singleton] at hx; subst hx; rfl
        · cases hx
      · split at hx
        · simp only [List.mem_singleton] at hx; subst hx; rfl
        · cases hx
    have cE := dend_any h (by omega)
    have hl2 : (L ++ flD pu dr).length ≤ 100000002 := by rw [List.length_append]; omega
    have hk2 : ∀ x ∈ L ++ flD pu dr, x.k ≤ 1000000 ∧ -1000000 ≤ x.k := fun x hx => by
      rcases List.mem_append.1 hx with hx | hx
      · exact hk x hx
      · have := hfl.2 x hx; omega
    obtain ⟨M, hM⟩ : ∃ M, L ++ flD pu dr = M := ⟨_, rfl⟩
    rw [hM] at cE hl2 hk2 ⊢
    have H0 := Lib.hid h0
    clear h hfl hM h0 hl hk
    go_enter Try.func28, Try.ntmps28
    go_wp2_with (fail)
    refine cE.mono ?_
    rintro e V ⟨rfl, v1, hV, hKV⟩
    clear cE
    obtain ⟨c0, c1, c2⟩ := hV.cells
    obtain ⟨ov, cv, rfl, hgo⟩ := own_slice hV.ro
    rcases List.eq_nil_or_concat M with hM | ⟨M0, x, hM⟩
    · subst hM
      have HV := Lib.hid (And.intro hV hKV)
      have HB := Lib.hid (Blk.new V #[.int .i64 n, .string .empty, .string .empty] 46)
      have jw : IntKind.i64.wrap ((0 : Int) - 1) = -1 := by rfl
      clear hV hKV hgo
      simp only [List.length_nil] at c0
      go_wp2_with (at_builtin; refine wpList_append_own_at _ rfl _ _ 24 rfl b 46 j0 (.agg #[.int .i64 0, .string .empty, .string .empty]) 3 40 Try.underlying24 hj hy0 hy1 hy2 rfl (by decide) _ _ _ rfl (own_below HV.out.1.ro ((Below.refl V.heap.size V).alloc (Nat.le_refl _) (.cells #[.int .i64 n, .string .empty, .string .empty] 46))) ⟨V.heap.size, 0, none⟩ 1 1 [.int .i64 n, .string .empty, .string .empty] rfl rfl (World.news_of_block (cs := #[.int .i64 n, .string .empty, .string .empty]) (t := 46) (fr := (0, 0)) HB.out) (fun x hx => by simp at hx; rcases hx with rfl | rfl | rfl <;> rfl) (by unfold maxLen; (try simp only [List.length_nil]); omega) (by (try simp only [List.length_nil]); omega) (by simp; have := HV.out.1.bw; omega) ?_; intro v3 w3 hown3 hg3 _ hv3; have T3 := Blk.kept (HV.out.1.blk.below' ((Below.refl V.heap.size V).alloc (Nat.le_refl _) (.cells #[.int .i64 n, .string .empty, .string .empty] 46))) hg3 (Blk.not_row (HV.out.1.blk.below' ((Below.refl V.heap.size V).alloc (Nat.le_refl _) (.cells #[.int .i64 n, .string .empty, .string .empty] 46))) (by decide) (own_below HV.out.1.ro ((Below.refl V.heap.size V).alloc (Nat.le_refl _) (.cells #[.int .i64 n, .string .empty, .string .empty] 46)))); have k3 := Blk.frozen T3 0; have k0 := Blk.cell T3 0; simp only [List.getElem?_toArray, List.getElem?_cons_zero] at k0; obtain ⟨ov3, cv3, rfl, _⟩ := own_slice hown3; have HA := Lib.hid (DkB.add (x := ⟨n, .empty, .empty⟩) HV.out.1 ((Below.refl V.heap.size V).alloc (Nat.le_refl _) (.cells #[.int .i64 n, .string .empty, .string .empty] 46)) hown3 hg3 hv3); clear hown3 hg3 hv3 T3)
      refine bodyPost_end (results_none rfl _ _ _) rfl ?_
      exact ⟨rfl, .inr ⟨by have := H0.out; omega, _, HA.out.1, HV.out.2.trans HA.out.2⟩⟩
    · have hM' : M = M0 ++ [x] := by rw [hM, List.concat_eq_append]
      have hlen : M.length = M0.length + 1 := by rw [hM']; simp
      have hx : M[M0.length]? = some x := by rw [hM']; simp
      have hxb := hk2 x (by rw [hM']; simp)
      obtain ⟨g, rfl⟩ := hgo (by omega)
      have hcell : V.cell? ⟨g, M0.length * 3, none⟩ = some (.int .i64 x.k) := by
        obtain ⟨g', o', e', hc⟩ := RowAt.of_own encS_len hV.ro rfl M0.length x hx
        cases e'
        have := hc 0 (by decide)
        simpa [encS] using this
      obtain ⟨N, hN⟩ : ∃ N, M0.length = N := ⟨_, rfl⟩
      rw [hN] at hcell hx hlen
      have jw : IntKind.i64.wrap ((M.length : Int) - 1) = (N : Int) := by rw [IntWalk.i64_in _ (by omega)]; omega
      have jk : ((N : Int) < (M.length : Int)) := by omega
      have jN : (0 : Int) ≤ (N : Int) := by omega
      have dN : decide ((0 : Int) ≤ (N : Int)) = true := decide_eq_true jN
      by_cases hx0 : 0 < x.k
      · have dx : decide ((0 : Int) < x.k) = true := decide_eq_true hx0
        have js : IntKind.i64.wrap (x.k + (n : Int)) = x.k + (n : Int) := IntWalk.i64_in _ (by omega)
        have hkp : kpD n M = M.set N ⟨x.k + n, x.d, x.p⟩ := by
          unfold kpD
          rw [hM', List.getLast?_append, List.getLast?_singleton]
          simp only [Option.some_or]
          rw [if_pos hx0, List.dropLast_concat, ← hN, List.set_append_right _ _ (Nat.le_refl _)]
          simp
        have HV := Lib.hid (And.intro hV (And.intro hKV (And.intro hx hkp)))
        clear hV hKV hM hM' hx hkp hlen hN
        go_wp2
        refine wp_region_noPanic ?_
        refine wp_region_g (S := untilG [17] (fun X => Below V.heap.size V X)) (by kernel_rfl) ?_
        obtain ⟨X0, hX0⟩ : ∃ Z, V.drew = Z := ⟨_, rfl⟩
        have T0 : Below V.heap.size V X0 := hX0 ▸ (Below.refl V.heap.size V).drew
        rw [hX0]
        clear hX0
        refine wpAnyG_take [0, 1, 2, 3, 15, 16, 17] (i := 0) (v := (.pointer (some ⟨B, 0, none⟩))) rfl (by kernel_rfl) (by kernel_rfl) (by kernel_rfl) (by kernel_rfl) (by kernel_rfl) (by kernel_rfl) (by kernel_rfl) (by kernel_rfl) (fun _ _ _ h => h) (Or.inl ⟨by rfl, ?hy⟩) T0 ?_
        case hy =>
          intro X hX
          go_simp
        try simp only [Act.put, List.getElem_toArray, List.getElem_cons_zero, List.getElem_cons_succ, List.setIfInBounds_toArray, List.set_cons_zero, List.set_cons_succ]
        refine wpAnyG_take [1, 2, 3, 15, 16, 17] (i := 1) (v := (.pointer (some ⟨B, 0, none⟩))) rfl (by kernel_rfl) (by kernel_rfl) (by kernel_rfl) (by kernel_rfl) (by kernel_rfl) (by kernel_rfl) (by kernel_rfl) (by kernel_rfl) (fun _ _ _ h => h) (Or.inl ⟨by rfl, ?hy⟩) T0 ?_
        case hy =>
          intro X hX
          go_simp
        try simp only [Act.put, List.getElem_toArray, List.getElem_cons_zero, List.getElem_cons_succ, List.setIfInBounds_toArray, List.set_cons_zero, List.set_cons_succ]
        refine wpAnyG_take [2, 3, 15, 16, 17] (i := 2) (v := (.pointer (some ⟨B, 0, none⟩))) rfl (by kernel_rfl) (by kernel_rfl) (by kernel_rfl) (by kernel_rfl) (by kernel_rfl) (by kernel_rfl) (by kernel_rfl) (by kernel_rfl) (fun _ _ _ h => h) (Or.inl ⟨by rfl, ?hy⟩) T0 ?_
        case hy =>
          intro X hX
          go_simp
        try simp only [Act.put, List.getElem_toArray, List.getElem_cons_zero, List.getElem_cons_succ, List.setIfInBounds_toArray, List.set_cons_zero, List.set_cons_succ]
        refine wpAnyG_take [3, 15, 16, 17] (i := 3) (v := (.slice (some ⟨g, 0, none⟩) M.length cv)) rfl (by kernel_rfl) (by kernel_rfl) (by kernel_rfl) (by kernel_rfl) (by kernel_rfl) (by kernel_rfl) (by kernel_rfl) (by kernel_rfl) (fun _ _ _ h => h) (Or.inl ⟨by rfl, ?hy⟩) T0 ?_
        case hy =>
          intro X hX
          have e0 := at_below c0 hX
          go_simp
        try simp only [Act.put, List.getElem_toArray, List.getElem_cons_zero, List.getElem_cons_succ, List.setIfInBounds_toArray, List.set_cons_zero, List.set_cons_succ]
        refine wpAnyG_take [4, 15, 16, 17] (i := 4) (v := (.int .i64 N)) rfl (by kernel_rfl) (by kernel_rfl) (by kernel_rfl) (by kernel_rfl) (by kernel_rfl) (by kernel_rfl) (by kernel_rfl) (by kernel_rfl) (fun _ _ _ h => h) (Or.inl ⟨by rfl, ?hy⟩) T0 ?_
        case hy =>
          intro X hX
          go_simp
        try simp only [Act.put, List.getElem_toArray, List.getElem_cons_zero, List.getElem_cons_succ, List.setIfInBounds_toArray, List.set_cons_zero, List.set_cons_succ]
        refine wpAnyG_take [5, 6, 7, 8, 10, 11, 12, 14, 17] (i := 5) (v := (.pointer (some ⟨B, 0, none⟩))) rfl (by kernel_rfl) (by kernel_rfl) (by kernel_rfl) (by kernel_rfl) (by kernel_rfl) (by kernel_rfl) (by kernel_rfl) (by kernel_rfl) (fun _ _ _ h => h) (Or.inl ⟨by rfl, ?hy⟩) T0 ?_
        case hy =>
          intro X hX
          go_simp
        try simp only [Act.put, List.getElem_toArray, List.getElem_cons_zero, List.getElem_cons_succ, List.setIfInBounds_toArray, List.set_cons_zero, List.set_cons_succ]
        refine wpAnyG_take [6, 7, 8, 10, 11, 12, 14, 17] (i := 6) (v := (.pointer (some ⟨B, 0, none⟩))) rfl (by kernel_rfl) (by kernel_rfl) (by kernel_rfl) (by kernel_rfl) (by kernel_rfl) (by kernel_rfl) (by kernel_rfl) (by kernel_rfl) (fun _ _ _ h => h) (Or.inl ⟨by rfl, ?hy⟩) T0 ?_
        case hy =>
          intro X hX
          go_simp
        try simp only [Act.put, List.getElem_toArray, List.getElem_cons_zero, List.getElem_cons_succ, List.setIfInBounds_toArray, List.set_cons_zero, List.set_cons_succ]
        refine wpAnyG_take [7, 8, 10, 11, 12, 14, 17] (i := 7) (v := (.pointer (some ⟨B, 0, none⟩))) rfl (by kernel_rfl) (by kernel_rfl) (by kernel_rfl) (by kernel_rfl) (by kernel_rfl) (by kernel_rfl) (by kernel_rfl) (by kernel_rfl) (fun _ _ _ h => h) (Or.inl ⟨by rfl, ?hy⟩) T0 ?_
        case hy =>
          intro X hX
          go_simp
        try simp only [Act.put, List.getElem_toArray, List.getElem_cons_zero, List.getElem_cons_succ, List.setIfInBounds_toArray, List.set_cons_zero, List.set_cons_succ]
        refine wpAnyG_take [8, 10, 11, 12, 14, 17] (i := 8) (v := (.slice (some ⟨g, 0, none⟩) M.length cv)) rfl (by kernel_rfl) (by kernel_rfl) (by kernel_rfl) (by kernel_rfl) (by kernel_rfl) (by kernel_rfl) (by kernel_rfl) (by kernel_rfl) (fun _ _ _ h => h) (Or.inl ⟨by rfl, ?hy⟩) T0 ?_
        case hy =>
          intro X hX
          have e0 := at_below c0 hX
          go_simp
        try simp only [Act.put, List.getElem_toArray, List.getElem_cons_zero, List.getElem_cons_succ, List.setIfInBounds_toArray, List.set_cons_zero, List.set_cons_succ]
        refine wpAnyG_take [9, 10, 11, 12, 14, 17] (i := 9) (v := (.int .i64 N)) rfl (by kernel_rfl) (by kernel_rfl) (by kernel_rfl) (by kernel_rfl) (by kernel_rfl) (by kernel_rfl) (by kernel_rfl) (by kernel_rfl) (fun _ _ _ h => h) (Or.inl ⟨by rfl, ?hy⟩) T0 ?_
        case hy =>
          intro X hX
          go_simp
        try simp only [Act.put, List.getElem_toArray, List.getElem_cons_zero, List.getElem_cons_succ, List.setIfInBounds_toArray, List.set_cons_zero, List.set_cons_succ]
        refine wpAnyG_take [10, 11, 12, 14, 17] (i := 10) (v := (.pointer (some ⟨g, N * 3, none⟩))) rfl (by kernel_rfl) (by kernel_rfl) (by kernel_rfl) (by kernel_rfl) (by kernel_rfl) (by kernel_rfl) (by kernel_rfl) (by kernel_rfl) (fun _ _ _ h => h) (Or.inl ⟨by rfl, ?hy⟩) T0 ?_
        case hy =>
          intro X hX
          (go_simp; try rfl)
        try simp only [Act.put, List.getElem_toArray, List.getElem_cons_zero, List.getElem_cons_succ, List.setIfInBounds_toArray, List.set_cons_zero, List.set_cons_succ]
        refine wpAnyG_take [11, 12, 14, 17] (i := 11) (v := (.pointer (some ⟨g, N * 3, none⟩))) rfl (by kernel_rfl) (by kernel_rfl) (by kernel_rfl) (by kernel_rfl) (by kernel_rfl) (by kernel_rfl) (by kernel_rfl) (by kernel_rfl) (fun _ _ _ h => h) (Or.inl ⟨by rfl, ?hy⟩) T0 ?_
        case hy =>
          intro X hX
          (go_simp; try rfl)
        try simp only [Act.put, List.getElem_toArray, List.getElem_cons_zero, List.getElem_cons_succ, List.setIfInBounds_toArray, List.set_cons_zero, List.set_cons_succ]
        refine wpAnyG_take [12, 14, 17] (i := 12) (v := (.int .i64 x.k)) rfl (by kernel_rfl) (by kernel_rfl) (by kernel_rfl) (by kernel_rfl) (by kernel_rfl) (by kernel_rfl) (by kernel_rfl) (by kernel_rfl) (fun _ _ _ h => h) (Or.inl ⟨by rfl, ?hy⟩) T0 ?_
        case hy =>
          intro X hX
          have e0 := at_below hcell hX
          go_simp
        try simp only [Act.put, List.getElem_toArray, List.getElem_cons_zero, List.getElem_cons_succ, List.setIfInBounds_toArray, List.set_cons_zero, List.set_cons_succ]
        refine wpAnyG_take [13, 14, 17] (i := 13) (v := (.int .i64 n)) rfl (by kernel_rfl) (by kernel_rfl) (by kernel_rfl) (by kernel_rfl) (by kernel_rfl) (by kernel_rfl) (by kernel_rfl) (by kernel_rfl) (fun _ _ _ h => h) (Or.inl ⟨by rfl, ?hy⟩) T0 ?_
        case hy =>
          intro X hX
          go_simp
        try simp only [Act.put, List.getElem_toArray, List.getElem_cons_zero, List.getElem_cons_succ, List.setIfInBounds_toArray, List.set_cons_zero, List.set_cons_succ]
        refine wpAnyG_take [14, 17] (i := 14) (v := (.int .i64 (x.k + n))) rfl (by kernel_rfl) (by kernel_rfl) (by kernel_rfl) (by kernel_rfl) (by kernel_rfl) (by kernel_rfl) (by kernel_rfl) (by kernel_rfl) (fun _ _ _ h => h) (Or.inl ⟨by rfl, ?hy⟩) T0 ?_
        case hy =>
          intro X hX
          go_simp
        try simp only [Act.put, List.getElem_toArray, List.getElem_cons_zero, List.getElem_cons_succ, List.setIfInBounds_toArray, List.set_cons_zero, List.set_cons_succ]
        have HX := Lib.hid ((HV.out.1.below T0).setL HV.out.2.2.1 (x.k + n))
        have fX := own_freeK (HV.out.1.below T0).ro (N * 3)
        have cX := at_below hcell T0
        refine wpAnyG_all (rs := [15]) (by kernel_rfl) (by simp) ?_
        intro i hi
        simp only [List.mem_cons, List.not_mem_nil, or_false] at hi
        subst hi
        refine wpOp_now rfl rfl ?_
        go_simp
        refine ⟨fun _ => T0, ?_⟩
        try simp only [Act.put, List.getElem_toArray, List.getElem_cons_zero, List.getElem_cons_succ, List.setIfInBounds_toArray, List.set_cons_zero, List.set_cons_succ]
        refine wpAnyG_all (rs := [16]) (by kernel_rfl) (by simp) ?_
        intro i hi
        simp only [List.mem_cons, List.not_mem_nil, or_false] at hi
        subst hi
        refine wpOp_now rfl rfl ?_
        go_simp
        refine ⟨fun _ => T0, ?_⟩
        try simp only [Act.put, List.getElem_toArray, List.getElem_cons_zero, List.getElem_cons_succ, List.setIfInBounds_toArray, List.set_cons_zero, List.set_cons_succ]
        refine wpAnyG_all (rs := [17]) (by kernel_rfl) (by simp) ?_
        intro i hi
        simp only [List.mem_cons, List.not_mem_nil, or_false] at hi
        subst hi
        refine wpOp_now rfl rfl ?_
        go_simp
        refine ⟨fun h => (nomatch (show (false : Bool) = true from h)), ?_⟩
        refine wpAnyG_done (by kernel_rfl) ?_ _
        refine NoPanic.normal ?_
        have HK := Lib.hid (KpD.of_below HV.out.1 T0)
        clear T0 fX cX hcell c0 c1 c2
        go_wp2
        refine bodyPost_ret (results_none rfl _ _ _) rfl ?_
        exact ⟨rfl, .inr ⟨by have := H0.out; omega, _, by rw [HV.out.2.2.2]; exact HX.out.1, (HV.out.2.1.trans HK.out).trans HX.out.2⟩⟩
      · have dx : decide ((0 : Int) < x.k) = false := decide_eq_false hx0
        have hkp : kpD n M = M ++ [⟨n, .empty, .empty⟩] := by
          unfold kpD
          rw [hM', List.getLast?_append, List.getLast?_singleton]
          simp only [Option.some_or]
          rw [if_neg hx0]
        have HV := Lib.hid (And.intro hV (And.intro hKV hkp))
        have HB := Lib.hid (Blk.new V #[.int .i64 n, .string .empty, .string .empty] 46)
        clear hV hKV hM hM' hx hkp hlen hN
        go_wp2_with (at_builtin; refine wpList_append_own_at _ rfl _ _ 24 rfl b 46 j0 (.agg #[.int .i64 0, .string .empty, .string .empty]) 3 40 Try.underlying24 hj hy0 hy1 hy2 rfl (by decide) _ _ _ rfl (own_below HV.out.1.ro ((Below.refl V.heap.size V).alloc (Nat.le_refl _) (.cells #[.int .i64 n, .string .empty, .string .empty] 46))) ⟨V.heap.size, 0, none⟩ 1 1 [.int .i64 n, .string .empty, .string .empty] rfl rfl (World.news_of_block (cs := #[.int .i64 n, .string .empty, .string .empty]) (t := 46) (fr := (0, 0)) HB.out) (fun x hx => by simp at hx; rcases hx with rfl | rfl | rfl <;> rfl) (by unfold maxLen; (try simp only [List.length_nil]); omega) (by (try simp only [List.length_nil]); omega) (by simp; have := HV.out.1.bw; omega) ?_; intro v3 w3 hown3 hg3 _ hv3; have T3 := Blk.kept (HV.out.1.blk.below' ((Below.refl V.heap.size V).alloc (Nat.le_refl _) (.cells #[.int .i64 n, .string .empty, .string .empty] 46))) hg3 (Blk.not_row (HV.out.1.blk.below' ((Below.refl V.heap.size V).alloc (Nat.le_refl _) (.cells #[.int .i64 n, .string .empty, .string .empty] 46))) (by decide) (own_below HV.out.1.ro ((Below.refl V.heap.size V).alloc (Nat.le_refl _) (.cells #[.int .i64 n, .string .empty, .string .empty] 46)))); have k3 := Blk.frozen T3 0; have k0 := Blk.cell T3 0; simp only [List.getElem?_toArray, List.getElem?_cons_zero] at k0; obtain ⟨ov3, cv3, rfl, _⟩ := own_slice hown3; have HA := Lib.hid (DkB.add (x := ⟨n, .empty, .empty⟩) HV.out.1 ((Below.refl V.heap.size V).alloc (Nat.le_refl _) (.cells #[.int .i64 n, .string .empty, .string .empty] 46)) hown3 hg3 hv3); clear hown3 hg3 hv3 T3)
        refine bodyPost_end (results_none rfl _ _ _) rfl ?_
        exact ⟨rfl, .inr ⟨by have := H0.out; omega, _, by rw [HV.out.2.2]; exact HA.out.1, HV.out.2.1.trans HA.out.2⟩⟩
end Go.Proofs.Ytpijooajbgeejaa
