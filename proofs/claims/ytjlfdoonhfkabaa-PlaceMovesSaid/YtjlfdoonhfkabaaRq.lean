/- The document's Places of layer 2. -/
import Derived.Test.YtjlfdoonhfkabaaRq0
namespace Go.Proofs.Ytjlfdoonhfkabaa
set_option linter.unusedVariables false
set_option linter.unusedSimpArgs false
open Go Go.RowKit Go.Shelf
set_option maxRecDepth 100000

def lnB (s : ByteArray) (i : Nat) : Nat := if i = 0 then 0 else (pK s (i - 1)).l
def clB (s : ByteArray) (i : Nat) : Nat := if i = 0 then 0 else (pK s (i - 1)).c + 1
theorem pl_case (s : ByteArray) (k : Nat) (hk : k ≤ nP s) : (∃ f, (ens s)[lnB s k]? = some (f, (pK s k).b) ∧ (pK s k).l = lnB s k + 1 ∧ (pK s k).c = 0) ∨ ((pK s k).l = lnB s k ∧ (pK s k).c = clB s k ∧ ((∃ f t, (ens s)[lnB s k]? = some (f, t) ∧ t ≠ (pK s k).b) ∨ (ens s).length ≤ lnB s k)) := by
  cases k with
  | zero =>
    right
    refine ⟨rfl, rfl, ?_⟩
    cases h : (ens s)[lnB s 0]? with
    | none => exact .inr (List.getElem?_eq_none_iff.1 h)
    | some r =>
      refine .inl ⟨r.1, r.2, rfl, fun h1 => ?_⟩
      have := (ens_to (s := s) (L := lnB s 0) (f := r.1) (t := r.2) (i := 0) h hk h1).1
      simp [pK] at this
  | succ j =>
    have e1 : lnB s (j + 1) = (pK s j).l := rfl
    have e2 : clB s (j + 1) = (pK s j).c + 1 := rfl
    rw [e1, e2]
    cases h3 : nlAt s (pK s j).b with
    | true =>
      obtain ⟨h1, h2⟩ := pK_line h3
      obtain ⟨f, h4⟩ := ens_at hk h3
      exact .inl ⟨f, h4, h1, h2⟩
    | false =>
      obtain ⟨h1, h2⟩ := pK_next h3
      refine .inr ⟨h1, h2, ?_⟩
      cases h : (ens s)[(pK s j).l]? with
      | none => exact .inr (List.getElem?_eq_none_iff.1 h)
      | some r =>
        refine .inl ⟨r.1, r.2, rfl, fun h5 => ?_⟩
        have := (ens_to (s := s) (L := (pK s j).l) (f := r.1) (t := r.2) (i := j + 1) h hk h5).1
        omega
theorem infoPlc : (Try.prog.info? 28).map (fun i => (i.zero, i.size, i.bytes)) = some (some (.agg #[.int .i64 0, .int .i64 0, .int .i64 0, .int .i64 0, .int .i64 0]), 5, 40) := by kernel_rfl

def PqRel (s : ByteArray) (w2 : World) (N : Nat) (l e i : Value) (wr : World) : Prop :=
  ∃ (k : Nat) (bv : Int), i = .int .i64 k ∧ k ≤ nP s + 1 ∧ e = .int .i64 (lnB s k) ∧ wr.ownsRow (N + 1) 28 5 l k (plS s k) ∧ (k ≤ nP s → Blk wr N #[.int .i64 bv, .int .i64 k, .int .i64 (pK s k).u, .int .i64 (lnB s k), .int .i64 (clB s k)] 28) ∧ Below N w2 wr

set_option maxHeartbeats 20000000 in
theorem placesD_any (s : ByteArray) (hs : s.size ≤ 65536) (w : World) : Calls Try.prog 25 #[.string s] w fun e w' => ∃ v base, e = .returned v ∧ w.heap.size ≤ base ∧ w'.ownsRow base 28 5 v (nP s + 1) (plS s (nP s + 1)) ∧ Below w.heap.size w w' := by
  obtain ⟨i0, hi, hz0, hz1, hz2⟩ := info_parts infoPlc
  have hnP := nP_le s
  go_enter Try.func25, Try.ntmps25
  go_wp2_with (fail)
  refine (piecesD_any s (by omega) w).mono ?_
  intro e w1 hpost
  obtain ⟨pv, rfl, hp, hB1⟩ := hpost
  go_wp2_with (fail)
  refine (ends_any s hs w1).mono ?_
  rintro e w2 ⟨ev, rfl, he, hB2⟩
  obtain ⟨op, cp, rfl, hop⟩ := own_slice hp
  obtain ⟨oe, ce, rfl, hoe⟩ := own_slice he
  have hel := ens_len s
  have hpl := pK_l_bound s (nP s)
  have hB02 := hB1.trans (hB2.mono hB1.size)
  have hp2 := own_below hp hB2
  have hpC : ∀ X, Below w2.heap.size w2 X → ∀ k, k < nP s → ∃ g, op = some ⟨g, 0, none⟩ ∧ g < w2.heap.size ∧ X.cell? ⟨g, k * 3, none⟩ = some (.int .i64 (pK s k).b) ∧ X.cell? ⟨g, k * 3 + 1, none⟩ = some (.int .i64 (wd s (pK s k).b)) ∧ X.cell? ⟨g, k * 3 + 2, none⟩ = some (.int .i32 (rn s (pK s k).b : Nat)) := fun X hX k hk => by
    obtain ⟨g, rfl⟩ := hop (by show 0 < nP s; omega)
    exact ⟨g, rfl, (hp2.lt g rfl).2, pc_at (own_below hp2 hX) rfl hk⟩
  have heC : ∀ X, Below w2.heap.size w2 X → ∀ (k f t : Nat), (ens s)[k]? = some (f, t) → ∃ g, oe = some ⟨g, 0, none⟩ ∧ g < w2.heap.size ∧ X.cell? ⟨g, k * 2 + 1, none⟩ = some (.int .i64 (t : Nat)) := fun X hX k f t hk => by
    have hkl := (List.getElem?_eq_some_iff.1 hk).1
    obtain ⟨g, rfl⟩ := hoe (by omega)
    exact ⟨g, rfl, (he.lt g rfl).2, ((own_below he hX).cellAt (k * 2 + 1) (by omega)).trans (enC_get _ _ _ hk).2⟩
  have HPC := Lib.hid hpC
  have HEC := Lib.hid heC
  have hnn : (posns s).length = nP s := rfl
  rw [hnn]
  obtain ⟨E, hE⟩ : ∃ E, (ens s).length = E := ⟨_, rfl⟩
  rw [hE] at hel ⊢
  have HE := Lib.hid hE
  have HL := Lib.hid hel
  have b6 := Blk.new w2 #[.int .i64 0, .int .i64 0, .int .i64 0, .int .i64 0, .int .i64 0] 28
  have bB : Below w2.heap.size w2 (w2.alloc (.cells #[.int .i64 0, .int .i64 0, .int .i64 0, .int .i64 0, .int .i64 0] 28)) := (Below.refl _ w2).alloc (Nat.le_refl _) _
  have hw2 : w.heap.size ≤ w2.heap.size := hB02.size
  obtain ⟨n, hn⟩ : ∃ n, nP s = n := ⟨_, rfl⟩
  have HN := Lib.hid hn
  have hin : ∀ (l e i : Value), l = .slice none 0 0 → e = .int .i64 0 → i = .int .i64 0 → PqRel s w2 w2.heap.size l e i (w2.alloc (.cells #[.int .i64 0, .int .i64 0, .int .i64 0, .int .i64 0, .int .i64 0] 28)) := by
    rintro l e i rfl rfl rfl
    exact ⟨0, 0, rfl, Nat.zero_le _, rfl, World.ownsRow_nil _ _ _ _, fun _ => b6, bB⟩
  rw [hn] at hnP hpl ⊢
  clear hel hp he hp2 hpC heC hop hoe hB1 hB2 hnn hE hn b6 bB
  go_wp2
  obtain ⟨N, hNN⟩ : ∃ N, w2.heap.size = N := ⟨_, rfl⟩
  rw [hNN] at hin hw2
  try simp only [hNN]
  go_loopw [5, 7, 8] (fun l e i wr => PqRel s w2 N l e i wr) (fun _ _ i _ => n + 2 - (intOf i).toNat)
  case atStart => exact hin _ _ _ rfl rfl rfl
  case round =>
    clear hin
    obtain ⟨k, bv, rfl, hk, rfl, hown, hblk, hB⟩ := hrel
    obtain ⟨o, c, rfl, _⟩ := own_slice hown
    rw [HN.out] at hk
    have hB' : Below w2.heap.size w2 wr := by rw [hNN]; exact hB
    by_cases hlt : k < n + 1
    · replace hblk := hblk (by rw [HN.out]; omega)
      have hcase := pl_case s k (by rw [HN.out]; omega)
      have hlk : lnB s k ≤ k := by unfold lnB; split; omega; have := pK_l_bound s (k - 1); omega
      have hck : clB s k ≤ k := by unfold clB; split; omega; have := pK_c_bound s (k - 1); omega
      have huk := pK_u_bound s k
      have hbk := pK_le s k (by rw [HN.out]; omega)
      have hkk := pK_k s k
      have hnx : k < n → (pK s (k + 1)).u = (pK s k).u + un s (pK s k).b ∧ lnB s (k + 1) = (pK s k).l ∧ clB s (k + 1) = (pK s k).c + 1 := fun _ => ⟨rfl, rfl, rfl⟩
      have hend : k = n → (pK s k).b = s.size := fun h => by rw [h, ← HN.out]; exact pK_end s
      have hpc := HPC.out wr hB' k
      rw [HN.out] at hpc
      have hec := HEC.out wr hB' (lnB s k)
      have hps := plS_succ s k
      obtain ⟨lb, hlb⟩ : ∃ x, lnB s k = x := ⟨_, rfl⟩
      obtain ⟨cb, hcb⟩ : ∃ x, clB s k = x := ⟨_, rfl⟩
      rw [hlb] at hcase hlk hec hblk
      rw [hcb] at hcase hck hblk
      obtain ⟨q, hq⟩ : ∃ q, pK s k = q := ⟨_, rfl⟩
      rw [hq] at hcase huk hbk hkk hnx hend hpc hblk hps
      obtain ⟨qb, qk, qu, ql, qc⟩ := q
      simp only at hcase huk hbk hkk hnx hend hpc hblk
      subst hkk
      simp only [plC] at hps
      have HNX := Lib.hid hnx
      have HPS := Lib.hid hps
      rw [HE.out] at hcase
      have hlN : N < wr.heap.size := hblk.lt
      have HQ := Lib.hid hq
      clear hnx hps hB' hq
      simp only [hlb]
      by_cases hkn : qk < n
      · obtain ⟨gp, rfl, gpl, pc0, pc1, pc2⟩ := hpc hkn
        have gpn : gp ≠ N := by omega
        clear hpc hend
        have k1 := hblk.cell
        have k2 := hblk.frozen
        have k3 := hblk.lt
        rcases hcase with ⟨f, h1, h2, h3⟩ | ⟨h2, h3, ⟨f, t, h1, h4⟩ | h1⟩
        · subst h2 h3
          obtain ⟨ge, rfl, gel, ec⟩ := hec f qb h1
          have gen : ge ≠ N := by omega
          have i1 : decide ((lb : Int) < (E : Int)) = true := decide_eq_true (by have := (List.getElem?_eq_some_iff.1 h1).1; rw [HE.out] at this; omega)
          have i1n : lb < E := by have := (List.getElem?_eq_some_iff.1 h1).1; rw [HE.out] at this; exact this
          clear hec
          have w0 : IntKind.i64.wrap ((lb : Int) + 1) = (lb : Int) + 1 := IntWalk.i64_in _ (by omega)
          have w1 : IntKind.i64.wrap ((qk : Int) + 1) = (qk : Int) + 1 := IntWalk.i64_in _ (by omega)
          have w2' : IntKind.i64.wrap ((cb : Int) + 1) = (cb : Int) + 1 := IntWalk.i64_in _ (by omega)
          go_wp2
          have m6 := (hblk.set 0 (.int .i64 s.size)).set 0 (.int .i64 qb)
          have mB := (hB.setCell (p := ⟨N, 0, none⟩) (Nat.le_refl _) (.int .i64 s.size)).setCell (p := ⟨N, 0, none⟩) (Nat.le_refl _) (.int .i64 qb)
          have mo := (hown.kept (grownBy_setCell wr N 0 (.int .i64 s.size)) (.inr (fun e => by have := (hown.lt N e).1; omega)))
          replace mo := (mo.kept (grownBy_setCell _ N 0 (.int .i64 qb)) (.inr (fun e => by have := (mo.lt N e).1; omega)))
          simp only [List.setIfInBounds_toArray, List.set_cons_zero, List.set_cons_succ] at m6
          replace ec : World.cell? ((wr.setCell ⟨N, 0, none⟩ (.int .i64 s.size)).setCell ⟨N, 0, none⟩ (.int .i64 qb)) ⟨ge, lb * 2 + 1, none⟩ = some (.int .i64 qb) := (World.cell?_of_block (w := wr) ((Below.heap_setCell _ _ _ _ (by dsimp only; omega)).trans (Below.heap_setCell _ _ _ _ (by dsimp only; omega)))).trans ec
          obtain ⟨M, hM⟩ : ∃ M, ((wr.setCell ⟨N, 0, none⟩ (.int .i64 s.size)).setCell ⟨N, 0, none⟩ (.int .i64 qb)) = M := ⟨_, rfl⟩
          rw [hM] at m6 mB mo ec ⊢
          clear hM hown hblk hB k1 k2 k3
          refine wp_region_noPanic ?_
          refine wp_region_g (S := untilG [] (fun X => Below M.heap.size M X)) (by kernel_rfl) ?_
          obtain ⟨M0, hM0⟩ : ∃ X, M.drew = X := ⟨_, rfl⟩
          have T0 : Below M.heap.size M M0 := hM0 ▸ (Below.refl M.heap.size M).drew
          rw [hM0]
          clear hM0
          have e0 := m6.cell 0
          simp only [List.getElem?_toArray, List.getElem?_cons_zero] at e0
          refine wpAnyG_take [0, 3, 4, 5, 6, 7, 8, 9, 10, 11, 12, 13] (i := 0) (v := (.int .i64 lb)) rfl (by kernel_rfl) (by kernel_rfl) (by kernel_rfl) (by kernel_rfl) (by kernel_rfl) (by kernel_rfl) (by kernel_rfl) (by kernel_rfl) (fun _ _ _ h => h) (Or.inl ⟨by rfl, ?hy⟩) T0 ?_
          case hy =>
            intro X hX
            go_simp
          try simp only [Act.put, List.getElem_toArray, List.getElem_cons_zero, List.getElem_cons_succ, List.setIfInBounds_toArray, List.set_cons_zero, List.set_cons_succ]
          refine wpAnyG_take [1, 2, 3, 4, 5, 6, 7, 8, 9, 10, 11, 12, 13] (i := 1) (v := (.slice (some ⟨ge, 0, none⟩) E ce)) rfl (by kernel_rfl) (by kernel_rfl) (by kernel_rfl) (by kernel_rfl) (by kernel_rfl) (by kernel_rfl) (by kernel_rfl) (by kernel_rfl) (fun _ _ _ h => h) (Or.inl ⟨by rfl, ?hy⟩) T0 ?_
          case hy =>
            intro X hX
            go_simp
          try simp only [Act.put, List.getElem_toArray, List.getElem_cons_zero, List.getElem_cons_succ, List.setIfInBounds_toArray, List.set_cons_zero, List.set_cons_succ]
          refine wpAnyG_take [2, 3, 4, 5, 6, 7, 8, 9, 10, 11, 12, 13] (i := 2) (v := (.int .i64 E)) rfl (by kernel_rfl) (by kernel_rfl) (by kernel_rfl) (by kernel_rfl) (by kernel_rfl) (by kernel_rfl) (by kernel_rfl) (by kernel_rfl) (fun _ _ _ h => h) (Or.inl ⟨by rfl, ?hy⟩) T0 ?_
          case hy =>
            intro X hX
            go_simp
          try simp only [Act.put, List.getElem_toArray, List.getElem_cons_zero, List.getElem_cons_succ, List.setIfInBounds_toArray, List.set_cons_zero, List.set_cons_succ]
          refine wpAnyG_take [3, 4, 5, 6, 7, 8, 9, 10, 11, 12, 13] (i := 3) (v := (.bool true)) rfl (by kernel_rfl) (by kernel_rfl) (by kernel_rfl) (by kernel_rfl) (by kernel_rfl) (by kernel_rfl) (by kernel_rfl) (by kernel_rfl) (fun _ _ _ h => h) (Or.inl ⟨by rfl, ?hy⟩) T0 ?_
          case hy =>
            intro X hX
            go_simp
          try simp only [Act.put, List.getElem_toArray, List.getElem_cons_zero, List.getElem_cons_succ, List.setIfInBounds_toArray, List.set_cons_zero, List.set_cons_succ]
          refine wpAnyG_take [4, 5, 6, 7, 8, 9, 10, 11, 12, 13] (i := 4) (v := (.bool true)) rfl (by kernel_rfl) (by kernel_rfl) (by kernel_rfl) (by kernel_rfl) (by kernel_rfl) (by kernel_rfl) (by kernel_rfl) (by kernel_rfl) (fun _ _ _ h => h) (Or.inl ⟨by rfl, ?hy⟩) T0 ?_
          case hy =>
            intro X hX
            go_simp
          try simp only [Act.put, List.getElem_toArray, List.getElem_cons_zero, List.getElem_cons_succ, List.setIfInBounds_toArray, List.set_cons_zero, List.set_cons_succ]
          refine wpAnyG_take [5, 7, 8, 9, 12, 13] (i := 5) (v := (.slice (some ⟨ge, 0, none⟩) E ce)) rfl (by kernel_rfl) (by kernel_rfl) (by kernel_rfl) (by kernel_rfl) (by kernel_rfl) (by kernel_rfl) (by kernel_rfl) (by kernel_rfl) (fun _ _ _ h => h) (Or.inl ⟨by rfl, ?hy⟩) T0 ?_
          case hy =>
            intro X hX
            go_simp
          try simp only [Act.put, List.getElem_toArray, List.getElem_cons_zero, List.getElem_cons_succ, List.setIfInBounds_toArray, List.set_cons_zero, List.set_cons_succ]
          refine wpAnyG_take [6, 7, 8, 9, 12, 13] (i := 6) (v := (.int .i64 lb)) rfl (by kernel_rfl) (by kernel_rfl) (by kernel_rfl) (by kernel_rfl) (by kernel_rfl) (by kernel_rfl) (by kernel_rfl) (by kernel_rfl) (fun _ _ _ h => h) (Or.inl ⟨by rfl, ?hy⟩) T0 ?_
          case hy =>
            intro X hX
            go_simp
          try simp only [Act.put, List.getElem_toArray, List.getElem_cons_zero, List.getElem_cons_succ, List.setIfInBounds_toArray, List.set_cons_zero, List.set_cons_succ]
          refine wpAnyG_take [7, 8, 9, 12, 13] (i := 7) (v := (.pointer (some ⟨ge, lb * 2, none⟩))) rfl (by kernel_rfl) (by kernel_rfl) (by kernel_rfl) (by kernel_rfl) (by kernel_rfl) (by kernel_rfl) (by kernel_rfl) (by kernel_rfl) (fun _ _ _ h => h) (Or.inl ⟨by rfl, ?hy⟩) T0 ?_
          case hy =>
            intro X hX
            go_simp
          try simp only [Act.put, List.getElem_toArray, List.getElem_cons_zero, List.getElem_cons_succ, List.setIfInBounds_toArray, List.set_cons_zero, List.set_cons_succ]
          refine wpAnyG_take [8, 9, 12, 13] (i := 8) (v := (.pointer (some ⟨ge, lb * 2 + 1, none⟩))) rfl (by kernel_rfl) (by kernel_rfl) (by kernel_rfl) (by kernel_rfl) (by kernel_rfl) (by kernel_rfl) (by kernel_rfl) (by kernel_rfl) (fun _ _ _ h => h) (Or.inl ⟨by rfl, ?hy⟩) T0 ?_
          case hy =>
            intro X hX
            go_simp
          try simp only [Act.put, List.getElem_toArray, List.getElem_cons_zero, List.getElem_cons_succ, List.setIfInBounds_toArray, List.set_cons_zero, List.set_cons_succ]
          refine wpAnyG_take [9, 12, 13] (i := 9) (v := (.int .i64 qb)) rfl (by kernel_rfl) (by kernel_rfl) (by kernel_rfl) (by kernel_rfl) (by kernel_rfl) (by kernel_rfl) (by kernel_rfl) (by kernel_rfl) (fun _ _ _ h => h) (Or.inl ⟨by rfl, ?hy⟩) T0 ?_
          case hy =>
            intro X hX
            have e0 := at_below ec hX
            go_simp
          try simp only [Act.put, List.getElem_toArray, List.getElem_cons_zero, List.getElem_cons_succ, List.setIfInBounds_toArray, List.set_cons_zero, List.set_cons_succ]
          refine wpAnyG_take [10, 11, 12, 13] (i := 10) (v := (.pointer (some ⟨N, 0, none⟩))) rfl (by kernel_rfl) (by kernel_rfl) (by kernel_rfl) (by kernel_rfl) (by kernel_rfl) (by kernel_rfl) (by kernel_rfl) (by kernel_rfl) (fun _ _ _ h => h) (Or.inl ⟨by rfl, ?hy⟩) T0 ?_
          case hy =>
            intro X hX
            go_simp
          try simp only [Act.put, List.getElem_toArray, List.getElem_cons_zero, List.getElem_cons_succ, List.setIfInBounds_toArray, List.set_cons_zero, List.set_cons_succ]
          refine wpAnyG_take [11, 12, 13] (i := 11) (v := (.int .i64 qb)) rfl (by kernel_rfl) (by kernel_rfl) (by kernel_rfl) (by kernel_rfl) (by kernel_rfl) (by kernel_rfl) (by kernel_rfl) (by kernel_rfl) (fun _ _ _ h => h) (Or.inl ⟨by rfl, ?hy⟩) T0 ?_
          case hy =>
            intro X hX
            have e0 := at_below e0 hX
            go_simp
          try simp only [Act.put, List.getElem_toArray, List.getElem_cons_zero, List.getElem_cons_succ, List.setIfInBounds_toArray, List.set_cons_zero, List.set_cons_succ]
          refine wpAnyG_take [12, 13] (i := 12) (v := (.bool true)) rfl (by kernel_rfl) (by kernel_rfl) (by kernel_rfl) (by kernel_rfl) (by kernel_rfl) (by kernel_rfl) (by kernel_rfl) (by kernel_rfl) (fun _ _ _ h => h) (Or.inl ⟨by rfl, ?hy⟩) T0 ?_
          case hy =>
            intro X hX
            go_simp
          try simp only [Act.put, List.getElem_toArray, List.getElem_cons_zero, List.getElem_cons_succ, List.setIfInBounds_toArray, List.set_cons_zero, List.set_cons_succ]
          refine wpAnyG_take [13] (i := 13) (v := (.bool true)) rfl (by kernel_rfl) (by kernel_rfl) (by kernel_rfl) (by kernel_rfl) (by kernel_rfl) (by kernel_rfl) (by kernel_rfl) (by kernel_rfl) (fun _ _ _ h => h) (Or.inl ⟨by rfl, ?hy⟩) T0 ?_
          case hy =>
            intro X hX
            go_simp
          try simp only [Act.put, List.getElem_toArray, List.getElem_cons_zero, List.getElem_cons_succ, List.setIfInBounds_toArray, List.set_cons_zero, List.set_cons_succ]
          refine wpAnyG_done (by kernel_rfl) ?_ _
          refine NoPanic.normal ?_
          have n6 := m6.below' T0
          have hNM : N ≤ M.heap.size := Nat.le_of_lt m6.lt
          have nB := mB.trans (T0.mono hNM)
          have no := own_below mo T0
          clear T0 m6 mB mo e0 ec
          have n6c := n6.cell
          have n6f := n6.frozen
          have n6l := n6.lt
          have p6 := (n6.set 3 (.int .i64 ((lb : Int) + 1))).set 4 (.int .i64 0)
          simp only [List.setIfInBounds_toArray, List.set_cons_zero, List.set_cons_succ] at p6
          have pB := (nB.setCell (p := ⟨N, 3, none⟩) (Nat.le_refl _) (.int .i64 ((lb : Int) + 1))).setCell (p := ⟨N, 4, none⟩) (Nat.le_refl _) (.int .i64 0)
          have po := no.kept (grownBy_setCell M0 N 3 (.int .i64 ((lb : Int) + 1))) (.inr (fun e => by have := (no.lt N e).1; omega))
          replace po := po.kept (grownBy_setCell _ N 4 (.int .i64 0)) (.inr (fun e => by have := (po.lt N e).1; omega))
          go_wp2_with (at_builtin; refine wpList_append_own _ rfl _ _ 51 rfl (N + 1) 28 i0 (.agg #[.int .i64 0, .int .i64 0, .int .i64 0, .int .i64 0, .int .i64 0]) 5 40 Try.underlying51 hi hz0 hz1 hz2 rfl (by decide) (.slice o qk c) _ _ rfl (po.alloc _) ⟨M0.heap.size, 0, none⟩ 1 1 [.int .i64 qb, .int .i64 qk, .int .i64 qu, .int .i64 ((lb : Int) + 1), .int .i64 0] rfl rfl (World.news_of_block (cs := #[.int .i64 qb, .int .i64 qk, .int .i64 qu, .int .i64 ((lb : Int) + 1), .int .i64 0]) (t := 28) (fr := (0, 0)) (by have := World.alloc_heap_new ((M0.setCell ⟨N, 3, none⟩ (.int .i64 ((lb : Int) + 1))).setCell ⟨N, 4, none⟩ (.int .i64 0)) (.cells #[.int .i64 qb, .int .i64 qk, .int .i64 qu, .int .i64 ((lb : Int) + 1), .int .i64 0] 28); rw [show ((M0.setCell ⟨N, 3, none⟩ (.int .i64 ((lb : Int) + 1))).setCell ⟨N, 4, none⟩ (.int .i64 0)).heap.size = M0.heap.size by simp] at this; exact this)) (fun x hx => by simp at hx; rcases hx with rfl | rfl | rfl | rfl | rfl <;> rfl) (by unfold maxLen; omega) (by omega) (by simp; omega) ?_; intro v' X' hown' hgrow _; obtain ⟨o', c', rfl, _⟩ := own_slice hown'; have k4 := (p6.alloc (.cells #[.int .i64 qb, .int .i64 qk, .int .i64 qu, .int .i64 ((lb : Int) + 1), .int .i64 0] 28)).kept hgrow (fun e' => by have := (po.lt N e'.symm).1; omega); have kB := (pB.alloc (Nat.le_of_lt p6.lt) (.cells #[.int .i64 qb, .int .i64 qk, .int .i64 qu, .int .i64 ((lb : Int) + 1), .int .i64 0] 28)).grown hgrow (by simp; omega) (fun j hj => by have := (po.lt j hj).1; omega); have k4c := k4.cell; have k4f := k4.frozen; have k4l := k4.lt)
          have s6 := (k4.set 1 (.int .i64 ((qk : Int) + 1))).set 4 (.int .i64 1)
          simp only [List.setIfInBounds_toArray, List.set_cons_zero, List.set_cons_succ] at s6
          have sB := (kB.setCell (p := ⟨N, 1, none⟩) (Nat.le_refl _) (.int .i64 ((qk : Int) + 1))).setCell (p := ⟨N, 4, none⟩) (Nat.le_refl _) (.int .i64 1)
          have so := hown'.kept (grownBy_setCell X' N 1 (.int .i64 ((qk : Int) + 1))) (.inr (fun e => by have := (hown'.lt N e).1; omega))
          replace so := so.kept (grownBy_setCell _ N 4 (.int .i64 1)) (.inr (fun e => by have := (so.lt N e).1; omega))
          obtain ⟨R, hR⟩ : ∃ R, ((X'.setCell ⟨N, 1, none⟩ (.int .i64 ((qk : Int) + 1))).setCell ⟨N, 4, none⟩ (.int .i64 1)) = R := ⟨_, rfl⟩
          rw [hR] at s6 sB so ⊢
          clear hR k4 kB k4c k4f k4l hown' hgrow n6 nB no n6c n6f n6l p6 pB po
          obtain ⟨gq, e9, _, r0, r1, r2⟩ := HPC.out R (by rw [hNN]; exact sB) qk (by rw [HN.out]; exact hkn)
          obtain rfl : gp = gq := by simpa using e9
          rw [HQ.out] at r0 r1 r2
          clear e9
          obtain ⟨wq, hwq⟩ : ∃ x, wd s qb = x := ⟨_, rfl⟩
          obtain ⟨rq, hrq⟩ : ∃ x, rn s qb = x := ⟨_, rfl⟩
          simp only at r0 r1 r2
          rw [hwq] at r1
          rw [hrq] at r2
          have hun : un s qb = (if 65535 < rq then 2 else 1) := by rw [← hrq]; rfl
          have hul := un_le s qb
          obtain ⟨uu, huu⟩ : ∃ x, un s qb = x := ⟨_, rfl⟩
          have cU := fun W => units_any qb wq rq W
          rw [← hun, huu] at cU
          have HU := Lib.hid huu
          rw [huu] at hul
          clear hwq hrq hun huu
          have w9 : IntKind.i64.wrap ((qu : Int) + (uu : Int)) = (qu : Int) + (uu : Int) := IntWalk.i64_in _ (by omega)
          refine wp_region_noPanic ?_
          refine wp_region_g (S := untilG [9] (fun X => Below R.heap.size R X)) (by kernel_rfl) ?_
          obtain ⟨R0, hR0⟩ : ∃ X, R.drew = X := ⟨_, rfl⟩
          have T0 : Below R.heap.size R R0 := hR0 ▸ (Below.refl R.heap.size R).drew
          rw [hR0]
          clear hR0
          have e2 := s6.cell 2
          simp only [List.getElem?_toArray, List.getElem?_cons_succ, List.getElem?_cons_zero] at e2
          have i5 : (0 : Int) ≤ (qk : Int) := by omega
          have i6 : (qk : Int) < (n : Int) := by omega
          refine wpAnyG_take [0, 1, 7] (i := 0) (v := (.pointer (some ⟨N, 2, none⟩))) rfl (by kernel_rfl) (by kernel_rfl) (by kernel_rfl) (by kernel_rfl) (by kernel_rfl) (by kernel_rfl) (by kernel_rfl) (by kernel_rfl) (fun _ _ _ h => h) (Or.inl ⟨by rfl, ?hy⟩) T0 ?_
          case hy =>
            intro X hX
            go_simp
          try simp only [Act.put, List.getElem_toArray, List.getElem_cons_zero, List.getElem_cons_succ, List.setIfInBounds_toArray, List.set_cons_zero, List.set_cons_succ]
          refine wpAnyG_take [1, 7] (i := 1) (v := (.int .i64 qu)) rfl (by kernel_rfl) (by kernel_rfl) (by kernel_rfl) (by kernel_rfl) (by kernel_rfl) (by kernel_rfl) (by kernel_rfl) (by kernel_rfl) (fun _ _ _ h => h) (Or.inl ⟨by rfl, ?hy⟩) T0 ?_
          case hy =>
            intro X hX
            have e0 := at_below e2 hX
            go_simp
          try simp only [Act.put, List.getElem_toArray, List.getElem_cons_zero, List.getElem_cons_succ, List.setIfInBounds_toArray, List.set_cons_zero, List.set_cons_succ]
          refine wpAnyG_take [2, 4, 5, 6, 7] (i := 2) (v := (.slice (some ⟨gp, 0, none⟩) n cp)) rfl (by kernel_rfl) (by kernel_rfl) (by kernel_rfl) (by kernel_rfl) (by kernel_rfl) (by kernel_rfl) (by kernel_rfl) (by kernel_rfl) (fun _ _ _ h => h) (Or.inl ⟨by rfl, ?hy⟩) T0 ?_
          case hy =>
            intro X hX
            go_simp
          try simp only [Act.put, List.getElem_toArray, List.getElem_cons_zero, List.getElem_cons_succ, List.setIfInBounds_toArray, List.set_cons_zero, List.set_cons_succ]
          refine wpAnyG_take [3, 4, 5, 6, 7] (i := 3) (v := (.int .i64 qk)) rfl (by kernel_rfl) (by kernel_rfl) (by kernel_rfl) (by kernel_rfl) (by kernel_rfl) (by kernel_rfl) (by kernel_rfl) (by kernel_rfl) (fun _ _ _ h => h) (Or.inl ⟨by rfl, ?hy⟩) T0 ?_
          case hy =>
            intro X hX
            go_simp
          try simp only [Act.put, List.getElem_toArray, List.getElem_cons_zero, List.getElem_cons_succ, List.setIfInBounds_toArray, List.set_cons_zero, List.set_cons_succ]
          refine wpAnyG_take [4, 5, 6, 7] (i := 4) (v := (.pointer (some ⟨gp, qk * 3, none⟩))) rfl (by kernel_rfl) (by kernel_rfl) (by kernel_rfl) (by kernel_rfl) (by kernel_rfl) (by kernel_rfl) (by kernel_rfl) (by kernel_rfl) (fun _ _ _ h => h) (Or.inl ⟨by rfl, ?hy⟩) T0 ?_
          case hy =>
            intro X hX
            go_simp
          try simp only [Act.put, List.getElem_toArray, List.getElem_cons_zero, List.getElem_cons_succ, List.setIfInBounds_toArray, List.set_cons_zero, List.set_cons_succ]
          refine wpAnyG_take [5, 6, 7] (i := 5) (v := (.agg #[.int .i64 qb, .int .i64 wq, .int .i32 rq])) rfl (by kernel_rfl) (by kernel_rfl) (by kernel_rfl) (by kernel_rfl) (by kernel_rfl) (by kernel_rfl) (by kernel_rfl) (by kernel_rfl) (fun _ _ _ h => h) (Or.inl ⟨by rfl, ?hy⟩) T0 ?_
          case hy =>
            intro X hX
            have e0 := at_below r0 hX
            have e1 := at_below r1 hX
            have e2 := at_below r2 hX
            go_simp
          try simp only [Act.put, List.getElem_toArray, List.getElem_cons_zero, List.getElem_cons_succ, List.setIfInBounds_toArray, List.set_cons_zero, List.set_cons_succ]
          refine wpAnyG_all (rs := [6]) (by kernel_rfl) (by simp) ?_
          intro i hi
          simp only [List.mem_cons, List.not_mem_nil, or_false] at hi
          subst hi
          refine wpOp_open rfl (by rfl) ?_
          go_simp
          refine (cU _).mono ?_
          rintro e R1 ⟨rfl, hb9⟩
          replace T0 := T0.trans (hb9.mono T0.size)
          refine ⟨fun _ => T0, ?_⟩
          try simp only [Act.put, List.getElem_toArray, List.getElem_cons_zero, List.getElem_cons_succ, List.setIfInBounds_toArray, List.set_cons_zero, List.set_cons_succ]
          refine wpAnyG_take [7] (i := 7) (v := (.int .i64 ((qu : Int) + (uu : Int)))) rfl (by kernel_rfl) (by kernel_rfl) (by kernel_rfl) (by kernel_rfl) (by kernel_rfl) (by kernel_rfl) (by kernel_rfl) (by kernel_rfl) (fun _ _ _ h => h) (Or.inl ⟨by rfl, ?hy⟩) T0 ?_
          case hy =>
            intro X hX
            go_simp
          try simp only [Act.put, List.getElem_toArray, List.getElem_cons_zero, List.getElem_cons_succ, List.setIfInBounds_toArray, List.set_cons_zero, List.set_cons_succ]
          refine wpAnyG_take [8] (i := 8) (v := (.pointer (some ⟨N, 2, none⟩))) rfl (by kernel_rfl) (by kernel_rfl) (by kernel_rfl) (by kernel_rfl) (by kernel_rfl) (by kernel_rfl) (by kernel_rfl) (by kernel_rfl) (fun _ _ _ h => h) (Or.inl ⟨by rfl, ?hy⟩) T0 ?_
          case hy =>
            intro X hX
            go_simp
          try simp only [Act.put, List.getElem_toArray, List.getElem_cons_zero, List.getElem_cons_succ, List.setIfInBounds_toArray, List.set_cons_zero, List.set_cons_succ]
          have z6 := s6.below' T0
          have z6c := z6.cell
          have z6f := z6.frozen
          have z6l := z6.lt
          refine wpAnyG_all (rs := [9]) (by kernel_rfl) (by simp) ?_
          intro i hi
          simp only [List.mem_cons, List.not_mem_nil, or_false] at hi
          subst hi
          refine wpOp_now rfl rfl ?_
          go_simp
          refine ⟨fun h => (nomatch (show (false : Bool) = true from h)), ?_⟩
          refine wpAnyG_done (by kernel_rfl) ?_ _
          refine NoPanic.normal ?_
          have z7 := z6.set 2 (.int .i64 ((qu : Int) + (uu : Int)))
          simp only [List.setIfInBounds_toArray, List.set_cons_zero, List.set_cons_succ] at z7
          have hNR : N ≤ R.heap.size := Nat.le_of_lt s6.lt
          have zB := (sB.trans (T0.mono hNR)).setCell (p := ⟨N, 2, none⟩) (Nat.le_refl _) (.int .i64 ((qu : Int) + (uu : Int)))
          have zo := own_below so T0
          replace zo := zo.kept (grownBy_setCell R1 N 2 (.int .i64 ((qu : Int) + (uu : Int)))) (.inr (fun e => by have := (zo.lt N e).1; omega))
          clear z6 z6c z6f s6 sB so T0 r0 r1 r2 e2 cU
          obtain ⟨Z, hZ⟩ : ∃ Z, R1.setCell ⟨N, 2, none⟩ (.int .i64 ((qu : Int) + (uu : Int))) = Z := ⟨_, rfl⟩
          rw [hZ] at z7 zB zo ⊢
          clear hZ
          go_wp2
          go_roundw
          case rel =>
            obtain ⟨x1, x2, x3⟩ := HNX.out hkn
            rw [HU.out] at x1
            refine ⟨qk + 1, qb, by first | rfl | go_num, by rw [HN.out]; omega, by simp [x2], by rw [HPS.out]; simpa using zo, fun _ => ?_, zB⟩
            rw [x1, x2, x3]
            simpa using z7
          case measure => simp [intOf]; omega
        · obtain rfl := h2.symm
          obtain rfl := h3.symm
          obtain ⟨ge, rfl, gel, ec⟩ := hec f t h1
          have gen : ge ≠ N := by omega
          have i1 : decide ((lb : Int) < (E : Int)) = true := decide_eq_true (by have := (List.getElem?_eq_some_iff.1 h1).1; rw [HE.out] at this; omega)
          have i1n : lb < E := by have := (List.getElem?_eq_some_iff.1 h1).1; rw [HE.out] at this; exact this
          have i2 : ((t : Int) == (qb : Int)) = false := by rw [beq_eq_false_iff_ne]; omega
          clear hec
          have w0 : IntKind.i64.wrap ((lb : Int) + 1) = (lb : Int) + 1 := IntWalk.i64_in _ (by omega)
          have w1 : IntKind.i64.wrap ((qk : Int) + 1) = (qk : Int) + 1 := IntWalk.i64_in _ (by omega)
          have w2' : IntKind.i64.wrap ((cb : Int) + 1) = (cb : Int) + 1 := IntWalk.i64_in _ (by omega)
          go_wp2
          have m6 := (hblk.set 0 (.int .i64 s.size)).set 0 (.int .i64 qb)
          have mB := (hB.setCell (p := ⟨N, 0, none⟩) (Nat.le_refl _) (.int .i64 s.size)).setCell (p := ⟨N, 0, none⟩) (Nat.le_refl _) (.int .i64 qb)
          have mo := (hown.kept (grownBy_setCell wr N 0 (.int .i64 s.size)) (.inr (fun e => by have := (hown.lt N e).1; omega)))
          replace mo := (mo.kept (grownBy_setCell _ N 0 (.int .i64 qb)) (.inr (fun e => by have := (mo.lt N e).1; omega)))
          simp only [List.setIfInBounds_toArray, List.set_cons_zero, List.set_cons_succ] at m6
          replace ec : World.cell? ((wr.setCell ⟨N, 0, none⟩ (.int .i64 s.size)).setCell ⟨N, 0, none⟩ (.int .i64 qb)) ⟨ge, lb * 2 + 1, none⟩ = some (.int .i64 t) := (World.cell?_of_block (w := wr) ((Below.heap_setCell _ _ _ _ (by dsimp only; omega)).trans (Below.heap_setCell _ _ _ _ (by dsimp only; omega)))).trans ec
          obtain ⟨M, hM⟩ : ∃ M, ((wr.setCell ⟨N, 0, none⟩ (.int .i64 s.size)).setCell ⟨N, 0, none⟩ (.int .i64 qb)) = M := ⟨_, rfl⟩
          rw [hM] at m6 mB mo ec ⊢
          clear hM hown hblk hB k1 k2 k3
          refine wp_region_noPanic ?_
          refine wp_region_g (S := untilG [] (fun X => Below M.heap.size M X)) (by kernel_rfl) ?_
          obtain ⟨M0, hM0⟩ : ∃ X, M.drew = X := ⟨_, rfl⟩
          have T0 : Below M.heap.size M M0 := hM0 ▸ (Below.refl M.heap.size M).drew
          rw [hM0]
          clear hM0
          have e0 := m6.cell 0
          simp only [List.getElem?_toArray, List.getElem?_cons_zero] at e0
          refine wpAnyG_take [0, 3, 4, 5, 6, 7, 8, 9, 10, 11, 12, 13] (i := 0) (v := (.int .i64 lb)) rfl (by kernel_rfl) (by kernel_rfl) (by kernel_rfl) (by kernel_rfl) (by kernel_rfl) (by kernel_rfl) (by kernel_rfl) (by kernel_rfl) (fun _ _ _ h => h) (Or.inl ⟨by rfl, ?hy⟩) T0 ?_
          case hy =>
            intro X hX
            go_simp
          try simp only [Act.put, List.getElem_toArray, List.getElem_cons_zero, List.getElem_cons_succ, List.setIfInBounds_toArray, List.set_cons_zero, List.set_cons_succ]
          refine wpAnyG_take [1, 2, 3, 4, 5, 6, 7, 8, 9, 10, 11, 12, 13] (i := 1) (v := (.slice (some ⟨ge, 0, none⟩) E ce)) rfl (by kernel_rfl) (by kernel_rfl) (by kernel_rfl) (by kernel_rfl) (by kernel_rfl) (by kernel_rfl) (by kernel_rfl) (by kernel_rfl) (fun _ _ _ h => h) (Or.inl ⟨by rfl, ?hy⟩) T0 ?_
          case hy =>
            intro X hX
            go_simp
          try simp only [Act.put, List.getElem_toArray, List.getElem_cons_zero, List.getElem_cons_succ, List.setIfInBounds_toArray, List.set_cons_zero, List.set_cons_succ]
          refine wpAnyG_take [2, 3, 4, 5, 6, 7, 8, 9, 10, 11, 12, 13] (i := 2) (v := (.int .i64 E)) rfl (by kernel_rfl) (by kernel_rfl) (by kernel_rfl) (by kernel_rfl) (by kernel_rfl) (by kernel_rfl) (by kernel_rfl) (by kernel_rfl) (fun _ _ _ h => h) (Or.inl ⟨by rfl, ?hy⟩) T0 ?_
          case hy =>
            intro X hX
            go_simp
          try simp only [Act.put, List.getElem_toArray, List.getElem_cons_zero, List.getElem_cons_succ, List.setIfInBounds_toArray, List.set_cons_zero, List.set_cons_succ]
          refine wpAnyG_take [3, 4, 5, 6, 7, 8, 9, 10, 11, 12, 13] (i := 3) (v := (.bool true)) rfl (by kernel_rfl) (by kernel_rfl) (by kernel_rfl) (by kernel_rfl) (by kernel_rfl) (by kernel_rfl) (by kernel_rfl) (by kernel_rfl) (fun _ _ _ h => h) (Or.inl ⟨by rfl, ?hy⟩) T0 ?_
          case hy =>
            intro X hX
            go_simp
          try simp only [Act.put, List.getElem_toArray, List.getElem_cons_zero, List.getElem_cons_succ, List.setIfInBounds_toArray, List.set_cons_zero, List.set_cons_succ]
          refine wpAnyG_take [4, 5, 6, 7, 8, 9, 10, 11, 12, 13] (i := 4) (v := (.bool true)) rfl (by kernel_rfl) (by kernel_rfl) (by kernel_rfl) (by kernel_rfl) (by kernel_rfl) (by kernel_rfl) (by kernel_rfl) (by kernel_rfl) (fun _ _ _ h => h) (Or.inl ⟨by rfl, ?hy⟩) T0 ?_
          case hy =>
            intro X hX
            go_simp
          try simp only [Act.put, List.getElem_toArray, List.getElem_cons_zero, List.getElem_cons_succ, List.setIfInBounds_toArray, List.set_cons_zero, List.set_cons_succ]
          refine wpAnyG_take [5, 7, 8, 9, 12, 13] (i := 5) (v := (.slice (some ⟨ge, 0, none⟩) E ce)) rfl (by kernel_rfl) (by kernel_rfl) (by kernel_rfl) (by kernel_rfl) (by kernel_rfl) (by kernel_rfl) (by kernel_rfl) (by kernel_rfl) (fun _ _ _ h => h) (Or.inl ⟨by rfl, ?hy⟩) T0 ?_
          case hy =>
            intro X hX
            go_simp
          try simp only [Act.put, List.getElem_toArray, List.getElem_cons_zero, List.getElem_cons_succ, List.setIfInBounds_toArray, List.set_cons_zero, List.set_cons_succ]
          refine wpAnyG_take [6, 7, 8, 9, 12, 13] (i := 6) (v := (.int .i64 lb)) rfl (by kernel_rfl) (by kernel_rfl) (by kernel_rfl) (by kernel_rfl) (by kernel_rfl) (by kernel_rfl) (by kernel_rfl) (by kernel_rfl) (fun _ _ _ h => h) (Or.inl ⟨by rfl, ?hy⟩) T0 ?_
          case hy =>
            intro X hX
            go_simp
          try simp only [Act.put, List.getElem_toArray, List.getElem_cons_zero, List.getElem_cons_succ, List.setIfInBounds_toArray, List.set_cons_zero, List.set_cons_succ]
          refine wpAnyG_take [7, 8, 9, 12, 13] (i := 7) (v := (.pointer (some ⟨ge, lb * 2, none⟩))) rfl (by kernel_rfl) (by kernel_rfl) (by kernel_rfl) (by kernel_rfl) (by kernel_rfl) (by kernel_rfl) (by kernel_rfl) (by kernel_rfl) (fun _ _ _ h => h) (Or.inl ⟨by rfl, ?hy⟩) T0 ?_
          case hy =>
            intro X hX
            go_simp
          try simp only [Act.put, List.getElem_toArray, List.getElem_cons_zero, List.getElem_cons_succ, List.setIfInBounds_toArray, List.set_cons_zero, List.set_cons_succ]
          refine wpAnyG_take [8, 9, 12, 13] (i := 8) (v := (.pointer (some ⟨ge, lb * 2 + 1, none⟩))) rfl (by kernel_rfl) (by kernel_rfl) (by kernel_rfl) (by kernel_rfl) (by kernel_rfl) (by kernel_rfl) (by kernel_rfl) (by kernel_rfl) (fun _ _ _ h => h) (Or.inl ⟨by rfl, ?hy⟩) T0 ?_
          case hy =>
            intro X hX
            go_simp
          try simp only [Act.put, List.getElem_toArray, List.getElem_cons_zero, List.getElem_cons_succ, List.setIfInBounds_toArray, List.set_cons_zero, List.set_cons_succ]
          refine wpAnyG_take [9, 12, 13] (i := 9) (v := (.int .i64 t)) rfl (by kernel_rfl) (by kernel_rfl) (by kernel_rfl) (by kernel_rfl) (by kernel_rfl) (by kernel_rfl) (by kernel_rfl) (by kernel_rfl) (fun _ _ _ h => h) (Or.inl ⟨by rfl, ?hy⟩) T0 ?_
          case hy =>
            intro X hX
            have e0 := at_below ec hX
            go_simp
          try simp only [Act.put, List.getElem_toArray, List.getElem_cons_zero, List.getElem_cons_succ, List.setIfInBounds_toArray, List.set_cons_zero, List.set_cons_succ]
          refine wpAnyG_take [10, 11, 12, 13] (i := 10) (v := (.pointer (some ⟨N, 0, none⟩))) rfl (by kernel_rfl) (by kernel_rfl) (by kernel_rfl) (by kernel_rfl) (by kernel_rfl) (by kernel_rfl) (by kernel_rfl) (by kernel_rfl) (fun _ _ _ h => h) (Or.inl ⟨by rfl, ?hy⟩) T0 ?_
          case hy =>
            intro X hX
            go_simp
          try simp only [Act.put, List.getElem_toArray, List.getElem_cons_zero, List.getElem_cons_succ, List.setIfInBounds_toArray, List.set_cons_zero, List.set_cons_succ]
          refine wpAnyG_take [11, 12, 13] (i := 11) (v := (.int .i64 qb)) rfl (by kernel_rfl) (by kernel_rfl) (by kernel_rfl) (by kernel_rfl) (by kernel_rfl) (by kernel_rfl) (by kernel_rfl) (by kernel_rfl) (fun _ _ _ h => h) (Or.inl ⟨by rfl, ?hy⟩) T0 ?_
          case hy =>
            intro X hX
            have e0 := at_below e0 hX
            go_simp
          try simp only [Act.put, List.getElem_toArray, List.getElem_cons_zero, List.getElem_cons_succ, List.setIfInBounds_toArray, List.set_cons_zero, List.set_cons_succ]
          refine wpAnyG_take [12, 13] (i := 12) (v := (.bool false)) rfl (by kernel_rfl) (by kernel_rfl) (by kernel_rfl) (by kernel_rfl) (by kernel_rfl) (by kernel_rfl) (by kernel_rfl) (by kernel_rfl) (fun _ _ _ h => h) (Or.inl ⟨by rfl, ?hy⟩) T0 ?_
          case hy =>
            intro X hX
            go_simp
          try simp only [Act.put, List.getElem_toArray, List.getElem_cons_zero, List.getElem_cons_succ, List.setIfInBounds_toArray, List.set_cons_zero, List.set_cons_succ]
          refine wpAnyG_take [13] (i := 13) (v := (.bool false)) rfl (by kernel_rfl) (by kernel_rfl) (by kernel_rfl) (by kernel_rfl) (by kernel_rfl) (by kernel_rfl) (by kernel_rfl) (by kernel_rfl) (fun _ _ _ h => h) (Or.inl ⟨by rfl, ?hy⟩) T0 ?_
          case hy =>
            intro X hX
            go_simp
          try simp only [Act.put, List.getElem_toArray, List.getElem_cons_zero, List.getElem_cons_succ, List.setIfInBounds_toArray, List.set_cons_zero, List.set_cons_succ]
          refine wpAnyG_done (by kernel_rfl) ?_ _
          refine NoPanic.normal ?_
          have n6 := m6.below' T0
          have hNM : N ≤ M.heap.size := Nat.le_of_lt m6.lt
          have nB := mB.trans (T0.mono hNM)
          have no := own_below mo T0
          clear T0 m6 mB mo e0 ec
          have n6c := n6.cell
          have n6f := n6.frozen
          have n6l := n6.lt
          have p6 := n6
          have pB := nB
          have po := no
          go_wp2_with (at_builtin; refine wpList_append_own _ rfl _ _ 51 rfl (N + 1) 28 i0 (.agg #[.int .i64 0, .int .i64 0, .int .i64 0, .int .i64 0, .int .i64 0]) 5 40 Try.underlying51 hi hz0 hz1 hz2 rfl (by decide) (.slice o qk c) _ _ rfl (po.alloc _) ⟨M0.heap.size, 0, none⟩ 1 1 [.int .i64 qb, .int .i64 qk, .int .i64 qu, .int .i64 lb, .int .i64 cb] rfl rfl (World.news_of_block (cs := #[.int .i64 qb, .int .i64 qk, .int .i64 qu, .int .i64 lb, .int .i64 cb]) (t := 28) (fr := (0, 0)) (by have := World.alloc_heap_new M0 (.cells #[.int .i64 qb, .int .i64 qk, .int .i64 qu, .int .i64 lb, .int .i64 cb] 28); exact this)) (fun x hx => by simp at hx; rcases hx with rfl | rfl | rfl | rfl | rfl <;> rfl) (by unfold maxLen; omega) (by omega) (by simp; omega) ?_; intro v' X' hown' hgrow _; obtain ⟨o', c', rfl, _⟩ := own_slice hown'; have k4 := (p6.alloc (.cells #[.int .i64 qb, .int .i64 qk, .int .i64 qu, .int .i64 lb, .int .i64 cb] 28)).kept hgrow (fun e' => by have := (po.lt N e'.symm).1; omega); have kB := (pB.alloc (Nat.le_of_lt p6.lt) (.cells #[.int .i64 qb, .int .i64 qk, .int .i64 qu, .int .i64 lb, .int .i64 cb] 28)).grown hgrow (by simp; omega) (fun j hj => by have := (po.lt j hj).1; omega); have k4c := k4.cell; have k4f := k4.frozen; have k4l := k4.lt)
          have s6 := (k4.set 1 (.int .i64 ((qk : Int) + 1))).set 4 (.int .i64 ((cb : Int) + 1))
          simp only [List.setIfInBounds_toArray, List.set_cons_zero, List.set_cons_succ] at s6
          have sB := (kB.setCell (p := ⟨N, 1, none⟩) (Nat.le_refl _) (.int .i64 ((qk : Int) + 1))).setCell (p := ⟨N, 4, none⟩) (Nat.le_refl _) (.int .i64 ((cb : Int) + 1))
          have so := hown'.kept (grownBy_setCell X' N 1 (.int .i64 ((qk : Int) + 1))) (.inr (fun e => by have := (hown'.lt N e).1; omega))
          replace so := so.kept (grownBy_setCell _ N 4 (.int .i64 ((cb : Int) + 1))) (.inr (fun e => by have := (so.lt N e).1; omega))
          obtain ⟨R, hR⟩ : ∃ R, ((X'.setCell ⟨N, 1, none⟩ (.int .i64 ((qk : Int) + 1))).setCell ⟨N, 4, none⟩ (.int .i64 ((cb : Int) + 1))) = R := ⟨_, rfl⟩
          rw [hR] at s6 sB so ⊢
          clear hR k4 kB k4c k4f k4l hown' hgrow n6 nB no n6c n6f n6l p6 pB po
          obtain ⟨gq, e9, _, r0, r1, r2⟩ := HPC.out R (by rw [hNN]; exact sB) qk (by rw [HN.out]; exact hkn)
          obtain rfl : gp = gq := by simpa using e9
          rw [HQ.out] at r0 r1 r2
          clear e9
          obtain ⟨wq, hwq⟩ : ∃ x, wd s qb = x := ⟨_, rfl⟩
          obtain ⟨rq, hrq⟩ : ∃ x, rn s qb = x := ⟨_, rfl⟩
          simp only at r0 r1 r2
          rw [hwq] at r1
          rw [hrq] at r2
          have hun : un s qb = (if 65535 < rq then 2 else 1) := by rw [← hrq]; rfl
          have hul := un_le s qb
          obtain ⟨uu, huu⟩ : ∃ x, un s qb = x := ⟨_, rfl⟩
          have cU := fun W => units_any qb wq rq W
          rw [← hun, huu] at cU
          have HU := Lib.hid huu
          rw [huu] at hul
          clear hwq hrq hun huu
          have w9 : IntKind.i64.wrap ((qu : Int) + (uu : Int)) = (qu : Int) + (uu : Int) := IntWalk.i64_in _ (by omega)
          refine wp_region_noPanic ?_
          refine wp_region_g (S := untilG [9] (fun X => Below R.heap.size R X)) (by kernel_rfl) ?_
          obtain ⟨R0, hR0⟩ : ∃ X, R.drew = X := ⟨_, rfl⟩
          have T0 : Below R.heap.size R R0 := hR0 ▸ (Below.refl R.heap.size R).drew
          rw [hR0]
          clear hR0
          have e2 := s6.cell 2
          simp only [List.getElem?_toArray, List.getElem?_cons_succ, List.getElem?_cons_zero] at e2
          have i5 : (0 : Int) ≤ (qk : Int) := by omega
          have i6 : (qk : Int) < (n : Int) := by omega
          refine wpAnyG_take [0, 1, 7] (i := 0) (v := (.pointer (some ⟨N, 2, none⟩))) rfl (by kernel_rfl) (by kernel_rfl) (by kernel_rfl) (by kernel_rfl) (by kernel_rfl) (by kernel_rfl) (by kernel_rfl) (by kernel_rfl) (fun _ _ _ h => h) (Or.inl ⟨by rfl, ?hy⟩) T0 ?_
          case hy =>
            intro X hX
            go_simp
          try simp only [Act.put, List.getElem_toArray, List.getElem_cons_zero, List.getElem_cons_succ, List.setIfInBounds_toArray, List.set_cons_zero, List.set_cons_succ]
          refine wpAnyG_take [1, 7] (i := 1) (v := (.int .i64 qu)) rfl (by kernel_rfl) (by kernel_rfl) (by kernel_rfl) (by kernel_rfl) (by kernel_rfl) (by kernel_rfl) (by kernel_rfl) (by kernel_rfl) (fun _ _ _ h => h) (Or.inl ⟨by rfl, ?hy⟩) T0 ?_
          case hy =>
            intro X hX
            have e0 := at_below e2 hX
            go_simp
          try simp only [Act.put, List.getElem_toArray, List.getElem_cons_zero, List.getElem_cons_succ, List.setIfInBounds_toArray, List.set_cons_zero, List.set_cons_succ]
          refine wpAnyG_take [2, 4, 5, 6, 7] (i := 2) (v := (.slice (some ⟨gp, 0, none⟩) n cp)) rfl (by kernel_rfl) (by kernel_rfl) (by kernel_rfl) (by kernel_rfl) (by kernel_rfl) (by kernel_rfl) (by kernel_rfl) (by kernel_rfl) (fun _ _ _ h => h) (Or.inl ⟨by rfl, ?hy⟩) T0 ?_
          case hy =>
            intro X hX
            go_simp
          try simp only [Act.put, List.getElem_toArray, List.getElem_cons_zero, List.getElem_cons_succ, List.setIfInBounds_toArray, List.set_cons_zero, List.set_cons_succ]
          refine wpAnyG_take [3, 4, 5, 6, 7] (i := 3) (v := (.int .i64 qk)) rfl (by kernel_rfl) (by kernel_rfl) (by kernel_rfl) (by kernel_rfl) (by kernel_rfl) (by kernel_rfl) (by kernel_rfl) (by kernel_rfl) (fun _ _ _ h => h) (Or.inl ⟨by rfl, ?hy⟩) T0 ?_
          case hy =>
            intro X hX
            go_simp
          try simp only [Act.put, List.getElem_toArray, List.getElem_cons_zero, List.getElem_cons_succ, List.setIfInBounds_toArray, List.set_cons_zero, List.set_cons_succ]
          refine wpAnyG_take [4, 5, 6, 7] (i := 4) (v := (.pointer (some ⟨gp, qk * 3, none⟩))) rfl (by kernel_rfl) (by kernel_rfl) (by kernel_rfl) (by kernel_rfl) (by kernel_rfl) (by kernel_rfl) (by kernel_rfl) (by kernel_rfl) (fun _ _ _ h => h) (Or.inl ⟨by rfl, ?hy⟩) T0 ?_
          case hy =>
            intro X hX
            go_simp
          try simp only [Act.put, List.getElem_toArray, List.getElem_cons_zero, List.getElem_cons_succ, List.setIfInBounds_toArray, List.set_cons_zero, List.set_cons_succ]
          refine wpAnyG_take [5, 6, 7] (i := 5) (v := (.agg #[.int .i64 qb, .int .i64 wq, .int .i32 rq])) rfl (by kernel_rfl) (by kernel_rfl) (by kernel_rfl) (by kernel_rfl) (by kernel_rfl) (by kernel_rfl) (by kernel_rfl) (by kernel_rfl) (fun _ _ _ h => h) (Or.inl ⟨by rfl, ?hy⟩) T0 ?_
          case hy =>
            intro X hX
            have e0 := at_below r0 hX
            have e1 := at_below r1 hX
            have e2 := at_below r2 hX
            go_simp
          try simp only [Act.put, List.getElem_toArray, List.getElem_cons_zero, List.getElem_cons_succ, List.setIfInBounds_toArray, List.set_cons_zero, List.set_cons_succ]
          refine wpAnyG_all (rs := [6]) (by kernel_rfl) (by simp) ?_
          intro i hi
          simp only [List.mem_cons, List.not_mem_nil, or_false] at hi
          subst hi
          refine wpOp_open rfl (by rfl) ?_
          go_simp
          refine (cU _).mono ?_
          rintro e R1 ⟨rfl, hb9⟩
          replace T0 := T0.trans (hb9.mono T0.size)
          refine ⟨fun _ => T0, ?_⟩
          try simp only [Act.put, List.getElem_toArray, List.getElem_cons_zero, List.getElem_cons_succ, List.setIfInBounds_toArray, List.set_cons_zero, List.set_cons_succ]
          refine wpAnyG_take [7] (i := 7) (v := (.int .i64 ((qu : Int) + (uu : Int)))) rfl (by kernel_rfl) (by kernel_rfl) (by kernel_rfl) (by kernel_rfl) (by kernel_rfl) (by kernel_rfl) (by kernel_rfl) (by kernel_rfl) (fun _ _ _ h => h) (Or.inl ⟨by rfl, ?hy⟩) T0 ?_
          case hy =>
            intro X hX
            go_simp
          try simp only [Act.put, List.getElem_toArray, List.getElem_cons_zero, List.getElem_cons_succ, List.setIfInBounds_toArray, List.set_cons_zero, List.set_cons_succ]
          refine wpAnyG_take [8] (i := 8) (v := (.pointer (some ⟨N, 2, none⟩))) rfl (by kernel_rfl) (by kernel_rfl) (by kernel_rfl) (by kernel_rfl) (by kernel_rfl) (by kernel_rfl) (by kernel_rfl) (by kernel_rfl) (fun _ _ _ h => h) (Or.inl ⟨by rfl, ?hy⟩) T0 ?_
          case hy =>
            intro X hX
            go_simp
          try simp only [Act.put, List.getElem_toArray, List.getElem_cons_zero, List.getElem_cons_succ, List.setIfInBounds_toArray, List.set_cons_zero, List.set_cons_succ]
          have z6 := s6.below' T0
          have z6c := z6.cell
          have z6f := z6.frozen
          have z6l := z6.lt
          refine wpAnyG_all (rs := [9]) (by kernel_rfl) (by simp) ?_
          intro i hi
          simp only [List.mem_cons, List.not_mem_nil, or_false] at hi
          subst hi
          refine wpOp_now rfl rfl ?_
          go_simp
          refine ⟨fun h => (nomatch (show (false : Bool) = true from h)), ?_⟩
          refine wpAnyG_done (by kernel_rfl) ?_ _
          refine NoPanic.normal ?_
          have z7 := z6.set 2 (.int .i64 ((qu : Int) + (uu : Int)))
          simp only [List.setIfInBounds_toArray, List.set_cons_zero, List.set_cons_succ] at z7
          have hNR : N ≤ R.heap.size := Nat.le_of_lt s6.lt
          have zB := (sB.trans (T0.mono hNR)).setCell (p := ⟨N, 2, none⟩) (Nat.le_refl _) (.int .i64 ((qu : Int) + (uu : Int)))
          have zo := own_below so T0
          replace zo := zo.kept (grownBy_setCell R1 N 2 (.int .i64 ((qu : Int) + (uu : Int)))) (.inr (fun e => by have := (zo.lt N e).1; omega))
          clear z6 z6c z6f s6 sB so T0 r0 r1 r2 e2 cU
          obtain ⟨Z, hZ⟩ : ∃ Z, R1.setCell ⟨N, 2, none⟩ (.int .i64 ((qu : Int) + (uu : Int))) = Z := ⟨_, rfl⟩
          rw [hZ] at z7 zB zo ⊢
          clear hZ
          go_wp2
          go_roundw
          case rel =>
            obtain ⟨x1, x2, x3⟩ := HNX.out hkn
            rw [HU.out] at x1
            refine ⟨qk + 1, qb, by first | rfl | go_num, by rw [HN.out]; omega, by simp [x2], by rw [HPS.out]; simpa using zo, fun _ => ?_, zB⟩
            rw [x1, x2, x3]
            simpa using z7
          case measure => simp [intOf]; omega
        · obtain rfl := h2.symm
          obtain rfl := h3.symm
          have i1 : decide ((lb : Int) < (E : Int)) = false := decide_eq_false (by omega)
          have i1n : ¬ lb < E := by omega
          clear hec
          have w0 : IntKind.i64.wrap ((lb : Int) + 1) = (lb : Int) + 1 := IntWalk.i64_in _ (by omega)
          have w1 : IntKind.i64.wrap ((qk : Int) + 1) = (qk : Int) + 1 := IntWalk.i64_in _ (by omega)
          have w2' : IntKind.i64.wrap ((cb : Int) + 1) = (cb : Int) + 1 := IntWalk.i64_in _ (by omega)
          go_wp2
          have m6 := (hblk.set 0 (.int .i64 s.size)).set 0 (.int .i64 qb)
          have mB := (hB.setCell (p := ⟨N, 0, none⟩) (Nat.le_refl _) (.int .i64 s.size)).setCell (p := ⟨N, 0, none⟩) (Nat.le_refl _) (.int .i64 qb)
          have mo := (hown.kept (grownBy_setCell wr N 0 (.int .i64 s.size)) (.inr (fun e => by have := (hown.lt N e).1; omega)))
          replace mo := (mo.kept (grownBy_setCell _ N 0 (.int .i64 qb)) (.inr (fun e => by have := (mo.lt N e).1; omega)))
          simp only [List.setIfInBounds_toArray, List.set_cons_zero, List.set_cons_succ] at m6
          obtain ⟨M, hM⟩ : ∃ M, ((wr.setCell ⟨N, 0, none⟩ (.int .i64 s.size)).setCell ⟨N, 0, none⟩ (.int .i64 qb)) = M := ⟨_, rfl⟩
          rw [hM] at m6 mB mo ⊢
          clear hM hown hblk hB k1 k2 k3
          refine wp_region_noPanic ?_
          refine wp_region_g (S := untilG [] (fun X => Below M.heap.size M X)) (by kernel_rfl) ?_
          obtain ⟨M0, hM0⟩ : ∃ X, M.drew = X := ⟨_, rfl⟩
          have T0 : Below M.heap.size M M0 := hM0 ▸ (Below.refl M.heap.size M).drew
          rw [hM0]
          clear hM0
          have e0 := m6.cell 0
          simp only [List.getElem?_toArray, List.getElem?_cons_zero] at e0
          refine wpAnyG_take [0, 3, 4, 5, 6, 7, 8, 9, 10, 11, 12, 13] (i := 0) (v := (.int .i64 lb)) rfl (by kernel_rfl) (by kernel_rfl) (by kernel_rfl) (by kernel_rfl) (by kernel_rfl) (by kernel_rfl) (by kernel_rfl) (by kernel_rfl) (fun _ _ _ h => h) (Or.inl ⟨by rfl, ?hy⟩) T0 ?_
          case hy =>
            intro X hX
            go_simp
          try simp only [Act.put, List.getElem_toArray, List.getElem_cons_zero, List.getElem_cons_succ, List.setIfInBounds_toArray, List.set_cons_zero, List.set_cons_succ]
          refine wpAnyG_take [1, 2, 3, 4, 5, 6, 7, 8, 9, 10, 11, 12, 13] (i := 1) (v := (.slice oe E ce)) rfl (by kernel_rfl) (by kernel_rfl) (by kernel_rfl) (by kernel_rfl) (by kernel_rfl) (by kernel_rfl) (by kernel_rfl) (by kernel_rfl) (fun _ _ _ h => h) (Or.inl ⟨by rfl, ?hy⟩) T0 ?_
          case hy =>
            intro X hX
            go_simp
          try simp only [Act.put, List.getElem_toArray, List.getElem_cons_zero, List.getElem_cons_succ, List.setIfInBounds_toArray, List.set_cons_zero, List.set_cons_succ]
          refine wpAnyG_take [2, 3, 4, 5, 6, 7, 8, 9, 10, 11, 12, 13] (i := 2) (v := (.int .i64 E)) rfl (by kernel_rfl) (by kernel_rfl) (by kernel_rfl) (by kernel_rfl) (by kernel_rfl) (by kernel_rfl) (by kernel_rfl) (by kernel_rfl) (fun _ _ _ h => h) (Or.inl ⟨by rfl, ?hy⟩) T0 ?_
          case hy =>
            intro X hX
            go_simp
          try simp only [Act.put, List.getElem_toArray, List.getElem_cons_zero, List.getElem_cons_succ, List.setIfInBounds_toArray, List.set_cons_zero, List.set_cons_succ]
          refine wpAnyG_take [3, 4, 5, 6, 7, 8, 9, 10, 11, 12, 13] (i := 3) (v := (.bool false)) rfl (by kernel_rfl) (by kernel_rfl) (by kernel_rfl) (by kernel_rfl) (by kernel_rfl) (by kernel_rfl) (by kernel_rfl) (by kernel_rfl) (fun _ _ _ h => h) (Or.inl ⟨by rfl, ?hy⟩) T0 ?_
          case hy =>
            intro X hX
            go_simp
          try simp only [Act.put, List.getElem_toArray, List.getElem_cons_zero, List.getElem_cons_succ, List.setIfInBounds_toArray, List.set_cons_zero, List.set_cons_succ]
          refine wpAnyG_take [4, 5, 6, 7, 8, 9, 10, 11, 12, 13] (i := 4) (v := (.bool false)) rfl (by kernel_rfl) (by kernel_rfl) (by kernel_rfl) (by kernel_rfl) (by kernel_rfl) (by kernel_rfl) (by kernel_rfl) (by kernel_rfl) (fun _ _ _ h => h) (Or.inl ⟨by rfl, ?hy⟩) T0 ?_
          case hy =>
            intro X hX
            go_simp
          try simp only [Act.put, List.getElem_toArray, List.getElem_cons_zero, List.getElem_cons_succ, List.setIfInBounds_toArray, List.set_cons_zero, List.set_cons_succ]
          refine wpAnyG_take [5, 7, 8, 9, 12, 13] (i := 5) (v := undef) rfl (by kernel_rfl) (by kernel_rfl) (by kernel_rfl) (by kernel_rfl) (by kernel_rfl) (by kernel_rfl) (by kernel_rfl) (by kernel_rfl) (fun _ _ _ h => h) (Or.inr ⟨by rfl, rfl⟩) T0 ?_
          try simp only [Act.put, List.getElem_toArray, List.getElem_cons_zero, List.getElem_cons_succ, List.setIfInBounds_toArray, List.set_cons_zero, List.set_cons_succ]
          refine wpAnyG_take [6, 7, 8, 9, 12, 13] (i := 6) (v := undef) rfl (by kernel_rfl) (by kernel_rfl) (by kernel_rfl) (by kernel_rfl) (by kernel_rfl) (by kernel_rfl) (by kernel_rfl) (by kernel_rfl) (fun _ _ _ h => h) (Or.inr ⟨by rfl, rfl⟩) T0 ?_
          try simp only [Act.put, List.getElem_toArray, List.getElem_cons_zero, List.getElem_cons_succ, List.setIfInBounds_toArray, List.set_cons_zero, List.set_cons_succ]
          refine wpAnyG_take [7, 8, 9, 12, 13] (i := 7) (v := undef) rfl (by kernel_rfl) (by kernel_rfl) (by kernel_rfl) (by kernel_rfl) (by kernel_rfl) (by kernel_rfl) (by kernel_rfl) (by kernel_rfl) (fun _ _ _ h => h) (Or.inr ⟨by rfl, rfl⟩) T0 ?_
          try simp only [Act.put, List.getElem_toArray, List.getElem_cons_zero, List.getElem_cons_succ, List.setIfInBounds_toArray, List.set_cons_zero, List.set_cons_succ]
          refine wpAnyG_take [8, 9, 12, 13] (i := 8) (v := undef) rfl (by kernel_rfl) (by kernel_rfl) (by kernel_rfl) (by kernel_rfl) (by kernel_rfl) (by kernel_rfl) (by kernel_rfl) (by kernel_rfl) (fun _ _ _ h => h) (Or.inr ⟨by rfl, rfl⟩) T0 ?_
          try simp only [Act.put, List.getElem_toArray, List.getElem_cons_zero, List.getElem_cons_succ, List.setIfInBounds_toArray, List.set_cons_zero, List.set_cons_succ]
          refine wpAnyG_take [9, 12, 13] (i := 9) (v := undef) rfl (by kernel_rfl) (by kernel_rfl) (by kernel_rfl) (by kernel_rfl) (by kernel_rfl) (by kernel_rfl) (by kernel_rfl) (by kernel_rfl) (fun _ _ _ h => h) (Or.inr ⟨by rfl, rfl⟩) T0 ?_
          try simp only [Act.put, List.getElem_toArray, List.getElem_cons_zero, List.getElem_cons_succ, List.setIfInBounds_toArray, List.set_cons_zero, List.set_cons_succ]
          refine wpAnyG_take [10, 11, 12, 13] (i := 10) (v := undef) rfl (by kernel_rfl) (by kernel_rfl) (by kernel_rfl) (by kernel_rfl) (by kernel_rfl) (by kernel_rfl) (by kernel_rfl) (by kernel_rfl) (fun _ _ _ h => h) (Or.inr ⟨by rfl, rfl⟩) T0 ?_
          try simp only [Act.put, List.getElem_toArray, List.getElem_cons_zero, List.getElem_cons_succ, List.setIfInBounds_toArray, List.set_cons_zero, List.set_cons_succ]
          refine wpAnyG_take [11, 12, 13] (i := 11) (v := undef) rfl (by kernel_rfl) (by kernel_rfl) (by kernel_rfl) (by kernel_rfl) (by kernel_rfl) (by kernel_rfl) (by kernel_rfl) (by kernel_rfl) (fun _ _ _ h => h) (Or.inr ⟨by rfl, rfl⟩) T0 ?_
          try simp only [Act.put, List.getElem_toArray, List.getElem_cons_zero, List.getElem_cons_succ, List.setIfInBounds_toArray, List.set_cons_zero, List.set_cons_succ]
          refine wpAnyG_take [12, 13] (i := 12) (v := undef) rfl (by kernel_rfl) (by kernel_rfl) (by kernel_rfl) (by kernel_rfl) (by kernel_rfl) (by kernel_rfl) (by kernel_rfl) (by kernel_rfl) (fun _ _ _ h => h) (Or.inr ⟨by rfl, rfl⟩) T0 ?_
          try simp only [Act.put, List.getElem_toArray, List.getElem_cons_zero, List.getElem_cons_succ, List.setIfInBounds_toArray, List.set_cons_zero, List.set_cons_succ]
          refine wpAnyG_take [13] (i := 13) (v := (.bool false)) rfl (by kernel_rfl) (by kernel_rfl) (by kernel_rfl) (by kernel_rfl) (by kernel_rfl) (by kernel_rfl) (by kernel_rfl) (by kernel_rfl) (fun _ _ _ h => h) (Or.inl ⟨by rfl, ?hy⟩) T0 ?_
          case hy =>
            intro X hX
            go_simp
          try simp only [Act.put, List.getElem_toArray, List.getElem_cons_zero, List.getElem_cons_succ, List.setIfInBounds_toArray, List.set_cons_zero, List.set_cons_succ]
          refine wpAnyG_done (by kernel_rfl) ?_ _
          refine NoPanic.normal ?_
          have n6 := m6.below' T0
          have hNM : N ≤ M.heap.size := Nat.le_of_lt m6.lt
          have nB := mB.trans (T0.mono hNM)
          have no := own_below mo T0
          clear T0 m6 mB mo e0
          have n6c := n6.cell
          have n6f := n6.frozen
          have n6l := n6.lt
          have p6 := n6
          have pB := nB
          have po := no
          go_wp2_with (at_builtin; refine wpList_append_own _ rfl _ _ 51 rfl (N + 1) 28 i0 (.agg #[.int .i64 0, .int .i64 0, .int .i64 0, .int .i64 0, .int .i64 0]) 5 40 Try.underlying51 hi hz0 hz1 hz2 rfl (by decide) (.slice o qk c) _ _ rfl (po.alloc _) ⟨M0.heap.size, 0, none⟩ 1 1 [.int .i64 qb, .int .i64 qk, .int .i64 qu, .int .i64 lb, .int .i64 cb] rfl rfl (World.news_of_block (cs := #[.int .i64 qb, .int .i64 qk, .int .i64 qu, .int .i64 lb, .int .i64 cb]) (t := 28) (fr := (0, 0)) (by have := World.alloc_heap_new M0 (.cells #[.int .i64 qb, .int .i64 qk, .int .i64 qu, .int .i64 lb, .int .i64 cb] 28); exact this)) (fun x hx => by simp at hx; rcases hx with rfl | rfl | rfl | rfl | rfl <;> rfl) (by unfold maxLen; omega) (by omega) (by simp; omega) ?_; intro v' X' hown' hgrow _; obtain ⟨o', c', rfl, _⟩ := own_slice hown'; have k4 := (p6.alloc (.cells #[.int .i64 qb, .int .i64 qk, .int .i64 qu, .int .i64 lb, .int .i64 cb] 28)).kept hgrow (fun e' => by have := (po.lt N e'.symm).1; omega); have kB := (pB.alloc (Nat.le_of_lt p6.lt) (.cells #[.int .i64 qb, .int .i64 qk, .int .i64 qu, .int .i64 lb, .int .i64 cb] 28)).grown hgrow (by simp; omega) (fun j hj => by have := (po.lt j hj).1; omega); have k4c := k4.cell; have k4f := k4.frozen; have k4l := k4.lt)
          have s6 := (k4.set 1 (.int .i64 ((qk : Int) + 1))).set 4 (.int .i64 ((cb : Int) + 1))
          simp only [List.setIfInBounds_toArray, List.set_cons_zero, List.set_cons_succ] at s6
          have sB := (kB.setCell (p := ⟨N, 1, none⟩) (Nat.le_refl _) (.int .i64 ((qk : Int) + 1))).setCell (p := ⟨N, 4, none⟩) (Nat.le_refl _) (.int .i64 ((cb : Int) + 1))
          have so := hown'.kept (grownBy_setCell X' N 1 (.int .i64 ((qk : Int) + 1))) (.inr (fun e => by have := (hown'.lt N e).1; omega))
          replace so := so.kept (grownBy_setCell _ N 4 (.int .i64 ((cb : Int) + 1))) (.inr (fun e => by have := (so.lt N e).1; omega))
          obtain ⟨R, hR⟩ : ∃ R, ((X'.setCell ⟨N, 1, none⟩ (.int .i64 ((qk : Int) + 1))).setCell ⟨N, 4, none⟩ (.int .i64 ((cb : Int) + 1))) = R := ⟨_, rfl⟩
          rw [hR] at s6 sB so ⊢
          clear hR k4 kB k4c k4f k4l hown' hgrow n6 nB no n6c n6f n6l p6 pB po
          obtain ⟨gq, e9, _, r0, r1, r2⟩ := HPC.out R (by rw [hNN]; exact sB) qk (by rw [HN.out]; exact hkn)
          obtain rfl : gp = gq := by simpa using e9
          rw [HQ.out] at r0 r1 r2
          clear e9
          obtain ⟨wq, hwq⟩ : ∃ x, wd s qb = x := ⟨_, rfl⟩
          obtain ⟨rq, hrq⟩ : ∃ x, rn s qb = x := ⟨_, rfl⟩
          simp only at r0 r1 r2
          rw [hwq] at r1
          rw [hrq] at r2
          have hun : un s qb = (if 65535 < rq then 2 else 1) := by rw [← hrq]; rfl
          have hul := un_le s qb
          obtain ⟨uu, huu⟩ : ∃ x, un s qb = x := ⟨_, rfl⟩
          have cU := fun W => units_any qb wq rq W
          rw [← hun, huu] at cU
          have HU := Lib.hid huu
          rw [huu] at hul
          clear hwq hrq hun huu
          have w9 : IntKind.i64.wrap ((qu : Int) + (uu : Int)) = (qu : Int) + (uu : Int) := IntWalk.i64_in _ (by omega)
          refine wp_region_noPanic ?_
          refine wp_region_g (S := untilG [9] (fun X => Below R.heap.size R X)) (by kernel_rfl) ?_
          obtain ⟨R0, hR0⟩ : ∃ X, R.drew = X := ⟨_, rfl⟩
          have T0 : Below R.heap.size R R0 := hR0 ▸ (Below.refl R.heap.size R).drew
          rw [hR0]
          clear hR0
          have e2 := s6.cell 2
          simp only [List.getElem?_toArray, List.getElem?_cons_succ, List.getElem?_cons_zero] at e2
          have i5 : (0 : Int) ≤ (qk : Int) := by omega
          have i6 : (qk : Int) < (n : Int) := by omega
          refine wpAnyG_take [0, 1, 7] (i := 0) (v := (.pointer (some ⟨N, 2, none⟩))) rfl (by kernel_rfl) (by kernel_rfl) (by kernel_rfl) (by kernel_rfl) (by kernel_rfl) (by kernel_rfl) (by kernel_rfl) (by kernel_rfl) (fun _ _ _ h => h) (Or.inl ⟨by rfl, ?hy⟩) T0 ?_
          case hy =>
            intro X hX
            go_simp
          try simp only [Act.put, List.getElem_toArray, List.getElem_cons_zero, List.getElem_cons_succ, List.setIfInBounds_toArray, List.set_cons_zero, List.set_cons_succ]
          refine wpAnyG_take [1, 7] (i := 1) (v := (.int .i64 qu)) rfl (by kernel_rfl) (by kernel_rfl) (by kernel_rfl) (by kernel_rfl) (by kernel_rfl) (by kernel_rfl) (by kernel_rfl) (by kernel_rfl) (fun _ _ _ h => h) (Or.inl ⟨by rfl, ?hy⟩) T0 ?_
          case hy =>
            intro X hX
            have e0 := at_below e2 hX
            go_simp
          try simp only [Act.put, List.getElem_toArray, List.getElem_cons_zero, List.getElem_cons_succ, List.setIfInBounds_toArray, List.set_cons_zero, List.set_cons_succ]
          refine wpAnyG_take [2, 4, 5, 6, 7] (i := 2) (v := (.slice (some ⟨gp, 0, none⟩) n cp)) rfl (by kernel_rfl) (by kernel_rfl) (by kernel_rfl) (by kernel_rfl) (by kernel_rfl) (by kernel_rfl) (by kernel_rfl) (by kernel_rfl) (fun _ _ _ h => h) (Or.inl ⟨by rfl, ?hy⟩) T0 ?_
          case hy =>
            intro X hX
            go_simp
          try simp only [Act.put, List.getElem_toArray, List.getElem_cons_zero, List.getElem_cons_succ, List.setIfInBounds_toArray, List.set_cons_zero, List.set_cons_succ]
          refine wpAnyG_take [3, 4, 5, 6, 7] (i := 3) (v := (.int .i64 qk)) rfl (by kernel_rfl) (by kernel_rfl) (by kernel_rfl) (by kernel_rfl) (by kernel_rfl) (by kernel_rfl) (by kernel_rfl) (by kernel_rfl) (fun _ _ _ h => h) (Or.inl ⟨by rfl, ?hy⟩) T0 ?_
          case hy =>
            intro X hX
            go_simp
          try simp only [Act.put, List.getElem_toArray, List.getElem_cons_zero, List.getElem_cons_succ, List.setIfInBounds_toArray, List.set_cons_zero, List.set_cons_succ]
          refine wpAnyG_take [4, 5, 6, 7] (i := 4) (v := (.pointer (some ⟨gp, qk * 3, none⟩))) rfl (by kernel_rfl) (by kernel_rfl) (by kernel_rfl) (by kernel_rfl) (by kernel_rfl) (by kernel_rfl) (by kernel_rfl) (by kernel_rfl) (fun _ _ _ h => h) (Or.inl ⟨by rfl, ?hy⟩) T0 ?_
          case hy =>
            intro X hX
            go_simp
          try simp only [Act.put, List.getElem_toArray, List.getElem_cons_zero, List.getElem_cons_succ, List.setIfInBounds_toArray, List.set_cons_zero, List.set_cons_succ]
          refine wpAnyG_take [5, 6, 7] (i := 5) (v := (.agg #[.int .i64 qb, .int .i64 wq, .int .i32 rq])) rfl (by kernel_rfl) (by kernel_rfl) (by kernel_rfl) (by kernel_rfl) (by kernel_rfl) (by kernel_rfl) (by kernel_rfl) (by kernel_rfl) (fun _ _ _ h => h) (Or.inl ⟨by rfl, ?hy⟩) T0 ?_
          case hy =>
            intro X hX
            have e0 := at_below r0 hX
            have e1 := at_below r1 hX
            have e2 := at_below r2 hX
            go_simp
          try simp only [Act.put, List.getElem_toArray, List.getElem_cons_zero, List.getElem_cons_succ, List.setIfInBounds_toArray, List.set_cons_zero, List.set_cons_succ]
          refine wpAnyG_all (rs := [6]) (by kernel_rfl) (by simp) ?_
          intro i hi
          simp only [List.mem_cons, List.not_mem_nil, or_false] at hi
          subst hi
          refine wpOp_open rfl (by rfl) ?_
          go_simp
          refine (cU _).mono ?_
          rintro e R1 ⟨rfl, hb9⟩
          replace T0 := T0.trans (hb9.mono T0.size)
          refine ⟨fun _ => T0, ?_⟩
          try simp only [Act.put, List.getElem_toArray, List.getElem_cons_zero, List.getElem_cons_succ, List.setIfInBounds_toArray, List.set_cons_zero, List.set_cons_succ]
          refine wpAnyG_take [7] (i := 7) (v := (.int .i64 ((qu : Int) + (uu : Int)))) rfl (by kernel_rfl) (by kernel_rfl) (by kernel_rfl) (by kernel_rfl) (by kernel_rfl) (by kernel_rfl) (by kernel_rfl) (by kernel_rfl) (fun _ _ _ h => h) (Or.inl ⟨by rfl, ?hy⟩) T0 ?_
          case hy =>
            intro X hX
            go_simp
          try simp only [Act.put, List.getElem_toArray, List.getElem_cons_zero, List.getElem_cons_succ, List.setIfInBounds_toArray, List.set_cons_zero, List.set_cons_succ]
          refine wpAnyG_take [8] (i := 8) (v := (.pointer (some ⟨N, 2, none⟩))) rfl (by kernel_rfl) (by kernel_rfl) (by kernel_rfl) (by kernel_rfl) (by kernel_rfl) (by kernel_rfl) (by kernel_rfl) (by kernel_rfl) (fun _ _ _ h => h) (Or.inl ⟨by rfl, ?hy⟩) T0 ?_
          case hy =>
            intro X hX
            go_simp
          try simp only [Act.put, List.getElem_toArray, List.getElem_cons_zero, List.getElem_cons_succ, List.setIfInBounds_toArray, List.set_cons_zero, List.set_cons_succ]
          have z6 := s6.below' T0
          have z6c := z6.cell
          have z6f := z6.frozen
          have z6l := z6.lt
          refine wpAnyG_all (rs := [9]) (by kernel_rfl) (by simp) ?_
          intro i hi
          simp only [List.mem_cons, List.not_mem_nil, or_false] at hi
          subst hi
          refine wpOp_now rfl rfl ?_
          go_simp
          refine ⟨fun h => (nomatch (show (false : Bool) = true from h)), ?_⟩
          refine wpAnyG_done (by kernel_rfl) ?_ _
          refine NoPanic.normal ?_
          have z7 := z6.set 2 (.int .i64 ((qu : Int) + (uu : Int)))
          simp only [List.setIfInBounds_toArray, List.set_cons_zero, List.set_cons_succ] at z7
          have hNR : N ≤ R.heap.size := Nat.le_of_lt s6.lt
          have zB := (sB.trans (T0.mono hNR)).setCell (p := ⟨N, 2, none⟩) (Nat.le_refl _) (.int .i64 ((qu : Int) + (uu : Int)))
          have zo := own_below so T0
          replace zo := zo.kept (grownBy_setCell R1 N 2 (.int .i64 ((qu : Int) + (uu : Int)))) (.inr (fun e => by have := (zo.lt N e).1; omega))
          clear z6 z6c z6f s6 sB so T0 r0 r1 r2 e2 cU
          obtain ⟨Z, hZ⟩ : ∃ Z, R1.setCell ⟨N, 2, none⟩ (.int .i64 ((qu : Int) + (uu : Int))) = Z := ⟨_, rfl⟩
          rw [hZ] at z7 zB zo ⊢
          clear hZ
          go_wp2
          go_roundw
          case rel =>
            obtain ⟨x1, x2, x3⟩ := HNX.out hkn
            rw [HU.out] at x1
            refine ⟨qk + 1, qb, by first | rfl | go_num, by rw [HN.out]; omega, by simp [x2], by rw [HPS.out]; simpa using zo, fun _ => ?_, zB⟩
            rw [x1, x2, x3]
            simpa using z7
          case measure => simp [intOf]; omega
      · have hqe : qk = n := by omega
        have hqb := hend hqe
        have HQE := Lib.hid hqe
        clear hend hpc
        subst hqb
        have k1 := hblk.cell
        have k2 := hblk.frozen
        have k3 := hblk.lt
        have hkn2 : ¬ (qk : Int) < (n : Int) := by omega
        have hkn3 : decide ((qk : Int) < (n : Int)) = false := decide_eq_false hkn2
        have hkn4 : ¬ qk < n := by omega
        clear hqe
        rcases hcase with ⟨f, h1, h2, h3⟩ | ⟨h2, h3, ⟨f, t, h1, h4⟩ | h1⟩
        · subst h2 h3
          obtain ⟨ge, rfl, gel, ec⟩ := hec f s.size h1
          have gen : ge ≠ N := by omega
          have i1 : decide ((lb : Int) < (E : Int)) = true := decide_eq_true (by have := (List.getElem?_eq_some_iff.1 h1).1; rw [HE.out] at this; omega)
          have i1n : lb < E := by have := (List.getElem?_eq_some_iff.1 h1).1; rw [HE.out] at this; exact this
          clear hec
          have w0 : IntKind.i64.wrap ((lb : Int) + 1) = (lb : Int) + 1 := IntWalk.i64_in _ (by omega)
          have w1 : IntKind.i64.wrap ((qk : Int) + 1) = (qk : Int) + 1 := IntWalk.i64_in _ (by omega)
          have w2' : IntKind.i64.wrap ((cb : Int) + 1) = (cb : Int) + 1 := IntWalk.i64_in _ (by omega)
          go_wp2
          have m6 := hblk.set 0 (.int .i64 s.size)
          have mB := hB.setCell (p := ⟨N, 0, none⟩) (Nat.le_refl _) (.int .i64 s.size)
          have mo := (hown.kept (grownBy_setCell wr N 0 (.int .i64 s.size)) (.inr (fun e => by have := (hown.lt N e).1; omega)))
          simp only [List.setIfInBounds_toArray, List.set_cons_zero, List.set_cons_succ] at m6
          replace ec : World.cell? (wr.setCell ⟨N, 0, none⟩ (.int .i64 s.size)) ⟨ge, lb * 2 + 1, none⟩ = some (.int .i64 s.size) := (World.cell?_of_block (w := wr) (Below.heap_setCell _ _ _ _ (by dsimp only; omega))).trans ec
          obtain ⟨M, hM⟩ : ∃ M, (wr.setCell ⟨N, 0, none⟩ (.int .i64 s.size)) = M := ⟨_, rfl⟩
          rw [hM] at m6 mB mo ec ⊢
          clear hM hown hblk hB k1 k2 k3
          refine wp_region_noPanic ?_
          refine wp_region_g (S := untilG [] (fun X => Below M.heap.size M X)) (by kernel_rfl) ?_
          obtain ⟨M0, hM0⟩ : ∃ X, M.drew = X := ⟨_, rfl⟩
          have T0 : Below M.heap.size M M0 := hM0 ▸ (Below.refl M.heap.size M).drew
          rw [hM0]
          clear hM0
          have e0 := m6.cell 0
          simp only [List.getElem?_toArray, List.getElem?_cons_zero] at e0
          refine wpAnyG_take [0, 3, 4, 5, 6, 7, 8, 9, 10, 11, 12, 13] (i := 0) (v := (.int .i64 lb)) rfl (by kernel_rfl) (by kernel_rfl) (by kernel_rfl) (by kernel_rfl) (by kernel_rfl) (by kernel_rfl) (by kernel_rfl) (by kernel_rfl) (fun _ _ _ h => h) (Or.inl ⟨by rfl, ?hy⟩) T0 ?_
          case hy =>
            intro X hX
            go_simp
          try simp only [Act.put, List.getElem_toArray, List.getElem_cons_zero, List.getElem_cons_succ, List.setIfInBounds_toArray, List.set_cons_zero, List.set_cons_succ]
          refine wpAnyG_take [1, 2, 3, 4, 5, 6, 7, 8, 9, 10, 11, 12, 13] (i := 1) (v := (.slice (some ⟨ge, 0, none⟩) E ce)) rfl (by kernel_rfl) (by kernel_rfl) (by kernel_rfl) (by kernel_rfl) (by kernel_rfl) (by kernel_rfl) (by kernel_rfl) (by kernel_rfl) (fun _ _ _ h => h) (Or.inl ⟨by rfl, ?hy⟩) T0 ?_
          case hy =>
            intro X hX
            go_simp
          try simp only [Act.put, List.getElem_toArray, List.getElem_cons_zero, List.getElem_cons_succ, List.setIfInBounds_toArray, List.set_cons_zero, List.set_cons_succ]
          refine wpAnyG_take [2, 3, 4, 5, 6, 7, 8, 9, 10, 11, 12, 13] (i := 2) (v := (.int .i64 E)) rfl (by kernel_rfl) (by kernel_rfl) (by kernel_rfl) (by kernel_rfl) (by kernel_rfl) (by kernel_rfl) (by kernel_rfl) (by kernel_rfl) (fun _ _ _ h => h) (Or.inl ⟨by rfl, ?hy⟩) T0 ?_
          case hy =>
            intro X hX
            go_simp
          try simp only [Act.put, List.getElem_toArray, List.getElem_cons_zero, List.getElem_cons_succ, List.setIfInBounds_toArray, List.set_cons_zero, List.set_cons_succ]
          refine wpAnyG_take [3, 4, 5, 6, 7, 8, 9, 10, 11, 12, 13] (i := 3) (v := (.bool true)) rfl (by kernel_rfl) (by kernel_rfl) (by kernel_rfl) (by kernel_rfl) (by kernel_rfl) (by kernel_rfl) (by kernel_rfl) (by kernel_rfl) (fun _ _ _ h => h) (Or.inl ⟨by rfl, ?hy⟩) T0 ?_
          case hy =>
            intro X hX
            go_simp
          try simp only [Act.put, List.getElem_toArray, List.getElem_cons_zero, List.getElem_cons_succ, List.setIfInBounds_toArray, List.set_cons_zero, List.set_cons_succ]
          refine wpAnyG_take [4, 5, 6, 7, 8, 9, 10, 11, 12, 13] (i := 4) (v := (.bool true)) rfl (by kernel_rfl) (by kernel_rfl) (by kernel_rfl) (by kernel_rfl) (by kernel_rfl) (by kernel_rfl) (by kernel_rfl) (by kernel_rfl) (fun _ _ _ h => h) (Or.inl ⟨by rfl, ?hy⟩) T0 ?_
          case hy =>
            intro X hX
            go_simp
          try simp only [Act.put, List.getElem_toArray, List.getElem_cons_zero, List.getElem_cons_succ, List.setIfInBounds_toArray, List.set_cons_zero, List.set_cons_succ]
          refine wpAnyG_take [5, 7, 8, 9, 12, 13] (i := 5) (v := (.slice (some ⟨ge, 0, none⟩) E ce)) rfl (by kernel_rfl) (by kernel_rfl) (by kernel_rfl) (by kernel_rfl) (by kernel_rfl) (by kernel_rfl) (by kernel_rfl) (by kernel_rfl) (fun _ _ _ h => h) (Or.inl ⟨by rfl, ?hy⟩) T0 ?_
          case hy =>
            intro X hX
            go_simp
          try simp only [Act.put, List.getElem_toArray, List.getElem_cons_zero, List.getElem_cons_succ, List.setIfInBounds_toArray, List.set_cons_zero, List.set_cons_succ]
          refine wpAnyG_take [6, 7, 8, 9, 12, 13] (i := 6) (v := (.int .i64 lb)) rfl (by kernel_rfl) (by kernel_rfl) (by kernel_rfl) (by kernel_rfl) (by kernel_rfl) (by kernel_rfl) (by kernel_rfl) (by kernel_rfl) (fun _ _ _ h => h) (Or.inl ⟨by rfl, ?hy⟩) T0 ?_
          case hy =>
            intro X hX
            go_simp
          try simp only [Act.put, List.getElem_toArray, List.getElem_cons_zero, List.getElem_cons_succ, List.setIfInBounds_toArray, List.set_cons_zero, List.set_cons_succ]
          refine wpAnyG_take [7, 8, 9, 12, 13] (i := 7) (v := (.pointer (some ⟨ge, lb * 2, none⟩))) rfl (by kernel_rfl) (by kernel_rfl) (by kernel_rfl) (by kernel_rfl) (by kernel_rfl) (by kernel_rfl) (by kernel_rfl) (by kernel_rfl) (fun _ _ _ h => h) (Or.inl ⟨by rfl, ?hy⟩) T0 ?_
          case hy =>
            intro X hX
            go_simp
          try simp only [Act.put, List.getElem_toArray, List.getElem_cons_zero, List.getElem_cons_succ, List.setIfInBounds_toArray, List.set_cons_zero, List.set_cons_succ]
          refine wpAnyG_take [8, 9, 12, 13] (i := 8) (v := (.pointer (some ⟨ge, lb * 2 + 1, none⟩))) rfl (by kernel_rfl) (by kernel_rfl) (by kernel_rfl) (by kernel_rfl) (by kernel_rfl) (by kernel_rfl) (by kernel_rfl) (by kernel_rfl) (fun _ _ _ h => h) (Or.inl ⟨by rfl, ?hy⟩) T0 ?_
          case hy =>
            intro X hX
            go_simp
          try simp only [Act.put, List.getElem_toArray, List.getElem_cons_zero, List.getElem_cons_succ, List.setIfInBounds_toArray, List.set_cons_zero, List.set_cons_succ]
          refine wpAnyG_take [9, 12, 13] (i := 9) (v := (.int .i64 s.size)) rfl (by kernel_rfl) (by kernel_rfl) (by kernel_rfl) (by kernel_rfl) (by kernel_rfl) (by kernel_rfl) (by kernel_rfl) (by kernel_rfl) (fun _ _ _ h => h) (Or.inl ⟨by rfl, ?hy⟩) T0 ?_
          case hy =>
            intro X hX
            have e0 := at_below ec hX
            go_simp
          try simp only [Act.put, List.getElem_toArray, List.getElem_cons_zero, List.getElem_cons_succ, List.setIfInBounds_toArray, List.set_cons_zero, List.set_cons_succ]
          refine wpAnyG_take [10, 11, 12, 13] (i := 10) (v := (.pointer (some ⟨N, 0, none⟩))) rfl (by kernel_rfl) (by kernel_rfl) (by kernel_rfl) (by kernel_rfl) (by kernel_rfl) (by kernel_rfl) (by kernel_rfl) (by kernel_rfl) (fun _ _ _ h => h) (Or.inl ⟨by rfl, ?hy⟩) T0 ?_
          case hy =>
            intro X hX
            go_simp
          try simp only [Act.put, List.getElem_toArray, List.getElem_cons_zero, List.getElem_cons_succ, List.setIfInBounds_toArray, List.set_cons_zero, List.set_cons_succ]
          refine wpAnyG_take [11, 12, 13] (i := 11) (v := (.int .i64 s.size)) rfl (by kernel_rfl) (by kernel_rfl) (by kernel_rfl) (by kernel_rfl) (by kernel_rfl) (by kernel_rfl) (by kernel_rfl) (by kernel_rfl) (fun _ _ _ h => h) (Or.inl ⟨by rfl, ?hy⟩) T0 ?_
          case hy =>
            intro X hX
            have e0 := at_below e0 hX
            go_simp
          try simp only [Act.put, List.getElem_toArray, List.getElem_cons_zero, List.getElem_cons_succ, List.setIfInBounds_toArray, List.set_cons_zero, List.set_cons_succ]
          refine wpAnyG_take [12, 13] (i := 12) (v := (.bool true)) rfl (by kernel_rfl) (by kernel_rfl) (by kernel_rfl) (by kernel_rfl) (by kernel_rfl) (by kernel_rfl) (by kernel_rfl) (by kernel_rfl) (fun _ _ _ h => h) (Or.inl ⟨by rfl, ?hy⟩) T0 ?_
          case hy =>
            intro X hX
            go_simp
          try simp only [Act.put, List.getElem_toArray, List.getElem_cons_zero, List.getElem_cons_succ, List.setIfInBounds_toArray, List.set_cons_zero, List.set_cons_succ]
          refine wpAnyG_take [13] (i := 13) (v := (.bool true)) rfl (by kernel_rfl) (by kernel_rfl) (by kernel_rfl) (by kernel_rfl) (by kernel_rfl) (by kernel_rfl) (by kernel_rfl) (by kernel_rfl) (fun _ _ _ h => h) (Or.inl ⟨by rfl, ?hy⟩) T0 ?_
          case hy =>
            intro X hX
            go_simp
          try simp only [Act.put, List.getElem_toArray, List.getElem_cons_zero, List.getElem_cons_succ, List.setIfInBounds_toArray, List.set_cons_zero, List.set_cons_succ]
          refine wpAnyG_done (by kernel_rfl) ?_ _
          refine NoPanic.normal ?_
          have n6 := m6.below' T0
          have hNM : N ≤ M.heap.size := Nat.le_of_lt m6.lt
          have nB := mB.trans (T0.mono hNM)
          have no := own_below mo T0
          clear T0 m6 mB mo e0 ec
          have n6c := n6.cell
          have n6f := n6.frozen
          have n6l := n6.lt
          have p6 := (n6.set 3 (.int .i64 ((lb : Int) + 1))).set 4 (.int .i64 0)
          simp only [List.setIfInBounds_toArray, List.set_cons_zero, List.set_cons_succ] at p6
          have pB := (nB.setCell (p := ⟨N, 3, none⟩) (Nat.le_refl _) (.int .i64 ((lb : Int) + 1))).setCell (p := ⟨N, 4, none⟩) (Nat.le_refl _) (.int .i64 0)
          have po := no.kept (grownBy_setCell M0 N 3 (.int .i64 ((lb : Int) + 1))) (.inr (fun e => by have := (no.lt N e).1; omega))
          replace po := po.kept (grownBy_setCell _ N 4 (.int .i64 0)) (.inr (fun e => by have := (po.lt N e).1; omega))
          go_wp2_with (at_builtin; refine wpList_append_own _ rfl _ _ 51 rfl (N + 1) 28 i0 (.agg #[.int .i64 0, .int .i64 0, .int .i64 0, .int .i64 0, .int .i64 0]) 5 40 Try.underlying51 hi hz0 hz1 hz2 rfl (by decide) (.slice o qk c) _ _ rfl (po.alloc _) ⟨M0.heap.size, 0, none⟩ 1 1 [.int .i64 s.size, .int .i64 qk, .int .i64 qu, .int .i64 ((lb : Int) + 1), .int .i64 0] rfl rfl (World.news_of_block (cs := #[.int .i64 s.size, .int .i64 qk, .int .i64 qu, .int .i64 ((lb : Int) + 1), .int .i64 0]) (t := 28) (fr := (0, 0)) (by have := World.alloc_heap_new ((M0.setCell ⟨N, 3, none⟩ (.int .i64 ((lb : Int) + 1))).setCell ⟨N, 4, none⟩ (.int .i64 0)) (.cells #[.int .i64 s.size, .int .i64 qk, .int .i64 qu, .int .i64 ((lb : Int) + 1), .int .i64 0] 28); rw [show ((M0.setCell ⟨N, 3, none⟩ (.int .i64 ((lb : Int) + 1))).setCell ⟨N, 4, none⟩ (.int .i64 0)).heap.size = M0.heap.size by simp] at this; exact this)) (fun x hx => by simp at hx; rcases hx with rfl | rfl | rfl | rfl | rfl <;> rfl) (by unfold maxLen; omega) (by omega) (by simp; omega) ?_; intro v' X' hown' hgrow _; obtain ⟨o', c', rfl, _⟩ := own_slice hown'; have k4 := (p6.alloc (.cells #[.int .i64 s.size, .int .i64 qk, .int .i64 qu, .int .i64 ((lb : Int) + 1), .int .i64 0] 28)).kept hgrow (fun e' => by have := (po.lt N e'.symm).1; omega); have kB := (pB.alloc (Nat.le_of_lt p6.lt) (.cells #[.int .i64 s.size, .int .i64 qk, .int .i64 qu, .int .i64 ((lb : Int) + 1), .int .i64 0] 28)).grown hgrow (by simp; omega) (fun j hj => by have := (po.lt j hj).1; omega); have k4c := k4.cell; have k4f := k4.frozen; have k4l := k4.lt)
          go_roundw
          case rel =>
            refine ⟨qk + 1, s.size, by first | rfl | go_num, by rw [HN.out]; omega, ?_, by rw [HPS.out]; simpa using hown', ?_, kB⟩
            · simp [show lnB s (qk + 1) = (pK s qk).l from rfl, HQ.out]
            · intro h9; exfalso; rw [HN.out] at h9; have := HQE.out; omega
          case measure => have := HQE.out; simp [intOf]; omega
        · obtain rfl := h2.symm
          obtain rfl := h3.symm
          obtain ⟨ge, rfl, gel, ec⟩ := hec f t h1
          have gen : ge ≠ N := by omega
          have i1 : decide ((lb : Int) < (E : Int)) = true := decide_eq_true (by have := (List.getElem?_eq_some_iff.1 h1).1; rw [HE.out] at this; omega)
          have i1n : lb < E := by have := (List.getElem?_eq_some_iff.1 h1).1; rw [HE.out] at this; exact this
          have i2 : ((t : Int) == (s.size : Int)) = false := by rw [beq_eq_false_iff_ne]; omega
          clear hec
          have w0 : IntKind.i64.wrap ((lb : Int) + 1) = (lb : Int) + 1 := IntWalk.i64_in _ (by omega)
          have w1 : IntKind.i64.wrap ((qk : Int) + 1) = (qk : Int) + 1 := IntWalk.i64_in _ (by omega)
          have w2' : IntKind.i64.wrap ((cb : Int) + 1) = (cb : Int) + 1 := IntWalk.i64_in _ (by omega)
          go_wp2
          have m6 := hblk.set 0 (.int .i64 s.size)
          have mB := hB.setCell (p := ⟨N, 0, none⟩) (Nat.le_refl _) (.int .i64 s.size)
          have mo := (hown.kept (grownBy_setCell wr N 0 (.int .i64 s.size)) (.inr (fun e => by have := (hown.lt N e).1; omega)))
          simp only [List.setIfInBounds_toArray, List.set_cons_zero, List.set_cons_succ] at m6
          replace ec : World.cell? (wr.setCell ⟨N, 0, none⟩ (.int .i64 s.size)) ⟨ge, lb * 2 + 1, none⟩ = some (.int .i64 t) := (World.cell?_of_block (w := wr) (Below.heap_setCell _ _ _ _ (by dsimp only; omega))).trans ec
          obtain ⟨M, hM⟩ : ∃ M, (wr.setCell ⟨N, 0, none⟩ (.int .i64 s.size)) = M := ⟨_, rfl⟩
          rw [hM] at m6 mB mo ec ⊢
          clear hM hown hblk hB k1 k2 k3
          refine wp_region_noPanic ?_
          refine wp_region_g (S := untilG [] (fun X => Below M.heap.size M X)) (by kernel_rfl) ?_
          obtain ⟨M0, hM0⟩ : ∃ X, M.drew = X := ⟨_, rfl⟩
          have T0 : Below M.heap.size M M0 := hM0 ▸ (Below.refl M.heap.size M).drew
          rw [hM0]
          clear hM0
          have e0 := m6.cell 0
          simp only [List.getElem?_toArray, List.getElem?_cons_zero] at e0
          refine wpAnyG_take [0, 3, 4, 5, 6, 7, 8, 9, 10, 11, 12, 13] (i := 0) (v := (.int .i64 lb)) rfl (by kernel_rfl) (by kernel_rfl) (by kernel_rfl) (by kernel_rfl) (by kernel_rfl) (by kernel_rfl) (by kernel_rfl) (by kernel_rfl) (fun _ _ _ h => h) (Or.inl ⟨by rfl, ?hy⟩) T0 ?_
          case hy =>
            intro X hX
            go_simp
          try simp only [Act.put, List.getElem_toArray, List.getElem_cons_zero, List.getElem_cons_succ, List.setIfInBounds_toArray, List.set_cons_zero, List.set_cons_succ]
          refine wpAnyG_take [1, 2, 3, 4, 5, 6, 7, 8, 9, 10, 11, 12, 13] (i := 1) (v := (.slice (some ⟨ge, 0, none⟩) E ce)) rfl (by kernel_rfl) (by kernel_rfl) (by kernel_rfl) (by kernel_rfl) (by kernel_rfl) (by kernel_rfl) (by kernel_rfl) (by kernel_rfl) (fun _ _ _ h => h) (Or.inl ⟨by rfl, ?hy⟩) T0 ?_
          case hy =>
            intro X hX
            go_simp
          try simp only [Act.put, List.getElem_toArray, List.getElem_cons_zero, List.getElem_cons_succ, List.setIfInBounds_toArray, List.set_cons_zero, List.set_cons_succ]
          refine wpAnyG_take [2, 3, 4, 5, 6, 7, 8, 9, 10, 11, 12, 13] (i := 2) (v := (.int .i64 E)) rfl (by kernel_rfl) (by kernel_rfl) (by kernel_rfl) (by kernel_rfl) (by kernel_rfl) (by kernel_rfl) (by kernel_rfl) (by kernel_rfl) (fun _ _ _ h => h) (Or.inl ⟨by rfl, ?hy⟩) T0 ?_
          case hy =>
            intro X hX
            go_simp
          try simp only [Act.put, List.getElem_toArray, List.getElem_cons_zero, List.getElem_cons_succ, List.setIfInBounds_toArray, List.set_cons_zero, List.set_cons_succ]
          refine wpAnyG_take [3, 4, 5, 6, 7, 8, 9, 10, 11, 12, 13] (i := 3) (v := (.bool true)) rfl (by kernel_rfl) (by kernel_rfl) (by kernel_rfl) (by kernel_rfl) (by kernel_rfl) (by kernel_rfl) (by kernel_rfl) (by kernel_rfl) (fun _ _ _ h => h) (Or.inl ⟨by rfl, ?hy⟩) T0 ?_
          case hy =>
            intro X hX
            go_simp
          try simp only [Act.put, List.getElem_toArray, List.getElem_cons_zero, List.getElem_cons_succ, List.setIfInBounds_toArray, List.set_cons_zero, List.set_cons_succ]
          refine wpAnyG_take [4, 5, 6, 7, 8, 9, 10, 11, 12, 13] (i := 4) (v := (.bool true)) rfl (by kernel_rfl) (by kernel_rfl) (by kernel_rfl) (by kernel_rfl) (by kernel_rfl) (by kernel_rfl) (by kernel_rfl) (by kernel_rfl) (fun _ _ _ h => h) (Or.inl ⟨by rfl, ?hy⟩) T0 ?_
          case hy =>
            intro X hX
            go_simp
          try simp only [Act.put, List.getElem_toArray, List.getElem_cons_zero, List.getElem_cons_succ, List.setIfInBounds_toArray, List.set_cons_zero, List.set_cons_succ]
          refine wpAnyG_take [5, 7, 8, 9, 12, 13] (i := 5) (v := (.slice (some ⟨ge, 0, none⟩) E ce)) rfl (by kernel_rfl) (by kernel_rfl) (by kernel_rfl) (by kernel_rfl) (by kernel_rfl) (by kernel_rfl) (by kernel_rfl) (by kernel_rfl) (fun _ _ _ h => h) (Or.inl ⟨by rfl, ?hy⟩) T0 ?_
          case hy =>
            intro X hX
            go_simp
          try simp only [Act.put, List.getElem_toArray, List.getElem_cons_zero, List.getElem_cons_succ, List.setIfInBounds_toArray, List.set_cons_zero, List.set_cons_succ]
          refine wpAnyG_take [6, 7, 8, 9, 12, 13] (i := 6) (v := (.int .i64 lb)) rfl (by kernel_rfl) (by kernel_rfl) (by kernel_rfl) (by kernel_rfl) (by kernel_rfl) (by kernel_rfl) (by kernel_rfl) (by kernel_rfl) (fun _ _ _ h => h) (Or.inl ⟨by rfl, ?hy⟩) T0 ?_
          case hy =>
            intro X hX
            go_simp
          try simp only [Act.put, List.getElem_toArray, List.getElem_cons_zero, List.getElem_cons_succ, List.setIfInBounds_toArray, List.set_cons_zero, List.set_cons_succ]
          refine wpAnyG_take [7, 8, 9, 12, 13] (i := 7) (v := (.pointer (some ⟨ge, lb * 2, none⟩))) rfl (by kernel_rfl) (by kernel_rfl) (by kernel_rfl) (by kernel_rfl) (by kernel_rfl) (by kernel_rfl) (by kernel_rfl) (by kernel_rfl) (fun _ _ _ h => h) (Or.inl ⟨by rfl, ?hy⟩) T0 ?_
          case hy =>
            intro X hX
            go_simp
          try simp only [Act.put, List.getElem_toArray, List.getElem_cons_zero, List.getElem_cons_succ, List.setIfInBounds_toArray, List.set_cons_zero, List.set_cons_succ]
          refine wpAnyG_take [8, 9, 12, 13] (i := 8) (v := (.pointer (some ⟨ge, lb * 2 + 1, none⟩))) rfl (by kernel_rfl) (by kernel_rfl) (by kernel_rfl) (by kernel_rfl) (by kernel_rfl) (by kernel_rfl) (by kernel_rfl) (by kernel_rfl) (fun _ _ _ h => h) (Or.inl ⟨by rfl, ?hy⟩) T0 ?_
          case hy =>
            intro X hX
            go_simp
          try simp only [Act.put, List.getElem_toArray, List.getElem_cons_zero, List.getElem_cons_succ, List.setIfInBounds_toArray, List.set_cons_zero, List.set_cons_succ]
          refine wpAnyG_take [9, 12, 13] (i := 9) (v := (.int .i64 t)) rfl (by kernel_rfl) (by kernel_rfl) (by kernel_rfl) (by kernel_rfl) (by kernel_rfl) (by kernel_rfl) (by kernel_rfl) (by kernel_rfl) (fun _ _ _ h => h) (Or.inl ⟨by rfl, ?hy⟩) T0 ?_
          case hy =>
            intro X hX
            have e0 := at_below ec hX
            go_simp
          try simp only [Act.put, List.getElem_toArray, List.getElem_cons_zero, List.getElem_cons_succ, List.setIfInBounds_toArray, List.set_cons_zero, List.set_cons_succ]
          refine wpAnyG_take [10, 11, 12, 13] (i := 10) (v := (.pointer (some ⟨N, 0, none⟩))) rfl (by kernel_rfl) (by kernel_rfl) (by kernel_rfl) (by kernel_rfl) (by kernel_rfl) (by kernel_rfl) (by kernel_rfl) (by kernel_rfl) (fun _ _ _ h => h) (Or.inl ⟨by rfl, ?hy⟩) T0 ?_
          case hy =>
            intro X hX
            go_simp
          try simp only [Act.put, List.getElem_toArray, List.getElem_cons_zero, List.getElem_cons_succ, List.setIfInBounds_toArray, List.set_cons_zero, List.set_cons_succ]
          refine wpAnyG_take [11, 12, 13] (i := 11) (v := (.int .i64 s.size)) rfl (by kernel_rfl) (by kernel_rfl) (by kernel_rfl) (by kernel_rfl) (by kernel_rfl) (by kernel_rfl) (by kernel_rfl) (by kernel_rfl) (fun _ _ _ h => h) (Or.inl ⟨by rfl, ?hy⟩) T0 ?_
          case hy =>
            intro X hX
            have e0 := at_below e0 hX
            go_simp
          try simp only [Act.put, List.getElem_toArray, List.getElem_cons_zero, List.getElem_cons_succ, List.setIfInBounds_toArray, List.set_cons_zero, List.set_cons_succ]
          refine wpAnyG_take [12, 13] (i := 12) (v := (.bool false)) rfl (by kernel_rfl) (by kernel_rfl) (by kernel_rfl) (by kernel_rfl) (by kernel_rfl) (by kernel_rfl) (by kernel_rfl) (by kernel_rfl) (fun _ _ _ h => h) (Or.inl ⟨by rfl, ?hy⟩) T0 ?_
          case hy =>
            intro X hX
            go_simp
          try simp only [Act.put, List.getElem_toArray, List.getElem_cons_zero, List.getElem_cons_succ, List.setIfInBounds_toArray, List.set_cons_zero, List.set_cons_succ]
          refine wpAnyG_take [13] (i := 13) (v := (.bool false)) rfl (by kernel_rfl) (by kernel_rfl) (by kernel_rfl) (by kernel_rfl) (by kernel_rfl) (by kernel_rfl) (by kernel_rfl) (by kernel_rfl) (fun _ _ _ h => h) (Or.inl ⟨by rfl, ?hy⟩) T0 ?_
          case hy =>
            intro X hX
            go_simp
          try simp only [Act.put, List.getElem_toArray, List.getElem_cons_zero, List.getElem_cons_succ, List.setIfInBounds_toArray, List.set_cons_zero, List.set_cons_succ]
          refine wpAnyG_done (by kernel_rfl) ?_ _
          refine NoPanic.normal ?_
          have n6 := m6.below' T0
          have hNM : N ≤ M.heap.size := Nat.le_of_lt m6.lt
          have nB := mB.trans (T0.mono hNM)
          have no := own_below mo T0
          clear T0 m6 mB mo e0 ec
          have n6c := n6.cell
          have n6f := n6.frozen
          have n6l := n6.lt
          have p6 := n6
          have pB := nB
          have po := no
          go_wp2_with (at_builtin; refine wpList_append_own _ rfl _ _ 51 rfl (N + 1) 28 i0 (.agg #[.int .i64 0, .int .i64 0, .int .i64 0, .int .i64 0, .int .i64 0]) 5 40 Try.underlying51 hi hz0 hz1 hz2 rfl (by decide) (.slice o qk c) _ _ rfl (po.alloc _) ⟨M0.heap.size, 0, none⟩ 1 1 [.int .i64 s.size, .int .i64 qk, .int .i64 qu, .int .i64 lb, .int .i64 cb] rfl rfl (World.news_of_block (cs := #[.int .i64 s.size, .int .i64 qk, .int .i64 qu, .int .i64 lb, .int .i64 cb]) (t := 28) (fr := (0, 0)) (by have := World.alloc_heap_new M0 (.cells #[.int .i64 s.size, .int .i64 qk, .int .i64 qu, .int .i64 lb, .int .i64 cb] 28); exact this)) (fun x hx => by simp at hx; rcases hx with rfl | rfl | rfl | rfl | rfl <;> rfl) (by unfold maxLen; omega) (by omega) (by simp; omega) ?_; intro v' X' hown' hgrow _; obtain ⟨o', c', rfl, _⟩ := own_slice hown'; have k4 := (p6.alloc (.cells #[.int .i64 s.size, .int .i64 qk, .int .i64 qu, .int .i64 lb, .int .i64 cb] 28)).kept hgrow (fun e' => by have := (po.lt N e'.symm).1; omega); have kB := (pB.alloc (Nat.le_of_lt p6.lt) (.cells #[.int .i64 s.size, .int .i64 qk, .int .i64 qu, .int .i64 lb, .int .i64 cb] 28)).grown hgrow (by simp; omega) (fun j hj => by have := (po.lt j hj).1; omega); have k4c := k4.cell; have k4f := k4.frozen; have k4l := k4.lt)
          go_roundw
          case rel =>
            refine ⟨qk + 1, s.size, by first | rfl | go_num, by rw [HN.out]; omega, ?_, by rw [HPS.out]; simpa using hown', ?_, kB⟩
            · simp [show lnB s (qk + 1) = (pK s qk).l from rfl, HQ.out]
            · intro h9; exfalso; rw [HN.out] at h9; have := HQE.out; omega
          case measure => have := HQE.out; simp [intOf]; omega
        · obtain rfl := h2.symm
          obtain rfl := h3.symm
          have i1 : decide ((lb : Int) < (E : Int)) = false := decide_eq_false (by omega)
          have i1n : ¬ lb < E := by omega
          clear hec
          have w0 : IntKind.i64.wrap ((lb : Int) + 1) = (lb : Int) + 1 := IntWalk.i64_in _ (by omega)
          have w1 : IntKind.i64.wrap ((qk : Int) + 1) = (qk : Int) + 1 := IntWalk.i64_in _ (by omega)
          have w2' : IntKind.i64.wrap ((cb : Int) + 1) = (cb : Int) + 1 := IntWalk.i64_in _ (by omega)
          go_wp2
          have m6 := hblk.set 0 (.int .i64 s.size)
          have mB := hB.setCell (p := ⟨N, 0, none⟩) (Nat.le_refl _) (.int .i64 s.size)
          have mo := (hown.kept (grownBy_setCell wr N 0 (.int .i64 s.size)) (.inr (fun e => by have := (hown.lt N e).1; omega)))
          simp only [List.setIfInBounds_toArray, List.set_cons_zero, List.set_cons_succ] at m6
          obtain ⟨M, hM⟩ : ∃ M, (wr.setCell ⟨N, 0, none⟩ (.int .i64 s.size)) = M := ⟨_, rfl⟩
          rw [hM] at m6 mB mo ⊢
          clear hM hown hblk hB k1 k2 k3
          refine wp_region_noPanic ?_
          refine wp_region_g (S := untilG [] (fun X => Below M.heap.size M X)) (by kernel_rfl) ?_
          obtain ⟨M0, hM0⟩ : ∃ X, M.drew = X := ⟨_, rfl⟩
          have T0 : Below M.heap.size M M0 := hM0 ▸ (Below.refl M.heap.size M).drew
          rw [hM0]
          clear hM0
          have e0 := m6.cell 0
          simp only [List.getElem?_toArray, List.getElem?_cons_zero] at e0
          refine wpAnyG_take [0, 3, 4, 5, 6, 7, 8, 9, 10, 11, 12, 13] (i := 0) (v := (.int .i64 lb)) rfl (by kernel_rfl) (by kernel_rfl) (by kernel_rfl) (by kernel_rfl) (by kernel_rfl) (by kernel_rfl) (by kernel_rfl) (by kernel_rfl) (fun _ _ _ h => h) (Or.inl ⟨by rfl, ?hy⟩) T0 ?_
          case hy =>
            intro X hX
            go_simp
          try simp only [Act.put, List.getElem_toArray, List.getElem_cons_zero, List.getElem_cons_succ, List.setIfInBounds_toArray, List.set_cons_zero, List.set_cons_succ]
          refine wpAnyG_take [1, 2, 3, 4, 5, 6, 7, 8, 9, 10, 11, 12, 13] (i := 1) (v := (.slice oe E ce)) rfl (by kernel_rfl) (by kernel_rfl) (by kernel_rfl) (by kernel_rfl) (by kernel_rfl) (by kernel_rfl) (by kernel_rfl) (by kernel_rfl) (fun _ _ _ h => h) (Or.inl ⟨by rfl, ?hy⟩) T0 ?_
          case hy =>
            intro X hX
            go_simp
          try simp only [Act.put, List.getElem_toArray, List.getElem_cons_zero, List.getElem_cons_succ, List.setIfInBounds_toArray, List.set_cons_zero, List.set_cons_succ]
          refine wpAnyG_take [2, 3, 4, 5, 6, 7, 8, 9, 10, 11, 12, 13] (i := 2) (v := (.int .i64 E)) rfl (by kernel_rfl) (by kernel_rfl) (by kernel_rfl) (by kernel_rfl) (by kernel_rfl) (by kernel_rfl) (by kernel_rfl) (by kernel_rfl) (fun _ _ _ h => h) (Or.inl ⟨by rfl, ?hy⟩) T0 ?_
          case hy =>
            intro X hX
            go_simp
          try simp only [Act.put, List.getElem_toArray, List.getElem_cons_zero, List.getElem_cons_succ, List.setIfInBounds_toArray, List.set_cons_zero, List.set_cons_succ]
          refine wpAnyG_take [3, 4, 5, 6, 7, 8, 9, 10, 11, 12, 13] (i := 3) (v := (.bool false)) rfl (by kernel_rfl) (by kernel_rfl) (by kernel_rfl) (by kernel_rfl) (by kernel_rfl) (by kernel_rfl) (by kernel_rfl) (by kernel_rfl) (fun _ _ _ h => h) (Or.inl ⟨by rfl, ?hy⟩) T0 ?_
          case hy =>
            intro X hX
            go_simp
          try simp only [Act.put, List.getElem_toArray, List.getElem_cons_zero, List.getElem_cons_succ, List.setIfInBounds_toArray, List.set_cons_zero, List.set_cons_succ]
          refine wpAnyG_take [4, 5, 6, 7, 8, 9, 10, 11, 12, 13] (i := 4) (v := (.bool false)) rfl (by kernel_rfl) (by kernel_rfl) (by kernel_rfl) (by kernel_rfl) (by kernel_rfl) (by kernel_rfl) (by kernel_rfl) (by kernel_rfl) (fun _ _ _ h => h) (Or.inl ⟨by rfl, ?hy⟩) T0 ?_
          case hy =>
            intro X hX
            go_simp
          try simp only [Act.put, List.getElem_toArray, List.getElem_cons_zero, List.getElem_cons_succ, List.setIfInBounds_toArray, List.set_cons_zero, List.set_cons_succ]
          refine wpAnyG_take [5, 7, 8, 9, 12, 13] (i := 5) (v := undef) rfl (by kernel_rfl) (by kernel_rfl) (by kernel_rfl) (by kernel_rfl) (by kernel_rfl) (by kernel_rfl) (by kernel_rfl) (by kernel_rfl) (fun _ _ _ h => h) (Or.inr ⟨by rfl, rfl⟩) T0 ?_
          try simp only [Act.put, List.getElem_toArray, List.getElem_cons_zero, List.getElem_cons_succ, List.setIfInBounds_toArray, List.set_cons_zero, List.set_cons_succ]
          refine wpAnyG_take [6, 7, 8, 9, 12, 13] (i := 6) (v := undef) rfl (by kernel_rfl) (by kernel_rfl) (by kernel_rfl) (by kernel_rfl) (by kernel_rfl) (by kernel_rfl) (by kernel_rfl) (by kernel_rfl) (fun _ _ _ h => h) (Or.inr ⟨by rfl, rfl⟩) T0 ?_
          try simp only [Act.put, List.getElem_toArray, List.getElem_cons_zero, List.getElem_cons_succ, List.setIfInBounds_toArray, List.set_cons_zero, List.set_cons_succ]
          refine wpAnyG_take [7, 8, 9, 12, 13] (i := 7) (v := undef) rfl (by kernel_rfl) (by kernel_rfl) (by kernel_rfl) (by kernel_rfl) (by kernel_rfl) (by kernel_rfl) (by kernel_rfl) (by kernel_rfl) (fun _ _ _ h => h) (Or.inr ⟨by rfl, rfl⟩) T0 ?_
          try simp only [Act.put, List.getElem_toArray, List.getElem_cons_zero, List.getElem_cons_succ, List.setIfInBounds_toArray, List.set_cons_zero, List.set_cons_succ]
          refine wpAnyG_take [8, 9, 12, 13] (i := 8) (v := undef) rfl (by kernel_rfl) (by kernel_rfl) (by kernel_rfl) (by kernel_rfl) (by kernel_rfl) (by kernel_rfl) (by kernel_rfl) (by kernel_rfl) (fun _ _ _ h => h) (Or.inr ⟨by rfl, rfl⟩) T0 ?_
          try simp only [Act.put, List.getElem_toArray, List.getElem_cons_zero, List.getElem_cons_succ, List.setIfInBounds_toArray, List.set_cons_zero, List.set_cons_succ]
          refine wpAnyG_take [9, 12, 13] (i := 9) (v := undef) rfl (by kernel_rfl) (by kernel_rfl) (by kernel_rfl) (by kernel_rfl) (by kernel_rfl) (by kernel_rfl) (by kernel_rfl) (by kernel_rfl) (fun _ _ _ h => h) (Or.inr ⟨by rfl, rfl⟩) T0 ?_
          try simp only [Act.put, List.getElem_toArray, List.getElem_cons_zero, List.getElem_cons_succ, List.setIfInBounds_toArray, List.set_cons_zero, List.set_cons_succ]
          refine wpAnyG_take [10, 11, 12, 13] (i := 10) (v := undef) rfl (by kernel_rfl) (by kernel_rfl) (by kernel_rfl) (by kernel_rfl) (by kernel_rfl) (by kernel_rfl) (by kernel_rfl) (by kernel_rfl) (fun _ _ _ h => h) (Or.inr ⟨by rfl, rfl⟩) T0 ?_
          try simp only [Act.put, List.getElem_toArray, List.getElem_cons_zero, List.getElem_cons_succ, List.setIfInBounds_toArray, List.set_cons_zero, List.set_cons_succ]
          refine wpAnyG_take [11, 12, 13] (i := 11) (v := undef) rfl (by kernel_rfl) (by kernel_rfl) (by kernel_rfl) (by kernel_rfl) (by kernel_rfl) (by kernel_rfl) (by kernel_rfl) (by kernel_rfl) (fun _ _ _ h => h) (Or.inr ⟨by rfl, rfl⟩) T0 ?_
          try simp only [Act.put, List.getElem_toArray, List.getElem_cons_zero, List.getElem_cons_succ, List.setIfInBounds_toArray, List.set_cons_zero, List.set_cons_succ]
          refine wpAnyG_take [12, 13] (i := 12) (v := undef) rfl (by kernel_rfl) (by kernel_rfl) (by kernel_rfl) (by kernel_rfl) (by kernel_rfl) (by kernel_rfl) (by kernel_rfl) (by kernel_rfl) (fun _ _ _ h => h) (Or.inr ⟨by rfl, rfl⟩) T0 ?_
          try simp only [Act.put, List.getElem_toArray, List.getElem_cons_zero, List.getElem_cons_succ, List.setIfInBounds_toArray, List.set_cons_zero, List.set_cons_succ]
          refine wpAnyG_take [13] (i := 13) (v := (.bool false)) rfl (by kernel_rfl) (by kernel_rfl) (by kernel_rfl) (by kernel_rfl) (by kernel_rfl) (by kernel_rfl) (by kernel_rfl) (by kernel_rfl) (fun _ _ _ h => h) (Or.inl ⟨by rfl, ?hy⟩) T0 ?_
          case hy =>
            intro X hX
            go_simp
          try simp only [Act.put, List.getElem_toArray, List.getElem_cons_zero, List.getElem_cons_succ, List.setIfInBounds_toArray, List.set_cons_zero, List.set_cons_succ]
          refine wpAnyG_done (by kernel_rfl) ?_ _
          refine NoPanic.normal ?_
          have n6 := m6.below' T0
          have hNM : N ≤ M.heap.size := Nat.le_of_lt m6.lt
          have nB := mB.trans (T0.mono hNM)
          have no := own_below mo T0
          clear T0 m6 mB mo e0
          have n6c := n6.cell
          have n6f := n6.frozen
          have n6l := n6.lt
          have p6 := n6
          have pB := nB
          have po := no
          go_wp2_with (at_builtin; refine wpList_append_own _ rfl _ _ 51 rfl (N + 1) 28 i0 (.agg #[.int .i64 0, .int .i64 0, .int .i64 0, .int .i64 0, .int .i64 0]) 5 40 Try.underlying51 hi hz0 hz1 hz2 rfl (by decide) (.slice o qk c) _ _ rfl (po.alloc _) ⟨M0.heap.size, 0, none⟩ 1 1 [.int .i64 s.size, .int .i64 qk, .int .i64 qu, .int .i64 lb, .int .i64 cb] rfl rfl (World.news_of_block (cs := #[.int .i64 s.size, .int .i64 qk, .int .i64 qu, .int .i64 lb, .int .i64 cb]) (t := 28) (fr := (0, 0)) (by have := World.alloc_heap_new M0 (.cells #[.int .i64 s.size, .int .i64 qk, .int .i64 qu, .int .i64 lb, .int .i64 cb] 28); exact this)) (fun x hx => by simp at hx; rcases hx with rfl | rfl | rfl | rfl | rfl <;> rfl) (by unfold maxLen; omega) (by omega) (by simp; omega) ?_; intro v' X' hown' hgrow _; obtain ⟨o', c', rfl, _⟩ := own_slice hown'; have k4 := (p6.alloc (.cells #[.int .i64 s.size, .int .i64 qk, .int .i64 qu, .int .i64 lb, .int .i64 cb] 28)).kept hgrow (fun e' => by have := (po.lt N e'.symm).1; omega); have kB := (pB.alloc (Nat.le_of_lt p6.lt) (.cells #[.int .i64 s.size, .int .i64 qk, .int .i64 qu, .int .i64 lb, .int .i64 cb] 28)).grown hgrow (by simp; omega) (fun j hj => by have := (po.lt j hj).1; omega); have k4c := k4.cell; have k4f := k4.frozen; have k4l := k4.lt)
          go_roundw
          case rel =>
            refine ⟨qk + 1, s.size, by first | rfl | go_num, by rw [HN.out]; omega, ?_, by rw [HPS.out]; simpa using hown', ?_, kB⟩
            · simp [show lnB s (qk + 1) = (pK s qk).l from rfl, HQ.out]
            · intro h9; exfalso; rw [HN.out] at h9; have := HQE.out; omega
          case measure => have := HQE.out; simp [intOf]; omega
    · have hke : k = n + 1 := by omega
      have hlt2 : ¬ k ≤ n := by omega
      have hlt3 : decide ((k : Int) ≤ (n : Int)) = false := decide_eq_false (by omega)
      have HK := Lib.hid hke
      have hw9 : Below w.heap.size w wr := hB02.trans (hB'.mono hB02.size)
      clear hke
      go_wp2
      go_ret
      exact ⟨_, N + 1, rfl, by omega, by rw [HN.out, ← HK.out]; exact hown, hw9⟩
end Go.Proofs.Ytjlfdoonhfkabaa
