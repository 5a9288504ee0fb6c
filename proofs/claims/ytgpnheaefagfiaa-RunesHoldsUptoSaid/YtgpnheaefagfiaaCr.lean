/- The document's Common. -/
import Derived.Test.YtgpnheaefagfiaaCp
import Derived.Test.YtgpnheaefagfiaaEnds
namespace Go.Proofs.Ytgpnheaefagfiaa
set_option linter.unusedVariables false
set_option linter.unusedSimpArgs false
open Go Go.RowKit
set_option maxRecDepth 100000

/-- The two lists of pieces, where they lie. -/
def CrKp (a b : ByteArray) (w : World) (B1 B2 : Nat) (va vb : Value) (X : World) : Prop :=
  (X.ownsRow B1 24 4 va (posns a).length (pcs a (posns a)) ∧ X.ownsRow B2 24 4 vb (posns b).length (pcs b (posns b))) ∧ Below w.heap.size w X
theorem crKp_next {a b : ByteArray} {w X Y : World} {B1 B2 : Nat} {va vb : Value} (h : CrKp a b w B1 B2 va vb X) (hb : Below X.heap.size X Y) : CrKp a b w B1 B2 va vb Y :=
  ⟨⟨own_below h.1.1 hb, own_below h.1.2 hb⟩, h.2.trans (hb.mono h.2.size)⟩
/-- Piece number k of either, at place p. -/
def CrS (a b : ByteArray) (w : World) (B1 B2 gA gB nA nB cA cB k p : Nat) (X : World) : Prop :=
  ((X.cell? ⟨gA, k * 4, none⟩ = some (.int .i64 p) ∧ X.cell? ⟨gA, k * 4 + 1, none⟩ = some (.int .i64 (wd a p : Nat)) ∧ X.cell? ⟨gA, k * 4 + 2, none⟩ = some (.int .i32 (rn a p : Nat)) ∧ X.cell? ⟨gA, k * 4 + 3, none⟩ = some (.bool (bk a p))) ∧
   (X.cell? ⟨gB, k * 4, none⟩ = some (.int .i64 p) ∧ X.cell? ⟨gB, k * 4 + 1, none⟩ = some (.int .i64 (wd b p : Nat)) ∧ X.cell? ⟨gB, k * 4 + 2, none⟩ = some (.int .i32 (rn b p : Nat)) ∧ X.cell? ⟨gB, k * 4 + 3, none⟩ = some (.bool (bk b p)))) ∧
   CrKp a b w B1 B2 (.slice (some ⟨gA, 0, none⟩) nA cA) (.slice (some ⟨gB, 0, none⟩) nB cB) X
theorem crS_of {a b : ByteArray} {w X : World} {B1 B2 gA gB nA nB cA cB k p : Nat} (hA : (posns a).length = nA) (hB : (posns b).length = nB) (ha : (posns a)[k]? = some p) (hb : (posns b)[k]? = some p) (hka : k < nA) (hkb : k < nB)
    (h : CrKp a b w B1 B2 (.slice (some ⟨gA, 0, none⟩) nA cA) (.slice (some ⟨gB, 0, none⟩) nB cB) X) : CrS a b w B1 B2 gA gB nA nB cA cB k p X := by
  have h1 := h.1.1
  have h2 := h.1.2
  rw [hA] at h1
  rw [hB] at h2
  exact ⟨⟨nth_cells h1 hA k hka p ha, nth_cells h2 hB k hkb p hb⟩, h⟩

def CrRel (a b : ByteArray) (w : World) (B1 B2 : Nat) (va vb : Value) (v : Value) (wr : World) : Prop :=
  ∃ k q : Nat, v = .int .i64 k ∧ Lk a b q k ∧ CrKp a b w B1 B2 va vb wr

set_option maxHeartbeats 2000000 in
theorem CommonR_at (a b : ByteArray) (ha : a.size ≤ 1048576) (hb : b.size ≤ 1048576) (p n : Nat) (h1 : Lk a b p n) (h2 : St a b p) (w : World) :
    Calls Try.prog 50 #[.string a, .string b] w fun e w' => e = .returned (.int .i64 n) ∧ Below w.heap.size w w' := by
  have cP1 := piecesR_any a ha
  have cP2 := piecesR_any b hb
  have hlA := posns_len a
  have hlB := posns_len b
  have H1 := Lib.hid h1
  have H2 := Lib.hid h2
  clear h1 h2
  go_enter Try.func50, Try.ntmps50
  go_wp2_with (first | (go_at_call_of 19 (Value.string a); refine (cP1 _).mono ?_; rintro e w1 ⟨pa, rfl, hownA, hb1⟩; obtain ⟨oA, cA, rfl, hoA⟩ := own_slice hownA) | (go_at_call_of 19 (Value.string b); refine (cP2 _).mono ?_; rintro e w2 ⟨pb, rfl, hownB, hb2⟩; obtain ⟨oB, cB, rfl, hoB⟩ := own_slice hownB))
  have hK : CrKp a b w w.heap.size w1.heap.size (.slice oA (posns a).length cA) (.slice oB (posns b).length cB) w2 := ⟨⟨own_below hownA hb2, hownB⟩, hb1.trans (hb2.mono hb1.size)⟩
  obtain ⟨B1, hB1⟩ : ∃ B1, w.heap.size = B1 := ⟨_, rfl⟩
  obtain ⟨B2, hB2⟩ : ∃ B2, w1.heap.size = B2 := ⟨_, rfl⟩
  obtain ⟨nA, hnA⟩ : ∃ nA, (posns a).length = nA := ⟨_, rfl⟩
  obtain ⟨nB, hnB⟩ : ∃ nB, (posns b).length = nB := ⟨_, rfl⟩
  have hK2 : CrKp a b w B1 B2 (.slice oA nA cA) (.slice oB nB cB) w2 := by rw [← hB1, ← hB2, ← hnA, ← hnB]; exact hK
  simp only [hnA, hnB] at hlA hlB hoA hoB ⊢
  have HA := Lib.hid hnA
  have HB := Lib.hid hnB
  clear hK hownA hownB hb1 hb2 hB1 hB2 hnA hnB
  go_loopw [7] (fun v wr => CrRel a b w B1 B2 (.slice oA nA cA) (.slice oB nB cB) v wr) (fun v _ => nA - (intOf v).toNat)
  case atStart => exact ⟨0, 0, rfl, lk_0 a b, hK2⟩
  case round =>
    clear hK2
    obtain ⟨k, q, rfl, hlk, hkp⟩ := hrel
    have lA := lk_lenA hlk
    have lB := lk_lenB hlk
    rw [HA.out] at lA
    rw [HB.out] at lB
    have hqa := hlk.1
    have hqb := hlk.2.1
    by_cases hka : k < nA
    · by_cases hkb : k < nB
      · have hqa' : q < a.size := by
          rcases Nat.lt_or_ge q a.size with h | h
          · exact h
          · have := lA.2.1.2 (by omega); omega
        have hqb' : q < b.size := by
          rcases Nat.lt_or_ge q b.size with h | h
          · exact h
          · have := lB.2.1.2 (by omega); omega
        obtain ⟨gA, rfl⟩ := hoA (by omega)
        obtain ⟨gB, rfl⟩ := hoB (by omega)
        have cW1 := weight_any a q hqa' ha
        have cW2 := weight_any b q hqb' hb
        have hcr := fun X (h : CrKp a b w B1 B2 (.slice (some ⟨gA, 0, none⟩) nA cA) (.slice (some ⟨gB, 0, none⟩) nB cB) X) => crS_of HA.out HB.out (lA.2.2 hqa') (lB.2.2 hqb') hka hkb h
        have HC := Lib.hid hcr
        have hkd : CrKp a b w B1 B2 (.slice (some ⟨gA, 0, none⟩) nA cA) (.slice (some ⟨gB, 0, none⟩) nB cB) wr.drew := ⟨⟨own_below hkp.1.1 (Below.refl _ _).drew, own_below hkp.1.2 (Below.refl _ _).drew⟩, hkp.2.drew⟩
        have f1 : (0 : Int) ≤ (k : Int) := by omega
        have f2 : (k : Int) < (nA : Int) := by omega
        have f3 : (k : Int) < (nB : Int) := by omega
        have HL := Lib.hid hlk
        clear hcr lA lB hlk hqa hqb
        by_cases hw : wt a q = wt b q
        · have hbe : ((wt a q : Int) == (wt b q : Int)) = true := by rw [beq_iff_eq]; omega
          have HW := Lib.hid hw
          rw [hw] at cW1 hbe
          clear hw
          go_wp2
          go_region_held3 (fun w' => ((w'.cell? ⟨gA, k * 4, none⟩ = some (.int .i64 q) ∧ w'.cell? ⟨gA, k * 4 + 1, none⟩ = some (.int .i64 (wd a q : Nat)) ∧ w'.cell? ⟨gA, k * 4 + 2, none⟩ = some (.int .i32 (rn a q : Nat)) ∧ w'.cell? ⟨gA, k * 4 + 3, none⟩ = some (.bool (bk a q))) ∧ (w'.cell? ⟨gB, k * 4, none⟩ = some (.int .i64 q) ∧ w'.cell? ⟨gB, k * 4 + 1, none⟩ = some (.int .i64 (wd b q : Nat)) ∧ w'.cell? ⟨gB, k * 4 + 2, none⟩ = some (.int .i32 (rn b q : Nat)) ∧ w'.cell? ⟨gB, k * 4 + 3, none⟩ = some (.bool (bk b q)))) ∧ CrKp a b w B1 B2 (.slice (some ⟨gA, 0, none⟩) nA cA) (.slice (some ⟨gB, 0, none⟩) nB cB) w') (first | exact HC.out _ hkd | exact HC.out _ (crKp_next hkd hb3) | exact HC.out _ (crKp_next (And.right (by assumption)) hb4)) (first | (go_at_call_of 81 (Value.string a); refine (cW1 _).mono ?_; rintro e w3 ⟨rfl, hb3⟩) | (go_at_call_of 81 (Value.string b); refine (cW2 _).mono ?_; rintro e w4 ⟨rfl, hb4⟩))
          have hS : CrKp a b w B1 B2 (.slice (some ⟨gA, 0, none⟩) nA cA) (.slice (some ⟨gB, 0, none⟩) nB cB) w4 := And.right (by assumption)
          go_wp2
          go_roundw
          case rel => exact ⟨k + 1, q + wd a q, by go_num, lk_next HL.out hqa' hqb' HW.out, hS⟩
          case measure => simp [intOf]; omega
        · have hbe : ((wt a q : Int) == (wt b q : Int)) = false := by rw [beq_eq_false_iff_ne]; omega
          have hst : St a b q := fun h => hw h.2.2
          have hnk : (k : Int) = (n : Int) := by have := lk_one HL.out hst H1.out H2.out; omega
          have HNK := Lib.hid hnk
          clear hw hst hnk
          go_wp2
          go_region_held3 (fun w' => ((w'.cell? ⟨gA, k * 4, none⟩ = some (.int .i64 q) ∧ w'.cell? ⟨gA, k * 4 + 1, none⟩ = some (.int .i64 (wd a q : Nat)) ∧ w'.cell? ⟨gA, k * 4 + 2, none⟩ = some (.int .i32 (rn a q : Nat)) ∧ w'.cell? ⟨gA, k * 4 + 3, none⟩ = some (.bool (bk a q))) ∧ (w'.cell? ⟨gB, k * 4, none⟩ = some (.int .i64 q) ∧ w'.cell? ⟨gB, k * 4 + 1, none⟩ = some (.int .i64 (wd b q : Nat)) ∧ w'.cell? ⟨gB, k * 4 + 2, none⟩ = some (.int .i32 (rn b q : Nat)) ∧ w'.cell? ⟨gB, k * 4 + 3, none⟩ = some (.bool (bk b q)))) ∧ CrKp a b w B1 B2 (.slice (some ⟨gA, 0, none⟩) nA cA) (.slice (some ⟨gB, 0, none⟩) nB cB) w') (first | exact HC.out _ hkd | exact HC.out _ (crKp_next hkd hb3) | exact HC.out _ (crKp_next (And.right (by assumption)) hb4)) (first | (go_at_call_of 81 (Value.string a); refine (cW1 _).mono ?_; rintro e w3 ⟨rfl, hb3⟩) | (go_at_call_of 81 (Value.string b); refine (cW2 _).mono ?_; rintro e w4 ⟨rfl, hb4⟩))
          have hS : CrKp a b w B1 B2 (.slice (some ⟨gA, 0, none⟩) nA cA) (.slice (some ⟨gB, 0, none⟩) nB cB) w4 := And.right (by assumption)
          go_wp2
          go_ret
          exact ⟨ret_int HNK.out, hS.2⟩
      · have hst : St a b q := fun h => by have := lB.2.1.1 (by omega); omega
        have hnk : (k : Int) = (n : Int) := by have := lk_one hlk hst H1.out H2.out; omega
        have HNK := Lib.hid hnk
        have f2 : (k : Int) < (nA : Int) := by omega
        have f3 : ¬ (k : Int) < (nB : Int) := by omega
        clear hst hnk lA lB hlk hqa hqb
        go_wp2
        refine wp_region_held_drew (S := fun _ => True) (by kernel_rfl) trivial (fun hHeld => ?_)
        refine wpAnyH_take (i := 0) (v := .int .i64 k) rfl (by kernel_rfl) (by kernel_rfl) (by kernel_rfl) (fun _ _ _ h => h) (Or.inl ⟨by rfl, ?hy⟩) (by assumption) ?_
        case hy =>
          intro w hSw
          rfl
        try simp only [Act.put, List.getElem_toArray, List.getElem_cons_zero, List.getElem_cons_succ, List.setIfInBounds_toArray, List.set_cons_zero, List.set_cons_succ]
        refine wpAnyH_take (i := 1) (v := .slice oA nA cA) rfl (by kernel_rfl) (by kernel_rfl) (by kernel_rfl) (fun _ _ _ h => h) (Or.inl ⟨by rfl, ?hy⟩) (by assumption) ?_
        case hy =>
          intro w hSw
          rfl
        try simp only [Act.put, List.getElem_toArray, List.getElem_cons_zero, List.getElem_cons_succ, List.setIfInBounds_toArray, List.set_cons_zero, List.set_cons_succ]
        refine wpAnyH_take (i := 2) (v := .int .i64 nA) rfl (by kernel_rfl) (by kernel_rfl) (by kernel_rfl) (fun _ _ _ h => h) (Or.inl ⟨by rfl, ?hy⟩) (by assumption) ?_
        case hy =>
          intro w hSw
          go_simp
        try simp only [Act.put, List.getElem_toArray, List.getElem_cons_zero, List.getElem_cons_succ, List.setIfInBounds_toArray, List.set_cons_zero, List.set_cons_succ]
        refine wpAnyH_take (i := 3) (v := .bool true) rfl (by kernel_rfl) (by kernel_rfl) (by kernel_rfl) (fun _ _ _ h => h) (Or.inl ⟨by rfl, ?hy⟩) (by assumption) ?_
        case hy =>
          intro w hSw
          go_simp
        try simp only [Act.put, List.getElem_toArray, List.getElem_cons_zero, List.getElem_cons_succ, List.setIfInBounds_toArray, List.set_cons_zero, List.set_cons_succ]
        refine wpAnyH_take (i := 4) (v := .bool true) rfl (by kernel_rfl) (by kernel_rfl) (by kernel_rfl) (fun _ _ _ h => h) (Or.inl ⟨by rfl, ?hy⟩) (by assumption) ?_
        case hy =>
          intro w hSw
          rfl
        try simp only [Act.put, List.getElem_toArray, List.getElem_cons_zero, List.getElem_cons_succ, List.setIfInBounds_toArray, List.set_cons_zero, List.set_cons_succ]
        refine wpAnyH_take (i := 5) (v := .int .i64 k) rfl (by kernel_rfl) (by kernel_rfl) (by kernel_rfl) (fun _ _ _ h => h) (Or.inl ⟨by rfl, ?hy⟩) (by assumption) ?_
        case hy =>
          intro w hSw
          rfl
        try simp only [Act.put, List.getElem_toArray, List.getElem_cons_zero, List.getElem_cons_succ, List.setIfInBounds_toArray, List.set_cons_zero, List.set_cons_succ]
        refine wpAnyH_take (i := 6) (v := .slice oB nB cB) rfl (by kernel_rfl) (by kernel_rfl) (by kernel_rfl) (fun _ _ _ h => h) (Or.inl ⟨by rfl, ?hy⟩) (by assumption) ?_
        case hy =>
          intro w hSw
          rfl
        try simp only [Act.put, List.getElem_toArray, List.getElem_cons_zero, List.getElem_cons_succ, List.setIfInBounds_toArray, List.set_cons_zero, List.set_cons_succ]
        refine wpAnyH_take (i := 7) (v := .int .i64 nB) rfl (by kernel_rfl) (by kernel_rfl) (by kernel_rfl) (fun _ _ _ h => h) (Or.inl ⟨by rfl, ?hy⟩) (by assumption) ?_
        case hy =>
          intro w hSw
          go_simp
        try simp only [Act.put, List.getElem_toArray, List.getElem_cons_zero, List.getElem_cons_succ, List.setIfInBounds_toArray, List.set_cons_zero, List.set_cons_succ]
        refine wpAnyH_take (i := 8) (v := .bool false) rfl (by kernel_rfl) (by kernel_rfl) (by kernel_rfl) (fun _ _ _ h => h) (Or.inl ⟨by rfl, ?hy⟩) (by assumption) ?_
        case hy =>
          intro w hSw
          go_simp
        try simp only [Act.put, List.getElem_toArray, List.getElem_cons_zero, List.getElem_cons_succ, List.setIfInBounds_toArray, List.set_cons_zero, List.set_cons_succ]
        refine wpAnyH_take (i := 9) (v := .bool false) rfl (by kernel_rfl) (by kernel_rfl) (by kernel_rfl) (fun _ _ _ h => h) (Or.inl ⟨by rfl, ?hy⟩) (by assumption) ?_
        case hy =>
          intro w hSw
          go_simp
        try simp only [Act.put, List.getElem_toArray, List.getElem_cons_zero, List.getElem_cons_succ, List.setIfInBounds_toArray, List.set_cons_zero, List.set_cons_succ]
        refine wpAnyH_take (i := 10) (v := .bool false) rfl (by kernel_rfl) (by kernel_rfl) (by kernel_rfl) (fun _ _ _ h => h) (Or.inl ⟨by rfl, ?hy⟩) (by assumption) ?_
        case hy =>
          intro w hSw
          rfl
        try simp only [Act.put, List.getElem_toArray, List.getElem_cons_zero, List.getElem_cons_succ, List.setIfInBounds_toArray, List.set_cons_zero, List.set_cons_succ]
        refine wpAnyH_take (i := 11) (v := undef) rfl (by kernel_rfl) (by kernel_rfl) (by kernel_rfl) (fun _ _ _ h => h) (Or.inr ⟨by rfl, rfl⟩) (by assumption) ?_
        try simp only [Act.put, List.getElem_toArray, List.getElem_cons_zero, List.getElem_cons_succ, List.setIfInBounds_toArray, List.set_cons_zero, List.set_cons_succ]
        refine wpAnyH_take (i := 12) (v := undef) rfl (by kernel_rfl) (by kernel_rfl) (by kernel_rfl) (fun _ _ _ h => h) (Or.inr ⟨by rfl, rfl⟩) (by assumption) ?_
        try simp only [Act.put, List.getElem_toArray, List.getElem_cons_zero, List.getElem_cons_succ, List.setIfInBounds_toArray, List.set_cons_zero, List.set_cons_succ]
        refine wpAnyH_take (i := 13) (v := undef) rfl (by kernel_rfl) (by kernel_rfl) (by kernel_rfl) (fun _ _ _ h => h) (Or.inr ⟨by rfl, rfl⟩) (by assumption) ?_
        try simp only [Act.put, List.getElem_toArray, List.getElem_cons_zero, List.getElem_cons_succ, List.setIfInBounds_toArray, List.set_cons_zero, List.set_cons_succ]
        refine wpAnyH_take (i := 14) (v := undef) rfl (by kernel_rfl) (by kernel_rfl) (by kernel_rfl) (fun _ _ _ h => h) (Or.inr ⟨by rfl, rfl⟩) (by assumption) ?_
        try simp only [Act.put, List.getElem_toArray, List.getElem_cons_zero, List.getElem_cons_succ, List.setIfInBounds_toArray, List.set_cons_zero, List.set_cons_succ]
        refine wpAnyH_take (i := 15) (v := undef) rfl (by kernel_rfl) (by kernel_rfl) (by kernel_rfl) (fun _ _ _ h => h) (Or.inr ⟨by rfl, rfl⟩) (by assumption) ?_
        try simp only [Act.put, List.getElem_toArray, List.getElem_cons_zero, List.getElem_cons_succ, List.setIfInBounds_toArray, List.set_cons_zero, List.set_cons_succ]
        refine wpAnyH_take (i := 16) (v := undef) rfl (by kernel_rfl) (by kernel_rfl) (by kernel_rfl) (fun _ _ _ h => h) (Or.inr ⟨by rfl, rfl⟩) (by assumption) ?_
        try simp only [Act.put, List.getElem_toArray, List.getElem_cons_zero, List.getElem_cons_succ, List.setIfInBounds_toArray, List.set_cons_zero, List.set_cons_succ]
        refine wpAnyH_take (i := 17) (v := undef) rfl (by kernel_rfl) (by kernel_rfl) (by kernel_rfl) (fun _ _ _ h => h) (Or.inr ⟨by rfl, rfl⟩) (by assumption) ?_
        try simp only [Act.put, List.getElem_toArray, List.getElem_cons_zero, List.getElem_cons_succ, List.setIfInBounds_toArray, List.set_cons_zero, List.set_cons_succ]
        refine wpAnyH_take (i := 18) (v := undef) rfl (by kernel_rfl) (by kernel_rfl) (by kernel_rfl) (fun _ _ _ h => h) (Or.inr ⟨by rfl, rfl⟩) (by assumption) ?_
        try simp only [Act.put, List.getElem_toArray, List.getElem_cons_zero, List.getElem_cons_succ, List.setIfInBounds_toArray, List.set_cons_zero, List.set_cons_succ]
        refine wpAnyH_take (i := 19) (v := undef) rfl (by kernel_rfl) (by kernel_rfl) (by kernel_rfl) (fun _ _ _ h => h) (Or.inr ⟨by rfl, rfl⟩) (by assumption) ?_
        try simp only [Act.put, List.getElem_toArray, List.getElem_cons_zero, List.getElem_cons_succ, List.setIfInBounds_toArray, List.set_cons_zero, List.set_cons_succ]
        refine wpAnyH_take (i := 20) (v := undef) rfl (by kernel_rfl) (by kernel_rfl) (by kernel_rfl) (fun _ _ _ h => h) (Or.inr ⟨by rfl, rfl⟩) (by assumption) ?_
        try simp only [Act.put, List.getElem_toArray, List.getElem_cons_zero, List.getElem_cons_succ, List.setIfInBounds_toArray, List.set_cons_zero, List.set_cons_succ]
        refine wpAnyH_take (i := 21) (v := undef) rfl (by kernel_rfl) (by kernel_rfl) (by kernel_rfl) (fun _ _ _ h => h) (Or.inr ⟨by rfl, rfl⟩) (by assumption) ?_
        try simp only [Act.put, List.getElem_toArray, List.getElem_cons_zero, List.getElem_cons_succ, List.setIfInBounds_toArray, List.set_cons_zero, List.set_cons_succ]
        refine wpAnyH_take (i := 22) (v := undef) rfl (by kernel_rfl) (by kernel_rfl) (by kernel_rfl) (fun _ _ _ h => h) (Or.inr ⟨by rfl, rfl⟩) (by assumption) ?_
        try simp only [Act.put, List.getElem_toArray, List.getElem_cons_zero, List.getElem_cons_succ, List.setIfInBounds_toArray, List.set_cons_zero, List.set_cons_succ]
        refine wpAnyH_take (i := 23) (v := undef) rfl (by kernel_rfl) (by kernel_rfl) (by kernel_rfl) (fun _ _ _ h => h) (Or.inr ⟨by rfl, rfl⟩) (by assumption) ?_
        try simp only [Act.put, List.getElem_toArray, List.getElem_cons_zero, List.getElem_cons_succ, List.setIfInBounds_toArray, List.set_cons_zero, List.set_cons_succ]
        refine wpAnyH_take (i := 24) (v := .bool false) rfl (by kernel_rfl) (by kernel_rfl) (by kernel_rfl) (fun _ _ _ h => h) (Or.inl ⟨by rfl, ?hy⟩) (by assumption) ?_
        case hy =>
          intro w hSw
          go_simp
        try simp only [Act.put, List.getElem_toArray, List.getElem_cons_zero, List.getElem_cons_succ, List.setIfInBounds_toArray, List.set_cons_zero, List.set_cons_succ]
        refine wpAnyH_done (by kernel_rfl) ?_ _
        go_wp2
        go_ret
        exact ⟨ret_int HNK.out, hkp.2.drew⟩
    · have hst : St a b q := fun h => by have := lA.2.1.1 (by omega); omega
      have hnk : (k : Int) = (n : Int) := by have := lk_one hlk hst H1.out H2.out; omega
      have HNK := Lib.hid hnk
      have f2 : ¬ (k : Int) < (nA : Int) := by omega
      clear hst hnk lA lB hlk hqa hqb
      go_wp2
      refine wp_region_held_drew (S := fun _ => True) (by kernel_rfl) trivial (fun hHeld => ?_)
      refine wpAnyH_take (i := 0) (v := .int .i64 k) rfl (by kernel_rfl) (by kernel_rfl) (by kernel_rfl) (fun _ _ _ h => h) (Or.inl ⟨by rfl, ?hy⟩) (by assumption) ?_
      case hy =>
        intro w hSw
        rfl
      try simp only [Act.put, List.getElem_toArray, List.getElem_cons_zero, List.getElem_cons_succ, List.setIfInBounds_toArray, List.set_cons_zero, List.set_cons_succ]
      refine wpAnyH_take (i := 1) (v := .slice oA nA cA) rfl (by kernel_rfl) (by kernel_rfl) (by kernel_rfl) (fun _ _ _ h => h) (Or.inl ⟨by rfl, ?hy⟩) (by assumption) ?_
      case hy =>
        intro w hSw
        rfl
      try simp only [Act.put, List.getElem_toArray, List.getElem_cons_zero, List.getElem_cons_succ, List.setIfInBounds_toArray, List.set_cons_zero, List.set_cons_succ]
      refine wpAnyH_take (i := 2) (v := .int .i64 nA) rfl (by kernel_rfl) (by kernel_rfl) (by kernel_rfl) (fun _ _ _ h => h) (Or.inl ⟨by rfl, ?hy⟩) (by assumption) ?_
      case hy =>
        intro w hSw
        go_simp
      try simp only [Act.put, List.getElem_toArray, List.getElem_cons_zero, List.getElem_cons_succ, List.setIfInBounds_toArray, List.set_cons_zero, List.set_cons_succ]
      refine wpAnyH_take (i := 3) (v := .bool false) rfl (by kernel_rfl) (by kernel_rfl) (by kernel_rfl) (fun _ _ _ h => h) (Or.inl ⟨by rfl, ?hy⟩) (by assumption) ?_
      case hy =>
        intro w hSw
        go_simp
      try simp only [Act.put, List.getElem_toArray, List.getElem_cons_zero, List.getElem_cons_succ, List.setIfInBounds_toArray, List.set_cons_zero, List.set_cons_succ]
      refine wpAnyH_take (i := 4) (v := .bool false) rfl (by kernel_rfl) (by kernel_rfl) (by kernel_rfl) (fun _ _ _ h => h) (Or.inl ⟨by rfl, ?hy⟩) (by assumption) ?_
      case hy =>
        intro w hSw
        rfl
      try simp only [Act.put, List.getElem_toArray, List.getElem_cons_zero, List.getElem_cons_succ, List.setIfInBounds_toArray, List.set_cons_zero, List.set_cons_succ]
      refine wpAnyH_take (i := 5) (v := undef) rfl (by kernel_rfl) (by kernel_rfl) (by kernel_rfl) (fun _ _ _ h => h) (Or.inr ⟨by rfl, rfl⟩) (by assumption) ?_
      try simp only [Act.put, List.getElem_toArray, List.getElem_cons_zero, List.getElem_cons_succ, List.setIfInBounds_toArray, List.set_cons_zero, List.set_cons_succ]
      refine wpAnyH_take (i := 6) (v := undef) rfl (by kernel_rfl) (by kernel_rfl) (by kernel_rfl) (fun _ _ _ h => h) (Or.inr ⟨by rfl, rfl⟩) (by assumption) ?_
      try simp only [Act.put, List.getElem_toArray, List.getElem_cons_zero, List.getElem_cons_succ, List.setIfInBounds_toArray, List.set_cons_zero, List.set_cons_succ]
      refine wpAnyH_take (i := 7) (v := undef) rfl (by kernel_rfl) (by kernel_rfl) (by kernel_rfl) (fun _ _ _ h => h) (Or.inr ⟨by rfl, rfl⟩) (by assumption) ?_
      try simp only [Act.put, List.getElem_toArray, List.getElem_cons_zero, List.getElem_cons_succ, List.setIfInBounds_toArray, List.set_cons_zero, List.set_cons_succ]
      refine wpAnyH_take (i := 8) (v := undef) rfl (by kernel_rfl) (by kernel_rfl) (by kernel_rfl) (fun _ _ _ h => h) (Or.inr ⟨by rfl, rfl⟩) (by assumption) ?_
      try simp only [Act.put, List.getElem_toArray, List.getElem_cons_zero, List.getElem_cons_succ, List.setIfInBounds_toArray, List.set_cons_zero, List.set_cons_succ]
      refine wpAnyH_take (i := 9) (v := .bool false) rfl (by kernel_rfl) (by kernel_rfl) (by kernel_rfl) (fun _ _ _ h => h) (Or.inl ⟨by rfl, ?hy⟩) (by assumption) ?_
      case hy =>
        intro w hSw
        go_simp
      try simp only [Act.put, List.getElem_toArray, List.getElem_cons_zero, List.getElem_cons_succ, List.setIfInBounds_toArray, List.set_cons_zero, List.set_cons_succ]
      refine wpAnyH_take (i := 10) (v := .bool false) rfl (by kernel_rfl) (by kernel_rfl) (by kernel_rfl) (fun _ _ _ h => h) (Or.inl ⟨by rfl, ?hy⟩) (by assumption) ?_
      case hy =>
        intro w hSw
        rfl
      try simp only [Act.put, List.getElem_toArray, List.getElem_cons_zero, List.getElem_cons_succ, List.setIfInBounds_toArray, List.set_cons_zero, List.set_cons_succ]
      refine wpAnyH_take (i := 11) (v := undef) rfl (by kernel_rfl) (by kernel_rfl) (by kernel_rfl) (fun _ _ _ h => h) (Or.inr ⟨by rfl, rfl⟩) (by assumption) ?_
      try simp only [Act.put, List.getElem_toArray, List.getElem_cons_zero, List.getElem_cons_succ, List.setIfInBounds_toArray, List.set_cons_zero, List.set_cons_succ]
      refine wpAnyH_take (i := 12) (v := undef) rfl (by kernel_rfl) (by kernel_rfl) (by kernel_rfl) (fun _ _ _ h => h) (Or.inr ⟨by rfl, rfl⟩) (by assumption) ?_
      try simp only [Act.put, List.getElem_toArray, List.getElem_cons_zero, List.getElem_cons_succ, List.setIfInBounds_toArray, List.set_cons_zero, List.set_cons_succ]
      refine wpAnyH_take (i := 13) (v := undef) rfl (by kernel_rfl) (by kernel_rfl) (by kernel_rfl) (fun _ _ _ h => h) (Or.inr ⟨by rfl, rfl⟩) (by assumption) ?_
      try simp only [Act.put, List.getElem_toArray, List.getElem_cons_zero, List.getElem_cons_succ, List.setIfInBounds_toArray, List.set_cons_zero, List.set_cons_succ]
      refine wpAnyH_take (i := 14) (v := undef) rfl (by kernel_rfl) (by kernel_rfl) (by kernel_rfl) (fun _ _ _ h => h) (Or.inr ⟨by rfl, rfl⟩) (by assumption) ?_
      try simp only [Act.put, List.getElem_toArray, List.getElem_cons_zero, List.getElem_cons_succ, List.setIfInBounds_toArray, List.set_cons_zero, List.set_cons_succ]
      refine wpAnyH_take (i := 15) (v := undef) rfl (by kernel_rfl) (by kernel_rfl) (by kernel_rfl) (fun _ _ _ h => h) (Or.inr ⟨by rfl, rfl⟩) (by assumption) ?_
      try simp only [Act.put, List.getElem_toArray, List.getElem_cons_zero, List.getElem_cons_succ, List.setIfInBounds_toArray, List.set_cons_zero, List.set_cons_succ]
      refine wpAnyH_take (i := 16) (v := undef) rfl (by kernel_rfl) (by kernel_rfl) (by kernel_rfl) (fun _ _ _ h => h) (Or.inr ⟨by rfl, rfl⟩) (by assumption) ?_
      try simp only [Act.put, List.getElem_toArray, List.getElem_cons_zero, List.getElem_cons_succ, List.setIfInBounds_toArray, List.set_cons_zero, List.set_cons_succ]
      refine wpAnyH_take (i := 17) (v := undef) rfl (by kernel_rfl) (by kernel_rfl) (by kernel_rfl) (fun _ _ _ h => h) (Or.inr ⟨by rfl, rfl⟩) (by assumption) ?_
      try simp only [Act.put, List.getElem_toArray, List.getElem_cons_zero, List.getElem_cons_succ, List.setIfInBounds_toArray, List.set_cons_zero, List.set_cons_succ]
      refine wpAnyH_take (i := 18) (v := undef) rfl (by kernel_rfl) (by kernel_rfl) (by kernel_rfl) (fun _ _ _ h => h) (Or.inr ⟨by rfl, rfl⟩) (by assumption) ?_
      try simp only [Act.put, List.getElem_toArray, List.getElem_cons_zero, List.getElem_cons_succ, List.setIfInBounds_toArray, List.set_cons_zero, List.set_cons_succ]
      refine wpAnyH_take (i := 19) (v := undef) rfl (by kernel_rfl) (by kernel_rfl) (by kernel_rfl) (fun _ _ _ h => h) (Or.inr ⟨by rfl, rfl⟩) (by assumption) ?_
      try simp only [Act.put, List.getElem_toArray, List.getElem_cons_zero, List.getElem_cons_succ, List.setIfInBounds_toArray, List.set_cons_zero, List.set_cons_succ]
      refine wpAnyH_take (i := 20) (v := undef) rfl (by kernel_rfl) (by kernel_rfl) (by kernel_rfl) (fun _ _ _ h => h) (Or.inr ⟨by rfl, rfl⟩) (by assumption) ?_
      try simp only [Act.put, List.getElem_toArray, List.getElem_cons_zero, List.getElem_cons_succ, List.setIfInBounds_toArray, List.set_cons_zero, List.set_cons_succ]
      refine wpAnyH_take (i := 21) (v := undef) rfl (by kernel_rfl) (by kernel_rfl) (by kernel_rfl) (fun _ _ _ h => h) (Or.inr ⟨by rfl, rfl⟩) (by assumption) ?_
      try simp only [Act.put, List.getElem_toArray, List.getElem_cons_zero, List.getElem_cons_succ, List.setIfInBounds_toArray, List.set_cons_zero, List.set_cons_succ]
      refine wpAnyH_take (i := 22) (v := undef) rfl (by kernel_rfl) (by kernel_rfl) (by kernel_rfl) (fun _ _ _ h => h) (Or.inr ⟨by rfl, rfl⟩) (by assumption) ?_
      try simp only [Act.put, List.getElem_toArray, List.getElem_cons_zero, List.getElem_cons_succ, List.setIfInBounds_toArray, List.set_cons_zero, List.set_cons_succ]
      refine wpAnyH_take (i := 23) (v := undef) rfl (by kernel_rfl) (by kernel_rfl) (by kernel_rfl) (fun _ _ _ h => h) (Or.inr ⟨by rfl, rfl⟩) (by assumption) ?_
      try simp only [Act.put, List.getElem_toArray, List.getElem_cons_zero, List.getElem_cons_succ, List.setIfInBounds_toArray, List.set_cons_zero, List.set_cons_succ]
      refine wpAnyH_take (i := 24) (v := .bool false) rfl (by kernel_rfl) (by kernel_rfl) (by kernel_rfl) (fun _ _ _ h => h) (Or.inl ⟨by rfl, ?hy⟩) (by assumption) ?_
      case hy =>
        intro w hSw
        go_simp
      try simp only [Act.put, List.getElem_toArray, List.getElem_cons_zero, List.getElem_cons_succ, List.setIfInBounds_toArray, List.set_cons_zero, List.set_cons_succ]
      refine wpAnyH_done (by kernel_rfl) ?_ _
      go_wp2
      go_ret
      exact ⟨ret_int HNK.out, hkp.2.drew⟩
end Go.Proofs.Ytgpnheaefagfiaa
