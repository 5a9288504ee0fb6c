/- Layer 3: what the law's others answers: a text's pieces that are no letters. -/
import Derived.Test.YtkikopjbaonbpaaLawUpper
import Derived.StillTailTactics
namespace Go.Proofs.Ytkikopjbaonbpaa
set_option linter.unusedVariables false
set_option linter.unusedSimpArgs false
open Go Go.RowKit Go.Shelf
set_option maxRecDepth 100000

/-- What is no letter, a blank behind each; how many sharp s. -/
def restU (us : List Un) : List UInt8 := us.flatMap fun u => if leB u.1 = true then [] else u.2.2 ++ [32]
def sharpU (us : List Un) : Nat := (us.filter fun u => leB u.1 && u.1 == 223).length
theorem restU_t {u : Un} (h : leB u.1 = true) (l : List Un) : restU (l ++ [u]) = restU l := by simp [restU, h]
theorem restU_f {u : Un} (h : leB u.1 = false) (l : List Un) : restU (l ++ [u]) = restU l ++ (u.2.2 ++ [32]) := by simp [restU, h]
theorem sharpU_y {u : Un} (h : leB u.1 = true) (h2 : u.1 = 223) (l : List Un) : sharpU (l ++ [u]) = sharpU l + 1 := by
  simp [sharpU, List.filter_append, h2, show leB 223 = true by kernel_rfl]
theorem sharpU_n {u : Un} (h2 : ¬ (leB u.1 = true ∧ u.1 = 223)) (l : List Un) : sharpU (l ++ [u]) = sharpU l := by
  unfold sharpU
  rw [List.filter_append, show [u].filter (fun u => leB u.1 && u.1 == 223) = [] by simp; simpa using h2, List.append_nil]
theorem sharpU_le (l : List Un) : sharpU l ≤ l.length := List.length_filter_le _ _
theorem restU_len (s : ByteArray) (l : List Nat) : (restU (l.map (unA s))).length ≤ 5 * l.length := by
  induction l with
  | nil => exact Nat.le_refl _
  | cons i l ih =>
    have h : (restU ((i :: l).map (unA s))).length = (if leB (rn s i) = true then ([] : List UInt8) else (s.extract i (i + wd s i)).data.toList ++ [32]).length + (restU (l.map (unA s))).length := by
      rw [List.map_cons]
      show ((if leB (rn s i) = true then ([] : List UInt8) else (s.extract i (i + wd s i)).data.toList ++ [32]) ++ restU (l.map (unA s))).length = _
      rw [List.length_append]
    have h4 : (s.extract i (i + wd s i)).data.toList.length ≤ 4 := by
      have := wd_le s i
      rw [Array.length_toList]
      show (s.extract i (i + wd s i)).size ≤ 4
      rw [ByteArray.size_extract]; omega
    rw [h, List.length_cons]
    split
    · simp; omega
    · rw [List.length_append, List.length_singleton]; omega

theorem cells_32 (a : List UInt8) : Lib.strCells ⟨(a ++ [32]).toArray⟩ = Lib.strCells ⟨a.toArray⟩ ++ [.int .u8 32] := by simp [Lib.strCells]

def OtRel (s : ByteArray) (n : Nat) (pv : Value) (w : World) (o sh i : Value) (wr : World) : Prop :=
  ∃ k : Nat, i = .int .i64 k ∧ k ≤ n ∧ sh = .int .i64 (sharpU (((posns s).take k).map (unA s)) : Nat) ∧
    wr.ownsRow w.heap.size 5 1 o (restU (((posns s).take k).map (unA s))).length (Lib.strCells ⟨(restU (((posns s).take k).map (unA s))).toArray⟩) ∧ wr.ownsRow w.heap.size 31 4 pv n (pcs s (posns s)) ∧ Below w.heap.size w wr

set_option maxHeartbeats 4000000 in
theorem others_any (s : ByteArray) (hs : s.size ≤ 17179869184) (w : World) :
    Calls Try.prog 19 #[.string s] w fun e w' => e = .returned (.tuple #[.string ⟨(restU (units s)).toArray⟩, .int .i64 ((units s).length : Nat), .int .i64 (sharpU (units s) : Nat)]) ∧ Below w.heap.size w w' := by
  obtain ⟨i0, hi, hz0, hz1, hz2⟩ := info_parts infoU8
  have hpl := posns_len s
  have cP := piecesD_any s (by omega)
  have hul : (units s).length = (posns s).length := List.length_map _
  rw [hul]
  obtain ⟨RS, hRS⟩ : ∃ RS, restU (units s) = RS := ⟨_, rfl⟩
  obtain ⟨SH, hSH⟩ : ∃ SH, sharpU (units s) = SH := ⟨_, rfl⟩
  have HRS := Lib.hid hRS
  have HSH := Lib.hid hSH
  rw [hRS, hSH]
  clear hRS hSH hul
  go_enter Try.func19, Try.ntmps19
  go_wp2_with (first | (go_at_call 14; refine (cP _).mono ?_; rintro e w1 ⟨pv, rfl, hown, hb1⟩; obtain ⟨o, cap, rfl, ho⟩ := own_slice hown))
  obtain ⟨n, hn⟩ : ∃ n, (posns s).length = n := ⟨_, rfl⟩
  have HN := Lib.hid hn
  simp only [hn] at hown hpl ho ⊢
  clear hn
  go_loopw [5, 7, 8] (fun q sh i wr => OtRel s n (.slice o n cap) w q sh i wr) (fun _ _ i _ => n - (intOf i).toNat)
  case atStart => exact ⟨0, rfl, Nat.zero_le _, rfl, World.ownsRow_nil _ _ _ _, hown, hb1⟩
  case round =>
    clear hown hb1
    obtain ⟨k, rfl, hk, rfl, hv, hp, hB⟩ := hrel
    obtain ⟨oq, cq, rfl, _⟩ := own_slice hv
    have hshl := sharpU_le (((posns s).take k).map (unA s))
    rw [List.length_map, List.length_take] at hshl
    by_cases hlt : k < n
    · obtain ⟨gp, rfl⟩ := ho (by omega)
      obtain ⟨p, hpk⟩ : ∃ p, (posns s)[k]? = some p := ⟨_, List.getElem?_eq_getElem (by rw [HN.out]; exact hlt)⟩
      obtain ⟨d0, d1, d2, d3⟩ := nth_cells hp HN.out k hlt p hpk
      have hlti : (k : Int) < (n : Int) := by omega
      have hnb0 := restU_len s ((posns s).take k)
      rw [List.length_take] at hnb0
      have htk : ((posns s).take (k + 1)).map (unA s) = ((posns s).take k).map (unA s) ++ [unA s p] := by rw [take_next hpk, List.map_append]; rfl
      have hps := (posG_ge s 0 p (List.mem_of_getElem? hpk)).2
      have hwf := wd_fits s p hps
      have hw4 := wd_le s p
      obtain ⟨A, hA⟩ : ∃ A, ((posns s).take k).map (unA s) = A := ⟨_, rfl⟩
      rw [hA] at hv hnb0 htk hshl ⊢
      obtain ⟨S, hS⟩ : ∃ S, sharpU A = S := ⟨_, rfl⟩
      obtain ⟨nb, hnb⟩ : ∃ nb, (restU A).length = nb := ⟨_, rfl⟩
      have Hb := Lib.hid hnb
      have HS := Lib.hid hS
      rw [hnb] at hv hnb0 ⊢
      rw [hS] at hshl ⊢
      have hnb8 : nb ≤ 85899345920 := by omega
      have hS8 : S ≤ 17179869184 := by omega
      clear hnb hnb0 hA hS hshl
      cases hle : leB (rn s p) with
      | true =>
        have hbk := bk_letter hle
        rw [hbk] at d3
        have cO := ofD_f p (wd s p : Nat) (rn s p : Nat)
        rw [kind_letter hle] at cO
        have hr := restU_t (u := unA s p) hle A
        rw [← htk] at hr
        have HR := Lib.hid hr
        by_cases h2 : rn s p = 223
        · have hsy := sharpU_y (u := unA s p) hle h2 A
          rw [← htk, HS.out] at hsy
          have HSY := Lib.hid hsy
          rw [h2] at cO d2
          clear hpk hle hbk hr hsy htk h2
          go_wp2_with (first | (go_at_call 15; refine (cO _).mono ?_; rintro e w2 ⟨rfl, hb2⟩; have hp2 := own_below hp hb2; have hv2 := own_below hv hb2; obtain ⟨x0, x1, x2, x3⟩ : w2.cell? ⟨gp, k * 4, none⟩ = some (.int .i64 p) ∧ w2.cell? ⟨gp, k * 4 + 1, none⟩ = some (.int .i64 (wd s p : Nat)) ∧ w2.cell? ⟨gp, k * 4 + 2, none⟩ = some (.int .i32 223) ∧ w2.cell? ⟨gp, k * 4 + 3, none⟩ = some (.bool false) := (have hg := (hp.lt gp rfl).2; ⟨(hb2.cell (p := ⟨gp, k * 4, none⟩) hg).trans d0, (hb2.cell (p := ⟨gp, k * 4 + 1, none⟩) hg).trans d1, (hb2.cell (p := ⟨gp, k * 4 + 2, none⟩) hg).trans d2, (hb2.cell (p := ⟨gp, k * 4 + 3, none⟩) hg).trans d3⟩)))
          go_roundw
          case rel => exact ⟨k + 1, by go_num, by omega, by rw [HSY.out]; go_num, by rw [HR.out, Hb.out]; exact hv2, hp2, hB.trans (hb2.mono hB.size)⟩
          case measure => simp [intOf]; omega
        · have hsy := sharpU_n (u := unA s p) (fun h => h2 h.2) A
          rw [← htk, HS.out] at hsy
          have HSY := Lib.hid hsy
          have h2b : ((rn s p : Int) == 223) = false := by rw [beq_eq_false_iff_ne]; omega
          clear hpk hle hbk hr hsy htk h2
          go_wp2_with (first | (go_at_call 15; refine (cO _).mono ?_; rintro e w2 ⟨rfl, hb2⟩; have hp2 := own_below hp hb2; have hv2 := own_below hv hb2; obtain ⟨x0, x1, x2, x3⟩ : w2.cell? ⟨gp, k * 4, none⟩ = some (.int .i64 p) ∧ w2.cell? ⟨gp, k * 4 + 1, none⟩ = some (.int .i64 (wd s p : Nat)) ∧ w2.cell? ⟨gp, k * 4 + 2, none⟩ = some (.int .i32 (rn s p : Nat)) ∧ w2.cell? ⟨gp, k * 4 + 3, none⟩ = some (.bool false) := (have hg := (hp.lt gp rfl).2; ⟨(hb2.cell (p := ⟨gp, k * 4, none⟩) hg).trans d0, (hb2.cell (p := ⟨gp, k * 4 + 1, none⟩) hg).trans d1, (hb2.cell (p := ⟨gp, k * 4 + 2, none⟩) hg).trans d2, (hb2.cell (p := ⟨gp, k * 4 + 3, none⟩) hg).trans d3⟩)))
          go_roundw
          case rel => exact ⟨k + 1, by go_num, by omega, by rw [HSY.out], by rw [HR.out, Hb.out]; exact hv2, hp2, hB.trans (hb2.mono hB.size)⟩
          case measure => simp [intOf]; omega
      | false =>
        have hkn := kind_not hle
        have hr := restU_f (u := unA s p) hle A
        rw [← htk] at hr
        have hr2 : restU (((posns s).take (k + 1)).map (unA s)) = (restU A ++ (s.extract p (p + wd s p)).data.toList) ++ (⟨#[32]⟩ : ByteArray).data.toList := by rw [hr, List.append_assoc]; rfl
        have hsy := sharpU_n (u := unA s p) (fun h => by have h1 : leB (rn s p) = true := h.1; rw [hle] at h1; cases h1) A
        rw [← htk, HS.out] at hsy
        have HR := Lib.hid hr2
        have HSY := Lib.hid hsy
        have k2 : (0 : Int) ≤ (p : Int) := by omega
        have k3 : (p : Int) ≤ (p : Int) + (wd s p : Nat) := by omega
        have k4 : (p : Int) + (wd s p : Nat) ≤ (s.size : Int) := by omega
        have k6 : ((p : Int) + (wd s p : Nat)).toNat = p + wd s p := by omega
        have k7 : IntKind.i64.wrap ((p : Int) + (wd s p : Nat)) = (p : Int) + (wd s p : Nat) := IntWalk.i64_in _ (by omega)
        have hle4 : (s.extract p (p + wd s p)).size ≤ 4 := by rw [ByteArray.size_extract]; omega
        have hof : ∃ K, (K == 1) = false ∧ ∀ w, Calls Try.prog 15 #[.agg #[.int .i64 p, .int .i64 (wd s p : Nat), .int .i32 (rn s p : Nat), .bool (bk s p)]] w fun e w' => e = .returned (.int .i64 K) ∧ Below w.heap.size w w' := by
          cases hbk : bk s p with
          | true => exact ⟨11, rfl, fun w => ofD_t _ _ _ w⟩
          | false => exact ⟨_, hkn, fun w => ofD_f _ _ _ w⟩
        obtain ⟨K, hK1, cO⟩ := hof
        have hK2 : (K != 1) = true := by rw [bne_iff_ne]; intro h; rw [h] at hK1; cases hK1
        clear hpk hle hr hr2 hsy htk hkn
        go_wp2_with (first | (go_at_call 15; refine (cO _).mono ?_; rintro e w2 ⟨rfl, hb2⟩; have hp2 := own_below hp hb2; have hv2 := own_below hv hb2; obtain ⟨x0, x1, x2, x3⟩ : w2.cell? ⟨gp, k * 4, none⟩ = some (.int .i64 p) ∧ w2.cell? ⟨gp, k * 4 + 1, none⟩ = some (.int .i64 (wd s p : Nat)) ∧ w2.cell? ⟨gp, k * 4 + 2, none⟩ = some (.int .i32 (rn s p : Nat)) ∧ w2.cell? ⟨gp, k * 4 + 3, none⟩ = some (.bool (bk s p)) := (have hg := (hp.lt gp rfl).2; ⟨(hb2.cell (p := ⟨gp, k * 4, none⟩) hg).trans d0, (hb2.cell (p := ⟨gp, k * 4 + 1, none⟩) hg).trans d1, (hb2.cell (p := ⟨gp, k * 4 + 2, none⟩) hg).trans d2, (hb2.cell (p := ⟨gp, k * 4 + 3, none⟩) hg).trans d3⟩)))
        have hs2 := hb2.size
        have hsw := hB.size
        have hv3 := drew_row hv2
        go_still_tail 19, (by kernel_rfl)
        refine Lib.wpList_append_own_string _ rfl _ _ 39 9 rfl w.heap.size 5 i0 Try.underlying39 Try.underlying9 hi hz0 hz1 hz2 (.slice oq nb cq) _ _ rfl hv3 (s.extract p (p + wd s p)) rfl (by unfold maxLen; omega) (by omega) (by show w.heap.size ≤ w2.heap.size; omega) ?_
        intro v4 w4 hown4 hgrow4 _
        have hp4 := (show w2.drew.ownsRow w.heap.size 31 4 _ n _ from drew_row hp2).kept hgrow4 (rows_apart (drew_row hp2) hv3 (by decide))
        have B2 := hB.trans (hb2.mono hB.size)
        have B4 := B2.drew.grown hgrow4 (by show w.heap.size ≤ w2.heap.size; omega) (fun j hj => (hv3.lt j hj).1)
        have hs4 := B4.size
        obtain ⟨m4, hm4⟩ : ∃ m, nb + (s.extract p (p + wd s p)).size = m := ⟨_, rfl⟩
        rw [hm4] at hown4
        have hm8 : m4 ≤ 103079215104 := by omega
        have HM4 := Lib.hid hm4
        clear hm4
        obtain ⟨o4, c4, rfl, _⟩ := own_slice hown4
        refine wpList_plain rfl fun Kq hKq => ?_
        go_simp
        refine hKq _ _ ?_
        clear hKq Kq
        refine wpList_nil ?_
        go_wp2_with (at_builtin; refine wpList_append_own _ rfl _ _ 39 rfl w.heap.size 5 i0 (.int .u8 0) 1 1 Try.underlying39 hi hz0 hz1 hz2 rfl (by decide) (.slice o4 m4 c4) _ _ rfl (hown4.alloc _) ⟨w4.heap.size, 0, none⟩ 1 1 [.int .u8 32] rfl rfl (cell_one_new _ _ _) (fun x hx => by simp at hx; subst hx; rfl) (by unfold maxLen; omega) (by omega) (by simp; omega) ?_; intro v9 w9 hown9 hgrow9 _; obtain ⟨o9, c9, rfl, _⟩ := own_slice hown9)
        have B9 := (B4.alloc hs4 (.cells #[.int .u8 32] 5)).grown hgrow9 (by simp; omega) (fun j hj => (hown4.lt j hj).1)
        have hp9 := (hp4.alloc (.cells #[.int .u8 32] 5)).kept hgrow9 (rows_apart hp4 hown4 (by decide))
        go_roundw
        case rel =>
          refine ⟨k + 1, by go_num, by omega, by rw [HSY.out], ?_, hp9, B9⟩
          rw [HR.out, cells_32, cells_app, show ((restU A ++ (s.extract p (p + wd s p)).data.toList) ++ ([32] : List UInt8)).length = m4 + 1 by rw [List.length_append, List.length_append, Hb.out, Array.length_toList, ← HM4.out]; rfl]
          exact hown9
        case measure => simp [intOf]; omega
    · have hkn : k = n := by omega
      subst hkn
      have htk : ((posns s).take k).map (unA s) = units s := by rw [← HN.out, List.take_length]; rfl
      rw [htk, HRS.out] at hv ⊢
      rw [HSH.out]
      have hcv := conv_own (s := ⟨RS.toArray⟩) (by show RS.toArray.size = _; rw [List.size_toArray]) hv
      obtain ⟨nb, hnb⟩ : ∃ nb, RS.length = nb := ⟨_, rfl⟩
      rw [hnb] at hv hcv ⊢
      clear hnb htk
      go_wp2
      exact bodyPost_ret (v := .tuple #[.string ⟨RS.toArray⟩, .int .i64 (k : Nat), .int .i64 (SH : Nat)]) (by simp [results, Try.f19, go_sem]) rfl ⟨by rw [HN.out], hB⟩
end Go.Proofs.Ytkikopjbaonbpaa
