/- What Parts answers: the document's. -/
import Derived.Test.YtgpnheaefagfiaaPt
namespace Go.Proofs.Ytgpnheaefagfiaa
set_option linter.unusedVariables false
set_option linter.unusedSimpArgs false
open Go Go.RowKit
set_option maxRecDepth 100000

def PtRel (s : ByteArray) (w : World) (b0 : Nat) (pv : Value) (l i : Value) (wr : World) : Prop :=
  ∃ k : Nat, i = .int .i64 k ∧ k ≤ (posns s).length ∧ wr.ownsRow w.heap.size 51 3 l (prL s ((posns s).take k)).length (pts (prL s ((posns s).take k))) ∧ wr.ownsRow b0 24 4 pv (posns s).length (pcs s (posns s)) ∧ Below w.heap.size w wr

set_option maxHeartbeats 2000000 in
theorem partsR_any (s : ByteArray) (hs : s.size ≤ 1048576) (w : World) : Calls Try.prog 30 #[.string s] w (PtPost s w) := by
  obtain ⟨i0, hi, hz0, hz1, hz2⟩ := info_parts infoPt
  have hpl := posns_len s
  have cP := piecesR_any s hs
  go_enter Try.func30, Try.ntmps30
  go_wp2_with (first | (go_at_call 19; refine (cP _).mono ?_; rintro e w1 ⟨pv, rfl, hown, hb1⟩; obtain ⟨o, cap, rfl, ho⟩ := own_slice hown))
  obtain ⟨n, hn⟩ : ∃ n, (posns s).length = n := ⟨_, rfl⟩
  have HN := Lib.hid hn
  rw [hn] at hown
  simp only [hn] at hpl ho ⊢
  clear hn
  go_loopw [3, 10] (fun l i wr => PtRel s w w.heap.size (.slice o n cap) l i wr) (fun _ i _ => n - (intOf i).toNat)
  case atStart => exact ⟨0, rfl, Nat.zero_le _, by simpa [prL, pts] using World.ownsRow_nil _ _ _ _, by rw [HN.out]; exact hown, hb1⟩
  case round =>
    clear hown hb1
    obtain ⟨k, rfl, hk, hv, hp, hB⟩ := hrel
    rw [HN.out] at hk hp
    by_cases hlt : k < n
    · obtain ⟨gp, rfl⟩ := ho (by omega)
      obtain ⟨p, hpk⟩ : ∃ p, (posns s)[k]? = some p := ⟨_, List.getElem?_eq_getElem (by rw [HN.out]; exact hlt)⟩
      obtain ⟨d0, d1, d2, d3⟩ := nth_cells hp HN.out k hlt p hpk
      have hlti : (k : Int) < (n : Int) := by omega
      have hps := (posG_ge s 0 p (List.mem_of_getElem? hpk)).2
      have hpf := wd_fits s p hps
      have htk : prL s ((posns s).take (k + 1)) = adP (prL s ((posns s).take k)) p (p + wd s p) (bk s p) := by rw [take_next hpk, prL_snoc]
      have HS := Lib.hid htk
      have hbl := prL_len s ((posns s).take k)
      rw [List.length_take] at hbl
      clear htk hpk
      obtain ⟨E, hE⟩ : ∃ E, p + wd s p = E := ⟨_, rfl⟩
      have hEi : (p : Int) + (wd s p : Nat) = (E : Int) := by omega
      have hEs : E ≤ s.size := by omega
      rw [hE] at HS
      have fE : IntKind.i64.wrap (E : Int) = (E : Int) := IntWalk.i64_in _ (by omega)
      obtain ⟨A, hA⟩ : ∃ A, prL s ((posns s).take k) = A := ⟨_, rfl⟩
      rw [hA] at HS hv hbl
      clear hA hE
      obtain ⟨N, hN⟩ : ∃ N, A.length = N := ⟨_, rfl⟩
      rw [hN] at hv hbl
      obtain ⟨o2, c2, rfl, ho2⟩ := own_slice hv
      rcases List.eq_nil_or_concat A with rfl | ⟨q, ⟨f0, t0, c0⟩, e⟩
      · rw [adP_nil] at HS
        obtain rfl : N = 0 := hN.symm
        go_wp2
        go_quiet (fail)
        obtain ⟨WA, hWA⟩ : ∃ WA, (wr.alloc (.cells #[.int .i64 p, .int .i64 (wd s p : Nat), .int .i32 (rn s p : Nat), .bool (bk s p)] 24)).drewN nq = WA := ⟨_, rfl⟩
        have ar : WA.ownsRow w.heap.size 51 3 (.slice o2 0 c2) 0 (pts []) := by rw [← hWA]; exact hv.alloc _
        have ap : WA.ownsRow w.heap.size 24 4 (.slice (some ⟨gp, 0, none⟩) n cap) n (pcs s (posns s)) := by rw [← hWA]; exact hp.alloc _
        have ab : Blk WA wr.heap.size #[.int .i64 p, .int .i64 (wd s p : Nat), .int .i32 (rn s p : Nat), .bool (bk s p)] 24 := by rw [← hWA]; exact Blk.new wr _ _
        have aB : Below w.heap.size w WA := by rw [← hWA]; exact (hB.alloc hB.size _).trans ⟨rfl, rfl, rfl, Nat.le_refl _, fun _ _ => rfl⟩
        have az : WA.heap.size = wr.heap.size + 1 := by rw [← hWA]; simp [World.drewN]
        have al : wr.heap.size < WA.heap.size := by omega
        clear az
        have a0 : WA.cell? ⟨wr.heap.size, 0, none⟩ = some (.int .i64 p) := ab.cell 0
        have a1 : WA.cell? ⟨wr.heap.size, 1, none⟩ = some (.int .i64 (wd s p : Nat)) := ab.cell 1
        have a3 : WA.cell? ⟨wr.heap.size, 3, none⟩ = some (.bool (bk s p)) := ab.cell 3
        rw [hWA]
        go_wp2_with (at_builtin; refine wpList_append_own _ rfl _ _ 44 rfl w.heap.size 51 i0 (.agg #[.int .i64 0, .int .i64 0, .bool false]) 3 24 Try.underlying44 hi hz0 hz1 hz2 rfl (by decide) _ _ _ rfl (ar.alloc _) ⟨WA.heap.size, 0, none⟩ 1 1 [.int .i64 p, .int .i64 E, .bool (bk s p)] rfl rfl (World.news_of_block (cs := #[.int .i64 p, .int .i64 E, .bool (bk s p)]) (t := 51) (fr := (0, 0)) (World.alloc_heap_new WA _)) (fun x hx => by simp at hx; rcases hx with rfl | rfl | rfl <;> rfl) (by unfold maxLen; omega) (by omega) (by have := aB.size; simp; omega) ?_; intro v' w2 hown' hgrow _)
        go_roundw
        case rel =>
          have hB2 := (aB.alloc aB.size (.cells #[.int .i64 p, .int .i64 E, .bool (bk s p)] 51)).grown hgrow (by have := aB.size; simp; omega) (fun j hj => (ar.lt j hj).1)
          refine ⟨k + 1, by go_num, by rw [HN.out]; omega, ?_, ?_, hB2⟩
          · rw [HS.out]; exact hown'
          · rw [HN.out]
            refine (ap.alloc _).kept hgrow ?_
            rcases rows_apart ap ar (by decide) with e | e
            · exact .inl e
            · exact .inr e
        case measure => simp [intOf]; omega
      · rw [List.concat_eq_append] at e
        subst e
        obtain ⟨m, hm⟩ : ∃ m, q.length = m := ⟨_, rfl⟩
        obtain rfl : N = m + 1 := by rw [← hN, List.length_append, hm]; rfl
        obtain ⟨g, rfl⟩ := ho2 (by omega)
        have hv1 := hv.alloc (.cells #[.int .i64 p, .int .i64 (wd s p : Nat), .int .i32 (rn s p : Nat), .bool (bk s p)] 24)
        obtain ⟨z0, z1, z2⟩ := nth_pt hv hN m (by omega) f0 t0 c0 (by rw [List.getElem?_append_right (by omega), hm]; simp)
        have hgl := (hv.lt g rfl).2
        have hmb : m + 1 ≤ 9223372036854775807 := by omega
        have hmj : ((m + 1 : Nat) : Int) - 1 = (m : Int) := by omega
        have hmi : (m : Int) < ((m + 1 : Nat) : Int) := by omega
        by_cases hb : c0 = bk s p
        · subst hb
          rw [adP_yes] at HS
          go_wp2
          go_quiet (fail)
          obtain ⟨WA, hWA⟩ : ∃ WA, (wr.alloc (.cells #[.int .i64 p, .int .i64 (wd s p : Nat), .int .i32 (rn s p : Nat), .bool (bk s p)] 24)).drewN nq = WA := ⟨_, rfl⟩
          have ar : WA.ownsRow w.heap.size 51 3 (.slice (some ⟨g, 0, none⟩) (m + 1) c2) (m + 1) (pts (q ++ [(f0, t0, bk s p)])) := by rw [← hWA]; exact hv.alloc _
          have ap : WA.ownsRow w.heap.size 24 4 (.slice (some ⟨gp, 0, none⟩) n cap) n (pcs s (posns s)) := by rw [← hWA]; exact hp.alloc _
          have ab : Blk WA wr.heap.size #[.int .i64 p, .int .i64 (wd s p : Nat), .int .i32 (rn s p : Nat), .bool (bk s p)] 24 := by rw [← hWA]; exact Blk.new wr _ _
          have aB : Below w.heap.size w WA := by rw [← hWA]; exact (hB.alloc hB.size _).trans ⟨rfl, rfl, rfl, Nat.le_refl _, fun _ _ => rfl⟩
          have az : WA.heap.size = wr.heap.size + 1 := by rw [← hWA]; simp [World.drewN]
          have al : wr.heap.size < WA.heap.size := by omega
          clear az
          have a0 : WA.cell? ⟨wr.heap.size, 0, none⟩ = some (.int .i64 p) := ab.cell 0
          have a1 : WA.cell? ⟨wr.heap.size, 1, none⟩ = some (.int .i64 (wd s p : Nat)) := ab.cell 1
          have a3 : WA.cell? ⟨wr.heap.size, 3, none⟩ = some (.bool (bk s p)) := ab.cell 3
          rw [hWA]
          obtain ⟨y0, y1, y2⟩ := nth_pt ar hN m (by omega) f0 t0 (bk s p) (by rw [List.getElem?_append_right (by omega), hm]; simp)
          have yf := ar.frozenAt (m * 3 + 1)
          have hg0 : w.heap.size ≤ g := (ar.lt g rfl).1
          obtain ⟨st, sg⟩ := ar.stored (m * 3 + 1) (.int .i64 E)
          rw [← hm, pts_set, hm] at st
          go_wp2
          go_roundw
          case rel =>
            refine ⟨k + 1, by go_num, by rw [HN.out]; omega, by rw [HS.out, List.length_append, hm]; exact st, ?_, aB.setCell (p := ⟨g, m * 3 + 1, none⟩) hg0 _⟩
            rw [HN.out]
            refine ap.kept sg ?_
            rcases rows_apart ap ar (by decide) with e | e
            · exact .inl e
            · exact .inr e
          case measure => simp [intOf]; omega
        · have hbb : (c0 == bk s p) = false := by simpa using hb
          rw [adP_no _ _ _ _ _ _ _ hb] at HS
          go_wp2
          go_quiet (fail)
          obtain ⟨WA, hWA⟩ : ∃ WA, (wr.alloc (.cells #[.int .i64 p, .int .i64 (wd s p : Nat), .int .i32 (rn s p : Nat), .bool (bk s p)] 24)).drewN nq = WA := ⟨_, rfl⟩
          have ar : WA.ownsRow w.heap.size 51 3 (.slice (some ⟨g, 0, none⟩) (m + 1) c2) (m + 1) (pts (q ++ [(f0, t0, c0)])) := by rw [← hWA]; exact hv.alloc _
          have ap : WA.ownsRow w.heap.size 24 4 (.slice (some ⟨gp, 0, none⟩) n cap) n (pcs s (posns s)) := by rw [← hWA]; exact hp.alloc _
          have ab : Blk WA wr.heap.size #[.int .i64 p, .int .i64 (wd s p : Nat), .int .i32 (rn s p : Nat), .bool (bk s p)] 24 := by rw [← hWA]; exact Blk.new wr _ _
          have aB : Below w.heap.size w WA := by rw [← hWA]; exact (hB.alloc hB.size _).trans ⟨rfl, rfl, rfl, Nat.le_refl _, fun _ _ => rfl⟩
          have az : WA.heap.size = wr.heap.size + 1 := by rw [← hWA]; simp [World.drewN]
          have al : wr.heap.size < WA.heap.size := by omega
          clear az
          have a0 : WA.cell? ⟨wr.heap.size, 0, none⟩ = some (.int .i64 p) := ab.cell 0
          have a1 : WA.cell? ⟨wr.heap.size, 1, none⟩ = some (.int .i64 (wd s p : Nat)) := ab.cell 1
          have a3 : WA.cell? ⟨wr.heap.size, 3, none⟩ = some (.bool (bk s p)) := ab.cell 3
          rw [hWA]
          go_wp2_with (at_builtin; refine wpList_append_own _ rfl _ _ 44 rfl w.heap.size 51 i0 (.agg #[.int .i64 0, .int .i64 0, .bool false]) 3 24 Try.underlying44 hi hz0 hz1 hz2 rfl (by decide) _ _ _ rfl (ar.alloc _) ⟨WA.heap.size, 0, none⟩ 1 1 [.int .i64 p, .int .i64 E, .bool (bk s p)] rfl rfl (World.news_of_block (cs := #[.int .i64 p, .int .i64 E, .bool (bk s p)]) (t := 51) (fr := (0, 0)) (World.alloc_heap_new WA _)) (fun x hx => by simp at hx; rcases hx with rfl | rfl | rfl <;> rfl) (by unfold maxLen; omega) (by omega) (by have := aB.size; simp; omega) ?_; intro v' w2 hown' hgrow _)
          go_roundw
          case rel =>
            have hB2 := (aB.alloc aB.size (.cells #[.int .i64 p, .int .i64 E, .bool (bk s p)] 51)).grown hgrow (by have := aB.size; simp; omega) (fun j hj => (ar.lt j hj).1)
            refine ⟨k + 1, by go_num, by rw [HN.out]; omega, ?_, ?_, hB2⟩
            · rw [HS.out]; rw [List.length_append, hN, pts_snoc]; exact hown'
            · rw [HN.out]
              refine (ap.alloc _).kept hgrow ?_
              rcases rows_apart ap ar (by decide) with e | e
              · exact .inl e
              · exact .inr e
          case measure => simp [intOf]; omega
    · have hkn : k = n := by omega
      subst hkn
      go_wp2
      go_ret
      rw [List.take_of_length_le (by rw [HN.out]; exact Nat.le_refl _)] at hv
      exact ⟨_, rfl, hv, hB⟩
end Go.Proofs.Ytgpnheaefagfiaa
