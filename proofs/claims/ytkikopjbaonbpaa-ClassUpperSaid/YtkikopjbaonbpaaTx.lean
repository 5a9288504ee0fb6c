/- Layer 3: the document's lowered, HeadText. -/
import Derived.Test.YtkikopjbaonbpaaTw
namespace Go.Proofs.Ytkikopjbaonbpaa
set_option linter.unusedVariables false
set_option linter.unusedSimpArgs false
open Go Go.RowKit Go.Shelf
set_option maxRecDepth 100000

def lwG (r : Int) (led fol : Bool) : ByteArray := Utf8.encode (lowG r led fol)
theorem lwG_le (r : Int) (a b : Bool) : (lwG r a b).size ≤ 4 := enc_le _
theorem enc_962 : Utf8.encode 962 = ⟨#[207, 130]⟩ := by kernel_rfl

set_option maxHeartbeats 4000000 in
theorem lowD_any (s : ByteArray) (hs : s.size ≤ 17179869184) (k n : Nat) (HN : Hid ((posns s).length = n)) (hk : k < n) (o : Option Addr) (cap base : Nat) (p : Nat) (hpk : (posns s)[k]? = some p) (w : World) (hown : w.ownsRow base 31 4 (.slice o n cap) n (pcs s (posns s))) :
    Calls Try.prog 31 #[.string s, .slice o n cap, .int .i64 k] w fun e w' => e = .returned (.string (tuF s lwG (ledS s ((posns s).take k)) p)) ∧ Below w.heap.size w w' := by
  have hpl := posns_len s
  rw [HN.out] at hpl
  have ho : 0 < n → ∃ g, o = some ⟨g, 0, none⟩ := by
    obtain ⟨o', c', e, h⟩ := own_slice hown
    cases e; exact h
  obtain ⟨gp, rfl⟩ := ho (by omega)
  obtain ⟨d0, d1, d2, d3⟩ := nth_cells hown HN.out k hk p hpk
  have hps := (posG_ge s 0 p (List.mem_of_getElem? hpk)).2
  have hwf := wd_fits s p hps
  have hki : (k : Int) < (n : Int) := by omega
  have cO := ofD_f p (wd s p : Nat) (rn s p : Nat)
  have cL := lowerD_any (rn s p)
  have cLed := fun (w' : World) (h : w'.ownsRow base 31 4 (.slice (some ⟨gp, 0, none⟩) n cap) n (pcs s (posns s))) => ledD_any s hs k n HN (by omega) (some ⟨gp, 0, none⟩) cap base w' h
  have cFol := fun (w' : World) (h : w'.ownsRow base 31 4 (.slice (some ⟨gp, 0, none⟩) n cap) n (pcs s (posns s))) => folD_any s hs k n HN hk (some ⟨gp, 0, none⟩) cap base w' h
  rw [drop_next hpk] at cFol
  have hg := (hown.lt gp rfl).2
  obtain ⟨L, hL⟩ : ∃ L, ledS s ((posns s).take k) = L := ⟨_, rfl⟩
  rw [hL] at cLed ⊢
  have HPK := Lib.hid hpk
  cases hle : leB (rn s p) with
  | false =>
    rw [tuF_f hle]
    have hkn := kind_not hle
    have k2 : (0 : Int) ≤ (p : Int) := by omega
    have k3 : (p : Int) ≤ (p : Int) + (wd s p : Nat) := by omega
    have k4 : (p : Int) + (wd s p : Nat) ≤ (s.size : Int) := by omega
    have k6 : ((p : Int) + (wd s p : Nat)).toNat = p + wd s p := by omega
    cases hbk : bk s p with
    | true =>
      rw [hbk] at d3
      clear cO cL cLed cFol hL hpk hle hbk
      go_enter Try.func31, Try.ntmps31
      go_wp2_with (go_at_call 15; refine (ofD_t _ _ _ _).mono ?_; rintro e w1 ⟨rfl, hb1⟩; have b1 : Blk w1 w.heap.size #[.int .i64 p, .int .i64 (wd s p : Nat), .int .i32 (rn s p : Nat), .bool true] 31 := (Blk.new w _ _).below' hb1; have x0 : w1.cell? ⟨w.heap.size, 0, none⟩ = some (.int .i64 p) := b1.cell 0; have x1 : w1.cell? ⟨w.heap.size, 1, none⟩ = some (.int .i64 (wd s p : Nat)) := b1.cell 1; have l1 := b1.lt)
      go_ret
      exact ⟨rfl, ((Below.refl _ _).alloc (Nat.le_refl _) _).trans (hb1.mono (by simp))⟩
    | false =>
      rw [hbk] at d3
      obtain ⟨K, hKd⟩ : ∃ K, kindZ (rn s p) = K := ⟨_, rfl⟩
      rw [hKd] at cO hkn
      clear cL cLed cFol hL hpk hle hbk hKd
      go_enter Try.func31, Try.ntmps31
      go_wp2_with (go_at_call 15; refine (cO _).mono ?_; rintro e w1 ⟨rfl, hb1⟩; have b1 : Blk w1 w.heap.size #[.int .i64 p, .int .i64 (wd s p : Nat), .int .i32 (rn s p : Nat), .bool false] 31 := (Blk.new w _ _).below' hb1; have x0 : w1.cell? ⟨w.heap.size, 0, none⟩ = some (.int .i64 p) := b1.cell 0; have x1 : w1.cell? ⟨w.heap.size, 1, none⟩ = some (.int .i64 (wd s p : Nat)) := b1.cell 1; have l1 := b1.lt)
      go_ret
      exact ⟨rfl, ((Below.refl _ _).alloc (Nat.le_refl _) _).trans (hb1.mono (by simp))⟩
  | true =>
    rw [tuF_t hle]
    have hbk := bk_letter hle
    rw [hbk] at d3
    rw [kind_letter hle] at cO
    obtain ⟨Fo, hFo⟩ : ∃ Fo, folS s (posG s (p + wd s p)) = Fo := ⟨_, rfl⟩
    rw [hFo] at cFol ⊢
    obtain ⟨R, hR⟩ : ∃ R, rn s p = R := ⟨_, rfl⟩
    rw [hR] at cO cL d2 ⊢
    clear hL hpk hle hbk hFo hR
    by_cases h931 : R = 931
    · subst h931
      rw [show (((931 : Nat) : Int) == 931) = true from rfl, Bool.true_and]
      obtain ⟨x, hx⟩ : ∃ x, lowZ ((931 : Nat) : Int) = x := ⟨_, rfl⟩
      rw [hx] at cL
      cases L with
      | false =>
        have hres : lwG ((931 : Nat) : Int) false Fo = Utf8.encode x := by rw [← hx]; rfl
        rw [hres]
        clear hx hres
        go_enter Try.func31, Try.ntmps31
        go_wp2_with (first | (go_at_call 15; refine (cO _).mono ?_; rintro e w1 ⟨rfl, hb1⟩; have b1 : Blk w1 w.heap.size #[.int .i64 p, .int .i64 (wd s p : Nat), .int .i32 931, .bool false] 31 := (Blk.new w _ _).below' hb1; have x2 : w1.cell? ⟨w.heap.size, 2, none⟩ = some (.int .i32 931) := b1.cell 2; have l1 := b1.lt; have own1 := own_below (hown.alloc _) hb1) | (go_at_call 39; refine (cLed _ own1).mono ?_; rintro e w2 ⟨rfl, hb2⟩; have b2 := b1.below' hb2; have y2 : w2.cell? ⟨w.heap.size, 2, none⟩ = some (.int .i32 931) := b2.cell 2; have l2 := b2.lt) | (go_at_call 37; refine (cL _).mono ?_; rintro e w' ⟨rfl, rfl⟩))
        go_ret
        exact ⟨rfl, ((((Below.refl _ _).alloc (Nat.le_refl _) _).trans (hb1.mono (by simp))).trans (hb2.mono (by omega)))⟩
      | true =>
        cases Fo with
        | false =>
          have hres : lwG ((931 : Nat) : Int) true false = ⟨#[207, 130]⟩ := enc_962
          rw [hres]
          clear hx hres
          go_enter Try.func31, Try.ntmps31
          go_wp2_with (first | (go_at_call 15; refine (cO _).mono ?_; rintro e w1 ⟨rfl, hb1⟩; have b1 : Blk w1 w.heap.size #[.int .i64 p, .int .i64 (wd s p : Nat), .int .i32 931, .bool false] 31 := (Blk.new w _ _).below' hb1; have x2 : w1.cell? ⟨w.heap.size, 2, none⟩ = some (.int .i32 931) := b1.cell 2; have l1 := b1.lt; have own1 := own_below (hown.alloc _) hb1) | (go_at_call 39; refine (cLed _ own1).mono ?_; rintro e w2 ⟨rfl, hb2⟩; have b2 := b1.below' hb2; have y2 : w2.cell? ⟨w.heap.size, 2, none⟩ = some (.int .i32 931) := b2.cell 2; have l2 := b2.lt; have own2 := own_below own1 hb2) | (go_at_call 40; refine (cFol _ own2).mono ?_; rintro e w3 ⟨rfl, hb3⟩))
          go_ret
          exact ⟨rfl, ((((Below.refl _ _).alloc (Nat.le_refl _) _).trans (hb1.mono (by simp))).trans (hb2.mono (by omega))).trans (hb3.mono (by omega))⟩
        | true =>
          have hres : lwG ((931 : Nat) : Int) true true = Utf8.encode x := by rw [← hx]; rfl
          rw [hres]
          clear hx hres
          go_enter Try.func31, Try.ntmps31
          go_wp2_with (first | (go_at_call 15; refine (cO _).mono ?_; rintro e w1 ⟨rfl, hb1⟩; have b1 : Blk w1 w.heap.size #[.int .i64 p, .int .i64 (wd s p : Nat), .int .i32 931, .bool false] 31 := (Blk.new w _ _).below' hb1; have x2 : w1.cell? ⟨w.heap.size, 2, none⟩ = some (.int .i32 931) := b1.cell 2; have l1 := b1.lt; have own1 := own_below (hown.alloc _) hb1) | (go_at_call 39; refine (cLed _ own1).mono ?_; rintro e w2 ⟨rfl, hb2⟩; have b2 := b1.below' hb2; have y2 : w2.cell? ⟨w.heap.size, 2, none⟩ = some (.int .i32 931) := b2.cell 2; have l2 := b2.lt; have own2 := own_below own1 hb2) | (go_at_call 40; refine (cFol _ own2).mono ?_; rintro e w3 ⟨rfl, hb3⟩; have b3 := b2.below' hb3; have z2 : w3.cell? ⟨w.heap.size, 2, none⟩ = some (.int .i32 931) := b3.cell 2; have l3 := b3.lt) | (go_at_call 37; refine (cL _).mono ?_; rintro e w' ⟨rfl, rfl⟩))
          go_ret
          exact ⟨rfl, ((((Below.refl _ _).alloc (Nat.le_refl _) _).trans (hb1.mono (by simp))).trans (hb2.mono (by omega))).trans (hb3.mono (by omega))⟩
    · have h9b : ((R : Int) == 931) = false := by rw [beq_eq_false_iff_ne]; omega
      rw [h9b, Bool.false_and]
      have hres : lwG (R : Int) L false = Utf8.encode (lowZ R) := by unfold lwG lowG; rw [if_neg (fun h => h931 (by omega))]
      rw [hres]
      obtain ⟨x, hx⟩ : ∃ x, lowZ R = x := ⟨_, rfl⟩
      rw [hx] at cL ⊢
      clear hx hres h931
      go_enter Try.func31, Try.ntmps31
      go_wp2_with (first | (go_at_call 15; refine (cO _).mono ?_; rintro e w1 ⟨rfl, hb1⟩; have b1 : Blk w1 w.heap.size #[.int .i64 p, .int .i64 (wd s p : Nat), .int .i32 (R : Nat), .bool false] 31 := (Blk.new w _ _).below' hb1; have x2 : w1.cell? ⟨w.heap.size, 2, none⟩ = some (.int .i32 (R : Nat)) := b1.cell 2; have l1 := b1.lt) | (go_at_call 37; refine (cL _).mono ?_; rintro e w' ⟨rfl, rfl⟩))
      go_ret
      exact ⟨rfl, ((Below.refl _ _).alloc (Nat.le_refl _) _).trans (hb1.mono (by simp))⟩
end Go.Proofs.Ytkikopjbaonbpaa
