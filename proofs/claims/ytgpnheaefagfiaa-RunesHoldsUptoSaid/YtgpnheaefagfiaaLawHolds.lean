/- RunesHolds: the law's call, at every two texts and every rune. -/
import Derived.Test.YtgpnheaefagfiaaCs
import Derived.Test.YtgpnheaefagfiaaIx
import Derived.Test.YtgpnheaefagfiaaBlk
namespace Go.Proofs.Ytgpnheaefagfiaa
set_option linter.unusedVariables false
set_option linter.unusedSimpArgs false
open Go Go.RowKit
set_option maxRecDepth 100000

def HoKp (a : ByteArray) (w : World) (b0 : Nat) (pv : Value) (X : World) : Prop := X.ownsRow b0 24 4 pv (posns a).length (pcs a (posns a)) ∧ Below w.heap.size w X
def HoRel (a : ByteArray) (w : World) (b0 : Nat) (pv i : Value) (wr : World) : Prop := ∃ k : Nat, i = .int .i64 k ∧ k ≤ (posns a).length ∧ HoKp a w b0 pv wr
def HoB (a : ByteArray) (w : World) (b0 : Nat) (pv : Value) (Q p : Nat) (X : World) : Prop := Blk X Q #[.int .i64 p, .int .i64 (wd a p : Nat), .int .i32 (rn a p : Nat), .bool (bk a p)] 24 ∧ HoKp a w b0 pv X
theorem hoKp_next {a : ByteArray} {w X Y : World} {b0 : Nat} {pv : Value} (h : HoKp a w b0 pv X) (hb : Below X.heap.size X Y) : HoKp a w b0 pv Y := ⟨own_below h.1 hb, h.2.trans (hb.mono h.2.size)⟩
theorem hoB_next {a : ByteArray} {w X Y : World} {b0 Q p : Nat} {pv : Value} (h : HoB a w b0 pv Q p X) (hb : Below X.heap.size X Y) : Y.cell? ⟨Q, 2, none⟩ = some (.int .i32 (rn a p : Nat)) ∧ HoB a w b0 pv Q p Y :=
  ⟨(h.1.below' hb).cell 2, h.1.below' hb, hoKp_next h.2 hb⟩

set_option maxHeartbeats 4000000 in
theorem holds_any (a b : ByteArray) (r : Int) (ha : a.size ≤ 1048576) (hb : b.size ≤ 1048576) (w : World) :
    Calls Try.prog 9 #[.string a, .string b, .int .i32 r] w fun e w' => e = .returned (.bool true) ∧ Below w.heap.size w w' := by
  obtain ⟨p, n, h1, h2⟩ := lk_ex a b
  have cC := Compare_at a b ha hb p n h1 h2
  have cCR := CompareR_at a b ha hb p n h1 h2
  have cM := Common_at a b ha hb p n h1 h2
  have cMR := CommonR_at a b ha hb p n h1 h2
  have cP := piecesR_any a ha
  have hpl := posns_len a
  have cI := fun x => index_any b x (by omega)
  have cIR := fun x => indexR_any b x hb
  have cA := fun x => index_any a x (by omega)
  have cAR := fun x => indexR_any a x ha
  obtain ⟨z, hz⟩ : ∃ z, cmpZ a b p = z := ⟨_, rfl⟩
  rw [hz] at cC cCR
  clear h1 h2 hz
  go_enter Try.func9, Try.ntmps9
  go_wp2_with (first | (go_at_call 15; refine (wakes_any _).mono ?_; rintro e w1 ⟨rfl, hb1⟩) | (go_at_call 47; refine (cC _).mono ?_; rintro e w2 ⟨rfl, hb2⟩) | (go_at_call 48; refine (cCR _).mono ?_; rintro e w3 ⟨rfl, hb3⟩) | (go_at_call 49; refine (cM _).mono ?_; rintro e w4 ⟨rfl, hb4⟩) | (go_at_call 50; refine (cMR _).mono ?_; rintro e w5 ⟨rfl, hb5⟩) | (go_at_call 19; refine (cP _).mono ?_; rintro e w6 ⟨pv, rfl, hown, hb6⟩; obtain ⟨o, cap, rfl, ho⟩ := own_slice hown))
  have hB2 : Below w.heap.size w w2 := hb1.trans (hb2.mono hb1.size)
  have hB3 : Below w.heap.size w w3 := hB2.trans (hb3.mono hB2.size)
  have hB4 : Below w.heap.size w w4 := hB3.trans (hb4.mono hB3.size)
  have hB5 : Below w.heap.size w w5 := hB4.trans (hb5.mono hB4.size)
  have hB6 : Below w.heap.size w w6 := hB5.trans (hb6.mono hB5.size)
  obtain ⟨b0, hb0⟩ : ∃ b0, w5.heap.size = b0 := ⟨_, rfl⟩
  rw [hb0] at hown
  obtain ⟨n, hn⟩ : ∃ n, (posns a).length = n := ⟨_, rfl⟩
  have HN := Lib.hid hn
  have hK : HoKp a w b0 (.slice o n cap) w6 := ⟨by rw [← hn]; exact hown, hB6⟩
  simp only [hn] at hpl ho ⊢
  clear hown hn hb1 hb2 hb3 hb4 hb5 hb6 hB2 hB3 hB4 hB5 hB6 hb0
  have hend : ∀ (X : World) (W : World), True := fun _ _ => trivial
  go_loopw [30] (fun i wr => HoRel a w b0 (.slice o n cap) i wr) (fun i _ => n - (intOf i).toNat)
  case atStart => exact ⟨0, rfl, by omega, hK⟩
  case round =>
    clear hK hend
    obtain ⟨k, rfl, hk, hkp⟩ := hrel
    rw [HN.out] at hk
    by_cases hlt : k < n
    · obtain ⟨g, rfl⟩ := ho (by omega)
      obtain ⟨p, hpk⟩ : ∃ p, (posns a)[k]? = some p := ⟨_, List.getElem?_eq_getElem (by rw [HN.out]; exact hlt)⟩
      have hrow := hkp.1
      rw [HN.out] at hrow
      obtain ⟨c0, c1, c2, c3⟩ := nth_cells hrow HN.out k hlt p hpk
      have hmem := posG_ge a 0 p (List.mem_of_getElem? hpk)
      have hpz := hmem.2
      clear hpk hmem hrow
      have hkB : HoB a w b0 (.slice (some ⟨g, 0, none⟩) n cap) wr.heap.size p (wr.alloc (.cells #[.int .i64 p, .int .i64 (wd a p : Nat), .int .i32 (rn a p : Nat), .bool (bk a p)] 24)) :=
        ⟨Blk.new _ _ _, hoKp_next hkp ((Below.refl _ _).alloc (Nat.le_refl _) _)⟩
      have cI2 := cI (rn a p : Nat)
      have cIR2 := cIR (rn a p : Nat)
      obtain ⟨Q, hQ⟩ : ∃ Q, wr.heap.size = Q := ⟨_, rfl⟩
      have hQs := hQ
      rw [hQ] at hkB
      by_cases h64 : 64 < p
      · have hi64 : (64 : Int) < (p : Int) := by omega
        clear hkp
        go_wp2
        try rw [hQ]
        obtain ⟨W0, hW0⟩ : ∃ W0, wr.alloc (.cells #[.int .i64 p, .int .i64 (wd a p : Nat), .int .i32 (rn a p : Nat), .bool (bk a p)] 24) = W0 := ⟨_, rfl⟩
        rw [hW0] at hkB ⊢
        have hkd := (hoB_next hkB (Below.refl _ _).drew).2
        clear hW0 hQ hQs c0 c1 c2 c3
        go_region_held3 (fun w' => w'.cell? ⟨Q, 2, none⟩ = some (.int .i32 (rn a p : Nat)) ∧ HoB a w b0 (.slice (some ⟨g, 0, none⟩) n cap) Q p w') (first | exact ⟨hkd.1.cell 2, hkd⟩ | exact hoB_next hkd hb7 | exact hoB_next (And.right (by assumption)) hb8 | exact hoB_next (by assumption) hb8) (first | (go_at_call 51; refine (cI2 _).mono ?_; rintro e w7 ⟨rfl, hb7⟩) | (go_at_call 52; refine (cIR2 _).mono ?_; rintro e w8 ⟨rfl, hb8⟩))
        have hS : HoB a w b0 (.slice (some ⟨g, 0, none⟩) n cap) Q p w8 := And.right (by assumption)
        have q0 : w8.cell? ⟨Q, 0, none⟩ = some (.int .i64 p) := hS.1.cell 0
        have hB := hS.2
        clear hS hkB hkd hb7 hb8
        have hBx := hB.2
        go_wp2_with (first | (go_at_call_of 51 (Value.int .i32 r); refine (cA r _).mono ?_; rintro e w9 ⟨rfl, hb9⟩) | (go_at_call_of 52 (Value.int .i32 r); refine (cAR r _).mono ?_; rintro e w10 ⟨rfl, hb10⟩) | (go_at_call_of 51 (Value.int .i32 65533); refine (cA 65533 _).mono ?_; rintro e w11 ⟨rfl, hb11⟩) | (go_at_call_of 52 (Value.int .i32 65533); refine (cAR 65533 _).mono ?_; rintro e w12 ⟨rfl, hb12⟩) | (go_at_call 15; refine (wakes_any _).mono ?_; rintro e w13 ⟨rfl, hb13⟩))
        go_ret
        have hB9 := hBx.trans (hb9.mono hBx.size)
        have hB10 := hB9.trans (hb10.mono hB9.size)
        have hB11 := hB10.trans (hb11.mono hB10.size)
        have hB12 := hB11.trans (hb12.mono hB11.size)
        exact ⟨rfl, hB12.trans (hb13.mono hB12.size)⟩
      · have hi64 : ¬ (64 : Int) < (p : Int) := by omega
        clear hkp
        go_wp2
        try rw [hQ]
        obtain ⟨W0, hW0⟩ : ∃ W0, wr.alloc (.cells #[.int .i64 p, .int .i64 (wd a p : Nat), .int .i32 (rn a p : Nat), .bool (bk a p)] 24) = W0 := ⟨_, rfl⟩
        rw [hW0] at hkB ⊢
        have hkd := (hoB_next hkB (Below.refl _ _).drew).2
        clear hW0 hQ hQs c0 c1 c2 c3
        go_region_held3 (fun w' => w'.cell? ⟨Q, 2, none⟩ = some (.int .i32 (rn a p : Nat)) ∧ HoB a w b0 (.slice (some ⟨g, 0, none⟩) n cap) Q p w') (first | exact ⟨hkd.1.cell 2, hkd⟩ | exact hoB_next hkd hb7 | exact hoB_next (And.right (by assumption)) hb8 | exact hoB_next (by assumption) hb8) (first | (go_at_call 51; refine (cI2 _).mono ?_; rintro e w7 ⟨rfl, hb7⟩) | (go_at_call 52; refine (cIR2 _).mono ?_; rintro e w8 ⟨rfl, hb8⟩))
        have hS : HoB a w b0 (.slice (some ⟨g, 0, none⟩) n cap) Q p w8 := And.right (by assumption)
        have q0 : w8.cell? ⟨Q, 0, none⟩ = some (.int .i64 p) := hS.1.cell 0
        have hB := hS.2
        clear hS hkB hkd hb7 hb8
        go_wp2
        go_roundw
        case rel => exact ⟨k + 1, by go_num, by rw [HN.out]; omega, hB⟩
        case measure => simp [intOf]; omega
    · have hBx := hkp.2
      clear hkp
      go_wp2_with (first | (go_at_call_of 51 (Value.int .i32 r); refine (cA r _).mono ?_; rintro e w9 ⟨rfl, hb9⟩) | (go_at_call_of 52 (Value.int .i32 r); refine (cAR r _).mono ?_; rintro e w10 ⟨rfl, hb10⟩) | (go_at_call_of 51 (Value.int .i32 65533); refine (cA 65533 _).mono ?_; rintro e w11 ⟨rfl, hb11⟩) | (go_at_call_of 52 (Value.int .i32 65533); refine (cAR 65533 _).mono ?_; rintro e w12 ⟨rfl, hb12⟩) | (go_at_call 15; refine (wakes_any _).mono ?_; rintro e w13 ⟨rfl, hb13⟩))
      go_ret
      have hB9 := hBx.trans (hb9.mono hBx.size)
      have hB10 := hB9.trans (hb10.mono hB9.size)
      have hB11 := hB10.trans (hb11.mono hB10.size)
      have hB12 := hB11.trans (hb12.mono hB11.size)
      exact ⟨rfl, hB12.trans (hb13.mono hB12.size)⟩
end Go.Proofs.Ytgpnheaefagfiaa
