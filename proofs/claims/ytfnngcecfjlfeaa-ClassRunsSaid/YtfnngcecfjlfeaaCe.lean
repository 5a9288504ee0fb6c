/- Layer 3: the kinds of a text's pieces, as Go's own range goes through it. -/
import Derived.Test.YtfnngcecfjlfeaaLawCase
import Derived.Test.YtfnngcecfjlfeaaFm
namespace Go.Proofs.Ytfnngcecfjlfeaa
set_option linter.unusedVariables false
set_option linter.unusedSimpArgs false
open Go Go.RowKit Go.Shelf
set_option maxRecDepth 100000

theorem enc_size (r : Int) (h : noR r = false) : (Utf8.encode r).size = widZ r := by
  rw [enc_nums, strOfNums_size]
  unfold encL widZ
  have h2 := h
  rw [noR_not] at h2
  rw [if_neg (by rw [h]; simp), if_neg h2]
  (repeat' split) <;> rfl
theorem noR_rn (s : ByteArray) (i : Nat) (hi : i < s.size) : noR (rn s i) = false := by
  have := valid_rn s i hi
  rw [valid_iff] at this
  rw [noR_not]; omega
theorem enc_rn (s : ByteArray) (i : Nat) (hi : i < s.size) : (Utf8.encode (rn s i)).size = widZ (rn s i) := enc_size _ (noR_rn s i hi)
theorem enc_lost : Utf8.encode 65533 = ⟨#[239, 191, 189]⟩ := by kernel_rfl
theorem lost_form (s : ByteArray) (i : Nat) (hi : i < s.size) (h : rn s i = 65533) (hb : bk s i = false) : wd s i = 3 ∧ i + 3 ≤ s.size ∧ s.extract i (i + 3) = ⟨#[239, 191, 189]⟩ := by
  have hw := wid_rn s i hi hb
  rw [h] at hw
  have h3 : wd s i = 3 := hw.symm
  have hf := wd_fits s i hi
  have hl := (bk_not s i).1 hb
  have hwl : wd s i = lenN s i := by unfold wd; rw [if_neg hl]
  have he := enc_of_form s i hi hl
  refine ⟨h3, by omega, ?_⟩
  rw [h] at he
  rw [← hwl, h3] at he
  rw [← enc_lost]
  simp_all
theorem lost_bytes (s : ByteArray) (i : Nat) (hi : i < s.size) (hb : bk s i = true) (h3 : i + 3 ≤ s.size) : s.extract i (i + 3) ≠ ⟨#[239, 191, 189]⟩ := by
  intro he
  have := form_of_enc s i 3 65533 (by omega) (by omega) h3 (by decide) (by decide) (by rw [he, enc_lost])
  have h0 := (bk_iff s i).1 hb
  omega

theorem lost_list {x : ByteArray} (h : x = ⟨#[239, 191, 189]⟩) : (!(x.toList == [239, 191, 189])) = false := by rw [h]; kernel_rfl
theorem lost_list_not {x : ByteArray} (h : x ≠ ⟨#[239, 191, 189]⟩) : (!(x.toList == [239, 191, 189])) = true := by
  rw [Bool.not_eq_true', beq_eq_false_iff_ne]
  intro he
  exact h (by apply ByteArray.ext; apply Array.ext'; simpa [ByteArray.toList_eq] using he)

theorem ofP_t (i wx r : Int) (w : World) :
    Calls Try.prog 47 #[.agg #[.int .i64 i, .int .i64 wx, .int .i32 r, .bool true]] w fun e w' => e = .returned (.int .i64 11) ∧ Below w.heap.size w w' := by
  go_enter Try.func47, Try.ntmps47
  go_wp2
  go_ret
  exact ⟨rfl, (Below.refl _ _).alloc (Nat.le_refl _) _⟩
theorem ofP_f (i wx r : Int) (w : World) :
    Calls Try.prog 47 #[.agg #[.int .i64 i, .int .i64 wx, .int .i32 r, .bool false]] w fun e w' => e = .returned (.int .i64 (kindZ r)) ∧ Below w.heap.size w w' := by
  have cK := kind_any r
  go_enter Try.func47, Try.ntmps47
  go_wp2_with (go_at_call 32; refine (cK _).mono ?_; rintro e w' ⟨rfl, rfl⟩)
  go_ret
  exact ⟨rfl, (Below.refl _ _).alloc (Nat.le_refl _) _⟩

theorem kind_11 (r : Int) : (kindZ r == 11) = false := by
  rw [beq_eq_false_iff_ne]
  unfold kindZ
  (repeat' split) <;> decide

def PiRel (s : ByteArray) (w : World) (it : Nat) (v : Value) (wr : World) : Prop :=
  ∃ pos : Nat, v = .int .i64 pos ∧ pos ≤ s.size ∧ wr.heap[it]? = some (.stringIter s pos) ∧ Below w.heap.size w wr

theorem pi_next {s : ByteArray} {w wr P w1 w2 : World} {pos W1 : Nat} {cs : Array Value} {T : TypeId} {x y : Value} (hit1 : P.heap[w.heap.size]? = some (.stringIter s (pos + W1))) (hB1 : Below w.heap.size w P)
    (hb1 : Below (P.alloc (.cells cs T)).heap.size (P.alloc (.cells cs T)) w1) (hb2 : Below ((w1.setCell ⟨P.heap.size, 0, none⟩ x).setCell ⟨P.heap.size, 1, none⟩ y).heap.size ((w1.setCell ⟨P.heap.size, 0, none⟩ x).setCell ⟨P.heap.size, 1, none⟩ y) w2)
    (HM : Hid (s.size - (pos + W1) < s.size - wr.iterPos w.heap.size)) (hwf : pos + W1 ≤ s.size) (q : Int) (hq : q = ((pos + W1 : Nat) : Int)) :
    PiRel s w w.heap.size (.int .i64 q) w2 ∧ s.size - w2.iterPos w.heap.size < s.size - wr.iterPos w.heap.size := by
  have hlt : w.heap.size < P.heap.size := (Array.getElem?_eq_some_iff.1 hit1).1
  have hz := hB1.size
  have i1 : w1.heap[w.heap.size]? = some (.stringIter s (pos + W1)) := (hb1.block _ (by simp; omega)).trans ((Below.heap_alloc P _ _ hlt).trans hit1)
  have hlt1 : w.heap.size < w1.heap.size := (Array.getElem?_eq_some_iff.1 i1).1
  have i2 : w2.heap[w.heap.size]? = some (.stringIter s (pos + W1)) := by
    refine (hb2.block _ (by simp; omega)).trans ?_
    rw [Below.heap_setCell _ _ _ _ (by dsimp only; omega), Below.heap_setCell _ _ _ _ (by dsimp only; omega)]
    exact i1
  have B1 := (hB1.alloc hB1.size (.cells cs T)).trans (hb1.mono (by simp; omega))
  have B2 := ((B1.setCell (p := ⟨P.heap.size, 0, none⟩) (by dsimp only; omega) x).setCell (p := ⟨P.heap.size, 1, none⟩) (by dsimp only; omega) y).trans (hb2.mono (by have := B1.size; simp; omega))
  refine ⟨⟨pos + W1, by rw [hq], hwf, i2, B2⟩, ?_⟩
  have := HM.out
  simp only [World.iterPos, i2] at this ⊢
  exact this

set_option maxHeartbeats 4000000 in
theorem pieces_law (s : ByteArray) (hs : s.size ≤ 2147483647) (w : World) :
    Calls Try.prog 15 #[.string s] w fun e w' => e = .returned (.bool true) ∧ Below w.heap.size w w' := by
  have cB := beyond_any s.size (by omega)
  go_enter Try.func15, Try.ntmps15
  go_wp2_with (first | (go_at_call 12; refine (live_any _).mono ?_; rintro e w' ⟨rfl, rfl⟩) | (go_at_call 19; refine (cB _).mono ?_; rintro e w' ⟨rfl, rfl⟩))
  go_loopw [3] (fun v wr => PiRel s w w.heap.size v wr) (fun _ wr => s.size - wr.iterPos w.heap.size)
  case atStart => exact ⟨0, rfl, Nat.zero_le _, World.iter_heap w s 0, (Below.refl _ _).alloc (Nat.le_refl _) _⟩
  case round =>
    obtain ⟨pos, rfl, hpl, hit, hB⟩ := hrel
    by_cases hps : pos < s.size
    · have hnx : ∀ ty, (Instr.next (.pointer (some ⟨w.heap.size, 0, none⟩)) true ty).run Try.prog wr = _ := fun ty => Lib.run_next_any_at wr w.heap.size s pos ty hit hps
      rw [dec_eq s pos hps] at hnx
      have hit1 := Lib.iterAt_heap wr w.heap.size s pos (pos + wd s pos) hit
      have hB1 : Below w.heap.size w (wr.iterAt w.heap.size s (pos + wd s pos)) := Lib.below_iterAt hB (Nat.le_refl _) s _
      have hmeas : s.size - (pos + wd s pos) < s.size - wr.iterPos w.heap.size := by
        have := wd_pos s pos
        simp only [World.iterPos, hit]; omega
      have hwf := wd_fits s pos hps
      have hw1 := wd_pos s pos
      have hE := enc_rn s pos hps
      have hL := fun h => lost_form s pos hps h
      have hK := fun h => lost_bytes s pos hps h
      have hwr := fun h => wid_rn s pos hps h
      have hbr := fun h => bk_rn s pos h
      have cK := kind_any (rn s pos)
      obtain ⟨W1, hW1⟩ : ∃ W1, wd s pos = W1 := ⟨_, rfl⟩
      rw [hW1] at hnx hit1 hB1 hmeas hwf hw1 hL hwr hbr
      obtain ⟨P, hP⟩ : ∃ P, wr.iterAt w.heap.size s (pos + W1) = P := ⟨_, rfl⟩
      rw [hP] at hnx hit1 hB1
      have hlt : w.heap.size < P.heap.size := (Array.getElem?_eq_some_iff.1 hit1).1
      have HM := Lib.hid hmeas
      clear hP hW1 hmeas hit hB
      by_cases h5 : rn s pos = 65533
      · rw [h5] at hnx hE hL hwr hbr
        have h5n : (Utf8.encode 65533).size = 3 := by rw [enc_lost]; rfl
        have hbR : ((65533 : Int) == 65533) = true := rfl
        rw [h5] at cK
        cases hbk : bk s pos with
        | false =>
          obtain ⟨h3, hf3, hex⟩ := hL rfl hbk
          subst h3
          have hd3 : decide ((s.size : Int) - (pos : Int) < 3) = false := decide_eq_false (by omega)
          have hne : (!((s.extract pos (pos + 3)).toList == [239, 191, 189])) = false := lost_list hex
          have cO := fun i wx => ofP_f i wx 65533
          rw [show kindZ ((65533 : Nat) : Int) = 10 by kernel_rfl] at cK
          simp only [show kindZ 65533 = 10 by kernel_rfl] at cO
          have k2 : (0 : Int) ≤ (pos : Int) := by omega
          have k3 : (pos : Int) ≤ (pos : Int) + 3 := by omega
          have k4 : (pos : Int) + 3 ≤ (s.size : Int) := by omega
          have k6 : ((pos : Int) + 3).toNat = pos + 3 := by omega
          have hsub : ((pos : Int) + 3) - (pos : Int) = 3 := by omega
          clear hL hK hwr hbr hE hbk h5 hex
          have mk := trivial
          go_wp2_with (first | (go_at_call 47; clear mk; refine (cO _ _ _).mono ?_; rintro e w1 ⟨rfl, hb1⟩; have b1 : Blk w1 P.heap.size #[.int .i64 pos, .int .i64 3, .int .i32 65533, .bool false] 56 := (Blk.new P _ _).below' hb1; have x0 : w1.cell? ⟨P.heap.size, 0, none⟩ = some (.int .i64 pos) := b1.cell 0; have x1 : w1.cell? ⟨P.heap.size, 1, none⟩ = some (.int .i64 3) := b1.cell 1; have x2 : w1.cell? ⟨P.heap.size, 2, none⟩ = some (.int .i32 65533) := b1.cell 2; have x3 : w1.cell? ⟨P.heap.size, 3, none⟩ = some (.bool false) := b1.cell 3; have f0 := b1.frozen 0; have f1 := b1.frozen 1; have l1 := b1.lt) | (go_at_call 47; refine (cO _ _ _).mono ?_; rintro e w2 ⟨rfl, hb2⟩) | (go_at_call 32; refine (cK _).mono ?_; rintro e w' ⟨rfl, rfl⟩))
          exact pi_next hit1 hB1 hb1 hb2 HM hwf _ (by omega)
        | true =>
          obtain ⟨_, h1⟩ := hbr hbk
          subst h1
          have cO := fun i wx => ofP_t i wx 65533
          have hsub : ((pos : Int) + 1) - (pos : Int) = 1 := by omega
          by_cases hf3 : pos + 3 ≤ s.size
          · have hne0 := hK hbk hf3
            have hd3 : decide ((s.size : Int) - (pos : Int) < 3) = false := decide_eq_false (by omega)
            have hne : (!((s.extract pos (pos + 3)).toList == [239, 191, 189])) = true := lost_list_not hne0
            have k2 : (0 : Int) ≤ (pos : Int) := by omega
            have k3 : (pos : Int) ≤ (pos : Int) + 3 := by omega
            have k4 : (pos : Int) + 3 ≤ (s.size : Int) := by omega
            have k6 : ((pos : Int) + 3).toNat = pos + 3 := by omega
            clear hL hK hwr hbr hE hbk h5 hne0
            have mk := trivial
            go_wp2_with (first | (go_at_call 47; clear mk; refine (cO _ _ _).mono ?_; rintro e w1 ⟨rfl, hb1⟩; have b1 : Blk w1 P.heap.size #[.int .i64 pos, .int .i64 1, .int .i32 65533, .bool true] 56 := (Blk.new P _ _).below' hb1; have x0 : w1.cell? ⟨P.heap.size, 0, none⟩ = some (.int .i64 pos) := b1.cell 0; have x1 : w1.cell? ⟨P.heap.size, 1, none⟩ = some (.int .i64 1) := b1.cell 1; have x2 : w1.cell? ⟨P.heap.size, 2, none⟩ = some (.int .i32 65533) := b1.cell 2; have x3 : w1.cell? ⟨P.heap.size, 3, none⟩ = some (.bool true) := b1.cell 3; have f0 := b1.frozen 0; have f1 := b1.frozen 1; have l1 := b1.lt) | (go_at_call 47; refine (cO _ _ _).mono ?_; rintro e w2 ⟨rfl, hb2⟩) | (go_at_call 32; refine (cK _).mono ?_; rintro e w' ⟨rfl, rfl⟩))
            exact pi_next hit1 hB1 hb1 hb2 HM hwf _ (by omega)
          · have hd3 : decide ((s.size : Int) - (pos : Int) < 3) = true := decide_eq_true (by omega)
            clear hL hK hwr hbr hE hbk h5
            have mk := trivial
            go_wp2_with (first | (go_at_call 47; clear mk; refine (cO _ _ _).mono ?_; rintro e w1 ⟨rfl, hb1⟩; have b1 : Blk w1 P.heap.size #[.int .i64 pos, .int .i64 1, .int .i32 65533, .bool true] 56 := (Blk.new P _ _).below' hb1; have x0 : w1.cell? ⟨P.heap.size, 0, none⟩ = some (.int .i64 pos) := b1.cell 0; have x1 : w1.cell? ⟨P.heap.size, 1, none⟩ = some (.int .i64 1) := b1.cell 1; have x2 : w1.cell? ⟨P.heap.size, 2, none⟩ = some (.int .i32 65533) := b1.cell 2; have x3 : w1.cell? ⟨P.heap.size, 3, none⟩ = some (.bool true) := b1.cell 3; have f0 := b1.frozen 0; have f1 := b1.frozen 1; have l1 := b1.lt) | (go_at_call 47; refine (cO _ _ _).mono ?_; rintro e w2 ⟨rfl, hb2⟩) | (go_at_call 32; refine (cK _).mono ?_; rintro e w' ⟨rfl, rfl⟩))
            exact pi_next hit1 hB1 hb1 hb2 HM hwf _ (by omega)
      · have hbk := bk_of_rn s pos h5
        have hE2 := hE.trans (hwr hbk)
        obtain ⟨R, hR⟩ : ∃ R, rn s pos = R := ⟨_, rfl⟩
        rw [hR] at hnx hE2 h5 cK
        have h5b : ((R : Int) == 65533) = false := by rw [beq_eq_false_iff_ne]; omega
        have k11 := kind_11 R
        have cO := fun i wx => ofP_f i wx R
        obtain ⟨K, hKd⟩ : ∃ K, kindZ R = K := ⟨_, rfl⟩
        rw [hKd] at cK k11
        simp only [hKd] at cO
        have hsub : ((pos : Int) + (W1 : Int)) - (pos : Int) = (W1 : Int) := by omega
        clear hL hK hwr hbr hE hR hKd hbk h5
        have mk := trivial
        go_wp2_with (first | (go_at_call 47; clear mk; refine (cO _ _ _).mono ?_; rintro e w1 ⟨rfl, hb1⟩; have b1 : Blk w1 P.heap.size #[.int .i64 pos, .int .i64 W1, .int .i32 R, .bool false] 56 := (Blk.new P _ _).below' hb1; have x0 : w1.cell? ⟨P.heap.size, 0, none⟩ = some (.int .i64 pos) := b1.cell 0; have x1 : w1.cell? ⟨P.heap.size, 1, none⟩ = some (.int .i64 W1) := b1.cell 1; have x2 : w1.cell? ⟨P.heap.size, 2, none⟩ = some (.int .i32 R) := b1.cell 2; have x3 : w1.cell? ⟨P.heap.size, 3, none⟩ = some (.bool false) := b1.cell 3; have f0 := b1.frozen 0; have f1 := b1.frozen 1; have l1 := b1.lt) | (go_at_call 47; refine (cO _ _ _).mono ?_; rintro e w2 ⟨rfl, hb2⟩) | (go_at_call 32; refine (cK _).mono ?_; rintro e w' ⟨rfl, rfl⟩))
        exact pi_next hit1 hB1 hb1 hb2 HM hwf _ (by omega)
    · have hnx : ∀ ty, (Instr.next (.pointer (some ⟨w.heap.size, 0, none⟩)) true ty).run Try.prog wr = _ := fun ty => Lib.run_next_end_at wr w.heap.size s pos ty hit hps
      obtain rfl : pos = s.size := by omega
      go_wp2
      go_ret
      exact ⟨rfl, hB⟩
end Go.Proofs.Ytfnngcecfjlfeaa
