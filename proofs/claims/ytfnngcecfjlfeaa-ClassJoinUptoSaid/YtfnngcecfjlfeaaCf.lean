/- Layer 3: a text's letters, as a range over it meets them. -/
import Derived.Test.YtfnngcecfjlfeaaCe
import Derived.Test.YtfnngcecfjlfeaaTl
namespace Go.Proofs.Ytfnngcecfjlfeaa
set_option linter.unusedVariables false
set_option linter.unusedSimpArgs false
open Go Go.RowKit Go.Shelf
set_option maxRecDepth 100000
attribute [local go_sem] Oper.semAt_some

theorem lpos_cons_t {s : ByteArray} {i : Nat} (h : leB (rn s i) = true) (l : List Nat) : lpos s (i :: l) = i :: lpos s l := by simp [lpos, h]
theorem lpos_cons_f {s : ByteArray} {i : Nat} (h : leB (rn s i) = false) (l : List Nat) : lpos s (i :: l) = lpos s l := by simp [lpos, h]
theorem lpos_tail (s : ByteArray) : ∀ i, ∀ (a : List Nat) (p : Nat) (b : List Nat), lpos s (posG s i) = a ++ p :: b → lpos s (posG s (p + wd s p)) = b ∧ leB (rn s p) = true ∧ p < s.size ∧ i ≤ p := by
  apply posG_ind s
  · intro i hi a p b h; rw [posG_end s i hi] at h; cases a <;> cases h
  · intro i hi ih a p b h
    rw [posG_cons s i hi] at h
    have hw := wd_pos s i
    cases hl : leB (rn s i) with
    | true =>
      rw [lpos_cons_t hl] at h
      cases a with
      | nil =>
        obtain ⟨rfl, rfl⟩ := List.cons.inj h
        exact ⟨rfl, hl, hi, Nat.le_refl _⟩
      | cons y a =>
        have := ih a p b (List.cons.inj h).2
        exact ⟨this.1, this.2.1, this.2.2.1, by omega⟩
    | false =>
      rw [lpos_cons_f hl] at h
      have := ih a p b h
      exact ⟨this.1, this.2.1, this.2.2.1, by omega⟩

/-- Where a range over letters goes on. -/
def endL {s : ByteArray} (pre : List (Pos s)) : Nat := match pre.getLast? with | some x => x.1 + widZ (rn s x.1) | none => 0
theorem endL_snoc {s : ByteArray} (pre : List (Pos s)) (x : Pos s) : endL (pre ++ [x]) = x.1 + widZ (rn s x.1) := by simp [endL]
theorem endL_nil {s : ByteArray} : endL ([] : List (Pos s)) = 0 := rfl
theorem letter_wid {s : ByteArray} {p : Nat} (hp : p < s.size) (h : leB (rn s p) = true) : widZ (rn s p) = wd s p := wid_rn s p hp (bk_letter h)
theorem endL_rest {s : ByteArray} (pre : List (Pos s)) (r : List Nat) (h : lpos s (posns s) = pre.map (·.1) ++ r) : lpos s (posG s (endL pre)) = r := by
  rcases List.eq_nil_or_concat pre with rfl | ⟨q, x, e⟩
  · rw [endL_nil]; simpa [posns_G] using h
  · rw [List.concat_eq_append] at e
    subst e
    rw [endL_snoc]
    have h2 : lpos s (posG s 0) = q.map (·.1) ++ x.1 :: r := by rw [← posns_G, h]; simp
    obtain ⟨k1, k2, k3, _⟩ := lpos_tail s 0 _ _ _ h2
    rw [letter_wid k3 k2]; exact k1
theorem endL_le {s : ByteArray} (pre : List (Pos s)) (r : List Nat) (h : lpos s (posns s) = pre.map (·.1) ++ r) : endL pre ≤ s.size := by
  rcases List.eq_nil_or_concat pre with rfl | ⟨q, x, e⟩
  · rw [endL_nil]; omega
  · rw [List.concat_eq_append] at e
    subst e
    rw [endL_snoc]
    have h2 : lpos s (posG s 0) = q.map (·.1) ++ x.1 :: r := by rw [← posns_G, h]; simp
    obtain ⟨k1, k2, k3, _⟩ := lpos_tail s 0 _ _ _ h2
    rw [letter_wid k3 k2]; exact wd_fits s _ k3

theorem keeps_of_below {W P : World} (hb : Below W.heap.size W P) : KeepsOthers W P := ⟨hb.size, fun k o h _ => (hb.block k (Array.getElem?_eq_some_iff.1 h).1).trans h⟩

def LeI (s : ByteArray) (w : World) (pre : List (Pos s)) (W : World) : Prop :=
  (((Boxed W w.heap.size 9 (.string s) ∧ Boxed W (w.heap.size + 1) 4 (.bool false)) ∧ Boxed W (w.heap.size + 2) 9 (.string s)) ∧ Boxed W (w.heap.size + 3) 3 (.int .i64 (endL pre : Nat))) ∧ Below w.heap.size w W
def LiH (s : ByteArray) (N x : Nat) (W : World) (wr : World) : Prop :=
  ∃ (j : Nat) (rest : List Nat), wr.heap[W.heap.size]? = some (.stringIter (s.extract N s.size) j) ∧ lpos s (posG s (N + j)) = x :: rest ∧ Below W.heap.size W wr
def LiN (s : ByteArray) (N : Nat) (W : World) (wr : World) : Prop :=
  ∃ j : Nat, wr.heap[W.heap.size]? = some (.stringIter (s.extract N s.size) j) ∧ Below W.heap.size W wr
def LiD (s : ByteArray) (N : Nat) (W : World) (wr : World) : Prop :=
  ∃ j : Nat, wr.heap[W.heap.size]? = some (.stringIter (s.extract N s.size) j) ∧ lpos s (posG s (N + j)) = [] ∧ Below W.heap.size W wr

set_option maxHeartbeats 4000000 in
theorem letters_in (s : ByteArray) (hs : s.size ≤ 2147483647) (w : World) :
    CallsIn Fence.wide 11 Try.prog 16 #[.string s] w fun e w' => e = .returned (.bool true) ∧ Below w.heap.size w w' := by
  have cB := beyond_any s.size (by omega)
  refine callsIn_of_wp_marks Try.func16 rfl trivial ?_ rfl
  simp only [Try.ntmps16, List.size_toArray, List.length_cons, List.length_nil, Nat.reduceAdd, Nat.reduceSub, Array.replicate_succ, Array.replicate_zero, List.push_toArray, List.append_toArray, List.nil_append, List.cons_append]
  have hF : ∀ f, Fence.wide.fn f := fun _ => trivial
  have hnil : ∀ (b : Nat) (W : World), (binOp .eql 59 (.func (.func 64) #[] #[.pointer (some ⟨b, 0, none⟩)]) .nilFunc).run Try.prog W = .ok (.bool false) W := fun _ _ => by kernel_rfl
  gi_wp2_with (first | (gi_at_call 48; refine (callsIn_wide.2 (letters_any _ _)).mono ?_; rintro e w' ⟨rfl, rfl⟩) | (gi_at_call 19; refine (callsIn_wide.2 (cB _)).mono ?_; rintro e w' ⟨rfl, rfl⟩))
  have b0 := (((Boxed.new w 9 (.string s)).alloc (.cells #[.bool false] 4)).alloc (.cells #[.string s] 9)).alloc (.cells #[.int .i64 0] 3)
  have b1 := ((Boxed.new (w.alloc (.cells #[.string s] 9)) 4 (.bool false)).alloc (.cells #[.string s] 9)).alloc (.cells #[.int .i64 0] 3)
  have b2 := (Boxed.new ((w.alloc (.cells #[.string s] 9)).alloc (.cells #[.bool false] 4)) 9 (.string s)).alloc (.cells #[.int .i64 0] 3)
  have b3 := Boxed.new (((w.alloc (.cells #[.string s] 9)).alloc (.cells #[.bool false] 4)).alloc (.cells #[.string s] 9)) 3 (.int .i64 0)
  simp only [World.size_alloc] at b1 b2 b3
  have hB0 := ((((Below.refl _ w).alloc (Nat.le_refl _) (.cells #[.string s] 9)).alloc (by simp) (.cells #[.bool false] 4)).alloc (by simp; omega) (.cells #[.string s] 9)).alloc (by simp; omega) (.cells #[.int .i64 0] 3)
  have hsz : ((((w.alloc (.cells #[.string s] 9)).alloc (.cells #[.bool false] 4)).alloc (.cells #[.string s] 9)).alloc (.cells #[.int .i64 0] 3)).heap.size = w.heap.size + 4 := by simp
  obtain ⟨W0, hW0⟩ : ∃ W0, ((((w.alloc (.cells #[.string s] 9)).alloc (.cells #[.bool false] 4)).alloc (.cells #[.string s] 9)).alloc (.cells #[.int .i64 0] 3)) = W0 := ⟨_, rfl⟩
  rw [hW0] at b0 b1 b2 b3 hB0 hsz ⊢
  clear hW0
  refine range_letters s (by omega) (w.heap.size + 1 + 1) b2 rfl (LeI s w) (fun _ pre _ => ¬ (List.map (fun (x : Pos s) => (x.1 : Nat)) pre <+: lpos s (posns s)))
    (OwnFrom.and (OwnFrom.and (OwnFrom.and (OwnFrom.and (Own.from (boxed_own _ _ _) _) (Own.from (boxed_own _ _ _) _)) (Own.from (boxed_own _ _ _) _)) (Own.from (boxed_own _ _ _) _)) (ownFrom_below (Nat.le_refl _) (by omega)))
    (fun _ _ _ _ _ hs _ _ => hs) ⟨⟨⟨⟨b0, b1⟩, b2⟩, b3⟩, hB0⟩ (fun x t => (t.setIfInBounds 5 (.int .i64 x.1)).setIfInBounds 6 (.int .i32 (rn s x.1 : Nat))) ?assign ?body ?done ?stop
  case assign =>
    intro l x W K hK
    gi_wp2
    exact hK
  case stop =>
    rintro D c pre W _ h k _
    exact absurd h k
  case body =>
    rintro l pre x W ⟨⟨⟨⟨h0, h1⟩, h2⟩, h3⟩, hB⟩ hlen
    have hsn := endL_snoc pre x
    have hpr : ∀ (_ : List.map (fun (x : Pos s) => (x.1 : Nat)) (pre ++ [x]) <+: lpos s (posns s)), ∃ rest, lpos s (posG s (endL pre)) = x.1 :: rest ∧ endL pre ≤ x.1 ∧ leB (rn s x.1) = true := by
      rintro ⟨r, hr⟩
      have h := endL_rest pre (x.1 :: r) (by rw [← hr]; simp)
      obtain ⟨_, k2, _, k4⟩ := lpos_tail s _ [] x.1 r h
      exact ⟨r, h, k4, k2⟩
    have hx := x.2
    obtain ⟨X, hX⟩ : ∃ X, x.1 = X := ⟨_, rfl⟩
    obtain ⟨N, hN⟩ : ∃ N, endL pre = N := ⟨_, rfl⟩
    simp only [hX, hN] at hpr
    rw [hX] at hsn hx ⊢
    rw [hN] at h3
    have hE := enc_rn s X hx
    obtain ⟨R, hR⟩ : ∃ R, rn s X = R := ⟨_, rfl⟩
    have hwz := widZ_le R
    rw [hR] at hsn hE hpr ⊢
    obtain ⟨Z, hZ⟩ : ∃ Z, widZ R = Z := ⟨_, rfl⟩
    rw [hZ] at hsn hE hwz
    have HS := Lib.hid hsn
    have HP := Lib.hid hpr
    have HR := Lib.hid hR
    have hc0 := h0.cell
    have hc1 := h1.cell
    have hf1 := h1.frozen
    have hc3 := h3.cell
    have hf3 := h3.frozen
    have l0 : w.heap.size + 3 < W.heap.size := Blk.lt (show Blk _ _ _ _ from h3)
    have HE : Unit → (Utf8.encode (R : Int)).size = Z := fun _ => hE
    clear hsn hpr hR hX hN hZ hE
    by_cases hNX : N ≤ X
    · have d1 : decide (X < N) = false := decide_eq_false (by omega)
      have d2 : decide (s.size ≤ X) = false := decide_eq_false (by omega)
      have k2 : (0 : Int) ≤ (N : Int) := by omega
      have k4 : (N : Int) ≤ (s.size : Int) := by omega
      by_cases hp : List.map (fun (x : Pos s) => (x.1 : Nat)) (pre ++ [x]) <+: lpos s (posns s)
      · obtain ⟨rest, e1, e2, e3⟩ := HP.out hp
        rw [← HR.out] at e3
        have e4 : lpos s (posG s (N + 0)) = X :: rest := e1
        have HL := Lib.hid e3
        have H4 := Lib.hid e4
        clear e1 e2 e3 e4
        gi_wp2
        gi_loopw [] (fun wr => LiH s N X W wr) (fun wr => (s.size - N) - wr.iterPos W.heap.size)
        case atStart => exact ⟨0, rest, World.iter_heap W _ 0, H4.out, (Below.refl _ _).alloc (Nat.le_refl _) _⟩
        case round =>
          obtain ⟨j, rest, hit, hl, hBW⟩ := hrel
          have hjs : N + j < s.size := by
            by_cases h : N + j < s.size
            · exact h
            · rw [posG_end s (N + j) (by omega)] at hl; cases hl
          have hps : j < (s.extract N s.size).size := by rw [tl_size]; omega
          have hnx : ∀ ty, (Instr.next (.pointer (some ⟨W.heap.size, 0, none⟩)) true ty).run Try.prog wr = _ := fun ty => Lib.run_next_any_at wr W.heap.size (s.extract N s.size) j ty hit hps
          rw [dec_eq (s.extract N s.size) j hps, tl_rn, tl_wd] at hnx
          have hit1 := Lib.iterAt_heap wr W.heap.size (s.extract N s.size) j (j + wd s (N + j)) hit
          have hB1 : Below W.heap.size W (wr.iterAt W.heap.size (s.extract N s.size) (j + wd s (N + j))) := Lib.below_iterAt hBW (Nat.le_refl _) _ _
          have hmeas : (s.size - N) - (j + wd s (N + j)) < (s.size - N) - wr.iterPos W.heap.size := by
            have := wd_pos s (N + j)
            simp only [World.iterPos, hit]; omega
          obtain ⟨P, hP⟩ : ∃ P, wr.iterAt W.heap.size (s.extract N s.size) (j + wd s (N + j)) = P := ⟨_, rfl⟩
          rw [hP] at hnx hit1 hB1
          have HM := Lib.hid hmeas
          have m0 : Boxed P w.heap.size 9 (.string s) := Blk.below' (show Blk W _ _ _ from h0) hB1
          have m1 : Boxed P (w.heap.size + 1) 4 (.bool false) := Blk.below' (show Blk W _ _ _ from h1) hB1
          have m2 : Boxed P (w.heap.size + 2) 9 (.string s) := Blk.below' (show Blk W _ _ _ from h2) hB1
          have m3 : Boxed P (w.heap.size + 3) 3 (.int .i64 (N : Nat)) := Blk.below' (show Blk W _ _ _ from h3) hB1
          have mc3 := m3.cell
          have mf3 := m3.frozen
          have ml := hB1.size
          by_cases hjx : N + j = X
          · have hRR : rn s (N + j) = R := by rw [hjx]; exact HR.out
            have cK := kindD_any R
            rw [kind_letter (by rw [← HR.out]; exact HL.out)] at cK
            rw [hRR] at hnx
            have hjb : ((N : Int) + (j : Int) == (X : Int)) = true := by rw [beq_iff_eq]; omega
            have hEi : (((Utf8.encode (R : Int)).size : Nat) : Int) = (Z : Int) := by rw [HE ()]
            have HJ := Lib.hid hjx
            clear hP hmeas hit hBW hl hRR hjx hc0 hc1 hf1 hc3 hf3
            gi_wp2_with (first | (gi_at_call 35; refine (callsIn_wide.2 (cK _)).mono ?_; rintro e w' ⟨rfl, rfl⟩))
            have k0 := m0.other (B' := w.heap.size + 3) (by omega) (.int .i64 ((X : Int) + (Z : Int)))
            have k1 := m1.other (B' := w.heap.size + 3) (by omega) (.int .i64 ((X : Int) + (Z : Int)))
            have k2' := m2.other (B' := w.heap.size + 3) (by omega) (.int .i64 ((X : Int) + (Z : Int)))
            have k3 := m3.set (.int .i64 ((X : Int) + (Z : Int)))
            have kk := (keeps_of_below hB1).trans (KeepsOthers.setCell P ⟨w.heap.size + 3, 0, none⟩ (.int .i64 ((X : Int) + (Z : Int))))
            have kB := (hB.trans (hB1.mono hB.size)).setCell (p := ⟨w.heap.size + 3, 0, none⟩) (by dsimp only; omega) (.int .i64 ((X : Int) + (Z : Int)))
            refine ⟨kk.from _, ⟨kk.walks, (show _ = _ from k2').trans (show _ = _ from h2).symm⟩, ⟨⟨⟨⟨k0, k1⟩, k2'⟩, ?_⟩, kB⟩⟩
            rw [HS.out, show ((X + Z : Nat) : Int) = (X : Int) + (Z : Int) by omega]; exact k3
          · have hjb : ((N : Int) + (j : Int) == (X : Int)) = false := by rw [beq_eq_false_iff_ne]; omega
            rw [posG_cons s (N + j) hjs] at hl
            have hle : leB (rn s (N + j)) = false := by
              cases h : leB (rn s (N + j)) with
              | false => rfl
              | true => rw [lpos_cons_t h] at hl; exact absurd (List.cons.inj hl).1 hjx
            rw [lpos_cons_f hle, Nat.add_assoc] at hl
            have HL2 := Lib.hid hl
            have cK := kindD_any (rn s (N + j))
            have hkn := kind_not hle
            obtain ⟨K, hKd⟩ : ∃ K, kindZ (rn s (N + j)) = K := ⟨_, rfl⟩
            rw [hKd] at cK hkn
            clear hP hmeas hit hBW hl hjx hle hKd hc0 hc1 hf1 hc3 hf3
            gi_wp2_with (first | (gi_at_call 35; refine (callsIn_wide.2 (cK _)).mono ?_; rintro e w' ⟨rfl, rfl⟩))
            go_roundw
            case rel => exact ⟨_, rest, hit1, HL2.out, hB1⟩
            case measure => simp only [World.iterPos, hit1]; exact HM.out
      · have HN := Lib.hid hp
        clear hp
        gi_wp2
        gi_loopw [] (fun wr => LiN s N W wr) (fun wr => (s.size - N) - wr.iterPos W.heap.size)
        case atStart => exact ⟨0, World.iter_heap W _ 0, (Below.refl _ _).alloc (Nat.le_refl _) _⟩
        case round =>
          obtain ⟨j, hit, hBW⟩ := hrel
          by_cases hps : j < (s.extract N s.size).size
          · have hjs : N + j < s.size := by rw [tl_size] at hps; omega
            have hnx : ∀ ty, (Instr.next (.pointer (some ⟨W.heap.size, 0, none⟩)) true ty).run Try.prog wr = _ := fun ty => Lib.run_next_any_at wr W.heap.size (s.extract N s.size) j ty hit hps
            rw [dec_eq (s.extract N s.size) j hps, tl_rn, tl_wd] at hnx
            have hit1 := Lib.iterAt_heap wr W.heap.size (s.extract N s.size) j (j + wd s (N + j)) hit
            have hB1 : Below W.heap.size W (wr.iterAt W.heap.size (s.extract N s.size) (j + wd s (N + j))) := Lib.below_iterAt hBW (Nat.le_refl _) _ _
            have hmeas : (s.size - N) - (j + wd s (N + j)) < (s.size - N) - wr.iterPos W.heap.size := by
              have := wd_pos s (N + j)
              simp only [World.iterPos, hit]; omega
            obtain ⟨P, hP⟩ : ∃ P, wr.iterAt W.heap.size (s.extract N s.size) (j + wd s (N + j)) = P := ⟨_, rfl⟩
            rw [hP] at hnx hit1 hB1
            have HM := Lib.hid hmeas
            have m0 : Boxed P w.heap.size 9 (.string s) := Blk.below' (show Blk W _ _ _ from h0) hB1
            have m1 : Boxed P (w.heap.size + 1) 4 (.bool false) := Blk.below' (show Blk W _ _ _ from h1) hB1
            have m2 : Boxed P (w.heap.size + 2) 9 (.string s) := Blk.below' (show Blk W _ _ _ from h2) hB1
            have m3 : Boxed P (w.heap.size + 3) 3 (.int .i64 (N : Nat)) := Blk.below' (show Blk W _ _ _ from h3) hB1
            have mc3 := m3.cell
            have mf3 := m3.frozen
            have mc1 := m1.cell
            have mf1 := m1.frozen
            have ml := hB1.size
            have kk1 := (keeps_of_below hB1).trans (KeepsOthers.setCell P ⟨w.heap.size + 1, 0, none⟩ (.bool false))
            by_cases hjx : N + j = X
            · have hRR : rn s (N + j) = R := by rw [hjx]; exact HR.out
              have cK := kindD_any R
              rw [hRR] at hnx
              have hjb : ((N : Int) + (j : Int) == (X : Int)) = true := by rw [beq_iff_eq]; omega
              obtain ⟨K, hKd⟩ : ∃ K, kindZ R = K := ⟨_, rfl⟩
              rw [hKd] at cK
              have hEi : (((Utf8.encode (R : Int)).size : Nat) : Int) = (Z : Int) := by rw [HE ()]
              clear hP hmeas hit hBW hRR hjx hc0 hc1 hf1 hc3 hf3 hKd
              by_cases hk1 : K = 1
              · subst hk1
                gi_wp2_with (first | (gi_at_call 35; refine (callsIn_wide.2 (cK _)).mono ?_; rintro e w' ⟨rfl, rfl⟩))
                have k0 := m0.other (B' := w.heap.size + 3) (by omega) (.int .i64 ((X : Int) + (Z : Int)))
                have k1 := m1.other (B' := w.heap.size + 3) (by omega) (.int .i64 ((X : Int) + (Z : Int)))
                have k2' := m2.other (B' := w.heap.size + 3) (by omega) (.int .i64 ((X : Int) + (Z : Int)))
                have k3 := m3.set (.int .i64 ((X : Int) + (Z : Int)))
                have kk := (keeps_of_below hB1).trans (KeepsOthers.setCell P ⟨w.heap.size + 3, 0, none⟩ (.int .i64 ((X : Int) + (Z : Int))))
                have kB := (hB.trans (hB1.mono hB.size)).setCell (p := ⟨w.heap.size + 3, 0, none⟩) (by dsimp only; omega) (.int .i64 ((X : Int) + (Z : Int)))
                refine ⟨kk.from _, ⟨kk.walks, (show _ = _ from k2').trans (show _ = _ from h2).symm⟩, ⟨⟨⟨⟨k0, k1⟩, k2'⟩, ?_⟩, kB⟩⟩
                rw [HS.out, show ((X + Z : Nat) : Int) = (X : Int) + (Z : Int) by omega]; exact k3
              · have hkb : (K == 1) = false := by rw [beq_eq_false_iff_ne]; exact hk1
                gi_wp2_with (first | (gi_at_call 35; refine (callsIn_wide.2 (cK _)).mono ?_; rintro e w' ⟨rfl, rfl⟩))
                exact ⟨kk1.from _, HN.out⟩
            · have hjb : ((N : Int) + (j : Int) == (X : Int)) = false := by rw [beq_eq_false_iff_ne]; omega
              have cK := kindD_any (rn s (N + j))
              obtain ⟨K, hKd⟩ : ∃ K, kindZ (rn s (N + j)) = K := ⟨_, rfl⟩
              rw [hKd] at cK
              clear hP hmeas hit hBW hjx hKd hc0 hc1 hf1 hc3 hf3
              by_cases hk1 : K = 1
              · subst hk1
                gi_wp2_with (first | (gi_at_call 35; refine (callsIn_wide.2 (cK _)).mono ?_; rintro e w' ⟨rfl, rfl⟩))
                exact ⟨kk1.from _, HN.out⟩
              · have hkb : (K == 1) = false := by rw [beq_eq_false_iff_ne]; exact hk1
                gi_wp2_with (first | (gi_at_call 35; refine (callsIn_wide.2 (cK _)).mono ?_; rintro e w' ⟨rfl, rfl⟩))
                go_roundw
                case rel => exact ⟨_, hit1, hB1⟩
                case measure => simp only [World.iterPos, hit1]; exact HM.out
          · have hnx : ∀ ty, (Instr.next (.pointer (some ⟨W.heap.size, 0, none⟩)) true ty).run Try.prog wr = _ := fun ty => Lib.run_next_end_at wr W.heap.size (s.extract N s.size) j ty hit hps
            obtain ⟨P, hP⟩ : ∃ P, wr = P := ⟨_, rfl⟩
            rw [hP] at hnx hit hBW ⊢
            have hB1 := hBW
            have m0 : Boxed P w.heap.size 9 (.string s) := Blk.below' (show Blk W _ _ _ from h0) hB1
            have m1 : Boxed P (w.heap.size + 1) 4 (.bool false) := Blk.below' (show Blk W _ _ _ from h1) hB1
            have m2 : Boxed P (w.heap.size + 2) 9 (.string s) := Blk.below' (show Blk W _ _ _ from h2) hB1
            have m3 : Boxed P (w.heap.size + 3) 3 (.int .i64 (N : Nat)) := Blk.below' (show Blk W _ _ _ from h3) hB1
            have mc3 := m3.cell
            have mf3 := m3.frozen
            have ml := hB1.size
            have hEi : (((Utf8.encode (R : Int)).size : Nat) : Int) = (Z : Int) := by rw [HE ()]
            clear hP hit hBW hc0 hc1 hf1 hc3 hf3
            gi_wp2
            have k0 := m0.other (B' := w.heap.size + 3) (by omega) (.int .i64 ((X : Int) + (Z : Int)))
            have k1 := m1.other (B' := w.heap.size + 3) (by omega) (.int .i64 ((X : Int) + (Z : Int)))
            have k2' := m2.other (B' := w.heap.size + 3) (by omega) (.int .i64 ((X : Int) + (Z : Int)))
            have k3 := m3.set (.int .i64 ((X : Int) + (Z : Int)))
            have kk := (keeps_of_below hB1).trans (KeepsOthers.setCell P ⟨w.heap.size + 3, 0, none⟩ (.int .i64 ((X : Int) + (Z : Int))))
            have kB := (hB.trans (hB1.mono hB.size)).setCell (p := ⟨w.heap.size + 3, 0, none⟩) (by dsimp only; omega) (.int .i64 ((X : Int) + (Z : Int)))
            refine ⟨kk.from _, ⟨kk.walks, (show _ = _ from k2').trans (show _ = _ from h2).symm⟩, ⟨⟨⟨⟨k0, k1⟩, k2'⟩, ?_⟩, kB⟩⟩
            rw [HS.out, show ((X + Z : Nat) : Int) = (X : Int) + (Z : Int) by omega]; exact k3
    · have d1 : decide (X < N) = true := decide_eq_true (by omega)
      have hne : ¬ (List.map (fun (x : Pos s) => (x.1 : Nat)) (pre ++ [x]) <+: lpos s (posns s)) := fun h => by obtain ⟨_, _, h2, _⟩ := HP.out h; omega
      gi_wp2
      exact ⟨(KeepsOthers.setCell _ _ _).from _, hne⟩
  case done =>
    rintro D xs W hD hxs ⟨⟨⟨⟨h0, h1⟩, h2⟩, h3⟩, hB⟩ hK
    have e1 := endL_rest xs [] (by rw [hxs]; simp)
    have e2 := endL_le xs [] (by rw [hxs]; simp)
    obtain ⟨N, hN⟩ : ∃ N, endL xs = N := ⟨_, rfl⟩
    rw [hN] at h3 e1 e2
    have H4 : Hid (lpos s (posG s (N + 0)) = []) := Lib.hid e1
    have hc0 := h0.cell
    have hc1 := h1.cell
    have hf1 := h1.frozen
    have hc3 := h3.cell
    have l0 : w.heap.size + 3 < W.heap.size := Blk.lt (show Blk _ _ _ _ from h3)
    have k2 : (0 : Int) ≤ (N : Int) := by omega
    have k4 : (N : Int) ≤ (s.size : Int) := by omega
    clear hN hxs e1
    gi_wp2
    refine wpIn_wide.2 ?_
    go_loopw [] (fun wr => LiD s N W wr) (fun wr => (s.size - N) - wr.iterPos W.heap.size)
    case atStart => exact ⟨0, World.iter_heap W _ 0, H4.out, (Below.refl _ _).alloc (Nat.le_refl _) _⟩
    case round =>
      obtain ⟨j, hit, hl, hBW⟩ := hrel
      have m1 : Boxed wr (w.heap.size + 1) 4 (.bool false) := Blk.below' (show Blk W _ _ _ from h1) hBW
      by_cases hps : j < (s.extract N s.size).size
      · have hjs : N + j < s.size := by rw [tl_size] at hps; omega
        have hnx : ∀ ty, (Instr.next (.pointer (some ⟨W.heap.size, 0, none⟩)) true ty).run Try.prog wr = _ := fun ty => Lib.run_next_any_at wr W.heap.size (s.extract N s.size) j ty hit hps
        rw [dec_eq (s.extract N s.size) j hps, tl_rn, tl_wd] at hnx
        have hit1 := Lib.iterAt_heap wr W.heap.size (s.extract N s.size) j (j + wd s (N + j)) hit
        have hB1 : Below W.heap.size W (wr.iterAt W.heap.size (s.extract N s.size) (j + wd s (N + j))) := Lib.below_iterAt hBW (Nat.le_refl _) _ _
        have hmeas : (s.size - N) - (j + wd s (N + j)) < (s.size - N) - wr.iterPos W.heap.size := by
          have := wd_pos s (N + j)
          simp only [World.iterPos, hit]; omega
        rw [posG_cons s (N + j) hjs] at hl
        have hle : leB (rn s (N + j)) = false := by
          cases h : leB (rn s (N + j)) with
          | false => rfl
          | true => rw [lpos_cons_t h] at hl; cases hl
        rw [lpos_cons_f hle, Nat.add_assoc] at hl
        obtain ⟨P, hP⟩ : ∃ P, wr.iterAt W.heap.size (s.extract N s.size) (j + wd s (N + j)) = P := ⟨_, rfl⟩
        rw [hP] at hnx hit1 hB1
        have HM := Lib.hid hmeas
        have HL2 := Lib.hid hl
        have cK := kindD_any (rn s (N + j))
        have hkn := kind_not hle
        obtain ⟨K, hKd⟩ : ∃ K, kindZ (rn s (N + j)) = K := ⟨_, rfl⟩
        rw [hKd] at cK hkn
        clear hP hmeas hit hBW hl hle hKd hc0 hc1 hf1 hc3 m1
        go_wp2_with (first | (go_at_call 35; refine (cK _).mono ?_; rintro e w' ⟨rfl, rfl⟩))
        go_roundw
        case rel => exact ⟨_, hit1, HL2.out, hB1⟩
        case measure => simp only [World.iterPos, hit1]; exact HM.out
      · have hnx : ∀ ty, (Instr.next (.pointer (some ⟨W.heap.size, 0, none⟩)) true ty).run Try.prog wr = _ := fun ty => Lib.run_next_end_at wr W.heap.size (s.extract N s.size) j ty hit hps
        have kD : wr.heap[D]? = some (.deferred (some [])) := (hBW.block D (Array.getElem?_eq_some_iff.1 hK).1).trans hK
        have mc1 := m1.cell
        have mf1 := m1.frozen
        have ml := hBW.size
        have hBw := hB.trans (hBW.mono hB.size)
        clear hit hl hc0 hc1 hf1 hc3
        go_wp2
        gi_wp2
        have m9 : Boxed (wr.setCell ⟨w.heap.size + 1, 0, none⟩ (.bool true)) (w.heap.size + 1) 4 (.bool true) := m1.set _
        have j9 : (wr.setCell ⟨w.heap.size + 1, 0, none⟩ (.bool true)).heap[D]? = some (.deferred (some [])) := by rw [Below.heap_setCell _ _ _ _ (by dsimp only; omega)]; exact kD
        have hB9 := hBw.setCell (p := ⟨w.heap.size + 1, 0, none⟩) (by simp) (.bool true)
        obtain ⟨W9, hW9⟩ : ∃ W9, wr.setCell ⟨w.heap.size + 1, 0, none⟩ (.bool true) = W9 := ⟨_, rfl⟩
        rw [hW9] at m9 j9 hB9 ⊢
        clear hW9
        have c10 : (W9.putObj D (.deferred none)).cell? ⟨w.heap.size + 1, 0, none⟩ = some (.bool true) := (World.cell?_of_block (w := W9) (World.putObj_heap_other (by dsimp only; omega))).trans m9.cell
        have hB10 := hB9.trans (belowK_b (w := w) (Nat.le_refl _) W9 D _ (.deferred none) (by omega) j9 rfl rfl)
        refine ⟨by simp, .inl ⟨_, _, rfl, run_takeDeferred (w := W9) j9, ?_⟩⟩
        refine ⟨.bool true, ?_, rfl, hB10⟩
        simp [results, Try.f16, go_sem, c10]

theorem letters_law (s : ByteArray) (hs : s.size ≤ 2147483647) (w : World) :
    Calls Try.prog 16 #[.string s] w fun e w' => e = .returned (.bool true) ∧ Below w.heap.size w w' := callsIn_wide.1 (letters_in s hs w)
end Go.Proofs.Ytfnngcecfjlfeaa
