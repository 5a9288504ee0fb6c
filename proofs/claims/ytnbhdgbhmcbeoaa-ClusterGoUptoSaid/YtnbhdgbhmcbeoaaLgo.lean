/- ClusterGo: the law's call. -/
import Derived.Test.YtnbhdgbhmcbeoaaGc
import Derived.Test.YtnbhdgbhmcbeoaaClb
import Derived.Test.YtnbhdgbhmcbeoaaShl
import Derived.Laws.IdiomStrings
namespace Go.Proofs.Ytnbhdgbhmcbeoaa
set_option linter.unusedVariables false
set_option linter.unusedSimpArgs false
open Go Go.RowKit Go.Shelf
set_option maxRecDepth 100000
attribute [local go_sem] Oper.semAt_some

theorem runes_from (s : ByteArray) : ∀ (b i : Nat) (acc : Array Value), s.size - i ≤ b → Conv.runesFrom s b i acc = acc ++ (rns s (posG s i)).toArray := by
  intro b
  induction b with
  | zero =>
    intro i acc h
    rw [posG_end s i (by omega)]
    simp [Conv.runesFrom, rns]
  | succ b ih =>
    intro i acc h
    unfold Conv.runesFrom
    by_cases hi : i < s.size
    · have h1 := wd_pos s i
      rw [if_pos hi, posG_cons s i hi, dec_eq s i hi]
      show Conv.runesFrom s b (i + wd s i) (acc.push (.int .i32 (Int.ofNat (rn s i)))) = _
      rw [ih (i + wd s i) _ (by omega)]
      apply Array.ext'
      simp [rns]
    · rw [if_neg hi, posG_end s i (by omega)]
      simp [rns]
/-- []rune(t): new memory that holds the runes. -/
theorem conv_rns (zs : List Int) (hall : ∀ x ∈ zs, okR x = true) (hl : zs.length ≤ 1048576) (w : World) : ∃ cap cs, (convert 9 65 (.string (encA zs))).run Try.prog w = .ok (.slice (some ⟨w.heap.size, 0, none⟩) zs.length cap) (w.drew.alloc (.cells cs 21)) ∧
    ∀ k x, zs[k]? = some x → (w.drew.alloc (.cells cs 21)).cell? ⟨w.heap.size, k, none⟩ = some (.int .i32 x) := by
  have ha : Conv.runesFrom (encA zs) (encA zs).size 0 #[] = (zs.map (Value.int .i32)).toArray := by
    rw [runes_from (encA zs) (encA zs).size 0 #[] (by omega), ← posns_G, runes_text zs hall]
    simp
  have hn : (zs.map (Value.int .i32)).toArray.size = zs.length := by simp
  have h := run_runes_of_string (P := Try.prog) w 9 65 21 (encA zs) Try.underlying9 Try.underlying65 Try.underlying21 (by rw [ha, hn]; omega)
  rw [ha, hn] at h
  refine ⟨_, _, h, ?_⟩
  intro k x hx
  have hk : k < zs.length := (List.getElem?_eq_some_iff.1 hx).1
  have hb := World.alloc_heap_new w.drew (.cells ((zs.map (Value.int .i32)).toArray ++ Array.replicate (grownCap w zs.length 0 21 - zs.length) (.int .i32 0)) 21)
  have hc := cell_of_row _ w.heap.size k _ _ _ hb
  rw [hc, Array.getElem?_append_left (by rw [hn]; exact hk)]
  simp [hx]

def GoRel (s : ByteArray) (Bb : Nat) (w : World) (wr : World) : Prop := ∃ (pos : Nat) (acc : List Int), pos ≤ s.size ∧ acc.length ≤ pos ∧ (∀ x ∈ acc, okR x = true) ∧
  Lib.IsBuilderF 59 5 Bb Bb (Lib.byteCells (acc.flatMap Lib.encodeRune)) wr ∧ wr.heap[Bb + 1]? = some (.stringIter s pos) ∧ Below Bb w wr
theorem bytes_len (acc : List Int) : (acc.flatMap Lib.encodeRune).length ≤ 4 * acc.length := by
  induction acc with
  | nil => simp
  | cons r acc ih =>
    have := (Lib.encodeRuneZ_length r).2
    have e : (Lib.encodeRune r).length = (Lib.encodeRuneZ r).length := by simp [Lib.encodeRune]
    rw [List.flatMap_cons, List.length_append, List.length_cons, e]
    omega

theorem cut_range {F : Fence} {n : Nat} {P : Program} {c : Code} {Q : Exit → Act → World → Prop} {a : Act} {w : World} (id : Nat) (R : Nat → World → Prop)
    (h : c.wpIn F n P (fun e a' W => (e = .normal ∨ e = .exit id) ∧ ∃ D, R D W ∧ a' = { a with defers := { target := .collected D, args := #[] } :: a.defers }) a w)
    (hid : ∀ a W, Q .normal a W → Q (.exit id) a W) (h2 : ∀ D W, R D W → Q .normal { a with defers := { target := .collected D, args := #[] } :: a.defers } W) : c.wpIn F n P Q a w :=
  wpIn_mono h (fun e a' W ⟨he, D, hR, ha⟩ => by
    subst ha
    rcases he with rfl | rfl
    · exact h2 D W hR
    · exact hid _ _ (h2 D W hR))
theorem nth_at {L P : List Cel} {y : Cel} (h : P ++ [y] <+: L) : L[P.length]? = some y := by
  obtain ⟨R, rfl⟩ := h
  simp
theorem cell_enc (zs : List Int) (hall : ∀ x ∈ zs, okR x = true) {pre : List Cel} {x : Cel} (h : pre ++ [x] <+: cellsL (encA zs)) : ∃ r, zs[pre.length]? = some r ∧ (encA zs).extract x.1 x.2.1 = Utf8.encode r := by
  have h1 := nth_at h
  have h2 := congrArg (·[pre.length]?) (cells_text zs hall)
  simp only [List.getElem?_map, h1, Option.map_some] at h2
  cases hz : zs[pre.length]? with
  | none => rw [hz] at h2; cases h2
  | some r => rw [hz] at h2; exact ⟨r, rfl, Option.some.inj h2⟩
theorem cells_count (zs : List Int) (hall : ∀ x ∈ zs, okR x = true) : (cellsL (encA zs)).length = zs.length := by
  have := congrArg List.length (cells_text zs hall)
  simpa using this

set_option maxHeartbeats 8000000 in
theorem lgo_in (s : ByteArray) (hs : s.size ≤ 1048576) (w : World) :
    CallsIn Fence.wide 12 Try.prog 9 #[.string s] w fun e w' => e = .returned (.bool true) ∧ Below w.heap.size w w' := by
  refine callsIn_of_wp_marks Try.func9 rfl trivial ?_ rfl
  simp only [Try.ntmps9, List.size_toArray, List.length_cons, List.length_nil, Nat.reduceAdd, Nat.reduceSub, Array.replicate_succ, Array.replicate_zero, List.push_toArray, List.append_toArray, List.nil_append, List.cons_append]
  have hF : ∀ f, Fence.wide.fn f := fun _ => trivial
  gi_wp2_with (fail)
  refine (callsIn_wide.2 (works_any _)).mono ?_
  rintro e w1 ⟨rfl, hb1⟩
  have b0 : Boxed w1 w.heap.size 4 (.bool false) := Blk.below' (show Blk _ _ _ _ from Boxed.new w 4 (.bool false)) hb1
  have hB1 := ((Below.refl _ w).alloc (Nat.le_refl _) (.cells #[.bool false] 4)).trans (hb1.mono (by simp))
  have hP := hb1.size
  rw [World.size_alloc] at hP
  clear hb1
  have i0 : GoRel s w1.heap.size w1 ((w1.alloc (.cells #[.pointer none, .slice none 0 0] 59)).iter s 0) := by
    refine ⟨0, [], by omega, by simp, (fun x h => by cases h), (Lib.IsBuilderF.of (Lib.fresh_isBuilder 59 5 w1)).alloc _, ?_, ((Below.refl _ w1).alloc (Nat.le_refl _) _).alloc (by simp) _⟩
    have := World.iter_heap (w1.alloc (.cells #[.pointer none, .slice none 0 0] 59)) s 0
    simpa using this
  obtain ⟨Bb, hBb⟩ : ∃ x, w1.heap.size = x := ⟨_, rfl⟩
  gi_wp2_with (fail)
  rw [hBb] at i0 hP
  have HBb := Lib.hid hBb
  clear hBb
  gi_loopw [5] (fun _ wr => GoRel s Bb w1 wr) (fun _ wr => s.size - wr.iterPos (Bb + 1))
  case atStart => exact i0
  case round =>
    clear i0
    obtain ⟨pos, acc, hps, hal, hall, hI, hit, hbw⟩ := hrel
    have hsz : Bb + 1 < wr.heap.size := (Array.getElem?_eq_some_iff.1 hit).1
    by_cases hp : pos < s.size
    · have hnx : ∀ ty, (Instr.next (.pointer (some ⟨Bb + 1, 0, none⟩)) true ty).run Try.prog wr = _ := fun ty => Lib.run_next_any_at wr (Bb + 1) s pos ty hit hp
      rw [dec_eq s pos hp] at hnx
      have hwp := wd_pos s pos
      have hwf := wd_fits s pos hp
      have hrl := rn_lt s pos hp
      have hno : noR (rn s pos : Nat) = false := by
        have := valid_rn s pos hp
        rw [valid_iff] at this
        rw [noR_not]; omega
      have hI2 := hI.iterAt hit (pos + wd s pos)
      have hit2 := Lib.iterAt_heap wr (Bb + 1) s pos (pos + wd s pos) hit
      have hbw2 := Lib.below_iterAt hbw (k := Bb + 1) (by omega) s (pos + wd s pos)
      have hsz2 : Bb ≤ (wr.iterAt (Bb + 1) s (pos + wd s pos)).heap.size := by rw [Lib.iterAt_size]; omega
      have hmeas : s.size - (pos + wd s pos) < s.size - wr.iterPos (Bb + 1) := by
        simp only [World.iterPos, hit]; omega
      obtain ⟨P, hPe⟩ : ∃ P, wr.iterAt (Bb + 1) s (pos + wd s pos) = P := ⟨_, rfl⟩
      rw [hPe] at hnx hI2 hit2 hbw2 hsz2
      obtain ⟨rx, hrx⟩ : ∃ x, rn s pos = x := ⟨_, rfl⟩
      obtain ⟨wx, hwx⟩ : ∃ x, wd s pos = x := ⟨_, rfl⟩
      rw [hrx] at hnx hrl hno
      rw [hwx] at hit2 hmeas hwf hwp
      have hln := bytes_len acc
      have HK := Lib.hid (And.intro hps (And.intro hal (And.intro hall (And.intro hit2 (And.intro hbw2 (And.intro hno hmeas))))))
      clear hPe hrx hwx hit hbw hI hall hit2 hbw2 hno hmeas hps
      by_cases h1 : rx = 65533
      · have q0 : ((rx : Int) == 65533) = true := by rw [beq_iff_eq]; omega
        have p0 : (rx == 65533) = true := by rw [beq_iff_eq]; omega
        have o0 : ((rx : Int) != 65533) = false := by rw [bne, q0]; rfl
        gi_wp2_with (fail)
        go_roundw
        case rel =>
          obtain ⟨hps, hal, hall, hit2, hbw2, hno, hmeas⟩ := HK.out
          exact ⟨pos + wx, acc, hwf, by omega, hall, hI2, hit2, hbw2⟩
        case measure =>
          obtain ⟨hps, hal, hall, hit2, hbw2, hno, hmeas⟩ := HK.out
          simp only [World.iterPos, hit2] at hmeas ⊢
          exact hmeas
      by_cases h2 : rx = 13
      · have q0 : ((rx : Int) == 65533) = false := by rw [beq_eq_false_iff_ne]; omega
        have p0 : (rx == 65533) = false := by rw [beq_eq_false_iff_ne]; omega
        have o0 : ((rx : Int) != 65533) = true := by rw [bne, q0]; rfl
        have q1 : ((rx : Int) == 13) = true := by rw [beq_iff_eq]; omega
        have p1 : (rx == 13) = true := by rw [beq_iff_eq]; omega
        have o1 : ((rx : Int) != 13) = false := by rw [bne, q1]; rfl
        gi_wp2_with (fail)
        go_roundw
        case rel =>
          obtain ⟨hps, hal, hall, hit2, hbw2, hno, hmeas⟩ := HK.out
          exact ⟨pos + wx, acc, hwf, by omega, hall, hI2, hit2, hbw2⟩
        case measure =>
          obtain ⟨hps, hal, hall, hit2, hbw2, hno, hmeas⟩ := HK.out
          simp only [World.iterPos, hit2] at hmeas ⊢
          exact hmeas
      by_cases h3 : rx = 8205
      · have q0 : ((rx : Int) == 65533) = false := by rw [beq_eq_false_iff_ne]; omega
        have p0 : (rx == 65533) = false := by rw [beq_eq_false_iff_ne]; omega
        have o0 : ((rx : Int) != 65533) = true := by rw [bne, q0]; rfl
        have q1 : ((rx : Int) == 13) = false := by rw [beq_eq_false_iff_ne]; omega
        have p1 : (rx == 13) = false := by rw [beq_eq_false_iff_ne]; omega
        have o1 : ((rx : Int) != 13) = true := by rw [bne, q1]; rfl
        have q2 : ((rx : Int) == 8205) = true := by rw [beq_iff_eq]; omega
        have p2 : (rx == 8205) = true := by rw [beq_iff_eq]; omega
        have o2 : ((rx : Int) != 8205) = false := by rw [bne, q2]; rfl
        gi_wp2_with (fail)
        go_roundw
        case rel =>
          obtain ⟨hps, hal, hall, hit2, hbw2, hno, hmeas⟩ := HK.out
          exact ⟨pos + wx, acc, hwf, by omega, hall, hI2, hit2, hbw2⟩
        case measure =>
          obtain ⟨hps, hal, hall, hit2, hbw2, hno, hmeas⟩ := HK.out
          simp only [World.iterPos, hit2] at hmeas ⊢
          exact hmeas
      by_cases h4 : rx < 768
      · have q0 : ((rx : Int) == 65533) = false := by rw [beq_eq_false_iff_ne]; omega
        have p0 : (rx == 65533) = false := by rw [beq_eq_false_iff_ne]; omega
        have o0 : ((rx : Int) != 65533) = true := by rw [bne, q0]; rfl
        have q1 : ((rx : Int) == 13) = false := by rw [beq_eq_false_iff_ne]; omega
        have p1 : (rx == 13) = false := by rw [beq_eq_false_iff_ne]; omega
        have o1 : ((rx : Int) != 13) = true := by rw [bne, q1]; rfl
        have q2 : ((rx : Int) == 8205) = false := by rw [beq_eq_false_iff_ne]; omega
        have p2 : (rx == 8205) = false := by rw [beq_eq_false_iff_ne]; omega
        have o2 : ((rx : Int) != 8205) = true := by rw [bne, q2]; rfl
        have l1 : decide (rx < 768) = true := decide_eq_true (by omega)
        have l1z : decide ((rx : Int) < (768 : Int)) = true := decide_eq_true (by omega)
        gi_wp2_with (fail)
        refine (callsIn_wide.2 (Try.Builder_WriteRune_k Bb Bb _ (rx : Int) (by omega) (by omega) _ hI2 (by rw [Lib.byteCells_length]; omega) hsz2)).mono ?_
        rintro e W1 ⟨rfl, h1, b1, k1⟩
        gi_wp2_with (fail)
        go_roundw
        case rel =>
          obtain ⟨hps, hal, hall, hit2, hbw2, hno, hmeas⟩ := HK.out
          refine ⟨pos + wx, acc ++ [(rx : Int)], hwf, by simp; omega, ?_, ?_, k1.iter hit2 (by omega), hbw2.trans b1⟩
          · intro x hx
            rcases List.mem_append.1 hx with hx | hx
            · exact hall x hx
            · rw [List.mem_singleton.1 hx]
              exact (okR_iff _).2 ⟨hno, by omega, by omega, by omega, by omega⟩
          · rw [List.flatMap_append, Lib.byteCells_append, List.flatMap_cons, List.flatMap_nil, List.append_nil, Lib.byteCells_encodeRune]
            exact Or.inr h1
        case measure =>
          obtain ⟨hps, hal, hall, hit2, hbw2, hno, hmeas⟩ := HK.out
          simp only [World.iterPos, k1.iter hit2 (by omega), hit2] at hmeas ⊢
          exact hmeas
      by_cases h5 : 879 < rx
      · have q0 : ((rx : Int) == 65533) = false := by rw [beq_eq_false_iff_ne]; omega
        have p0 : (rx == 65533) = false := by rw [beq_eq_false_iff_ne]; omega
        have o0 : ((rx : Int) != 65533) = true := by rw [bne, q0]; rfl
        have q1 : ((rx : Int) == 13) = false := by rw [beq_eq_false_iff_ne]; omega
        have p1 : (rx == 13) = false := by rw [beq_eq_false_iff_ne]; omega
        have o1 : ((rx : Int) != 13) = true := by rw [bne, q1]; rfl
        have q2 : ((rx : Int) == 8205) = false := by rw [beq_eq_false_iff_ne]; omega
        have p2 : (rx == 8205) = false := by rw [beq_eq_false_iff_ne]; omega
        have o2 : ((rx : Int) != 8205) = true := by rw [bne, q2]; rfl
        have l1 : decide (rx < 768) = false := decide_eq_false (by omega)
        have l1z : decide ((rx : Int) < (768 : Int)) = false := decide_eq_false (by omega)
        have l2 : decide (879 < rx) = true := decide_eq_true (by omega)
        have l2z : decide ((879 : Int) < (rx : Int)) = true := decide_eq_true (by omega)
        gi_wp2_with (fail)
        refine (callsIn_wide.2 (Try.Builder_WriteRune_k Bb Bb _ (rx : Int) (by omega) (by omega) _ hI2 (by rw [Lib.byteCells_length]; omega) hsz2)).mono ?_
        rintro e W1 ⟨rfl, h1, b1, k1⟩
        gi_wp2_with (fail)
        go_roundw
        case rel =>
          obtain ⟨hps, hal, hall, hit2, hbw2, hno, hmeas⟩ := HK.out
          refine ⟨pos + wx, acc ++ [(rx : Int)], hwf, by simp; omega, ?_, ?_, k1.iter hit2 (by omega), hbw2.trans b1⟩
          · intro x hx
            rcases List.mem_append.1 hx with hx | hx
            · exact hall x hx
            · rw [List.mem_singleton.1 hx]
              exact (okR_iff _).2 ⟨hno, by omega, by omega, by omega, by omega⟩
          · rw [List.flatMap_append, Lib.byteCells_append, List.flatMap_cons, List.flatMap_nil, List.append_nil, Lib.byteCells_encodeRune]
            exact Or.inr h1
        case measure =>
          obtain ⟨hps, hal, hall, hit2, hbw2, hno, hmeas⟩ := HK.out
          simp only [World.iterPos, k1.iter hit2 (by omega), hit2] at hmeas ⊢
          exact hmeas
      · have q0 : ((rx : Int) == 65533) = false := by rw [beq_eq_false_iff_ne]; omega
        have p0 : (rx == 65533) = false := by rw [beq_eq_false_iff_ne]; omega
        have o0 : ((rx : Int) != 65533) = true := by rw [bne, q0]; rfl
        have q1 : ((rx : Int) == 13) = false := by rw [beq_eq_false_iff_ne]; omega
        have p1 : (rx == 13) = false := by rw [beq_eq_false_iff_ne]; omega
        have o1 : ((rx : Int) != 13) = true := by rw [bne, q1]; rfl
        have q2 : ((rx : Int) == 8205) = false := by rw [beq_eq_false_iff_ne]; omega
        have p2 : (rx == 8205) = false := by rw [beq_eq_false_iff_ne]; omega
        have o2 : ((rx : Int) != 8205) = true := by rw [bne, q2]; rfl
        have l1 : decide (rx < 768) = false := decide_eq_false (by omega)
        have l1z : decide ((rx : Int) < (768 : Int)) = false := decide_eq_false (by omega)
        have l2 : decide (879 < rx) = false := decide_eq_false (by omega)
        have l2z : decide ((879 : Int) < (rx : Int)) = false := decide_eq_false (by omega)
        gi_wp2_with (fail)
        go_roundw
        case rel =>
          obtain ⟨hps, hal, hall, hit2, hbw2, hno, hmeas⟩ := HK.out
          exact ⟨pos + wx, acc, hwf, by omega, hall, hI2, hit2, hbw2⟩
        case measure =>
          obtain ⟨hps, hal, hall, hit2, hbw2, hno, hmeas⟩ := HK.out
          simp only [World.iterPos, hit2] at hmeas ⊢
          exact hmeas
    · have hnx : ∀ ty, (Instr.next (.pointer (some ⟨Bb + 1, 0, none⟩)) true ty).run Try.prog wr = _ := fun ty => Lib.run_next_end_at wr (Bb + 1) s pos ty hit hp
      have hln := bytes_len acc
      gi_wp2_with (fail)
      refine (callsIn_wide.2 (Try.Builder_String_any_k Bb Bb (acc.flatMap Lib.encodeRune) _ hI (by omega))).mono ?_
      rintro e X ⟨rfl, _, b2, _⟩
      rw [enc_bytes acc hall]
      have hbX := hbw.trans b2
      have cT := fun W => conv_rns acc hall (by omega) W
      have hcn := cells_count acc hall
      have hce := fun (pre : List Cel) (x : Cel) (h : pre ++ [x] <+: cellsL (encA acc)) => cell_enc acc hall h
      have hTs : (encA acc).size ≤ 4194304 := by
        rw [← enc_bytes acc hall]
        show (acc.flatMap Lib.encodeRune).toArray.size ≤ 4194304
        rw [List.size_toArray]; omega
      have hLs := cellsL_len (encA acc)
      have hal2 : acc.length ≤ 1048576 := by omega
      obtain ⟨T, hT⟩ : ∃ T, encA acc = T := ⟨_, rfl⟩
      rw [hT] at hcn hTs hLs ⊢
      simp only [hT] at cT hce
      have c0 : Boxed X w.heap.size 4 (.bool false) := (hbX.block w.heap.size (by omega)).trans b0
      have hBX := hB1.trans (hbX.mono (by omega))
      have hXz : w.heap.size < X.heap.size := Blk.lt (show Blk _ _ _ _ from c0)
      clear hT hall hI hit hbw b2 hbX b0 hB1 hnx HBb hln hps hal hp hsz hP hF
      have hF : ∀ f, Fence.wide.fn f := fun _ => trivial
      gi_wp2_with (gi_at_call 27; refine (callsIn_wide.2 (each_any _ _)).mono ?_; rintro e w' ⟨rfl, rfl⟩)
      have d0 : Boxed _ _ _ _ := ((c0.alloc (.cells #[.string T] 9)).alloc (.cells #[.int .i64 0] 3)).alloc (.cells #[.string T] 9)
      have d1 : Boxed _ _ _ _ := ((Boxed.new X 9 (.string T)).alloc (.cells #[.int .i64 0] 3)).alloc (.cells #[.string T] 9)
      have d2 : Boxed _ _ _ _ := (Boxed.new (X.alloc (.cells #[.string T] 9)) 3 (.int .i64 0)).alloc (.cells #[.string T] 9)
      have d3 : Boxed _ _ _ _ := Boxed.new ((X.alloc (.cells #[.string T] 9)).alloc (.cells #[.int .i64 0] 3)) 9 (.string T)
      have hBV := ((hBX.alloc hBX.size (.cells #[.string T] 9)).alloc (by simp; omega) (.cells #[.int .i64 0] 3)).alloc (by simp; omega) (.cells #[.string T] 9)
      obtain ⟨S, hS⟩ : ∃ S, X.heap.size = S := ⟨_, rfl⟩
      have hVz : (((X.alloc (.cells #[.string T] 9)).alloc (.cells #[.int .i64 0] 3)).alloc (.cells #[.string T] 9)).heap.size = S + 3 := by simp [hS]
      simp only [World.size_alloc, Nat.add_assoc, Nat.reduceAdd, hS] at d1 d2 d3
      rw [hS] at hXz
      obtain ⟨V, hV⟩ : ∃ V, ((X.alloc (.cells #[.string T] 9)).alloc (.cells #[.int .i64 0] 3)).alloc (.cells #[.string T] 9) = V := ⟨_, rfl⟩
      rw [hV] at d0 d1 d2 d3 hBV hVz ⊢
      simp only [World.size_alloc, Nat.add_assoc, Nat.reduceAdd, hS]
      clear hV hS hBX c0
      refine cut_range 2 (fun D W => D ≠ w.heap.size ∧ S + 3 ≤ D ∧ SmI (S + 1) w V W ∧ W.heap[D]? = some (.deferred (some []))) ?_ (fun _ _ h => h) ?_
      · refine range_each 8 T (by omega) (S + 2) d3 rfl (fun _ pre Y => SmI (S + 1) w V Y ∧ Boxed Y (S + 1) 3 (.int .i64 (pre.length : Nat)) ∧ (pre <+: cellsL T ∧ pre.length ≤ 300)) (fun c _ Y => c = .exit 2 ∧ SmI (S + 1) w V Y)
          (fun _ => smI_abO (f := fun pre => .int .i64 (pre.length : Nat)) (p := fun pre => pre <+: cellsL T ∧ pre.length ≤ 300) (by omega) (by omega)) (fun c l Y Z row h hg hr => ⟨h.1, h.2.grown hg (by omega) (fun r e => (hr r e).1)⟩) ⟨SmI.start hBV, d2, List.nil_prefix, by simp⟩ ?assign ?body ?done ?stop
        case assign =>
          intro l x W K hK
          simp only [celV] at hK ⊢
          gi_wp2
          exact hK
        case done =>
          rintro D m W hD ⟨h1, _⟩ _ hK
          exact ⟨.inl rfl, D, ⟨by omega, by omega, h1, hK⟩, rfl⟩
        case stop =>
          rintro D c pre W hD _ ⟨rfl, h1⟩ hK
          gi_wp2
          omega
        case body =>
          rintro l m pre x Bx Y ⟨h1, h2, h3, h4⟩ hm1 hle hbl hbx hdue
          obtain ⟨r, hr1, hr2⟩ := hce pre x hdue
          have hd1 := (due_cell hdue).2.1
          have hd2 := (due_cell hdue).2.2.1
          have e1 := (h1.box d1 (by omega)).cell
          have e2 := h2.cell
          have e2f := h2.frozen
          have bx : Blk Y Bx #[.int .i64 (x.1 : Nat), .int .i64 (x.2.1 : Nat), .int .i64 (x.2.2 : Nat)] 26 := hbx
          have x0 := bx.cell 0
          have x1 := bx.cell 1
          simp only [List.getElem?_toArray, List.getElem?_cons_succ, List.getElem?_cons_zero] at x0 x1
          have hnl : pre.length < acc.length := (List.getElem?_eq_some_iff.1 hr1).1
          obtain ⟨n, hn⟩ : ∃ n, pre.length = n := ⟨_, rfl⟩
          rw [hn] at e2 hr1 h4 hnl
          have hpl : (pre ++ [x]).length = n + 1 := by simp [hn]
          obtain ⟨zl, hzl⟩ : ∃ z, acc.length = z := ⟨_, rfl⟩
          rw [hzl] at hnl hal2
          simp only [hzl] at cT
          have HY := Lib.hid (And.intro h1 (And.intro h2 (And.intro hdue (And.intro hpl hzl))))
          clear h1 h2 h3 hdue hbx bx hn hpl hzl hcn
          simp only [celV, List.setIfInBounds_toArray, List.set_cons_zero, List.set_cons_succ]
          gi_wp2_with (fail)
          have k300 : n ≤ 300 := h4
          have s1 : (x.1 : Int) ≤ (x.2.1 : Int) := by omega
          have s2 : (x.2.1 : Int) ≤ (T.size : Int) := by omega
          have s3 : x.1 ≤ x.2.1 := by omega
          have s4 : x.2.1 ≤ T.size := by omega
          have s5 : (n : Int) < (zl : Int) := by omega
          have s6 : (0 : Int) ≤ (n : Int) := by omega
          obtain ⟨en, hen⟩ : ∃ e, Utf8.encode r = e := ⟨_, rfl⟩
          rw [hen] at hr2
          have g1 : decide ((zl : Int) ≤ (n : Int)) = false := decide_eq_false (by omega)
          have g2 : decide (zl ≤ n) = false := decide_eq_false (by omega)
          refine round_g (S := untilG [] (fun Z => Below Y.heap.size Y Z)) (by kernel_rfl) (by kernel_rfl) (noOut (fun _ _ h => h)) ?_
          obtain ⟨X0, hX0⟩ : ∃ Z, Y.drew = Z := ⟨_, rfl⟩
          have T0 : Below Y.heap.size Y X0 := hX0 ▸ (Below.refl Y.heap.size Y).drew
          rw [hX0]
          clear hX0
          refine wpAnyG_take [0, 4, 5, 6, 7, 8, 9, 10, 11, 12, 13, 14, 15, 16, 17, 18, 19, 20, 21] (i := 0) (v := (.int .i64 (n : Nat))) rfl (by kernel_rfl) (by kernel_rfl) (by kernel_rfl) (by kernel_rfl) (by kernel_rfl) (by kernel_rfl) (by kernel_rfl) (by kernel_rfl) (fun _ _ _ h => h.elim) (Or.inl ⟨by rfl, ?hy⟩) T0 ?_
          case hy =>
            intro X hX
            have e0 := at_below e2 hX
            go_simp
          try simp only [Act.put, List.getElem_toArray, List.getElem_cons_zero, List.getElem_cons_succ, List.setIfInBounds_toArray, List.set_cons_zero, List.set_cons_succ]
          refine wpAnyG_take [1, 2, 3, 4, 5, 6, 7, 8, 9, 10, 11, 12, 13, 14, 15, 16, 17, 18, 19, 20, 21] (i := 1) (v := (.string T)) rfl (by kernel_rfl) (by kernel_rfl) (by kernel_rfl) (by kernel_rfl) (by kernel_rfl) (by kernel_rfl) (by kernel_rfl) (by kernel_rfl) (fun _ _ _ h => h.elim) (Or.inl ⟨by rfl, ?hy⟩) T0 ?_
          case hy =>
            intro X hX
            have e0 := at_below e1 hX
            go_simp
          try simp only [Act.put, List.getElem_toArray, List.getElem_cons_zero, List.getElem_cons_succ, List.setIfInBounds_toArray, List.set_cons_zero, List.set_cons_succ]
          refine wpAnyG_all (rs := [2]) (by kernel_rfl) (by simp) ?_
          intro i hi
          simp only [List.mem_cons, List.not_mem_nil, or_false] at hi
          subst hi
          refine wpOp_now rfl rfl ?_
          obtain ⟨c1, c1s, hc1, rc1⟩ := cT X0
          have bc1 := ((Below.refl X0.heap.size X0).drew).alloc (by simp) (.cells c1s 21)
          obtain ⟨c1X, c1E⟩ : ∃ Z, X0.drew.alloc (.cells c1s 21) = Z := ⟨_, rfl⟩
          rw [c1E] at hc1 rc1 bc1
          clear c1E
          go_simp
          clear rc1
          replace T0 := T0.trans (bc1.mono T0.size)
          clear bc1
          refine ⟨fun _ => T0, ?_⟩
          try simp only [Act.put, List.getElem_toArray, List.getElem_cons_zero, List.getElem_cons_succ, List.setIfInBounds_toArray, List.set_cons_zero, List.set_cons_succ]
          refine wpAnyG_take [3, 4, 5, 6, 7, 8, 9, 10, 11, 12, 13, 14, 15, 16, 17, 18, 19, 20, 21] (i := 3) (v := (.int .i64 (zl : Nat))) rfl (by kernel_rfl) (by kernel_rfl) (by kernel_rfl) (by kernel_rfl) (by kernel_rfl) (by kernel_rfl) (by kernel_rfl) (by kernel_rfl) (fun _ _ _ h => h.elim) (Or.inl ⟨by rfl, ?hy⟩) T0 ?_
          case hy =>
            intro X hX
            go_simp
          try simp only [Act.put, List.getElem_toArray, List.getElem_cons_zero, List.getElem_cons_succ, List.setIfInBounds_toArray, List.set_cons_zero, List.set_cons_succ]
          refine wpAnyG_take [4, 5, 6, 7, 8, 9, 10, 11, 12, 13, 14, 15, 16, 17, 18, 19, 20, 21] (i := 4) (v := (.bool false)) rfl (by kernel_rfl) (by kernel_rfl) (by kernel_rfl) (by kernel_rfl) (by kernel_rfl) (by kernel_rfl) (by kernel_rfl) (by kernel_rfl) (fun _ _ _ h => h.elim) (Or.inl ⟨by rfl, ?hy⟩) T0 ?_
          case hy =>
            intro X hX
            go_simp
          try simp only [Act.put, List.getElem_toArray, List.getElem_cons_zero, List.getElem_cons_succ, List.setIfInBounds_toArray, List.set_cons_zero, List.set_cons_succ]
          refine wpAnyG_take [5, 6, 7, 8, 9, 10, 11, 12, 13, 14, 15, 16, 17, 18, 19, 20, 21] (i := 5) (v := (.bool false)) rfl (by kernel_rfl) (by kernel_rfl) (by kernel_rfl) (by kernel_rfl) (by kernel_rfl) (by kernel_rfl) (by kernel_rfl) (by kernel_rfl) (fun _ _ _ h => h.elim) (Or.inl ⟨by rfl, ?hy⟩) T0 ?_
          case hy =>
            intro X hX
            go_simp
          try simp only [Act.put, List.getElem_toArray, List.getElem_cons_zero, List.getElem_cons_succ, List.setIfInBounds_toArray, List.set_cons_zero, List.set_cons_succ]
          refine wpAnyG_take [6, 13, 20, 21] (i := 6) (v := (.string T)) rfl (by kernel_rfl) (by kernel_rfl) (by kernel_rfl) (by kernel_rfl) (by kernel_rfl) (by kernel_rfl) (by kernel_rfl) (by kernel_rfl) (fun _ _ _ h => h.elim) (Or.inl ⟨by rfl, ?hy⟩) T0 ?_
          case hy =>
            intro X hX
            have e0 := at_below e1 hX
            go_simp
          try simp only [Act.put, List.getElem_toArray, List.getElem_cons_zero, List.getElem_cons_succ, List.setIfInBounds_toArray, List.set_cons_zero, List.set_cons_succ]
          refine wpAnyG_take [7, 8, 9, 13, 20, 21] (i := 7) (v := (.pointer (some ⟨Bx, 0, none⟩))) rfl (by kernel_rfl) (by kernel_rfl) (by kernel_rfl) (by kernel_rfl) (by kernel_rfl) (by kernel_rfl) (by kernel_rfl) (by kernel_rfl) (fun _ _ _ h => h.elim) (Or.inl ⟨by rfl, ?hy⟩) T0 ?_
          case hy =>
            intro X hX
            go_simp
          try simp only [Act.put, List.getElem_toArray, List.getElem_cons_zero, List.getElem_cons_succ, List.setIfInBounds_toArray, List.set_cons_zero, List.set_cons_succ]
          refine wpAnyG_take [8, 9, 13, 20, 21] (i := 8) (v := (.pointer (some ⟨Bx, 0, none⟩))) rfl (by kernel_rfl) (by kernel_rfl) (by kernel_rfl) (by kernel_rfl) (by kernel_rfl) (by kernel_rfl) (by kernel_rfl) (by kernel_rfl) (fun _ _ _ h => h.elim) (Or.inl ⟨by rfl, ?hy⟩) T0 ?_
          case hy =>
            intro X hX
            go_simp
          try simp only [Act.put, List.getElem_toArray, List.getElem_cons_zero, List.getElem_cons_succ, List.setIfInBounds_toArray, List.set_cons_zero, List.set_cons_succ]
          refine wpAnyG_take [9, 13, 20, 21] (i := 9) (v := (.int .i64 (x.1 : Nat))) rfl (by kernel_rfl) (by kernel_rfl) (by kernel_rfl) (by kernel_rfl) (by kernel_rfl) (by kernel_rfl) (by kernel_rfl) (by kernel_rfl) (fun _ _ _ h => h.elim) (Or.inl ⟨by rfl, ?hy⟩) T0 ?_
          case hy =>
            intro X hX
            have e0 := at_below x0 hX
            go_simp
          try simp only [Act.put, List.getElem_toArray, List.getElem_cons_zero, List.getElem_cons_succ, List.setIfInBounds_toArray, List.set_cons_zero, List.set_cons_succ]
          refine wpAnyG_take [10, 11, 12, 13, 20, 21] (i := 10) (v := (.pointer (some ⟨Bx, 0, none⟩))) rfl (by kernel_rfl) (by kernel_rfl) (by kernel_rfl) (by kernel_rfl) (by kernel_rfl) (by kernel_rfl) (by kernel_rfl) (by kernel_rfl) (fun _ _ _ h => h.elim) (Or.inl ⟨by rfl, ?hy⟩) T0 ?_
          case hy =>
            intro X hX
            go_simp
          try simp only [Act.put, List.getElem_toArray, List.getElem_cons_zero, List.getElem_cons_succ, List.setIfInBounds_toArray, List.set_cons_zero, List.set_cons_succ]
          refine wpAnyG_take [11, 12, 13, 20, 21] (i := 11) (v := (.pointer (some ⟨Bx, 1, none⟩))) rfl (by kernel_rfl) (by kernel_rfl) (by kernel_rfl) (by kernel_rfl) (by kernel_rfl) (by kernel_rfl) (by kernel_rfl) (by kernel_rfl) (fun _ _ _ h => h.elim) (Or.inl ⟨by rfl, ?hy⟩) T0 ?_
          case hy =>
            intro X hX
            go_simp
          try simp only [Act.put, List.getElem_toArray, List.getElem_cons_zero, List.getElem_cons_succ, List.setIfInBounds_toArray, List.set_cons_zero, List.set_cons_succ]
          refine wpAnyG_take [12, 13, 20, 21] (i := 12) (v := (.int .i64 (x.2.1 : Nat))) rfl (by kernel_rfl) (by kernel_rfl) (by kernel_rfl) (by kernel_rfl) (by kernel_rfl) (by kernel_rfl) (by kernel_rfl) (by kernel_rfl) (fun _ _ _ h => h.elim) (Or.inl ⟨by rfl, ?hy⟩) T0 ?_
          case hy =>
            intro X hX
            have e0 := at_below x1 hX
            go_simp
          try simp only [Act.put, List.getElem_toArray, List.getElem_cons_zero, List.getElem_cons_succ, List.setIfInBounds_toArray, List.set_cons_zero, List.set_cons_succ]
          refine wpAnyG_take [13, 20, 21] (i := 13) (v := (.string en)) rfl (by kernel_rfl) (by kernel_rfl) (by kernel_rfl) (by kernel_rfl) (by kernel_rfl) (by kernel_rfl) (by kernel_rfl) (by kernel_rfl) (fun _ _ _ h => h.elim) (Or.inl ⟨by rfl, ?hy⟩) T0 ?_
          case hy =>
            intro X hX
            go_simp
          try simp only [Act.put, List.getElem_toArray, List.getElem_cons_zero, List.getElem_cons_succ, List.setIfInBounds_toArray, List.set_cons_zero, List.set_cons_succ]
          refine wpAnyG_take [14, 15, 17, 18, 19, 20, 21] (i := 14) (v := (.string T)) rfl (by kernel_rfl) (by kernel_rfl) (by kernel_rfl) (by kernel_rfl) (by kernel_rfl) (by kernel_rfl) (by kernel_rfl) (by kernel_rfl) (fun _ _ _ h => h.elim) (Or.inl ⟨by rfl, ?hy⟩) T0 ?_
          case hy =>
            intro X hX
            have e0 := at_below e1 hX
            go_simp
          try simp only [Act.put, List.getElem_toArray, List.getElem_cons_zero, List.getElem_cons_succ, List.setIfInBounds_toArray, List.set_cons_zero, List.set_cons_succ]
          refine wpAnyG_take [16, 17, 18, 19, 20, 21] (i := 16) (v := (.int .i64 (n : Nat))) rfl (by kernel_rfl) (by kernel_rfl) (by kernel_rfl) (by kernel_rfl) (by kernel_rfl) (by kernel_rfl) (by kernel_rfl) (by kernel_rfl) (fun _ _ _ h => h.elim) (Or.inl ⟨by rfl, ?hy⟩) T0 ?_
          case hy =>
            intro X hX
            have e0 := at_below e2 hX
            go_simp
          try simp only [Act.put, List.getElem_toArray, List.getElem_cons_zero, List.getElem_cons_succ, List.setIfInBounds_toArray, List.set_cons_zero, List.set_cons_succ]
          refine wpAnyG_all (rs := [15]) (by kernel_rfl) (by simp) ?_
          intro i hi
          simp only [List.mem_cons, List.not_mem_nil, or_false] at hi
          subst hi
          refine wpOp_open rfl (by rfl) ?_
          obtain ⟨c2, c2s, hc2, rc2⟩ := cT c1X
          have bc2 := ((Below.refl c1X.heap.size c1X).drew).alloc (by simp) (.cells c2s 21)
          obtain ⟨c2X, c2E⟩ : ∃ Z, c1X.drew.alloc (.cells c2s 21) = Z := ⟨_, rfl⟩
          rw [c2E] at hc2 rc2 bc2
          clear c2E
          go_simp
          have hcell := rc2 n r hr1
          clear rc2
          replace T0 := T0.trans (bc2.mono T0.size)
          clear bc2
          refine ⟨fun _ => T0, ?_⟩
          try simp only [Act.put, List.getElem_toArray, List.getElem_cons_zero, List.getElem_cons_succ, List.setIfInBounds_toArray, List.set_cons_zero, List.set_cons_succ]
          refine wpAnyG_all (rs := [17]) (by kernel_rfl) (by simp) ?_
          intro i hi
          simp only [List.mem_cons, List.not_mem_nil, or_false] at hi
          subst hi
          refine wpOp_open rfl (by rfl) ?_
          go_simp
          refine ⟨fun _ => T0, ?_⟩
          try simp only [Act.put, List.getElem_toArray, List.getElem_cons_zero, List.getElem_cons_succ, List.setIfInBounds_toArray, List.set_cons_zero, List.set_cons_succ]
          refine wpAnyG_all (rs := [18]) (by kernel_rfl) (by simp) ?_
          intro i hi
          simp only [List.mem_cons, List.not_mem_nil, or_false] at hi
          subst hi
          refine wpOp_open rfl (by rfl) ?_
          go_simp
          refine ⟨fun _ => T0, ?_⟩
          try simp only [Act.put, List.getElem_toArray, List.getElem_cons_zero, List.getElem_cons_succ, List.setIfInBounds_toArray, List.set_cons_zero, List.set_cons_succ]
          refine wpAnyG_all (rs := [19]) (by kernel_rfl) (by simp) ?_
          intro i hi
          simp only [List.mem_cons, List.not_mem_nil, or_false] at hi
          subst hi
          refine wpOp_open rfl (by rfl) ?_
          go_simp
          refine ⟨fun _ => T0, ?_⟩
          try simp only [Act.put, List.getElem_toArray, List.getElem_cons_zero, List.getElem_cons_succ, List.setIfInBounds_toArray, List.set_cons_zero, List.set_cons_succ]
          refine wpAnyG_all (rs := [20]) (by kernel_rfl) (by simp) ?_
          intro i hi
          simp only [List.mem_cons, List.not_mem_nil, or_false] at hi
          subst hi
          refine wpOp_open rfl (by rfl) ?_
          go_simp
          refine ⟨fun _ => T0, ?_⟩
          try simp only [Act.put, List.getElem_toArray, List.getElem_cons_zero, List.getElem_cons_succ, List.setIfInBounds_toArray, List.set_cons_zero, List.set_cons_succ]
          refine wpAnyG_all (rs := [21]) (by kernel_rfl) (by simp) ?_
          intro i hi
          simp only [List.mem_cons, List.not_mem_nil, or_false] at hi
          subst hi
          refine wpOp_now rfl rfl ?_
          go_simp
          refine ⟨fun _ => T0, ?_⟩
          try simp only [Act.put, List.getElem_toArray, List.getElem_cons_zero, List.getElem_cons_succ, List.setIfInBounds_toArray, List.set_cons_zero, List.set_cons_succ]
          refine wpAnyG_done (by kernel_rfl) ?_ _
          obtain ⟨h1, h2, hdue, hpl, hzl⟩ := HY.out
          have hYz := h1.size
          have u0 := h1.below T0 (by omega)
          have u1 : Boxed c2X (S + 1) 3 (.int .i64 (n : Int)) := by
            have := Blk.below' (show Blk _ _ _ _ from h2) T0
            rw [show pre.length = n by have := hpl; simp at this; exact this] at this
            exact this
          have u2 := u1.cell
          have u3 := u1.frozen
          have kf : KeepsFrom V.heap.size Y c2X := kf_below T0
          have km : KpM (S + 2) m Y c2X := kpM_below T0 (by omega)
          have j1 : IntKind.i64.wrap ((n : Int) + 1) = (n : Int) + 1 := IntWalk.i64_in _ (by omega)
          have HG := Lib.hid (And.intro u0 (And.intro u1 (And.intro kf (And.intro km (And.intro hdue hpl)))))
          clear h1 h2 hdue hpl hzl u0 u1 kf km T0 e1 e2 e2f x0 x1 hcell hc1 hc2 hr1 hr2 hen s1 s2 s3 s4 s5 s6 g1 g2
          by_cases h300 : n = 300
          · have v1 : decide ((300 : Int) < (n : Int) + 1) = true := decide_eq_true (by omega)
            have v2 : decide (300 < n + 1) = true := decide_eq_true (by omega)
            clear h300 h4 k300
            gi_wp2_with (fail)
            obtain ⟨u0, u1, kf, km, hdue, hpl⟩ := HG.out
            exact ⟨kf.trans (kf_set _ _), rfl, u0.set (by omega) 0 _⟩
          · have h301 : n + 1 ≤ 300 := by omega
            have v1 : decide ((300 : Int) < (n : Int) + 1) = false := decide_eq_false (by omega)
            have v2 : decide (300 < n + 1) = false := decide_eq_false (by omega)
            clear h300 h4 k300
            gi_wp2_with (fail)
            obtain ⟨u0, u1, kf, km, hdue, hpl⟩ := HG.out
            refine ⟨kf.trans (kf_set _ _), kpM_t km (kpM_set (by omega) (by omega) _ _), u0.set (by omega) 0 _, ?_, hdue, by rw [hpl]; exact h301⟩
            rw [hpl]; push_cast
            exact u1.set _
      · rintro D W ⟨hDw, hDS, h1, hK⟩
        have q0 : Boxed W w.heap.size 4 (.bool false) := h1.box d0 (by omega)
        have e1 := (h1.box d1 (by omega)).cell
        have cN := fun Z : World => countOf_any T (by omega) Z
        rw [hcn] at cN
        obtain ⟨zl, hzl⟩ : ∃ z, acc.length = z := ⟨_, rfl⟩
        rw [hzl] at hal2
        simp only [hzl] at cT cN
        clear hcn hce hzl
        gi_wp2_with (fail)
        refine wpIn_wide.2 ?_
        refine wp_region_noPanic ?_
        refine wp_region_g (S := untilG [9] (fun Z => Below W.heap.size W Z)) (by kernel_rfl) ?_
        obtain ⟨X0, hX0⟩ : ∃ Z, W.drew = Z := ⟨_, rfl⟩
        have T0 : Below W.heap.size W X0 := hX0 ▸ (Below.refl W.heap.size W).drew
        rw [hX0]
        clear hX0
        refine wpAnyG_take [0, 1, 5, 6, 7, 8] (i := 0) (v := (.string T)) rfl (by kernel_rfl) (by kernel_rfl) (by kernel_rfl) (by kernel_rfl) (by kernel_rfl) (by kernel_rfl) (by kernel_rfl) (by kernel_rfl) (fun _ _ _ h => h) (Or.inl ⟨by rfl, ?hy⟩) T0 ?_
        case hy =>
          intro X hX
          have e0 := at_below e1 hX
          go_simp
        try simp only [Act.put, List.getElem_toArray, List.getElem_cons_zero, List.getElem_cons_succ, List.setIfInBounds_toArray, List.set_cons_zero, List.set_cons_succ]
        refine wpAnyG_take [2, 3, 4, 5, 6, 7, 8] (i := 2) (v := (.string T)) rfl (by kernel_rfl) (by kernel_rfl) (by kernel_rfl) (by kernel_rfl) (by kernel_rfl) (by kernel_rfl) (by kernel_rfl) (by kernel_rfl) (fun _ _ _ h => h) (Or.inl ⟨by rfl, ?hy⟩) T0 ?_
        case hy =>
          intro X hX
          have e0 := at_below e1 hX
          go_simp
        try simp only [Act.put, List.getElem_toArray, List.getElem_cons_zero, List.getElem_cons_succ, List.setIfInBounds_toArray, List.set_cons_zero, List.set_cons_succ]
        refine wpAnyG_all (rs := [1, 3]) (by kernel_rfl) (by simp) ?_
        intro i hi
        simp only [List.mem_cons, List.not_mem_nil, or_false] at hi
        rcases hi with rfl | rfl
        · refine wpOp_now rfl rfl ?_
          go_simp
          refine (cN _).mono ?_
          rintro e Y1 ⟨rfl, hb⟩
          replace T0 := T0.trans (hb.mono T0.size)
          clear hb
          refine ⟨fun _ => T0, ?_⟩
          try simp only [Act.put, List.getElem_toArray, List.getElem_cons_zero, List.getElem_cons_succ, List.setIfInBounds_toArray, List.set_cons_zero, List.set_cons_succ]
          refine wpAnyG_all (rs := [3]) (by kernel_rfl) (by simp) ?_
          intro i hi
          simp only [List.mem_cons, List.not_mem_nil, or_false] at hi
          subst hi
          refine wpOp_now rfl rfl ?_
          obtain ⟨c1, c1s, hc1, rc1⟩ := cT Y1
          have bc1 := ((Below.refl Y1.heap.size Y1).drew).alloc (by simp) (.cells c1s 21)
          obtain ⟨c1X, c1E⟩ : ∃ Z, Y1.drew.alloc (.cells c1s 21) = Z := ⟨_, rfl⟩
          rw [c1E] at hc1 rc1 bc1
          clear c1E rc1
          go_simp
          replace T0 := T0.trans (bc1.mono T0.size)
          clear bc1
          refine ⟨fun _ => T0, ?_⟩
          try simp only [Act.put, List.getElem_toArray, List.getElem_cons_zero, List.getElem_cons_succ, List.setIfInBounds_toArray, List.set_cons_zero, List.set_cons_succ]
          refine wpAnyG_take [4, 5, 6, 7, 8] (i := 4) (v := (.int .i64 (zl : Nat))) rfl (by kernel_rfl) (by kernel_rfl) (by kernel_rfl) (by kernel_rfl) (by kernel_rfl) (by kernel_rfl) (by kernel_rfl) (by kernel_rfl) (fun _ _ _ h => h) (Or.inl ⟨by rfl, ?hy⟩) T0 ?_
          case hy =>
            intro X hX
            go_simp
          try simp only [Act.put, List.getElem_toArray, List.getElem_cons_zero, List.getElem_cons_succ, List.setIfInBounds_toArray, List.set_cons_zero, List.set_cons_succ]
          refine wpAnyG_take [5, 6, 7, 8] (i := 5) (v := (.bool true)) rfl (by kernel_rfl) (by kernel_rfl) (by kernel_rfl) (by kernel_rfl) (by kernel_rfl) (by kernel_rfl) (by kernel_rfl) (by kernel_rfl) (fun _ _ _ h => h) (Or.inl ⟨by rfl, ?hy⟩) T0 ?_
          case hy =>
            intro X hX
            go_simp
          try simp only [Act.put, List.getElem_toArray, List.getElem_cons_zero, List.getElem_cons_succ, List.setIfInBounds_toArray, List.set_cons_zero, List.set_cons_succ]
          refine wpAnyG_take [6, 7, 8] (i := 6) (v := (.bool true)) rfl (by kernel_rfl) (by kernel_rfl) (by kernel_rfl) (by kernel_rfl) (by kernel_rfl) (by kernel_rfl) (by kernel_rfl) (by kernel_rfl) (fun _ _ _ h => h) (Or.inl ⟨by rfl, ?hy⟩) T0 ?_
          case hy =>
            intro X hX
            go_simp
          try simp only [Act.put, List.getElem_toArray, List.getElem_cons_zero, List.getElem_cons_succ, List.setIfInBounds_toArray, List.set_cons_zero, List.set_cons_succ]
          refine wpAnyG_all (rs := [7]) (by kernel_rfl) (by simp) ?_
          intro i hi
          simp only [List.mem_cons, List.not_mem_nil, or_false] at hi
          subst hi
          refine wpOp_open rfl (by rfl) ?_
          go_simp
          refine (works_any _).mono ?_
          rintro e Z1 ⟨rfl, hb⟩
          replace T0 := T0.trans (hb.mono T0.size)
          clear hb
          refine ⟨fun _ => T0, ?_⟩
          try simp only [Act.put, List.getElem_toArray, List.getElem_cons_zero, List.getElem_cons_succ, List.setIfInBounds_toArray, List.set_cons_zero, List.set_cons_succ]
          refine wpAnyG_take [8] (i := 8) (v := (.bool true)) rfl (by kernel_rfl) (by kernel_rfl) (by kernel_rfl) (by kernel_rfl) (by kernel_rfl) (by kernel_rfl) (by kernel_rfl) (by kernel_rfl) (fun _ _ _ h => h) (Or.inl ⟨by rfl, ?hy⟩) T0 ?_
          case hy =>
            intro X hX
            go_simp
          try simp only [Act.put, List.getElem_toArray, List.getElem_cons_zero, List.getElem_cons_succ, List.setIfInBounds_toArray, List.set_cons_zero, List.set_cons_succ]
          have g1 := Blk.below' (show Blk _ _ _ _ from q0) T0
          have g2 := g1.cell 0
          have g3 := g1.frozen 0
          simp only [List.getElem?_toArray, List.getElem?_cons_succ, List.getElem?_cons_zero] at g2
          refine wpAnyG_all (rs := [9]) (by kernel_rfl) (by simp) ?_
          intro i hi
          simp only [List.mem_cons, List.not_mem_nil, or_false] at hi
          subst hi
          refine wpOp_now rfl rfl ?_
          go_simp
          refine ⟨fun h => (nomatch (show (false : Bool) = true from h)), ?_⟩
          refine wpAnyG_done (by kernel_rfl) ?_ _
          refine NoPanic.normal ?_
          gi_wp2_with (fail)
          have hl := (Array.getElem?_eq_some_iff.1 hK).1
          have hK3 := (T0.block D hl).trans hK
          have hl3 := (Array.getElem?_eq_some_iff.1 hK3).1
          have hB4 := (h1.2.trans (T0.mono h1.2.size)).setCell (p := ⟨w.heap.size, 0, none⟩) (Nat.le_refl _) (.bool true)
          have hK4 := ((grownBy_setCell Z1 w.heap.size 0 (.bool true)).block D hl3 (by intro e; exact hDw (by simpa using e))).trans hK3
          have g4 := g1.set 0 (.bool true)
          have g5 := g4.cell 0
          simp only [List.setIfInBounds_toArray, List.set_cons_zero, List.getElem?_toArray, List.getElem?_cons_zero] at g5
          obtain ⟨Z, hZ⟩ : ∃ Z, Z1.setCell ⟨w.heap.size, 0, none⟩ (.bool true) = Z := ⟨_, rfl⟩
          rw [hZ] at hB4 hK4 g5 ⊢
          have hB5 := hB4.trans (belowK_b (w := w) (Nat.le_refl _) Z D _ (.deferred none) (by omega) hK4 rfl rfl)
          have g6 : (Z.putObj D (.deferred none)).cell? ⟨w.heap.size, 0, none⟩ = _ := (World.cell?_of_block (w := Z) (World.putObj_heap_other (by dsimp only; omega))).trans g5
          refine ⟨by simp, .inl ⟨_, _, rfl, run_takeDeferred (w := Z) hK4, ?_⟩⟩
          refine ⟨.bool true, ?_, rfl, hB5⟩
          simp [results, Try.f9, go_sem, g6]
        · refine wpOp_now rfl rfl ?_
          obtain ⟨c1, c1s, hc1, rc1⟩ := cT X0
          have bc1 := ((Below.refl X0.heap.size X0).drew).alloc (by simp) (.cells c1s 21)
          obtain ⟨c1X, c1E⟩ : ∃ Z, X0.drew.alloc (.cells c1s 21) = Z := ⟨_, rfl⟩
          rw [c1E] at hc1 rc1 bc1
          clear c1E rc1
          go_simp
          replace T0 := T0.trans (bc1.mono T0.size)
          clear bc1
          refine ⟨fun _ => T0, ?_⟩
          try simp only [Act.put, List.getElem_toArray, List.getElem_cons_zero, List.getElem_cons_succ, List.setIfInBounds_toArray, List.set_cons_zero, List.set_cons_succ]
          refine wpAnyG_take [4, 5, 6, 7, 8] (i := 4) (v := (.int .i64 (zl : Nat))) rfl (by kernel_rfl) (by kernel_rfl) (by kernel_rfl) (by kernel_rfl) (by kernel_rfl) (by kernel_rfl) (by kernel_rfl) (by kernel_rfl) (fun _ _ _ h => h) (Or.inl ⟨by rfl, ?hy⟩) T0 ?_
          case hy =>
            intro X hX
            go_simp
          try simp only [Act.put, List.getElem_toArray, List.getElem_cons_zero, List.getElem_cons_succ, List.setIfInBounds_toArray, List.set_cons_zero, List.set_cons_succ]
          refine wpAnyG_all (rs := [1]) (by kernel_rfl) (by simp) ?_
          intro i hi
          simp only [List.mem_cons, List.not_mem_nil, or_false] at hi
          subst hi
          refine wpOp_now rfl rfl ?_
          go_simp
          refine (cN _).mono ?_
          rintro e Y1 ⟨rfl, hb⟩
          replace T0 := T0.trans (hb.mono T0.size)
          clear hb
          refine ⟨fun _ => T0, ?_⟩
          try simp only [Act.put, List.getElem_toArray, List.getElem_cons_zero, List.getElem_cons_succ, List.setIfInBounds_toArray, List.set_cons_zero, List.set_cons_succ]
          refine wpAnyG_take [5, 6, 7, 8] (i := 5) (v := (.bool true)) rfl (by kernel_rfl) (by kernel_rfl) (by kernel_rfl) (by kernel_rfl) (by kernel_rfl) (by kernel_rfl) (by kernel_rfl) (by kernel_rfl) (fun _ _ _ h => h) (Or.inl ⟨by rfl, ?hy⟩) T0 ?_
          case hy =>
            intro X hX
            go_simp
          try simp only [Act.put, List.getElem_toArray, List.getElem_cons_zero, List.getElem_cons_succ, List.setIfInBounds_toArray, List.set_cons_zero, List.set_cons_succ]
          refine wpAnyG_take [6, 7, 8] (i := 6) (v := (.bool true)) rfl (by kernel_rfl) (by kernel_rfl) (by kernel_rfl) (by kernel_rfl) (by kernel_rfl) (by kernel_rfl) (by kernel_rfl) (by kernel_rfl) (fun _ _ _ h => h) (Or.inl ⟨by rfl, ?hy⟩) T0 ?_
          case hy =>
            intro X hX
            go_simp
          try simp only [Act.put, List.getElem_toArray, List.getElem_cons_zero, List.getElem_cons_succ, List.setIfInBounds_toArray, List.set_cons_zero, List.set_cons_succ]
          refine wpAnyG_all (rs := [7]) (by kernel_rfl) (by simp) ?_
          intro i hi
          simp only [List.mem_cons, List.not_mem_nil, or_false] at hi
          subst hi
          refine wpOp_open rfl (by rfl) ?_
          go_simp
          refine (works_any _).mono ?_
          rintro e Z1 ⟨rfl, hb⟩
          replace T0 := T0.trans (hb.mono T0.size)
          clear hb
          refine ⟨fun _ => T0, ?_⟩
          try simp only [Act.put, List.getElem_toArray, List.getElem_cons_zero, List.getElem_cons_succ, List.setIfInBounds_toArray, List.set_cons_zero, List.set_cons_succ]
          refine wpAnyG_take [8] (i := 8) (v := (.bool true)) rfl (by kernel_rfl) (by kernel_rfl) (by kernel_rfl) (by kernel_rfl) (by kernel_rfl) (by kernel_rfl) (by kernel_rfl) (by kernel_rfl) (fun _ _ _ h => h) (Or.inl ⟨by rfl, ?hy⟩) T0 ?_
          case hy =>
            intro X hX
            go_simp
          try simp only [Act.put, List.getElem_toArray, List.getElem_cons_zero, List.getElem_cons_succ, List.setIfInBounds_toArray, List.set_cons_zero, List.set_cons_succ]
          have g1 := Blk.below' (show Blk _ _ _ _ from q0) T0
          have g2 := g1.cell 0
          have g3 := g1.frozen 0
          simp only [List.getElem?_toArray, List.getElem?_cons_succ, List.getElem?_cons_zero] at g2
          refine wpAnyG_all (rs := [9]) (by kernel_rfl) (by simp) ?_
          intro i hi
          simp only [List.mem_cons, List.not_mem_nil, or_false] at hi
          subst hi
          refine wpOp_now rfl rfl ?_
          go_simp
          refine ⟨fun h => (nomatch (show (false : Bool) = true from h)), ?_⟩
          refine wpAnyG_done (by kernel_rfl) ?_ _
          refine NoPanic.normal ?_
          gi_wp2_with (fail)
          have hl := (Array.getElem?_eq_some_iff.1 hK).1
          have hK3 := (T0.block D hl).trans hK
          have hl3 := (Array.getElem?_eq_some_iff.1 hK3).1
          have hB4 := (h1.2.trans (T0.mono h1.2.size)).setCell (p := ⟨w.heap.size, 0, none⟩) (Nat.le_refl _) (.bool true)
          have hK4 := ((grownBy_setCell Z1 w.heap.size 0 (.bool true)).block D hl3 (by intro e; exact hDw (by simpa using e))).trans hK3
          have g4 := g1.set 0 (.bool true)
          have g5 := g4.cell 0
          simp only [List.setIfInBounds_toArray, List.set_cons_zero, List.getElem?_toArray, List.getElem?_cons_zero] at g5
          obtain ⟨Z, hZ⟩ : ∃ Z, Z1.setCell ⟨w.heap.size, 0, none⟩ (.bool true) = Z := ⟨_, rfl⟩
          rw [hZ] at hB4 hK4 g5 ⊢
          have hB5 := hB4.trans (belowK_b (w := w) (Nat.le_refl _) Z D _ (.deferred none) (by omega) hK4 rfl rfl)
          have g6 : (Z.putObj D (.deferred none)).cell? ⟨w.heap.size, 0, none⟩ = _ := (World.cell?_of_block (w := Z) (World.putObj_heap_other (by dsimp only; omega))).trans g5
          refine ⟨by simp, .inl ⟨_, _, rfl, run_takeDeferred (w := Z) hK4, ?_⟩⟩
          refine ⟨.bool true, ?_, rfl, hB5⟩
          simp [results, Try.f9, go_sem, g6]
theorem lgo_any (s : ByteArray) (hs : s.size ≤ 1048576) (w : World) :
    Calls Try.prog 9 #[.string s] w fun e w' => e = .returned (.bool true) ∧ Below w.heap.size w w' := callsIn_wide.1 (lgo_in s hs w)
end Go.Proofs.Ytnbhdgbhmcbeoaa
