/- Stage 16: Print, the program's. -/
import Derived.Test.YtdcmkiggnmajgaaV2
import Derived.Lib.AppendStr
import Derived.Lib.ConvBytes
namespace Go.Proofs.Ytdcmkiggnmajgaa
set_option linter.unusedVariables false
set_option linter.unusedSimpArgs false
open Go Go.RowKit Go.Shelf
set_option maxRecDepth 100000

theorem infoU8 : (Try.prog.info? 5).map (fun i => (i.zero, i.size, i.bytes)) = some (some (.int .u8 0), 1, 1) := by kernel_rfl
theorem conv_own {w : World} {base n : Nat} {v : Value} {s : ByteArray} (hn : s.size = n) (h : w.ownsRow base 5 1 v n (Lib.strCells s)) : (convert 84 9 v).run Try.prog w = .ok (.string s) w := by
  have hs : s = ⟨s.data.toList.toArray⟩ := by simp
  rcases h.2 with ⟨rfl, rfl⟩ | ⟨g, cap, cur, rfl, _⟩
  · have : s = ByteArray.empty := by
      have : s.data = #[] := Array.eq_empty_of_size_eq_zero hn
      rw [hs, this]; rfl
    rw [this]
    exact run_convert_bytes_nil w 84 5 Try.underlying84 Try.underlying5 0 0 9 Try.underlying9
  · have hl : s.data.toList.length = n := by rw [Array.length_toList]; exact hn
    have := run_convert_bytes_back (P := Try.prog) w 84 9 5 ⟨g, 0, none⟩ cap s.data.toList Try.underlying84 Try.underlying5 Try.underlying9
      (fun j hj => h.cells (g := g) rfl j _ (by simp only [Lib.strCells, List.getElem?_map, List.getElem?_eq_getElem hj]; rfl))
    rw [hl] at this
    rw [this]
/-- The cells of bytes. -/
def bys (l : List UInt8) : List Value := Lib.strCells ⟨l.toArray⟩
theorem bys_app (a b : List UInt8) : bys (a ++ b) = bys a ++ bys b := by simp [bys, Lib.strCells]
theorem bys_one (b : UInt8) : bys [b] = [.int .u8 b.toNat] := by simp [bys, Lib.strCells]
theorem bys_two (b c : UInt8) : bys [b, c] = [.int .u8 b.toNat, .int .u8 c.toNat] := by simp [bys, Lib.strCells]
theorem bys_len (l : List UInt8) : (bys l).length = l.length := by simp [bys, Lib.strCells]

/-- What a line says. -/
def byt (z : Int) : UInt8 := UInt8.ofNat z.toNat
def pr1 (x : Rh) : List UInt8 := if x.r = 0 then [byt (letN x.c)] else [byt (letN x.c - 32), byt (48 + x.r)]
def prS : Bool → List Rh → List Int → List UInt8
  | _, _, [] => []
  | f, L, n :: r => (if f then [] else [32]) ++ ((L.take n.toNat).flatMap pr1 ++ prS false (L.drop n.toNat) r)
def prB (s : Sc) : ByteArray := ⟨(prS true s.L s.S).toArray⟩
theorem byt_toNat {z : Int} (h : 0 ≤ z) (h' : z < 256) : ((byt z).toNat : Int) = z := by
  unfold byt
  rw [UInt8.toNat_ofNat']
  omega
theorem letN_range {c : Int} (h : -1 ≤ c) (h' : c < 25) : 97 ≤ letN c ∧ letN c ≤ 122 := by
  unfold letN
  split
  · omega
  · split <;> omega
theorem pr1_len (x : Rh) : (pr1 x).length ≤ 2 := by unfold pr1; split <;> simp
/-- What Print has written behind so many stanzas. -/
def PrO (s : Sc) (W1 : World) (out at_ i : Value) (wr : World) : Prop := ∃ (k p : Nat) (done : List UInt8) (v : Value), i = .int .i64 k ∧ at_ = .int .i64 p ∧ v = out ∧ k ≤ s.S.length ∧ p ≤ s.L.length ∧
  done ++ prS (k == 0) (s.L.drop p) (s.S.drop k) = prS true s.L s.S ∧ stB ((s.L.length : Int) - p) (s.S.drop k) = true ∧ done.length ≤ 2 * p + k ∧ wr.ownsRow W1.heap.size 5 1 v done.length (bys done) ∧ Below W1.heap.size W1 wr
def PrI (done : List UInt8) (M : List Rh) (W1 : World) (out j : Value) (wr : World) : Prop := ∃ (k : Nat) (v : Value), j = .int .i64 k ∧ v = out ∧ k ≤ M.length ∧
  wr.ownsRow W1.heap.size 5 1 v (done ++ (M.take k).flatMap pr1).length (bys (done ++ (M.take k).flatMap pr1)) ∧ Below W1.heap.size W1 wr
theorem PrI.row {done : List UInt8} {M : List Rh} {W1 wr : World} {out : Value} (h : PrI done M W1 out (.int .i64 0) wr) : wr.ownsRow W1.heap.size 5 1 out done.length (bys done) := by
  obtain ⟨k, v, e, rfl, _, h1, _⟩ := h
  simp only [Value.int.injEq, true_and] at e
  obtain rfl : k = 0 := by omega
  simpa using h1
theorem flat_le (M : List Rh) : (M.flatMap pr1).length ≤ 2 * M.length := by
  induction M with
  | nil => simp
  | cons x M ih => have := pr1_len x; simp only [List.flatMap_cons, List.length_append, List.length_cons]; omega
theorem stB_sum : ∀ (S : List Int) (l : Int), stB l S = true → 0 ≤ l → (S.length : Int) ≤ l := by
  intro S
  induction S with
  | nil => intro l _ h; simpa using h
  | cons n S ih =>
    intro l h h0
    simp only [stB, Bool.and_eq_true, Bool.not_eq_true', Bool.or_eq_false_iff, decide_eq_false_iff_not] at h
    have := ih (l - n) h.2 (by omega)
    simp only [List.length_cons]; omega

set_option maxHeartbeats 16000000 in
theorem print_any (s : Sc) (ol os : Option Addr) (cl cs : Nat) (hfl : NForm ol s.L.length cl) (hmay : mayB s = true) (w : World) (hr : RowAt w encR 2 ol s.L) (ht : RowAt w encI 1 os s.S) :
    Calls Try.prog 18 #[.agg #[.slice ol s.L.length cl, .slice os s.S.length cs]] w fun e w' => e = .returned (.tuple #[.string (prB s), .int .i64 0]) ∧ Below w.heap.size w w' := by
  obtain ⟨i0, hi, hz0, hz1, hz2⟩ := info_parts infoU8
  have hm0 := hmay
  unfold mayB at hm0
  rw [Bool.and_eq_true, Bool.and_eq_true, decide_eq_true_iff] at hm0
  obtain ⟨⟨hL5, hall⟩, hst⟩ := hm0
  have hS5 := stB_sum _ _ hst (by omega)
  have cK := fun W h1 h2 => check_any s ol os cl cs (by omega) (by omega) W h1 h2
  rw [hmay] at cK
  simp only [if_true] at cK
  obtain ⟨L, S⟩ := s
  simp only at hfl hr ht hL5 hall hst hS5 cK ⊢
  have hb0 := Blk.new w #[.slice ol L.length cl, .slice os S.length cs] 25
  have hB0 := (Below.refl _ w).alloc (Nat.le_refl _) (.cells #[.slice ol L.length cl, .slice os S.length cs] 25)
  have hrA := hr.below encR_len (by decide) hB0
  have htA := ht.below encI_len (by decide) hB0
  have HALL := Lib.hid (And.intro hall (And.intro hst hmay))
  clear hr ht hmay hall hst
  go_enter Try.func18, Try.ntmps18
  go_wp2_with (fail)
  refine (cK _ hrA htA).mono ?_
  rintro e W1 ⟨rfl, hB1⟩
  have hr1 := hrA.below encR_len (by decide) hB1
  have ht1 := htA.below encI_len (by decide) hB1
  have hb1 := hb0.below' hB1
  have hBw : Below w.heap.size w W1 := hB0.trans (hB1.mono hB0.size)
  have x0 : W1.cell? ⟨w.heap.size, 0, none⟩ = some (.slice ol L.length cl) := hb1.cell 0
  have x1 : W1.cell? ⟨w.heap.size, 1, none⟩ = some (.slice os S.length cs) := hb1.cell 1
  have HR := Lib.hid (And.intro hr1 (And.intro ht1 (And.intro hb1 hBw)))
  clear hr1 ht1 hb1 hBw hb0 hB0 hrA htA hB1 cK
  go_wp2
  go_loopw [5, 6, 19] (PrO ⟨L, S⟩ W1) (fun _ _ i _ => S.length - (intOf i).toNat)
  case atStart => exact ⟨0, 0, [], _, rfl, rfl, rfl, by simp, by simp, by simp, by simpa using HALL.out.2.1, by simp, World.ownsRow_nil _ _ _ _, Below.refl _ _⟩
  case round =>
    obtain ⟨k, p, done, out, rfl, rfl, rfl, hk, hp, hd, hst, hdl, hown, hB⟩ := hrel
    simp only at hk hp hd hst
    have x0 : wr.cell? ⟨w.heap.size, 0, none⟩ = some (.slice ol L.length cl) := at_below x0 hB
    have x1 : wr.cell? ⟨w.heap.size, 1, none⟩ = some (.slice os S.length cs) := at_below x1 hB
    by_cases hlt : k < S.length
    · obtain ⟨nz, hx⟩ : ∃ x, S[k]? = some x := ⟨_, List.getElem?_eq_getElem hlt⟩
      obtain ⟨gs, offs, rfl, hcs⟩ := (HR.out.2.1.below encI_len (by decide) hB) k nz hx
      have s0 := hcs 0 (by decide)
      simp only [encI, List.getElem?_cons_zero, Nat.add_zero, Nat.mul_one] at s0
      rw [drop_cons hx] at hst hd
      simp only [stB, Bool.and_eq_true, Bool.not_eq_true', Bool.or_eq_false_iff, decide_eq_false_iff_not] at hst
      obtain ⟨n, hn⟩ : ∃ n : Nat, nz = n := ⟨nz.toNat, by omega⟩
      subst hn
      obtain ⟨⟨hn1, hn2⟩, hst⟩ := hst
      have hn3 : p + n ≤ L.length := by omega
      obtain ⟨gl, offl, hol, _⟩ := HR.out.1 p (L[p]'(by omega)) (List.getElem?_eq_getElem (by omega))
      subst hol
      have hcap : L.length ≤ cl := by
        rcases hfl with ⟨h, _, _⟩ | ⟨a, h, h1, h2⟩
        · cases h
        · exact h1
      have hcap2 : cl ≤ 9223372036854775807 := by
        rcases hfl with ⟨h, _, _⟩ | ⟨a, h, h1, h2⟩
        · cases h
        · exact h2
      obtain ⟨M, hM⟩ : ∃ M, (L.drop p).take n = M := ⟨_, rfl⟩
      have hMl : M.length = n := by rw [← hM, List.length_take, List.length_drop]; omega
      obtain ⟨d1, hd1⟩ : ∃ d1, done ++ (if k == 0 then [] else [32]) = d1 := ⟨_, rfl⟩
      have hd1d : d1.length ≤ done.length + 1 := by rw [← hd1, List.length_append]; split <;> simp
      have hend : ∀ (out : Value) (W : World), W.ownsRow W1.heap.size 5 1 out (d1 ++ M.flatMap pr1).length (bys (d1 ++ M.flatMap pr1)) → Below W1.heap.size W1 W → PrO ⟨L, S⟩ W1 out (.int .i64 ((p : Int) + n)) (.int .i64 ((k : Int) + 1)) W := fun out W h1 h2 => by
        refine ⟨k + 1, p + n, _, _, by go_num, by go_num, rfl, hlt, hn3, ?_, ?_, ?_, h1, h2⟩
        · have hd' := hd
          simp only [prS, Int.toNat_natCast, hM] at hd'
          rw [← hd', ← hd1]
          simp [List.append_assoc]
        · have : (L.length : Int) - (p + n : Nat) = (L.length : Int) - p - n := by omega
          simp only [this]; exact hst
        · have h3 := flat_le M
          rw [List.length_append]
          omega
      have hMr : ∀ j x, M[j]? = some x → L[p + j]? = some x := fun j x h => by
        have hj : j < n := by have := (List.getElem?_eq_some_iff.1 h).1; omega
        rw [← hM, List.getElem?_take, if_pos hj, List.getElem?_drop] at h
        exact h
      have hMo : ∀ x ∈ M, okR x = true := fun x hx => List.all_eq_true.1 HALL.out.1 x (List.mem_of_mem_drop (List.mem_of_mem_take (hM ▸ hx)))
      have HEND := Lib.hid (And.intro hend (And.intro hMr (And.intro hMo hMl)))
      have hd1l : d1.length ≤ 2 * p + k + 1 := by omega
      have hI : ∀ (out : Value) (W : World), W.ownsRow W1.heap.size 5 1 out d1.length (bys d1) → Below W1.heap.size W1 W → PrI d1 M W1 out (.int .i64 0) W := fun out W h1 h2 => ⟨0, _, rfl, rfl, by simp, by simpa using h1, h2⟩
      have HI := Lib.hid hI
      have hdb : done.length ≤ 2000 := by omega
      have hsz := hB.size
      have k2 : (p : Int) + (n : Int) ≤ (cl : Int) := by omega
      have k3 : (0 : Int) ≤ (p : Int) := by omega
      have k4 : (p : Int) ≤ (p : Int) + (n : Int) := by omega
      have k5 : (p : Int) + (n : Int) - (p : Int) = (n : Int) := by omega
      clear hend hMr hMo hI hst hd hx hcs hcap hdl hMl
      by_cases hk0 : k = 0
      · have c0 : decide ((0 : Int) < (k : Int)) = false := decide_eq_false (by omega)
        have c1 : decide (0 < k) = false := decide_eq_false (by omega)
        have hX : wr.ownsRow W1.heap.size 5 1 out d1.length (bys d1) := by
          have : d1 = done := by rw [← hd1, hk0]; simp
          rw [this]; exact hown
        obtain ⟨X, rfl⟩ : ∃ X, X = wr := ⟨_, rfl⟩
        have HX := Lib.hid (HI.out _ _ hX hB)
        have HBX := Lib.hid hB
        clear hX hown hB hd1 hM hk0
        obtain ⟨oo, oc, rfl, _⟩ := own_slice HX.out.row
        have hXb := HBX.out.size
        go_wp2
        simp only [Nat.add_sub_cancel_left]
        go_loopw [5, 37] (PrI d1 M W1) (fun _ j _ => n - (intOf j).toNat)
        case atStart => exact HX.out
        case round =>
          obtain ⟨j, out3, rfl, rfl, hj, hown, hB⟩ := hrel
          rw [HEND.out.2.2.2] at hj
          have hbl := HR.out.2.2.1.below' hB
          have x0 : wr.cell? ⟨w.heap.size, 0, none⟩ = some (.slice (some ⟨gl, offl, none⟩) L.length cl) := hbl.cell 0
          have x1 : wr.cell? ⟨w.heap.size, 1, none⟩ = some (.slice (some ⟨gs, offs, none⟩) S.length cs) := hbl.cell 1
          by_cases hlj : j < n
          · obtain ⟨x, hx⟩ : ∃ x, M[j]? = some x := ⟨_, List.getElem?_eq_getElem (by rw [HEND.out.2.2.2]; exact hlj)⟩
            obtain ⟨gq, offq, e, hc⟩ := (HR.out.1.below encR_len (by decide) hB) (p + j) x (HEND.out.2.1 j x hx)
            simp only [Option.some.injEq, Addr.mk.injEq, and_true] at e
            obtain ⟨rfl, rfl⟩ := e
            have q0 := hc 0 (by decide)
            have q1 := hc 1 (by decide)
            have hok := (okR_iff x).1 (HEND.out.2.2.1 x (List.mem_of_getElem? hx))
            have hstep : d1 ++ (M.take (j + 1)).flatMap pr1 = (d1 ++ (M.take j).flatMap pr1) ++ pr1 x := by rw [take_nextL hx, List.flatMap_append, List.append_assoc]; simp
            have hfl := flat_le (M.take j)
            have hDl : (d1 ++ (M.take j).flatMap pr1).length ≤ 4100 := by rw [List.length_append]; rw [List.length_take] at hfl; omega
            obtain ⟨c, r⟩ := x
            simp only [encR, List.getElem?_cons_succ, List.getElem?_cons_zero, Nat.add_zero, show offl + (p + j) * 2 = offl + p * 2 + j * 2 by omega] at q0 q1
            simp only at hok
            obtain ⟨ok1, ok2, ok3, ok4, ok5⟩ := hok
            have cC := fun W => letter_any c ok1 ok2 W
            have hz := letN_range ok1 ok2
            obtain ⟨z, hzz⟩ : ∃ z, letN c = z := ⟨_, rfl⟩
            rw [hzz] at cC hz
            obtain ⟨D, hD⟩ : ∃ D, d1 ++ (M.take j).flatMap pr1 = D := ⟨_, rfl⟩
            rw [hD] at hown hDl hstep
            obtain ⟨on, hon⟩ : ∃ on, D.length = on := ⟨_, rfl⟩
            rw [hon] at hown hDl
            obtain ⟨oo, oc, rfl, _⟩ := own_slice hown
            have hsz := hB.size
            have HN2 := Lib.hid (And.intro (hB.alloc hB.size (.cells #[.int .i64 c, .int .i64 r] 79)) (hown.alloc (.cells #[.int .i64 c, .int .i64 r] 79)))
            have HST := Lib.hid (And.intro hstep (And.intro hon hzz))
            clear hstep hon hzz hown hB hc hx hD ok5 hfl hbl
            have u1 : IntKind.u8.wrap (z - 97) = z - 97 := by unfold IntKind.wrap; simp [IntKind.bits, IntKind.signed]; omega
            have u2 : IntKind.u8.wrap (z - 97 + 65) = z - 97 + 65 := by unfold IntKind.wrap; simp [IntKind.bits, IntKind.signed]; omega
            have u3 : IntKind.u8.wrap r = r := by unfold IntKind.wrap; simp [IntKind.bits, IntKind.signed]; omega
            have u4 : IntKind.u8.wrap (48 + r) = 48 + r := by unfold IntKind.wrap; simp [IntKind.bits, IntKind.signed]; omega
            by_cases hr0 : r = 0
            · subst hr0
              have HO2 := Lib.hid (And.intro (HN2.out.2.alloc (.cells #[.int .u8 z] 5)) (HN2.out.1.alloc HN2.out.1.size (.cells #[.int .u8 z] 5)))
              have hc1 := cell_one_new (wr.alloc (.cells #[.int .i64 c, .int .i64 0] 79)) (.int .u8 z) 5
              rw [World.size_alloc] at hc1
              have HC1 := Lib.hid hc1
              clear hc1
              go_wp2_with (first | (go_at_call 54; refine (cC _).mono ?_; rintro e w' ⟨rfl, rfl⟩) | (at_builtin; refine wpList_append_own _ rfl _ _ 84 rfl W1.heap.size 5 i0 (.int .u8 0) 1 1 Try.underlying84 hi hz0 hz1 hz2 rfl (by decide) _ _ _ rfl HO2.out.1 ⟨wr.heap.size + 1, 0, none⟩ 1 1 [.int .u8 z] rfl rfl HC1.out (fun x hx => by simp at hx; subst hx; rfl) (by unfold maxLen; omega) (by omega) (by simp; omega) ?_; intro v3 w3 hown3 hg3 _; have hB3 := HO2.out.2.grown hg3 (by simp; omega) (fun r e => (HO2.out.1.lt r e).1); have HW3 := Lib.hid (And.intro hown3 hB3); clear hown3 hg3 hB3))
              go_roundw
              case rel =>
                refine ⟨j + 1, _, by go_num, rfl, by rw [HEND.out.2.2.2]; omega, ?_, HW3.out.2⟩
                rw [HST.out.1, show pr1 ⟨c, 0⟩ = [byt z] by unfold pr1; rw [if_pos rfl, HST.out.2.2], List.length_append, bys_app, bys_one, byt_toNat (by omega) (by omega), HST.out.2.1]
                exact HW3.out.1
              case measure => simp [intOf]; omega
            · have e0 : (r == 0) = false := by rw [beq_eq_false_iff_ne]; exact hr0
              go_wp2
              refine wp_region_noPanic ?_
              refine wp_region_g (S := untilG [] (fun W => Blk W wr.heap.size #[.int .i64 c, .int .i64 r] 79)) (by kernel_rfl) ?_
              have hBd := HN2.out.1.drew
              have hOd := drew_row HN2.out.2
              have T0 : Blk (wr.alloc (.cells #[.int .i64 c, .int .i64 r] 79)).drew wr.heap.size #[.int .i64 c, .int .i64 r] 79 := (Blk.new wr _ _).drew
              obtain ⟨Z, hZ⟩ : ∃ Z, (wr.alloc (.cells #[.int .i64 c, .int .i64 r] 79)).drew = Z := ⟨_, rfl⟩
              rw [hZ] at T0 hBd hOd ⊢
              have hzs := hBd.size
              have T1 := T0.alloc (.cells #[.int .u8 (z - 97 + 65), .int .u8 (48 + r)] 5)
              have hO1 := hOd.alloc (.cells #[.int .u8 (z - 97 + 65), .int .u8 (48 + r)] 5)
              have hB1 := hBd.alloc hBd.size (.cells #[.int .u8 (z - 97 + 65), .int .u8 (48 + r)] 5)
              have hnw := World.alloc_heap_new Z (.cells #[.int .u8 (z - 97 + 65), .int .u8 (48 + r)] 5)
              have HZ1 := Lib.hid (And.intro T1 (And.intro hO1 (And.intro hB1 hnw)))
              clear hZ hBd hOd T1 hO1 hB1 hnw
              refine wpAnyG_take [0, 11, 12] (i := 0) (v := (.slice oo on oc)) rfl (by kernel_rfl) (by kernel_rfl) (by kernel_rfl) (by kernel_rfl) (by kernel_rfl) (by kernel_rfl) (by kernel_rfl) (by kernel_rfl) (fun _ _ _ h => h) (Or.inl ⟨by rfl, ?hy⟩) T0 ?_
              case hy =>
                intro X hX
                go_simp
              try simp only [Act.put, List.getElem_toArray, List.getElem_cons_zero, List.getElem_cons_succ, List.setIfInBounds_toArray, List.set_cons_zero, List.set_cons_succ]
              refine wpAnyG_take [1, 2, 3, 4, 5, 10, 11, 12] (i := 1) (v := (.pointer (some ⟨wr.heap.size, 0, none⟩))) rfl (by kernel_rfl) (by kernel_rfl) (by kernel_rfl) (by kernel_rfl) (by kernel_rfl) (by kernel_rfl) (by kernel_rfl) (by kernel_rfl) (fun _ _ _ h => h) (Or.inl ⟨by rfl, ?hy⟩) T0 ?_
              case hy =>
                intro X hX
                go_simp
              try simp only [Act.put, List.getElem_toArray, List.getElem_cons_zero, List.getElem_cons_succ, List.setIfInBounds_toArray, List.set_cons_zero, List.set_cons_succ]
              refine wpAnyG_take [2, 3, 4, 5, 10, 11, 12] (i := 2) (v := (.int .i64 c)) rfl (by kernel_rfl) (by kernel_rfl) (by kernel_rfl) (by kernel_rfl) (by kernel_rfl) (by kernel_rfl) (by kernel_rfl) (by kernel_rfl) (fun _ _ _ h => h) (Or.inl ⟨by rfl, ?hy⟩) T0 ?_
              case hy =>
                intro X hX
                have e0 := hX.cell 0
                have e1 := hX.cell 1
                simp only [List.getElem?_toArray, List.getElem?_cons_succ, List.getElem?_cons_zero] at e0 e1
                go_simp
              try simp only [Act.put, List.getElem_toArray, List.getElem_cons_zero, List.getElem_cons_succ, List.setIfInBounds_toArray, List.set_cons_zero, List.set_cons_succ]
              refine wpAnyG_take [6, 7, 8, 9, 10, 11, 12] (i := 6) (v := (.pointer (some ⟨wr.heap.size, 1, none⟩))) rfl (by kernel_rfl) (by kernel_rfl) (by kernel_rfl) (by kernel_rfl) (by kernel_rfl) (by kernel_rfl) (by kernel_rfl) (by kernel_rfl) (fun _ _ _ h => h) (Or.inl ⟨by rfl, ?hy⟩) T0 ?_
              case hy =>
                intro X hX
                go_simp
              try simp only [Act.put, List.getElem_toArray, List.getElem_cons_zero, List.getElem_cons_succ, List.setIfInBounds_toArray, List.set_cons_zero, List.set_cons_succ]
              refine wpAnyG_take [7, 8, 9, 10, 11, 12] (i := 7) (v := (.int .i64 r)) rfl (by kernel_rfl) (by kernel_rfl) (by kernel_rfl) (by kernel_rfl) (by kernel_rfl) (by kernel_rfl) (by kernel_rfl) (by kernel_rfl) (fun _ _ _ h => h) (Or.inl ⟨by rfl, ?hy⟩) T0 ?_
              case hy =>
                intro X hX
                have e0 := hX.cell 0
                have e1 := hX.cell 1
                simp only [List.getElem?_toArray, List.getElem?_cons_succ, List.getElem?_cons_zero] at e0 e1
                go_simp
              try simp only [Act.put, List.getElem_toArray, List.getElem_cons_zero, List.getElem_cons_succ, List.setIfInBounds_toArray, List.set_cons_zero, List.set_cons_succ]
              refine wpAnyG_take [8, 9, 10, 11, 12] (i := 8) (v := (.int .u8 r)) rfl (by kernel_rfl) (by kernel_rfl) (by kernel_rfl) (by kernel_rfl) (by kernel_rfl) (by kernel_rfl) (by kernel_rfl) (by kernel_rfl) (fun _ _ _ h => h) (Or.inl ⟨by rfl, ?hy⟩) T0 ?_
              case hy =>
                intro X hX
                go_simp
              try simp only [Act.put, List.getElem_toArray, List.getElem_cons_zero, List.getElem_cons_succ, List.setIfInBounds_toArray, List.set_cons_zero, List.set_cons_succ]
              refine wpAnyG_take [9, 10, 11, 12] (i := 9) (v := (.int .u8 (48 + r))) rfl (by kernel_rfl) (by kernel_rfl) (by kernel_rfl) (by kernel_rfl) (by kernel_rfl) (by kernel_rfl) (by kernel_rfl) (by kernel_rfl) (fun _ _ _ h => h) (Or.inl ⟨by rfl, ?hy⟩) T0 ?_
              case hy =>
                intro X hX
                go_simp
              try simp only [Act.put, List.getElem_toArray, List.getElem_cons_zero, List.getElem_cons_succ, List.setIfInBounds_toArray, List.set_cons_zero, List.set_cons_succ]
              refine wpAnyG_all (rs := [3]) (by kernel_rfl) (by simp) ?_
              intro i hi
              simp only [List.mem_cons, List.not_mem_nil, or_false] at hi
              subst hi
              refine wpOp_now rfl rfl ?_
              go_simp
              refine (cC _).mono ?_
              rintro e X3 ⟨rfl, hX3⟩
              subst hX3
              refine ⟨fun _ => T0, ?_⟩
              try simp only [Act.put, List.getElem_toArray, List.getElem_cons_zero, List.getElem_cons_succ, List.setIfInBounds_toArray, List.set_cons_zero, List.set_cons_succ]
              refine wpAnyG_all (rs := [4]) (by kernel_rfl) (by simp) ?_
              intro i hi
              simp only [List.mem_cons, List.not_mem_nil, or_false] at hi
              subst hi
              refine wpOp_now rfl rfl ?_
              go_simp
              refine ⟨fun _ => T0, ?_⟩
              try simp only [Act.put, List.getElem_toArray, List.getElem_cons_zero, List.getElem_cons_succ, List.setIfInBounds_toArray, List.set_cons_zero, List.set_cons_succ]
              refine wpAnyG_all (rs := [5]) (by kernel_rfl) (by simp) ?_
              intro i hi
              simp only [List.mem_cons, List.not_mem_nil, or_false] at hi
              subst hi
              refine wpOp_now rfl rfl ?_
              go_simp
              refine ⟨fun _ => T0, ?_⟩
              try simp only [Act.put, List.getElem_toArray, List.getElem_cons_zero, List.getElem_cons_succ, List.setIfInBounds_toArray, List.set_cons_zero, List.set_cons_succ]
              refine wpAnyG_all (rs := [10]) (by kernel_rfl) (by simp) ?_
              intro i hi
              simp only [List.mem_cons, List.not_mem_nil, or_false] at hi
              subst hi
              refine wpOp_now rfl rfl ?_
              go_simp
              refine ⟨fun _ => HZ1.out.1, ?_⟩
              try simp only [Act.put, List.getElem_toArray, List.getElem_cons_zero, List.getElem_cons_succ, List.setIfInBounds_toArray, List.set_cons_zero, List.set_cons_succ]
              refine wpAnyG_all (rs := [11]) (by kernel_rfl) (by simp) ?_
              intro i hi6
              simp only [List.mem_cons, List.not_mem_nil, or_false] at hi6
              subst hi6
              refine wpOp_now rfl rfl ?_
              refine opwp_append _ _ 84 rfl W1.heap.size 5 i0 (.int .u8 0) 1 1 Try.underlying84 hi hz0 hz1 hz2 rfl (by decide) (.slice oo on oc) _ _ rfl HZ1.out.2.1 ⟨X3.heap.size, 0, none⟩ 2 2 [.int .u8 (z - 97 + 65), .int .u8 (48 + r)] rfl rfl (World.news_of_block (cs := #[.int .u8 (z - 97 + 65), .int .u8 (48 + r)]) (t := 5) (fr := (0, 0)) HZ1.out.2.2.2) (fun x hx => by simp at hx; rcases hx with rfl | rfl <;> rfl) (by unfold maxLen; omega) (by omega) (by simp; omega) ?_
              intro v3 w3 hown3 hg3
              have T3 := HZ1.out.1.kept hg3 (HZ1.out.1.not_row (by decide) HZ1.out.2.1)
              have hB3 := HZ1.out.2.2.1.grown hg3 (by simp; omega) (fun r e => (HZ1.out.2.1.lt r e).1)
              have HW3 := Lib.hid (And.intro hown3 hB3)
              obtain ⟨o3, c3, rfl, _⟩ := own_slice hown3
              clear hown3 hg3 hB3
              refine ⟨fun _ => T3, ?_⟩
              try simp only [Act.put, List.getElem_toArray, List.getElem_cons_zero, List.getElem_cons_succ, List.setIfInBounds_toArray, List.set_cons_zero, List.set_cons_succ]
              refine wpAnyG_all (rs := [12]) (by kernel_rfl) (by simp) ?_
              intro i hi
              simp only [List.mem_cons, List.not_mem_nil, or_false] at hi
              subst hi
              refine wpOp_now rfl rfl ?_
              go_simp
              refine ⟨fun _ => T3, ?_⟩
              try simp only [Act.put, List.getElem_toArray, List.getElem_cons_zero, List.getElem_cons_succ, List.setIfInBounds_toArray, List.set_cons_zero, List.set_cons_succ]
              refine wpAnyG_done (by kernel_rfl) ?_ _
              refine NoPanic.normal ?_
              go_wp2
              go_roundw
              case rel =>
                refine ⟨j + 1, _, by go_num, rfl, by rw [HEND.out.2.2.2]; omega, ?_, HW3.out.2⟩
                rw [HST.out.1, show pr1 ⟨c, r⟩ = [byt (z - 97 + 65), byt (48 + r)] by unfold pr1; rw [if_neg hr0, HST.out.2.2, show z - 32 = z - 97 + 65 by omega], List.length_append, bys_app, bys_two, byt_toNat (by omega) (by omega), byt_toNat (by omega) (by omega), HST.out.2.1]
                exact HW3.out.1
              case measure => simp [intOf]; omega
          · obtain rfl : j = n := by omega
            have hown2 := hown
            rw [List.take_of_length_le (by rw [HEND.out.2.2.2]; exact Nat.le_refl _)] at hown2
            have HO := Lib.hid (HEND.out.1 _ _ hown2 hB)
            clear hown hown2 hB hbl
            go_wp2
            go_roundw
            case rel => exact HO.out
            case measure => simp [intOf]; omega
      · have c0 : decide ((0 : Int) < (k : Int)) = true := decide_eq_true (by omega)
        have c1 : decide (0 < k) = true := decide_eq_true (by omega)
        have hdd : d1 = done ++ [32] := by rw [← hd1, show (k == 0) = false from beq_eq_false_iff_ne.2 hk0]; rfl
        have HO := Lib.hid (And.intro (hown.alloc (.cells #[.int .u8 32] 5)) (And.intro (hB.alloc hB.size (.cells #[.int .u8 32] 5)) hdd))
        clear hown hB hd1 hM hdd
        obtain ⟨o9, c9, rfl, _⟩ := own_slice HO.out.1
        go_upto_region 11 with (at_builtin; refine wpList_append_own _ rfl _ _ 84 rfl W1.heap.size 5 i0 (.int .u8 0) 1 1 Try.underlying84 hi hz0 hz1 hz2 rfl (by decide) _ _ _ rfl HO.out.1 ⟨wr.heap.size, 0, none⟩ 1 1 [.int .u8 32] rfl rfl (cell_one_new _ _ _) (fun x hx => by simp at hx; subst hx; rfl) (by unfold maxLen; omega) (by omega) (by simp; omega) ?_; intro v2 w2 hown2 hg2 _)
        have hX : w2.ownsRow W1.heap.size 5 1 v2 d1.length (bys d1) := by
          have h := hown2
          rw [HO.out.2.2, List.length_append, bys_app]
          exact h
        have hBX := HO.out.2.1.grown hg2 (by simp; omega) (fun r e => (HO.out.1.lt r e).1)
        have x0 : w2.cell? ⟨w.heap.size, 0, none⟩ = some (.slice (some ⟨gl, offl, none⟩) L.length cl) := (HR.out.2.2.1.below' hBX).cell 0
        have x1 : w2.cell? ⟨w.heap.size, 1, none⟩ = some (.slice (some ⟨gs, offs, none⟩) S.length cs) := (HR.out.2.2.1.below' hBX).cell 1
        obtain ⟨X, rfl⟩ : ∃ X, X = w2 := ⟨_, rfl⟩
        have HX := Lib.hid (HI.out _ _ hX hBX)
        have HBX := Lib.hid hBX
        clear hX hBX hown2 hg2
        obtain ⟨oo, oc, rfl, _⟩ := own_slice HX.out.row
        have hXb := HBX.out.size
        go_wp2
        simp only [Nat.add_sub_cancel_left]
        go_loopw [5, 37] (PrI d1 M W1) (fun _ j _ => n - (intOf j).toNat)
        case atStart => exact HX.out
        case round =>
          obtain ⟨j, out3, rfl, rfl, hj, hown, hB⟩ := hrel
          rw [HEND.out.2.2.2] at hj
          have hbl := HR.out.2.2.1.below' hB
          have x0 : wr.cell? ⟨w.heap.size, 0, none⟩ = some (.slice (some ⟨gl, offl, none⟩) L.length cl) := hbl.cell 0
          have x1 : wr.cell? ⟨w.heap.size, 1, none⟩ = some (.slice (some ⟨gs, offs, none⟩) S.length cs) := hbl.cell 1
          by_cases hlj : j < n
          · obtain ⟨x, hx⟩ : ∃ x, M[j]? = some x := ⟨_, List.getElem?_eq_getElem (by rw [HEND.out.2.2.2]; exact hlj)⟩
            obtain ⟨gq, offq, e, hc⟩ := (HR.out.1.below encR_len (by decide) hB) (p + j) x (HEND.out.2.1 j x hx)
            simp only [Option.some.injEq, Addr.mk.injEq, and_true] at e
            obtain ⟨rfl, rfl⟩ := e
            have q0 := hc 0 (by decide)
            have q1 := hc 1 (by decide)
            have hok := (okR_iff x).1 (HEND.out.2.2.1 x (List.mem_of_getElem? hx))
            have hstep : d1 ++ (M.take (j + 1)).flatMap pr1 = (d1 ++ (M.take j).flatMap pr1) ++ pr1 x := by rw [take_nextL hx, List.flatMap_append, List.append_assoc]; simp
            have hfl := flat_le (M.take j)
            have hDl : (d1 ++ (M.take j).flatMap pr1).length ≤ 4100 := by rw [List.length_append]; rw [List.length_take] at hfl; omega
            obtain ⟨c, r⟩ := x
            simp only [encR, List.getElem?_cons_succ, List.getElem?_cons_zero, Nat.add_zero, show offl + (p + j) * 2 = offl + p * 2 + j * 2 by omega] at q0 q1
            simp only at hok
            obtain ⟨ok1, ok2, ok3, ok4, ok5⟩ := hok
            have cC := fun W => letter_any c ok1 ok2 W
            have hz := letN_range ok1 ok2
            obtain ⟨z, hzz⟩ : ∃ z, letN c = z := ⟨_, rfl⟩
            rw [hzz] at cC hz
            obtain ⟨D, hD⟩ : ∃ D, d1 ++ (M.take j).flatMap pr1 = D := ⟨_, rfl⟩
            rw [hD] at hown hDl hstep
            obtain ⟨on, hon⟩ : ∃ on, D.length = on := ⟨_, rfl⟩
            rw [hon] at hown hDl
            obtain ⟨oo, oc, rfl, _⟩ := own_slice hown
            have hsz := hB.size
            have HN2 := Lib.hid (And.intro (hB.alloc hB.size (.cells #[.int .i64 c, .int .i64 r] 79)) (hown.alloc (.cells #[.int .i64 c, .int .i64 r] 79)))
            have HST := Lib.hid (And.intro hstep (And.intro hon hzz))
            clear hstep hon hzz hown hB hc hx hD ok5 hfl hbl
            have u1 : IntKind.u8.wrap (z - 97) = z - 97 := by unfold IntKind.wrap; simp [IntKind.bits, IntKind.signed]; omega
            have u2 : IntKind.u8.wrap (z - 97 + 65) = z - 97 + 65 := by unfold IntKind.wrap; simp [IntKind.bits, IntKind.signed]; omega
            have u3 : IntKind.u8.wrap r = r := by unfold IntKind.wrap; simp [IntKind.bits, IntKind.signed]; omega
            have u4 : IntKind.u8.wrap (48 + r) = 48 + r := by unfold IntKind.wrap; simp [IntKind.bits, IntKind.signed]; omega
            by_cases hr0 : r = 0
            · subst hr0
              have HO2 := Lib.hid (And.intro (HN2.out.2.alloc (.cells #[.int .u8 z] 5)) (HN2.out.1.alloc HN2.out.1.size (.cells #[.int .u8 z] 5)))
              have hc1 := cell_one_new (wr.alloc (.cells #[.int .i64 c, .int .i64 0] 79)) (.int .u8 z) 5
              rw [World.size_alloc] at hc1
              have HC1 := Lib.hid hc1
              clear hc1
              go_wp2_with (first | (go_at_call 54; refine (cC _).mono ?_; rintro e w' ⟨rfl, rfl⟩) | (at_builtin; refine wpList_append_own _ rfl _ _ 84 rfl W1.heap.size 5 i0 (.int .u8 0) 1 1 Try.underlying84 hi hz0 hz1 hz2 rfl (by decide) _ _ _ rfl HO2.out.1 ⟨wr.heap.size + 1, 0, none⟩ 1 1 [.int .u8 z] rfl rfl HC1.out (fun x hx => by simp at hx; subst hx; rfl) (by unfold maxLen; omega) (by omega) (by simp; omega) ?_; intro v3 w3 hown3 hg3 _; have hB3 := HO2.out.2.grown hg3 (by simp; omega) (fun r e => (HO2.out.1.lt r e).1); have HW3 := Lib.hid (And.intro hown3 hB3); clear hown3 hg3 hB3))
              go_roundw
              case rel =>
                refine ⟨j + 1, _, by go_num, rfl, by rw [HEND.out.2.2.2]; omega, ?_, HW3.out.2⟩
                rw [HST.out.1, show pr1 ⟨c, 0⟩ = [byt z] by unfold pr1; rw [if_pos rfl, HST.out.2.2], List.length_append, bys_app, bys_one, byt_toNat (by omega) (by omega), HST.out.2.1]
                exact HW3.out.1
              case measure => simp [intOf]; omega
            · have e0 : (r == 0) = false := by rw [beq_eq_false_iff_ne]; exact hr0
              go_wp2
              refine wp_region_noPanic ?_
              refine wp_region_g (S := untilG [] (fun W => Blk W wr.heap.size #[.int .i64 c, .int .i64 r] 79)) (by kernel_rfl) ?_
              have hBd := HN2.out.1.drew
              have hOd := drew_row HN2.out.2
              have T0 : Blk (wr.alloc (.cells #[.int .i64 c, .int .i64 r] 79)).drew wr.heap.size #[.int .i64 c, .int .i64 r] 79 := (Blk.new wr _ _).drew
              obtain ⟨Z, hZ⟩ : ∃ Z, (wr.alloc (.cells #[.int .i64 c, .int .i64 r] 79)).drew = Z := ⟨_, rfl⟩
              rw [hZ] at T0 hBd hOd ⊢
              have hzs := hBd.size
              have T1 := T0.alloc (.cells #[.int .u8 (z - 97 + 65), .int .u8 (48 + r)] 5)
              have hO1 := hOd.alloc (.cells #[.int .u8 (z - 97 + 65), .int .u8 (48 + r)] 5)
              have hB1 := hBd.alloc hBd.size (.cells #[.int .u8 (z - 97 + 65), .int .u8 (48 + r)] 5)
              have hnw := World.alloc_heap_new Z (.cells #[.int .u8 (z - 97 + 65), .int .u8 (48 + r)] 5)
              have HZ1 := Lib.hid (And.intro T1 (And.intro hO1 (And.intro hB1 hnw)))
              clear hZ hBd hOd T1 hO1 hB1 hnw
              refine wpAnyG_take [0, 11, 12] (i := 0) (v := (.slice oo on oc)) rfl (by kernel_rfl) (by kernel_rfl) (by kernel_rfl) (by kernel_rfl) (by kernel_rfl) (by kernel_rfl) (by kernel_rfl) (by kernel_rfl) (fun _ _ _ h => h) (Or.inl ⟨by rfl, ?hy⟩) T0 ?_
              case hy =>
                intro X hX
                go_simp
              try simp only [Act.put, List.getElem_toArray, List.getElem_cons_zero, List.getElem_cons_succ, List.setIfInBounds_toArray, List.set_cons_zero, List.set_cons_succ]
              refine wpAnyG_take [1, 2, 3, 4, 5, 10, 11, 12] (i := 1) (v := (.pointer (some ⟨wr.heap.size, 0, none⟩))) rfl (by kernel_rfl) (by kernel_rfl) (by kernel_rfl) (by kernel_rfl) (by kernel_rfl) (by kernel_rfl) (by kernel_rfl) (by kernel_rfl) (fun _ _ _ h => h) (Or.inl ⟨by rfl, ?hy⟩) T0 ?_
              case hy =>
                intro X hX
                go_simp
              try simp only [Act.put, List.getElem_toArray, List.getElem_cons_zero, List.getElem_cons_succ, List.setIfInBounds_toArray, List.set_cons_zero, List.set_cons_succ]
              refine wpAnyG_take [2, 3, 4, 5, 10, 11, 12] (i := 2) (v := (.int .i64 c)) rfl (by kernel_rfl) (by kernel_rfl) (by kernel_rfl) (by kernel_rfl) (by kernel_rfl) (by kernel_rfl) (by kernel_rfl) (by kernel_rfl) (fun _ _ _ h => h) (Or.inl ⟨by rfl, ?hy⟩) T0 ?_
              case hy =>
                intro X hX
                have e0 := hX.cell 0
                have e1 := hX.cell 1
                simp only [List.getElem?_toArray, List.getElem?_cons_succ, List.getElem?_cons_zero] at e0 e1
                go_simp
              try simp only [Act.put, List.getElem_toArray, List.getElem_cons_zero, List.getElem_cons_succ, List.setIfInBounds_toArray, List.set_cons_zero, List.set_cons_succ]
              refine wpAnyG_take [6, 7, 8, 9, 10, 11, 12] (i := 6) (v := (.pointer (some ⟨wr.heap.size, 1, none⟩))) rfl (by kernel_rfl) (by kernel_rfl) (by kernel_rfl) (by kernel_rfl) (by kernel_rfl) (by kernel_rfl) (by kernel_rfl) (by kernel_rfl) (fun _ _ _ h => h) (Or.inl ⟨by rfl, ?hy⟩) T0 ?_
              case hy =>
                intro X hX
                go_simp
              try simp only [Act.put, List.getElem_toArray, List.getElem_cons_zero, List.getElem_cons_succ, List.setIfInBounds_toArray, List.set_cons_zero, List.set_cons_succ]
              refine wpAnyG_take [7, 8, 9, 10, 11, 12] (i := 7) (v := (.int .i64 r)) rfl (by kernel_rfl) (by kernel_rfl) (by kernel_rfl) (by kernel_rfl) (by kernel_rfl) (by kernel_rfl) (by kernel_rfl) (by kernel_rfl) (fun _ _ _ h => h) (Or.inl ⟨by rfl, ?hy⟩) T0 ?_
              case hy =>
                intro X hX
                have e0 := hX.cell 0
                have e1 := hX.cell 1
                simp only [List.getElem?_toArray, List.getElem?_cons_succ, List.getElem?_cons_zero] at e0 e1
                go_simp
              try simp only [Act.put, List.getElem_toArray, List.getElem_cons_zero, List.getElem_cons_succ, List.setIfInBounds_toArray, List.set_cons_zero, List.set_cons_succ]
              refine wpAnyG_take [8, 9, 10, 11, 12] (i := 8) (v := (.int .u8 r)) rfl (by kernel_rfl) (by kernel_rfl) (by kernel_rfl) (by kernel_rfl) (by kernel_rfl) (by kernel_rfl) (by kernel_rfl) (by kernel_rfl) (fun _ _ _ h => h) (Or.inl ⟨by rfl, ?hy⟩) T0 ?_
              case hy =>
                intro X hX
                go_simp
              try simp only [Act.put, List.getElem_toArray, List.getElem_cons_zero, List.getElem_cons_succ, List.setIfInBounds_toArray, List.set_cons_zero, List.set_cons_succ]
              refine wpAnyG_take [9, 10, 11, 12] (i := 9) (v := (.int .u8 (48 + r))) rfl (by kernel_rfl) (by kernel_rfl) (by kernel_rfl) (by kernel_rfl) (by kernel_rfl) (by kernel_rfl) (by kernel_rfl) (by kernel_rfl) (fun _ _ _ h => h) (Or.inl ⟨by rfl, ?hy⟩) T0 ?_
              case hy =>
                intro X hX
                go_simp
              try simp only [Act.put, List.getElem_toArray, List.getElem_cons_zero, List.getElem_cons_succ, List.setIfInBounds_toArray, List.set_cons_zero, List.set_cons_succ]
              refine wpAnyG_all (rs := [3]) (by kernel_rfl) (by simp) ?_
              intro i hi
              simp only [List.mem_cons, List.not_mem_nil, or_false] at hi
              subst hi
              refine wpOp_now rfl rfl ?_
              go_simp
              refine (cC _).mono ?_
              rintro e X3 ⟨rfl, hX3⟩
              subst hX3
              refine ⟨fun _ => T0, ?_⟩
              try simp only [Act.put, List.getElem_toArray, List.getElem_cons_zero, List.getElem_cons_succ, List.setIfInBounds_toArray, List.set_cons_zero, List.set_cons_succ]
              refine wpAnyG_all (rs := [4]) (by kernel_rfl) (by simp) ?_
              intro i hi
              simp only [List.mem_cons, List.not_mem_nil, or_false] at hi
              subst hi
              refine wpOp_now rfl rfl ?_
              go_simp
              refine ⟨fun _ => T0, ?_⟩
              try simp only [Act.put, List.getElem_toArray, List.getElem_cons_zero, List.getElem_cons_succ, List.setIfInBounds_toArray, List.set_cons_zero, List.set_cons_succ]
              refine wpAnyG_all (rs := [5]) (by kernel_rfl) (by simp) ?_
              intro i hi
              simp only [List.mem_cons, List.not_mem_nil, or_false] at hi
              subst hi
              refine wpOp_now rfl rfl ?_
              go_simp
              refine ⟨fun _ => T0, ?_⟩
              try simp only [Act.put, List.getElem_toArray, List.getElem_cons_zero, List.getElem_cons_succ, List.setIfInBounds_toArray, List.set_cons_zero, List.set_cons_succ]
              refine wpAnyG_all (rs := [10]) (by kernel_rfl) (by simp) ?_
              intro i hi
              simp only [List.mem_cons, List.not_mem_nil, or_false] at hi
              subst hi
              refine wpOp_now rfl rfl ?_
              go_simp
              refine ⟨fun _ => HZ1.out.1, ?_⟩
              try simp only [Act.put, List.getElem_toArray, List.getElem_cons_zero, List.getElem_cons_succ, List.setIfInBounds_toArray, List.set_cons_zero, List.set_cons_succ]
              refine wpAnyG_all (rs := [11]) (by kernel_rfl) (by simp) ?_
              intro i hi6
              simp only [List.mem_cons, List.not_mem_nil, or_false] at hi6
              subst hi6
              refine wpOp_now rfl rfl ?_
              refine opwp_append _ _ 84 rfl W1.heap.size 5 i0 (.int .u8 0) 1 1 Try.underlying84 hi hz0 hz1 hz2 rfl (by decide) (.slice oo on oc) _ _ rfl HZ1.out.2.1 ⟨X3.heap.size, 0, none⟩ 2 2 [.int .u8 (z - 97 + 65), .int .u8 (48 + r)] rfl rfl (World.news_of_block (cs := #[.int .u8 (z - 97 + 65), .int .u8 (48 + r)]) (t := 5) (fr := (0, 0)) HZ1.out.2.2.2) (fun x hx => by simp at hx; rcases hx with rfl | rfl <;> rfl) (by unfold maxLen; omega) (by omega) (by simp; omega) ?_
              intro v3 w3 hown3 hg3
              have T3 := HZ1.out.1.kept hg3 (HZ1.out.1.not_row (by decide) HZ1.out.2.1)
              have hB3 := HZ1.out.2.2.1.grown hg3 (by simp; omega) (fun r e => (HZ1.out.2.1.lt r e).1)
              have HW3 := Lib.hid (And.intro hown3 hB3)
              obtain ⟨o3, c3, rfl, _⟩ := own_slice hown3
              clear hown3 hg3 hB3
              refine ⟨fun _ => T3, ?_⟩
              try simp only [Act.put, List.getElem_toArray, List.getElem_cons_zero, List.getElem_cons_succ, List.setIfInBounds_toArray, List.set_cons_zero, List.set_cons_succ]
              refine wpAnyG_all (rs := [12]) (by kernel_rfl) (by simp) ?_
              intro i hi
              simp only [List.mem_cons, List.not_mem_nil, or_false] at hi
              subst hi
              refine wpOp_now rfl rfl ?_
              go_simp
              refine ⟨fun _ => T3, ?_⟩
              try simp only [Act.put, List.getElem_toArray, List.getElem_cons_zero, List.getElem_cons_succ, List.setIfInBounds_toArray, List.set_cons_zero, List.set_cons_succ]
              refine wpAnyG_done (by kernel_rfl) ?_ _
              refine NoPanic.normal ?_
              go_wp2
              go_roundw
              case rel =>
                refine ⟨j + 1, _, by go_num, rfl, by rw [HEND.out.2.2.2]; omega, ?_, HW3.out.2⟩
                rw [HST.out.1, show pr1 ⟨c, r⟩ = [byt (z - 97 + 65), byt (48 + r)] by unfold pr1; rw [if_neg hr0, HST.out.2.2, show z - 32 = z - 97 + 65 by omega], List.length_append, bys_app, bys_two, byt_toNat (by omega) (by omega), byt_toNat (by omega) (by omega), HST.out.2.1]
                exact HW3.out.1
              case measure => simp [intOf]; omega
          · obtain rfl : j = n := by omega
            have hown2 := hown
            rw [List.take_of_length_le (by rw [HEND.out.2.2.2]; exact Nat.le_refl _)] at hown2
            have HO := Lib.hid (HEND.out.1 _ _ hown2 hB)
            clear hown hown2 hB hbl
            go_wp2
            go_roundw
            case rel => exact HO.out
            case measure => simp [intOf]; omega
    · obtain rfl : k = S.length := by omega
      rw [List.drop_of_length_le (Nat.le_refl _)] at hd
      have hdone : done = prS true L S := by simpa [prS] using hd
      have hcv := conv_own (s := ⟨done.toArray⟩) (n := done.length) (by show done.toArray.size = _; simp) hown
      obtain ⟨oo, oc, rfl, _⟩ := own_slice hown
      have HD := Lib.hid (And.intro hdone (HR.out.2.2.2.trans (hB.mono HR.out.2.2.2.size)))
      clear hdone hd hown hB hst hdl
      go_wp2
      go_ret2
      exact ⟨by unfold prB; simp only; rw [← HD.out.1]; rfl, HD.out.2⟩
end Go.Proofs.Ytdcmkiggnmajgaa
