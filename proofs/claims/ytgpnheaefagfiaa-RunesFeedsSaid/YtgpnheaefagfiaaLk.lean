/- What the document's lacks and Wants answer. -/
import Derived.Test.YtgpnheaefagfiaaSn
import Derived.Test.YtgpnheaefagfiaaForm
import Derived.Lib.ConvBytes
import Derived.ArgAppend
namespace Go.Proofs.Ytgpnheaefagfiaa
set_option linter.unusedVariables false
set_option linter.unusedSimpArgs false
open Go Go.RowKit
set_option maxRecDepth 100000

/-- A slice of bytes that may be written behind its length. -/
def LkR (W : World) (base : Nat) (v : Value) (n : Nat) (l : List UInt8) : Prop :=
  ∃ g cap, v = .slice (some ⟨g, 0, none⟩) n cap ∧ base ≤ g ∧ g < W.heap.size ∧ l.length = n ∧ (∀ j (hj : j < l.length), W.cell? ⟨g, j, none⟩ = some (.int .u8 (l[j].toNat : Int))) ∧
    (∀ j, n ≤ j → j < cap → (W.cell? ⟨g, j, none⟩).isSome = true ∧ W.frozen? ⟨g, j, none⟩ = false)

theorem lkR_conv (W : World) (b : ByteArray) : LkR (Lib.bytesWorld W 5 b) W.heap.size (.slice (some ⟨W.heap.size, 0, none⟩) b.size (grownCap W b.size 0 5)) b.size b.data.toList := by
  have hge := grownCap_ge W b.size 0 5
  refine ⟨W.heap.size, _, rfl, Nat.le_refl _, by rw [Lib.bytesWorld_size]; omega, by rw [Array.length_toList]; rfl, fun j hj => ?_, fun j h1 h2 => ?_⟩
  · rw [Lib.bytesWorld_cell W 5 b j (by rw [Array.length_toList] at hj; exact hj), List.getD_eq_getElem?_getD, List.getElem?_eq_getElem hj]
    rfl
  · have hsz : (Lib.bytesCells W 5 b).size = grownCap W b.size 0 5 := by
      unfold Lib.bytesCells
      rw [Array.size_append, Array.size_map, Array.size_replicate]
      show b.size + _ = _
      omega
    refine ⟨?_, ?_⟩
    · simp only [World.cell?, Lib.bytesWorld_at_new]
      rw [Array.getElem?_eq_getElem (by rw [hsz]; exact h2)]
      rfl
    · simp only [World.frozen?, Lib.bytesWorld_at_new, hsz]
      simp only [Bool.and_eq_false_iff, decide_eq_false_iff_not]
      left; omega

theorem lkR_below {W W' : World} {base n : Nat} {v : Value} {l : List UInt8} (h : LkR W base v n l) (hb : Below W.heap.size W W') : LkR W' base v n l := by
  obtain ⟨g, cap, rfl, h1, h2, h3, h4, h5⟩ := h
  refine ⟨g, cap, rfl, h1, Nat.lt_of_lt_of_le h2 hb.size, h3, fun j hj => ?_, fun j ha hb' => ?_⟩
  · rw [hb.cell (p := ⟨g, j, none⟩) h2]; exact h4 j hj
  · rw [hb.cell (p := ⟨g, j, none⟩) h2, hb.frozen (p := ⟨g, j, none⟩) h2]; exact h5 j ha hb'

theorem lkR_str {W : World} {base n : Nat} {v : Value} {l : List UInt8} (h : LkR W base v n l) : (convert 92 9 v).run Try.prog W = .ok (.string ⟨l.toArray⟩) W := by
  obtain ⟨g, cap, rfl, h1, h2, rfl, h4, h5⟩ := h
  exact run_convert_bytes_back (P := Try.prog) W 92 9 5 ⟨g, 0, none⟩ cap l Try.underlying92 Try.underlying5 Try.underlying9
    (fun j hj => by have := h4 j hj; simpa [Addr.add_lit] using this)

theorem lkR_append {W : World} {ops : Array Oper} {rest : List Oper} {o : Oper} {a : Act} {Q : Exit → Act → World → Prop} (i0 : TypeInfo)
    (hi : Try.prog.info? 5 = some i0) (hz0 : i0.zero = some (.int .u8 0)) (hz1 : i0.size = 1) (hz2 : i0.bytes = 1)
    (hg : o.guard = none) (s x : Operand) (hop : o.op = Op.call { callee := Callee.builtin Builtin.append, args := #[s, x], argTypes := #[92, 92] })
    {base n : Nat} {v : Value} {l : List UInt8} (hs : a.eval s = v) (h : LkR W base v n l) (hn : n ≤ 1048576) (u : UInt8) (q m c : Nat) (hx : a.eval x = .slice (some ⟨q, 0, none⟩) 1 c) (hq : W.cell? ⟨q, 0, none⟩ = some (.int .u8 (u.toNat : Int)))
    (hK : ∀ v' W', LkR W' base v' (n + 1) (l ++ [u]) → Below base W W' → wpList Try.prog ops Q rest (a.put o.dst v') W') : wpList Try.prog ops Q (o :: rest) a W := by
  obtain ⟨g, cap, rfl, h1, h2, h3, h4, h5⟩ := h
  have hc1 : ∀ j w, ([Value.int .u8 (u.toNat : Int)] : List Value)[j]? = some w → W.cell? ((⟨q, 0, none⟩ : Addr).add j) = some w := by
    intro j w hj
    match j, hj with
    | 0, hj => simp at hj; subst hj; simpa [Addr.add_lit] using hq
    | j + 1, hj => simp at hj
  refine wpList_append_arg W hg s x 92 hop 5 i0 (.int .u8 0) 1 1 Try.underlying92 hi hz0 hz1 hz2 rfl (by decide) g 0 n cap (l.map fun b => Value.int .u8 (b.toNat : Int)) hs (by rw [List.length_map]; omega)
    (fun j w hj => ?_) ⟨q, 0, none⟩ 1 c [.int .u8 (u.toNat : Int)] hx rfl hc1 (fun w hw => by simp at hw; subst hw; rfl) (fun hr j hj => ?_) (by unfold maxLen; omega) (by omega) (fun hr => ?_) (fun hr v' W' hown hgr => ?_)
  · rw [List.getElem?_map, Option.map_eq_some_iff] at hj
    obtain ⟨b, hb, rfl⟩ := hj
    obtain ⟨hj', rfl⟩ := List.getElem?_eq_some_iff.1 hb
    have := h4 j hj'
    simpa using this
  · have hj0 : j = 0 := by simp at hj; exact hj
    subst hj0
    have := h5 n (Nat.le_refl _) (by omega)
    simpa using this
  · refine hK _ _ ⟨g, cap, rfl, h1, ?_, by rw [List.length_append, h3]; rfl, fun j hj => ?_, fun j ha hb => ?_⟩ ?_
    · show g < (W.setCell ⟨g, 0 + n * 1, none⟩ _).heap.size
      simpa using h2
    · rw [List.length_append, List.length_singleton] at hj
      by_cases hjn : j < l.length
      · rw [World.cell?_setCells_out g _ _ _ _ (fun _ _ => .inl (by simp; omega)), List.getElem_append_left hjn]
        exact h4 j hjn
      · have hjl : j = l.length := by omega
        subst hjl
        have := World.cell?_setCells_in g [Value.int .u8 (u.toNat : Int)] (0 + n * 1) W (fun j hj => by
          have hj0 : j = 0 := by simp at hj; exact hj
          subst hj0
          have := h5 n (Nat.le_refl _) (by omega)
          simpa using this.1) 0 (by simp)
        simp only [Nat.zero_add, Nat.mul_one, Nat.add_zero] at this ⊢
        rw [show (⟨g, l.length, none⟩ : Addr) = ⟨g, n, none⟩ by rw [h3], this]
        simp
    · rw [World.cell?_setCells_out g _ _ _ _ (fun _ _ => .inr (by simp; omega)), World.frozen?_setCells]
      exact h5 j (by omega) hb
    · show Below base W (W.setCell ⟨g, 0 + n * 1, none⟩ _)
      exact (Below.refl _ _).setCell (p := ⟨g, 0 + n * 1, none⟩) h1 _
  · have hB : Below W.heap.size W W' := (Below.refl _ W).grown hgr (Nat.le_refl _) (fun k e => by cases e)
    refine hK _ _ ?_ (hB.mono (by omega))
    rcases hown.2 with ⟨_, h0⟩ | ⟨g2, cap2, cur, rfl, k1, k2, k3, k4, k5, k6⟩
    · omega
    · have hlt := (Array.getElem?_eq_some_iff.1 k2).1
      refine ⟨g2, cap2, rfl, by omega, hlt, by rw [List.length_append, h3]; rfl, fun j hj => ?_, fun j ha hb => ?_⟩
      · have := hown.cells (g := g2) rfl j (.int .u8 ((l ++ [u])[j].toNat : Int)) (by
          rw [← List.map_singleton (f := fun b : UInt8 => Value.int .u8 (b.toNat : Int)), ← List.map_append, List.getElem?_map, List.getElem?_eq_getElem hj]; rfl)
        simpa [Addr.add_lit] using this
      · refine ⟨?_, by simp [World.frozen?, k2]⟩
        simp only [World.cell?, k2]
        rw [Array.getElem?_eq_getElem (by omega)]
        rfl

/-- b, filled up with c. -/
def fillB (b : ByteArray) (c : UInt8) (k : Nat) : ByteArray := ⟨(b.data.toList ++ List.replicate k c).toArray⟩
theorem fillB_size (b : ByteArray) (c : UInt8) (k : Nat) : (fillB b c k).size = b.size + k := by
  simp only [fillB, ByteArray.size, List.size_toArray, List.length_append, List.length_replicate, Array.length_toList]
theorem fillB_old (b : ByteArray) (c : UInt8) (k j : Nat) (h : j < b.size) : bt (fillB b c k) j = bt b j := by
  unfold bt
  congr 1
  show (b.data.toList ++ List.replicate k c).toArray[j]! = b.data[j]!
  simp only [getElem!_def, List.getElem?_toArray]
  rw [List.getElem?_append_left (by rw [Array.length_toList]; exact h), Array.getElem?_toList]
theorem fillB_new (b : ByteArray) (c : UInt8) (k j : Nat) (h1 : b.size ≤ j) (h : j < b.size + k) : bt (fillB b c k) j = c.toNat := by
  unfold bt
  congr 1
  show (b.data.toList ++ List.replicate k c).toArray[j]! = c
  have hl : b.data.toList.length = b.size := by rw [Array.length_toList]; rfl
  simp only [getElem!_def, List.getElem?_toArray]
  rw [List.getElem?_append_right (by omega), List.getElem?_replicate, if_pos (by omega)]

theorem lkR_mono {W : World} {base base' n : Nat} {v : Value} {l : List UInt8} (h : LkR W base v n l) (hb : base' ≤ base) : LkR W base' v n l := by
  obtain ⟨g, cap, hv, h1, h2⟩ := h
  exact ⟨g, cap, hv, by omega, h2⟩
theorem bytes_below (W : World) (e : TypeId) (b : ByteArray) : Below W.heap.size W (Lib.bytesWorld W e b) :=
  ⟨rfl, rfl, rfl, by rw [Lib.bytesWorld_size]; omega, fun k hk => Lib.bytesWorld_at_old W e b k hk⟩

/-- What has been seen by round i. -/
def LkQ (b : ByteArray) (m : Nat) (i : Int) : Prop := (i = 0) ∨ (i = 1 ∧ lenN (fillB b 128 (m - b.size)) 0 ≠ m) ∨ (i = 2 ∧ lenN (fillB b 128 (m - b.size)) 0 ≠ m ∧ lenN (fillB b 191 (m - b.size)) 0 ≠ m)
def LkRel (b : ByteArray) (m : Nat) (w : World) (q : Nat) (v : Value) (wr : World) : Prop :=
  ∃ i : Int, v = .int .i64 i ∧ LkQ b m i ∧ Blk wr q #[.int .u8 128, .int .u8 191] 5 ∧ Below w.heap.size w wr
def InRel (b : ByteArray) (m : Nat) (c : UInt8) (w : World) (q base : Nat) (v : Value) (wr : World) : Prop :=
  ∃ n k, n = b.size + k ∧ n ≤ m ∧ LkR wr base v n (b.data.toList ++ List.replicate k c) ∧ Blk wr q #[.int .u8 128, .int .u8 191] 5 ∧ Below w.heap.size w wr
def lenOf : Value → Nat
  | .slice _ n _ => n
  | _ => 0

set_option maxHeartbeats 4000000 in
theorem lacks_4 (b : ByteArray) (h1 : 1 ≤ b.size) (h3 : b.size ≤ 3) (a1 : 240 ≤ bt b 0) (HM : Hid (n0 (bt b 0) = 4)) (L : Nat) (HL : Hid (lackN b = L)) (hmb : b.size < 4) (w : World) :
    Calls Try.prog 84 #[.string b] w fun e w' => e = .returned (.int .i64 (L : Nat)) ∧ Below w.heap.size w w' := by
  obtain ⟨i0, hi, hz0, hz1, hz2⟩ := info_parts infoB
  have hbl := bt_lt b 0
  have hg := bt_get b 0 (by omega)
  have hlt : (b.size : Int) < 4 := by omega
  have hcv : ∀ W, (convert 9 92 (.string b)).run Try.prog W = .ok (.slice (some ⟨W.heap.size, 0, none⟩) b.size (grownCap W b.size 0 5)) (Lib.bytesWorld W 5 b) := fun W => Lib.run_convert_string_bytes W _ _ _ b Try.underlying9 Try.underlying92 Try.underlying5
  have HI := hi
  have D0 : decide ((4 : Int) ≤ (b.size : Int)) = false := decide_eq_false (by omega)
  have D240 : decide ((240 : Int) ≤ (bt b 0 : Int)) = true := decide_eq_true (by omega)
  go_enter Try.func84, Try.ntmps84
  go_wp2
  go_loopw [27] (fun v wr => LkRel b 4 w w.heap.size v wr) (fun v _ => (2 - intOf v).toNat)
  case atStart => exact ⟨0, rfl, .inl rfl, Blk.new w _ _, (Below.refl _ _).alloc (Nat.le_refl _) _⟩
  case round =>
    obtain ⟨i, rfl, hQ, hblk, hB⟩ := hrel
    have hql := hblk.lt
    rcases hQ with rfl | ⟨rfl, hx0⟩ | ⟨rfl, hx0, hx1⟩
    · have e0 : wr.cell? ⟨w.heap.size, 0, none⟩ = some (.int .u8 128) := hblk.cell 0
      have HBK := Lib.hid hblk
      clear hblk
      go_wp2
      go_loopw [6] (fun v wr2 => InRel b 4 128 w w.heap.size (w.heap.size + 1) v wr2) (fun v _ => 4 - lenOf v)
      case atStart => exact ⟨b.size, 0, rfl, by omega, lkR_mono (by rw [List.replicate_zero, List.append_nil]; exact lkR_conv wr b) (by have := HBK.out.lt; omega), HBK.out.below' (bytes_below _ _ _), hB.trans ((bytes_below _ _ _).mono hB.size)⟩
      case round =>
        clear hB e0 HBK
        obtain ⟨n, k, hnk, hk, hlk, hblk, hB⟩ := hrel
        have hlk2 := hlk
        obtain ⟨g, cap, rfl, _⟩ := hlk
        by_cases hin : n < 4
        · have hin2 : (n : Int) < 4 := by omega
          have HNK := Lib.hid hnk
          clear hnk
          go_wp2_with (at_builtin; refine lkR_append i0 hi hz0 hz1 hz2 rfl _ _ rfl rfl (lkR_below hlk2 ((Below.refl _ _).alloc (Nat.le_refl _) _)) (by omega) 128 _ 1 1 rfl (by simp [go_sem]) ?_; intro v' W' hl' hb')
          go_roundw
          case rel =>
            refine ⟨n + 1, k + 1, by have := HNK.out; omega, by omega, ?_, (hblk.alloc _).below hb' (by omega), (hB.alloc hB.size _).trans (hb'.mono (by omega))⟩
            rw [List.replicate_succ', ← List.append_assoc]
            exact hl'
          case measure => obtain ⟨g', cap', rfl, _⟩ := hl'; simp [lenOf]; omega
        · obtain rfl : n = 4 := by omega
          obtain rfl : k = 4 - b.size := by omega
          clear hnk hk hin
          have hstr : (convert 92 9 (.slice (some ⟨g, 0, none⟩) 4 cap)).run Try.prog wr = .ok (.string (fillB b 128 (4 - b.size))) wr := lkR_str hlk2
          have cF := form_any (fillB b 128 (4 - b.size)) 0 (by rw [fillB_size]; omega) (by rw [fillB_size]; omega)
          clear hlk2
          obtain ⟨N, hN⟩ : ∃ N, lenN (fillB b 128 (4 - b.size)) 0 = N := ⟨_, rfl⟩
          have HN := Lib.hid hN
          rw [hN] at cF
          clear hN
          by_cases hy : N = 4
          · subst hy
            go_wp2_with (first | (go_at_call 68; refine (cF _).mono ?_; rintro _ w1 ⟨rfl, hb1⟩))
            go_ret
            refine ⟨?_, hB.trans (hb1.mono hB.size)⟩
            have hL := fill_yes b _ 128 4 h1 (by omega) (by rw [fillB_size]; omega) (by omega) (fun j hj => fillB_old b 128 _ j hj) HN.out
            rw [HL.out] at hL
            have eL : ((4 - b.size : Nat) : Int) = 4 - (b.size : Int) := by omega
            rw [hL, eL]
            rfl
          · have hy2 : ((N : Int) == 4) = false := by simp; omega
            have hy3 : ¬ (N : Int) = 4 := by omega
            go_wp2_with (first | (go_at_call 68; refine (cF _).mono ?_; rintro _ w1 ⟨rfl, hb1⟩))
            go_roundw
            case rel => exact ⟨1, rfl, .inr (.inl ⟨rfl, by rw [HN.out]; exact hy⟩), hblk.below' hb1, hB.trans (hb1.mono hB.size)⟩
            case measure => simp [intOf]
    · have e0 : wr.cell? ⟨w.heap.size, 1, none⟩ = some (.int .u8 191) := hblk.cell 1
      have HX0 := Lib.hid hx0
      clear hx0
      have HBK := Lib.hid hblk
      clear hblk
      go_wp2
      go_loopw [6] (fun v wr2 => InRel b 4 191 w w.heap.size (w.heap.size + 1) v wr2) (fun v _ => 4 - lenOf v)
      case atStart => exact ⟨b.size, 0, rfl, by omega, lkR_mono (by rw [List.replicate_zero, List.append_nil]; exact lkR_conv wr b) (by have := HBK.out.lt; omega), HBK.out.below' (bytes_below _ _ _), hB.trans ((bytes_below _ _ _).mono hB.size)⟩
      case round =>
        clear hB e0 HBK
        obtain ⟨n, k, hnk, hk, hlk, hblk, hB⟩ := hrel
        have hlk2 := hlk
        obtain ⟨g, cap, rfl, _⟩ := hlk
        by_cases hin : n < 4
        · have hin2 : (n : Int) < 4 := by omega
          have HNK := Lib.hid hnk
          clear hnk
          go_wp2_with (at_builtin; refine lkR_append i0 hi hz0 hz1 hz2 rfl _ _ rfl rfl (lkR_below hlk2 ((Below.refl _ _).alloc (Nat.le_refl _) _)) (by omega) 191 _ 1 1 rfl (by simp [go_sem]) ?_; intro v' W' hl' hb')
          go_roundw
          case rel =>
            refine ⟨n + 1, k + 1, by have := HNK.out; omega, by omega, ?_, (hblk.alloc _).below hb' (by omega), (hB.alloc hB.size _).trans (hb'.mono (by omega))⟩
            rw [List.replicate_succ', ← List.append_assoc]
            exact hl'
          case measure => obtain ⟨g', cap', rfl, _⟩ := hl'; simp [lenOf]; omega
        · obtain rfl : n = 4 := by omega
          obtain rfl : k = 4 - b.size := by omega
          clear hnk hk hin
          have hstr : (convert 92 9 (.slice (some ⟨g, 0, none⟩) 4 cap)).run Try.prog wr = .ok (.string (fillB b 191 (4 - b.size))) wr := lkR_str hlk2
          have cF := form_any (fillB b 191 (4 - b.size)) 0 (by rw [fillB_size]; omega) (by rw [fillB_size]; omega)
          clear hlk2
          obtain ⟨N, hN⟩ : ∃ N, lenN (fillB b 191 (4 - b.size)) 0 = N := ⟨_, rfl⟩
          have HN := Lib.hid hN
          rw [hN] at cF
          clear hN
          by_cases hy : N = 4
          · subst hy
            go_wp2_with (first | (go_at_call 68; refine (cF _).mono ?_; rintro _ w1 ⟨rfl, hb1⟩))
            go_ret
            refine ⟨?_, hB.trans (hb1.mono hB.size)⟩
            have hL := fill_yes b _ 191 4 h1 (by omega) (by rw [fillB_size]; omega) (by omega) (fun j hj => fillB_old b 191 _ j hj) HN.out
            rw [HL.out] at hL
            have eL : ((4 - b.size : Nat) : Int) = 4 - (b.size : Int) := by omega
            rw [hL, eL]
            rfl
          · have hy2 : ((N : Int) == 4) = false := by simp; omega
            have hy3 : ¬ (N : Int) = 4 := by omega
            go_wp2_with (first | (go_at_call 68; refine (cF _).mono ?_; rintro _ w1 ⟨rfl, hb1⟩))
            go_roundw
            case rel => exact ⟨2, rfl, .inr (.inr ⟨rfl, HX0.out, by rw [HN.out]; exact hy⟩), hblk.below' hb1, hB.trans (hb1.mono hB.size)⟩
            case measure => simp [intOf]
    · have hL := fill_no b _ _ 4 h1 (by omega) HM.out.symm (by rw [fillB_size]; omega) (by rw [fillB_size]; omega) (fun j hj => fillB_old b 128 _ j hj) (fun j hj => fillB_old b 191 _ j hj) (fun j h1 h2 => fillB_new b 128 _ j h1 (by omega)) (fun j h1 h2 => fillB_new b 191 _ j h1 (by omega)) hx0 hx1
      rw [HL.out] at hL
      subst hL
      clear hx0 hx1 hblk
      go_wp2
      go_ret
      exact ⟨rfl, hB⟩
set_option maxHeartbeats 4000000 in
theorem lacks_3 (b : ByteArray) (h1 : 1 ≤ b.size) (h3 : b.size ≤ 3) (a1 : 224 ≤ bt b 0) (a2 : bt b 0 < 240) (HM : Hid (n0 (bt b 0) = 3)) (L : Nat) (HL : Hid (lackN b = L)) (hmb : b.size < 3) (w : World) :
    Calls Try.prog 84 #[.string b] w fun e w' => e = .returned (.int .i64 (L : Nat)) ∧ Below w.heap.size w w' := by
  obtain ⟨i0, hi, hz0, hz1, hz2⟩ := info_parts infoB
  have hbl := bt_lt b 0
  have hg := bt_get b 0 (by omega)
  have hlt : (b.size : Int) < 3 := by omega
  have hcv : ∀ W, (convert 9 92 (.string b)).run Try.prog W = .ok (.slice (some ⟨W.heap.size, 0, none⟩) b.size (grownCap W b.size 0 5)) (Lib.bytesWorld W 5 b) := fun W => Lib.run_convert_string_bytes W _ _ _ b Try.underlying9 Try.underlying92 Try.underlying5
  have HI := hi
  have D0 : decide ((3 : Int) ≤ (b.size : Int)) = false := decide_eq_false (by omega)
  have D240 : decide ((240 : Int) ≤ (bt b 0 : Int)) = false := decide_eq_false (by omega)
  have D224 : decide ((224 : Int) ≤ (bt b 0 : Int)) = true := decide_eq_true (by omega)
  go_enter Try.func84, Try.ntmps84
  go_wp2
  go_loopw [27] (fun v wr => LkRel b 3 w w.heap.size v wr) (fun v _ => (2 - intOf v).toNat)
  case atStart => exact ⟨0, rfl, .inl rfl, Blk.new w _ _, (Below.refl _ _).alloc (Nat.le_refl _) _⟩
  case round =>
    obtain ⟨i, rfl, hQ, hblk, hB⟩ := hrel
    have hql := hblk.lt
    rcases hQ with rfl | ⟨rfl, hx0⟩ | ⟨rfl, hx0, hx1⟩
    · have e0 : wr.cell? ⟨w.heap.size, 0, none⟩ = some (.int .u8 128) := hblk.cell 0
      have HBK := Lib.hid hblk
      clear hblk
      go_wp2
      go_loopw [6] (fun v wr2 => InRel b 3 128 w w.heap.size (w.heap.size + 1) v wr2) (fun v _ => 3 - lenOf v)
      case atStart => exact ⟨b.size, 0, rfl, by omega, lkR_mono (by rw [List.replicate_zero, List.append_nil]; exact lkR_conv wr b) (by have := HBK.out.lt; omega), HBK.out.below' (bytes_below _ _ _), hB.trans ((bytes_below _ _ _).mono hB.size)⟩
      case round =>
        clear hB e0 HBK
        obtain ⟨n, k, hnk, hk, hlk, hblk, hB⟩ := hrel
        have hlk2 := hlk
        obtain ⟨g, cap, rfl, _⟩ := hlk
        by_cases hin : n < 3
        · have hin2 : (n : Int) < 3 := by omega
          have HNK := Lib.hid hnk
          clear hnk
          go_wp2_with (at_builtin; refine lkR_append i0 hi hz0 hz1 hz2 rfl _ _ rfl rfl (lkR_below hlk2 ((Below.refl _ _).alloc (Nat.le_refl _) _)) (by omega) 128 _ 1 1 rfl (by simp [go_sem]) ?_; intro v' W' hl' hb')
          go_roundw
          case rel =>
            refine ⟨n + 1, k + 1, by have := HNK.out; omega, by omega, ?_, (hblk.alloc _).below hb' (by omega), (hB.alloc hB.size _).trans (hb'.mono (by omega))⟩
            rw [List.replicate_succ', ← List.append_assoc]
            exact hl'
          case measure => obtain ⟨g', cap', rfl, _⟩ := hl'; simp [lenOf]; omega
        · obtain rfl : n = 3 := by omega
          obtain rfl : k = 3 - b.size := by omega
          clear hnk hk hin
          have hstr : (convert 92 9 (.slice (some ⟨g, 0, none⟩) 3 cap)).run Try.prog wr = .ok (.string (fillB b 128 (3 - b.size))) wr := lkR_str hlk2
          have cF := form_any (fillB b 128 (3 - b.size)) 0 (by rw [fillB_size]; omega) (by rw [fillB_size]; omega)
          clear hlk2
          obtain ⟨N, hN⟩ : ∃ N, lenN (fillB b 128 (3 - b.size)) 0 = N := ⟨_, rfl⟩
          have HN := Lib.hid hN
          rw [hN] at cF
          clear hN
          by_cases hy : N = 3
          · subst hy
            go_wp2_with (first | (go_at_call 68; refine (cF _).mono ?_; rintro _ w1 ⟨rfl, hb1⟩))
            go_ret
            refine ⟨?_, hB.trans (hb1.mono hB.size)⟩
            have hL := fill_yes b _ 128 3 h1 (by omega) (by rw [fillB_size]; omega) (by omega) (fun j hj => fillB_old b 128 _ j hj) HN.out
            rw [HL.out] at hL
            have eL : ((3 - b.size : Nat) : Int) = 3 - (b.size : Int) := by omega
            rw [hL, eL]
            rfl
          · have hy2 : ((N : Int) == 3) = false := by simp; omega
            have hy3 : ¬ (N : Int) = 3 := by omega
            go_wp2_with (first | (go_at_call 68; refine (cF _).mono ?_; rintro _ w1 ⟨rfl, hb1⟩))
            go_roundw
            case rel => exact ⟨1, rfl, .inr (.inl ⟨rfl, by rw [HN.out]; exact hy⟩), hblk.below' hb1, hB.trans (hb1.mono hB.size)⟩
            case measure => simp [intOf]
    · have e0 : wr.cell? ⟨w.heap.size, 1, none⟩ = some (.int .u8 191) := hblk.cell 1
      have HX0 := Lib.hid hx0
      clear hx0
      have HBK := Lib.hid hblk
      clear hblk
      go_wp2
      go_loopw [6] (fun v wr2 => InRel b 3 191 w w.heap.size (w.heap.size + 1) v wr2) (fun v _ => 3 - lenOf v)
      case atStart => exact ⟨b.size, 0, rfl, by omega, lkR_mono (by rw [List.replicate_zero, List.append_nil]; exact lkR_conv wr b) (by have := HBK.out.lt; omega), HBK.out.below' (bytes_below _ _ _), hB.trans ((bytes_below _ _ _).mono hB.size)⟩
      case round =>
        clear hB e0 HBK
        obtain ⟨n, k, hnk, hk, hlk, hblk, hB⟩ := hrel
        have hlk2 := hlk
        obtain ⟨g, cap, rfl, _⟩ := hlk
        by_cases hin : n < 3
        · have hin2 : (n : Int) < 3 := by omega
          have HNK := Lib.hid hnk
          clear hnk
          go_wp2_with (at_builtin; refine lkR_append i0 hi hz0 hz1 hz2 rfl _ _ rfl rfl (lkR_below hlk2 ((Below.refl _ _).alloc (Nat.le_refl _) _)) (by omega) 191 _ 1 1 rfl (by simp [go_sem]) ?_; intro v' W' hl' hb')
          go_roundw
          case rel =>
            refine ⟨n + 1, k + 1, by have := HNK.out; omega, by omega, ?_, (hblk.alloc _).below hb' (by omega), (hB.alloc hB.size _).trans (hb'.mono (by omega))⟩
            rw [List.replicate_succ', ← List.append_assoc]
            exact hl'
          case measure => obtain ⟨g', cap', rfl, _⟩ := hl'; simp [lenOf]; omega
        · obtain rfl : n = 3 := by omega
          obtain rfl : k = 3 - b.size := by omega
          clear hnk hk hin
          have hstr : (convert 92 9 (.slice (some ⟨g, 0, none⟩) 3 cap)).run Try.prog wr = .ok (.string (fillB b 191 (3 - b.size))) wr := lkR_str hlk2
          have cF := form_any (fillB b 191 (3 - b.size)) 0 (by rw [fillB_size]; omega) (by rw [fillB_size]; omega)
          clear hlk2
          obtain ⟨N, hN⟩ : ∃ N, lenN (fillB b 191 (3 - b.size)) 0 = N := ⟨_, rfl⟩
          have HN := Lib.hid hN
          rw [hN] at cF
          clear hN
          by_cases hy : N = 3
          · subst hy
            go_wp2_with (first | (go_at_call 68; refine (cF _).mono ?_; rintro _ w1 ⟨rfl, hb1⟩))
            go_ret
            refine ⟨?_, hB.trans (hb1.mono hB.size)⟩
            have hL := fill_yes b _ 191 3 h1 (by omega) (by rw [fillB_size]; omega) (by omega) (fun j hj => fillB_old b 191 _ j hj) HN.out
            rw [HL.out] at hL
            have eL : ((3 - b.size : Nat) : Int) = 3 - (b.size : Int) := by omega
            rw [hL, eL]
            rfl
          · have hy2 : ((N : Int) == 3) = false := by simp; omega
            have hy3 : ¬ (N : Int) = 3 := by omega
            go_wp2_with (first | (go_at_call 68; refine (cF _).mono ?_; rintro _ w1 ⟨rfl, hb1⟩))
            go_roundw
            case rel => exact ⟨2, rfl, .inr (.inr ⟨rfl, HX0.out, by rw [HN.out]; exact hy⟩), hblk.below' hb1, hB.trans (hb1.mono hB.size)⟩
            case measure => simp [intOf]
    · have hL := fill_no b _ _ 3 h1 (by omega) HM.out.symm (by rw [fillB_size]; omega) (by rw [fillB_size]; omega) (fun j hj => fillB_old b 128 _ j hj) (fun j hj => fillB_old b 191 _ j hj) (fun j h1 h2 => fillB_new b 128 _ j h1 (by omega)) (fun j h1 h2 => fillB_new b 191 _ j h1 (by omega)) hx0 hx1
      rw [HL.out] at hL
      subst hL
      clear hx0 hx1 hblk
      go_wp2
      go_ret
      exact ⟨rfl, hB⟩
set_option maxHeartbeats 4000000 in
theorem lacks_2 (b : ByteArray) (h1 : 1 ≤ b.size) (h3 : b.size ≤ 3) (a1 : 192 ≤ bt b 0) (a2 : bt b 0 < 224) (HM : Hid (n0 (bt b 0) = 2)) (L : Nat) (HL : Hid (lackN b = L)) (hmb : b.size < 2) (w : World) :
    Calls Try.prog 84 #[.string b] w fun e w' => e = .returned (.int .i64 (L : Nat)) ∧ Below w.heap.size w w' := by
  obtain ⟨i0, hi, hz0, hz1, hz2⟩ := info_parts infoB
  have hbl := bt_lt b 0
  have hg := bt_get b 0 (by omega)
  have hlt : (b.size : Int) < 2 := by omega
  have hcv : ∀ W, (convert 9 92 (.string b)).run Try.prog W = .ok (.slice (some ⟨W.heap.size, 0, none⟩) b.size (grownCap W b.size 0 5)) (Lib.bytesWorld W 5 b) := fun W => Lib.run_convert_string_bytes W _ _ _ b Try.underlying9 Try.underlying92 Try.underlying5
  have HI := hi
  have D0 : decide ((2 : Int) ≤ (b.size : Int)) = false := decide_eq_false (by omega)
  have D240 : decide ((240 : Int) ≤ (bt b 0 : Int)) = false := decide_eq_false (by omega)
  have D224 : decide ((224 : Int) ≤ (bt b 0 : Int)) = false := decide_eq_false (by omega)
  have D192 : decide ((192 : Int) ≤ (bt b 0 : Int)) = true := decide_eq_true (by omega)
  go_enter Try.func84, Try.ntmps84
  go_wp2
  go_loopw [27] (fun v wr => LkRel b 2 w w.heap.size v wr) (fun v _ => (2 - intOf v).toNat)
  case atStart => exact ⟨0, rfl, .inl rfl, Blk.new w _ _, (Below.refl _ _).alloc (Nat.le_refl _) _⟩
  case round =>
    obtain ⟨i, rfl, hQ, hblk, hB⟩ := hrel
    have hql := hblk.lt
    rcases hQ with rfl | ⟨rfl, hx0⟩ | ⟨rfl, hx0, hx1⟩
    · have e0 : wr.cell? ⟨w.heap.size, 0, none⟩ = some (.int .u8 128) := hblk.cell 0
      have HBK := Lib.hid hblk
      clear hblk
      go_wp2
      go_loopw [6] (fun v wr2 => InRel b 2 128 w w.heap.size (w.heap.size + 1) v wr2) (fun v _ => 2 - lenOf v)
      case atStart => exact ⟨b.size, 0, rfl, by omega, lkR_mono (by rw [List.replicate_zero, List.append_nil]; exact lkR_conv wr b) (by have := HBK.out.lt; omega), HBK.out.below' (bytes_below _ _ _), hB.trans ((bytes_below _ _ _).mono hB.size)⟩
      case round =>
        clear hB e0 HBK
        obtain ⟨n, k, hnk, hk, hlk, hblk, hB⟩ := hrel
        have hlk2 := hlk
        obtain ⟨g, cap, rfl, _⟩ := hlk
        by_cases hin : n < 2
        · have hin2 : (n : Int) < 2 := by omega
          have HNK := Lib.hid hnk
          clear hnk
          go_wp2_with (at_builtin; refine lkR_append i0 hi hz0 hz1 hz2 rfl _ _ rfl rfl (lkR_below hlk2 ((Below.refl _ _).alloc (Nat.le_refl _) _)) (by omega) 128 _ 1 1 rfl (by simp [go_sem]) ?_; intro v' W' hl' hb')
          go_roundw
          case rel =>
            refine ⟨n + 1, k + 1, by have := HNK.out; omega, by omega, ?_, (hblk.alloc _).below hb' (by omega), (hB.alloc hB.size _).trans (hb'.mono (by omega))⟩
            rw [List.replicate_succ', ← List.append_assoc]
            exact hl'
          case measure => obtain ⟨g', cap', rfl, _⟩ := hl'; simp [lenOf]; omega
        · obtain rfl : n = 2 := by omega
          obtain rfl : k = 2 - b.size := by omega
          clear hnk hk hin
          have hstr : (convert 92 9 (.slice (some ⟨g, 0, none⟩) 2 cap)).run Try.prog wr = .ok (.string (fillB b 128 (2 - b.size))) wr := lkR_str hlk2
          have cF := form_any (fillB b 128 (2 - b.size)) 0 (by rw [fillB_size]; omega) (by rw [fillB_size]; omega)
          clear hlk2
          obtain ⟨N, hN⟩ : ∃ N, lenN (fillB b 128 (2 - b.size)) 0 = N := ⟨_, rfl⟩
          have HN := Lib.hid hN
          rw [hN] at cF
          clear hN
          by_cases hy : N = 2
          · subst hy
            go_wp2_with (first | (go_at_call 68; refine (cF _).mono ?_; rintro _ w1 ⟨rfl, hb1⟩))
            go_ret
            refine ⟨?_, hB.trans (hb1.mono hB.size)⟩
            have hL := fill_yes b _ 128 2 h1 (by omega) (by rw [fillB_size]; omega) (by omega) (fun j hj => fillB_old b 128 _ j hj) HN.out
            rw [HL.out] at hL
            have eL : ((2 - b.size : Nat) : Int) = 2 - (b.size : Int) := by omega
            rw [hL, eL]
            rfl
          · have hy2 : ((N : Int) == 2) = false := by simp; omega
            have hy3 : ¬ (N : Int) = 2 := by omega
            go_wp2_with (first | (go_at_call 68; refine (cF _).mono ?_; rintro _ w1 ⟨rfl, hb1⟩))
            go_roundw
            case rel => exact ⟨1, rfl, .inr (.inl ⟨rfl, by rw [HN.out]; exact hy⟩), hblk.below' hb1, hB.trans (hb1.mono hB.size)⟩
            case measure => simp [intOf]
    · have e0 : wr.cell? ⟨w.heap.size, 1, none⟩ = some (.int .u8 191) := hblk.cell 1
      have HX0 := Lib.hid hx0
      clear hx0
      have HBK := Lib.hid hblk
      clear hblk
      go_wp2
      go_loopw [6] (fun v wr2 => InRel b 2 191 w w.heap.size (w.heap.size + 1) v wr2) (fun v _ => 2 - lenOf v)
      case atStart => exact ⟨b.size, 0, rfl, by omega, lkR_mono (by rw [List.replicate_zero, List.append_nil]; exact lkR_conv wr b) (by have := HBK.out.lt; omega), HBK.out.below' (bytes_below _ _ _), hB.trans ((bytes_below _ _ _).mono hB.size)⟩
      case round =>
        clear hB e0 HBK
        obtain ⟨n, k, hnk, hk, hlk, hblk, hB⟩ := hrel
        have hlk2 := hlk
        obtain ⟨g, cap, rfl, _⟩ := hlk
        by_cases hin : n < 2
        · have hin2 : (n : Int) < 2 := by omega
          have HNK := Lib.hid hnk
          clear hnk
          go_wp2_with (at_builtin; refine lkR_append i0 hi hz0 hz1 hz2 rfl _ _ rfl rfl (lkR_below hlk2 ((Below.refl _ _).alloc (Nat.le_refl _) _)) (by omega) 191 _ 1 1 rfl (by simp [go_sem]) ?_; intro v' W' hl' hb')
          go_roundw
          case rel =>
            refine ⟨n + 1, k + 1, by have := HNK.out; omega, by omega, ?_, (hblk.alloc _).below hb' (by omega), (hB.alloc hB.size _).trans (hb'.mono (by omega))⟩
            rw [List.replicate_succ', ← List.append_assoc]
            exact hl'
          case measure => obtain ⟨g', cap', rfl, _⟩ := hl'; simp [lenOf]; omega
        · obtain rfl : n = 2 := by omega
          obtain rfl : k = 2 - b.size := by omega
          clear hnk hk hin
          have hstr : (convert 92 9 (.slice (some ⟨g, 0, none⟩) 2 cap)).run Try.prog wr = .ok (.string (fillB b 191 (2 - b.size))) wr := lkR_str hlk2
          have cF := form_any (fillB b 191 (2 - b.size)) 0 (by rw [fillB_size]; omega) (by rw [fillB_size]; omega)
          clear hlk2
          obtain ⟨N, hN⟩ : ∃ N, lenN (fillB b 191 (2 - b.size)) 0 = N := ⟨_, rfl⟩
          have HN := Lib.hid hN
          rw [hN] at cF
          clear hN
          by_cases hy : N = 2
          · subst hy
            go_wp2_with (first | (go_at_call 68; refine (cF _).mono ?_; rintro _ w1 ⟨rfl, hb1⟩))
            go_ret
            refine ⟨?_, hB.trans (hb1.mono hB.size)⟩
            have hL := fill_yes b _ 191 2 h1 (by omega) (by rw [fillB_size]; omega) (by omega) (fun j hj => fillB_old b 191 _ j hj) HN.out
            rw [HL.out] at hL
            have eL : ((2 - b.size : Nat) : Int) = 2 - (b.size : Int) := by omega
            rw [hL, eL]
            rfl
          · have hy2 : ((N : Int) == 2) = false := by simp; omega
            have hy3 : ¬ (N : Int) = 2 := by omega
            go_wp2_with (first | (go_at_call 68; refine (cF _).mono ?_; rintro _ w1 ⟨rfl, hb1⟩))
            go_roundw
            case rel => exact ⟨2, rfl, .inr (.inr ⟨rfl, HX0.out, by rw [HN.out]; exact hy⟩), hblk.below' hb1, hB.trans (hb1.mono hB.size)⟩
            case measure => simp [intOf]
    · have hL := fill_no b _ _ 2 h1 (by omega) HM.out.symm (by rw [fillB_size]; omega) (by rw [fillB_size]; omega) (fun j hj => fillB_old b 128 _ j hj) (fun j hj => fillB_old b 191 _ j hj) (fun j h1 h2 => fillB_new b 128 _ j h1 (by omega)) (fun j h1 h2 => fillB_new b 191 _ j h1 (by omega)) hx0 hx1
      rw [HL.out] at hL
      subst hL
      clear hx0 hx1 hblk
      go_wp2
      go_ret
      exact ⟨rfl, hB⟩

set_option maxHeartbeats 4000000 in
theorem lacks_any (b : ByteArray) (h1 : 1 ≤ b.size) (h3 : b.size ≤ 3) (w : World) :
    Calls Try.prog 84 #[.string b] w fun e w' => e = .returned (.int .i64 (lackN b : Nat)) ∧ Below w.heap.size w w' := by
  have hbl := bt_lt b 0
  have hg := bt_get b 0 (by omega)
  have hn := n0_cases (bt b 0)
  obtain ⟨m, hm⟩ : ∃ m, n0 (bt b 0) = m := ⟨_, rfl⟩
  rw [hm] at hn
  by_cases hsh : m ≤ b.size
  · have hz := lack_short b h1 (by rw [hm]; exact hsh)
    rw [hz]
    have HM := Lib.hid hm
    clear hm hz
    rcases hn with ⟨a1, rfl⟩ | ⟨a1, a2, rfl⟩ | ⟨a1, a2, rfl⟩ | ⟨a1, rfl⟩
    · omega
    all_goals
      go_enter Try.func84, Try.ntmps84
      go_wp2
      go_ret
      exact ⟨rfl, Below.refl _ _⟩
  · rcases hn with ⟨a1, rfl⟩ | ⟨a1, a2, rfl⟩ | ⟨a1, a2, rfl⟩ | ⟨a1, rfl⟩
    · exact lacks_4 b h1 h3 a1 (Lib.hid hm) _ (Lib.hid rfl) (by omega) w
    · exact lacks_3 b h1 h3 a1 a2 (Lib.hid hm) _ (Lib.hid rfl) (by omega) w
    · exact lacks_2 b h1 h3 a1 a2 (Lib.hid hm) _ (Lib.hid rfl) (by omega) w
    · omega
end Go.Proofs.Ytgpnheaefagfiaa
