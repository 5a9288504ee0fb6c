/- What Of answers: the program's and the document's: the forms of a list of runes. -/
import Derived.Test.YtaogmmhkpknkmaaEncP
import Derived.Test.YtaogmmhkpknkmaaEnds
import Derived.Lib.AppendStr
import Derived.Laws.IdiomStrings
namespace Go.Proofs.Ytaogmmhkpknkmaa
set_option linter.unusedVariables false
set_option linter.unusedSimpArgs false
open Go Go.RowKit
set_option maxRecDepth 100000

/-- The forms of a list of runes. -/
def encA (zs : List Int) : ByteArray := strOfNums (zs.flatMap encL)
theorem strC_nums (xs : List Int) : Lib.strCells (strOfNums xs) = xs.map (fun n => Value.int .u8 ((UInt8.ofNat n.toNat).toNat : Int)) := by simp [Lib.strCells, strOfNums]
theorem encA_snoc (zs : List Int) (r : Int) : Lib.strCells (encA (zs ++ [r])) = Lib.strCells (encA zs) ++ Lib.strCells (Utf8.encode r) := by
  rw [enc_nums, encA, encA, strC_nums, strC_nums, strC_nums]; simp
theorem encL_len (r : Int) : (encL r).length ≤ 4 := by
  unfold encL; repeat' split
  all_goals simp
theorem encA_size (zs : List Int) : (encA zs).size ≤ 4 * zs.length := by
  rw [encA, strOfNums_size]
  induction zs with
  | nil => simp
  | cons x xs ih => have := encL_len x; simp only [List.flatMap_cons, List.length_append, List.length_cons]; omega
theorem enc_size (r : Int) : (Utf8.encode r).size ≤ 4 := by rw [enc_nums, strOfNums_size]; exact encL_len r
theorem encA_snoc_size (zs : List Int) (r : Int) : (encA (zs ++ [r])).size = (encA zs).size + (Utf8.encode r).size := by
  rw [enc_nums, encA, encA, strOfNums_size, strOfNums_size, strOfNums_size]; simp

/-- string(b) of a row of bytes of one's own. -/
theorem conv_own {w : World} {base n : Nat} {v : Value} {s : ByteArray} (hn : s.size = n) (h : w.ownsRow base 5 1 v n (Lib.strCells s)) : (convert 37 9 v).run Try.prog w = .ok (.string s) w := by
  have hs : s = ⟨s.data.toList.toArray⟩ := by simp
  rcases h.2 with ⟨rfl, rfl⟩ | ⟨g, cap, cur, rfl, _⟩
  · have : s = ByteArray.empty := by
      have : s.data = #[] := Array.eq_empty_of_size_eq_zero hn
      rw [hs, this]; rfl
    rw [this]
    exact run_convert_bytes_nil w 37 5 Try.underlying37 Try.underlying5 0 0 9 Try.underlying9
  · have hl : s.data.toList.length = n := by rw [Array.length_toList]; exact hn
    have := run_convert_bytes_back (P := Try.prog) w 37 9 5 ⟨g, 0, none⟩ cap s.data.toList Try.underlying37 Try.underlying5 Try.underlying9
      (fun j hj => h.cells (g := g) rfl j _ (by simp only [Lib.strCells, List.getElem?_map, List.getElem?_eq_getElem hj]; rfl))
    rw [hl] at this
    rw [this]

/-- The cells of a list of runes. -/
def RowI (w : World) (o : Option Addr) (zs : List Int) : Prop := ∀ i, i < zs.length → ∃ b off, o = some ⟨b, off, none⟩ ∧ w.cell? ⟨b, off + i, none⟩ = some (.int .i32 (zs.getD i 0))
theorem lt_cell {w : World} {b off : Nat} {v : Value} (h : w.cell? ⟨b, off, none⟩ = some v) : b < w.heap.size := by
  rcases Nat.lt_or_ge b w.heap.size with h' | h'
  · exact h'
  · simp [World.cell?, Array.getElem?_eq_none h'] at h
theorem rowI_kept {w w1 : World} {o : Option Addr} {zs : List Int} (h : RowI w o zs) (hb : Below w.heap.size w w1) : RowI w1 o zs := by
  intro i hi
  obtain ⟨b, off, rfl, hc⟩ := h i hi
  exact ⟨b, off, rfl, by rw [hb.cell (lt_cell hc)]; exact hc⟩

theorem infoB : (Try.prog.info? 5).map (fun i => (i.zero, i.size, i.bytes)) = some (some (.int .u8 0), 1, 1) := by kernel_rfl

/-- Between two rounds of Of. -/
def OfRel (zs : List Int) (w : World) (v i : Value) (wr : World) : Prop :=
  ∃ k : Nat, i = .int .i64 k ∧ k ≤ zs.length ∧ wr.ownsRow w.heap.size 5 1 v (encA (zs.take k)).size (Lib.strCells (encA (zs.take k))) ∧ Below w.heap.size w wr

set_option maxHeartbeats 1000000 in
theorem of_any (o : Option Addr) (n cap : Nat) (zs : List Int) (hn : zs.length = n) (hs : n ≤ 35184372087808) (w : World) (hrow : RowI w o zs) :
    Calls Try.prog 6 #[.slice o n cap] w fun e w' => e = .returned (.string (encA zs)) ∧ Below w.heap.size w w' := by
  obtain ⟨i0, hi, hz0, hz1, hz2⟩ := info_parts infoB
  have HN := Lib.hid hn; clear hn
  go_enter Try.func6, Try.ntmps6
  go_wp2
  go_loopw [3, 8] (fun v i wr => OfRel zs w v i wr) (fun _ i _ => n - (intOf i).toNat)
  case atStart => exact ⟨0, rfl, by omega, World.ownsRow_nil _ _ _ _, Below.refl _ _⟩
  case round =>
    obtain ⟨k, rfl, hk, hv, hB⟩ := hrel
    rw [HN.out] at hk
    by_cases hlt : k < n
    · obtain ⟨b, off, rfl, hc⟩ := rowI_kept hrow hB k (by rw [HN.out]; exact hlt)
      obtain ⟨r, hr⟩ : ∃ r, zs.getD k 0 = r := ⟨_, rfl⟩
      rw [hr] at hc
      have HR := Lib.hid hr; clear hr hrow
      have h4 := enc_size r
      have h5 := encA_size (zs.take k)
      have h6 : (zs.take k).length ≤ n := by rw [List.length_take]; omega
      go_wp2_with (first | (go_at_call 10; refine (encP_any _ _).mono ?_; rintro e w1 ⟨rfl, hb1⟩) | (at_builtin; refine Lib.wpList_append_own_string _ rfl _ _ 37 9 rfl w.heap.size 5 i0 Try.underlying37 Try.underlying9 hi hz0 hz1 hz2 _ _ _ rfl (own_below hv hb1) (Utf8.encode r) rfl (by unfold maxLen; omega) (by omega) (by have := hB.size; have := hb1.size; omega) ?_; intro v' w2 hown' hgrow _))
      go_roundw
      case rel =>
        have hs1 : k < zs.length := by rw [HN.out]; exact hlt
        have hsn : zs.take (k + 1) = zs.take k ++ [r] := by
          rw [List.take_succ_eq_append_getElem hs1]
          have := HR.out
          rw [List.getD_eq_getElem?_getD, List.getElem?_eq_getElem hs1] at this
          rw [show zs[k] = r from this]
        have hBw : Below w.heap.size w w1 := hB.trans (hb1.mono hB.size)
        exact ⟨k + 1, by go_num, by omega, by rw [hsn, encA_snoc, encA_snoc_size]; exact hown', hBw.grown hgrow hBw.size (fun j hj => (hv.lt j hj).1)⟩
      case measure => simp [intOf]; omega
    · have hkn : k = n := by omega
      subst hkn
      rw [List.take_of_length_le (by rw [HN.out]; omega)] at hv
      have hcv := conv_own rfl hv
      go_wp2
      go_ret
      exact ⟨rfl, hB⟩

set_option maxHeartbeats 1000000 in
theorem ofR_any (o : Option Addr) (n cap : Nat) (zs : List Int) (hn : zs.length = n) (hs : n ≤ 35184372087808) (w : World) (hrow : RowI w o zs) :
    Calls Try.prog 7 #[.slice o n cap] w fun e w' => e = .returned (.string (encA zs)) ∧ Below w.heap.size w w' := by
  obtain ⟨i0, hi, hz0, hz1, hz2⟩ := info_parts infoB
  have HN := Lib.hid hn; clear hn
  go_enter Try.func7, Try.ntmps7
  go_wp2
  go_loopw [3, 8] (fun v i wr => OfRel zs w v i wr) (fun _ i _ => n - (intOf i).toNat)
  case atStart => exact ⟨0, rfl, by omega, World.ownsRow_nil _ _ _ _, Below.refl _ _⟩
  case round =>
    obtain ⟨k, rfl, hk, hv, hB⟩ := hrel
    rw [HN.out] at hk
    by_cases hlt : k < n
    · obtain ⟨b, off, rfl, hc⟩ := rowI_kept hrow hB k (by rw [HN.out]; exact hlt)
      obtain ⟨r, hr⟩ : ∃ r, zs.getD k 0 = r := ⟨_, rfl⟩
      rw [hr] at hc
      have HR := Lib.hid hr; clear hr hrow
      have h4 := enc_size r
      have h5 := encA_size (zs.take k)
      have h6 : (zs.take k).length ≤ n := by rw [List.length_take]; omega
      go_wp2_with (first | (go_at_call 11; refine (encR_any _ _).mono ?_; rintro e w1 ⟨rfl, hb1⟩) | (at_builtin; refine Lib.wpList_append_own_string _ rfl _ _ 37 9 rfl w.heap.size 5 i0 Try.underlying37 Try.underlying9 hi hz0 hz1 hz2 _ _ _ rfl (own_below hv hb1) (Utf8.encode r) rfl (by unfold maxLen; omega) (by omega) (by have := hB.size; have := hb1.size; omega) ?_; intro v' w2 hown' hgrow _))
      go_roundw
      case rel =>
        have hs1 : k < zs.length := by rw [HN.out]; exact hlt
        have hsn : zs.take (k + 1) = zs.take k ++ [r] := by
          rw [List.take_succ_eq_append_getElem hs1]
          have := HR.out
          rw [List.getD_eq_getElem?_getD, List.getElem?_eq_getElem hs1] at this
          rw [show zs[k] = r from this]
        have hBw : Below w.heap.size w w1 := hB.trans (hb1.mono hB.size)
        exact ⟨k + 1, by go_num, by omega, by rw [hsn, encA_snoc, encA_snoc_size]; exact hown', hBw.grown hgrow hBw.size (fun j hj => (hv.lt j hj).1)⟩
      case measure => simp [intOf]; omega
    · have hkn : k = n := by omega
      subst hkn
      rw [List.take_of_length_le (by rw [HN.out]; omega)] at hv
      have hcv := conv_own rfl hv
      go_wp2
      go_ret
      exact ⟨rfl, hB⟩
end Go.Proofs.Ytaogmmhkpknkmaa
