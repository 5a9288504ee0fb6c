/- What the document's Text, Mend, Texts and Reverse answer. -/
import Derived.Test.YtgpnheaefagfiaaMd
import Derived.Test.YtgpnheaefagfiaaEnds
import Derived.Test.YtgpnheaefagfiaaBlk
import Derived.Test.YtgpnheaefagfiaaSeqD
namespace Go.Proofs.Ytgpnheaefagfiaa
set_option linter.unusedVariables false
set_option linter.unusedSimpArgs false
open Go Go.RowKit
set_option maxRecDepth 100000

set_option maxHeartbeats 400000 in
theorem textR_any (s : ByteArray) (p : Nat) (hp : p < s.size) (hs : s.size ≤ 281474976710656) (w : World) :
    Calls Try.prog 77 #[.string s, .agg #[.int .i64 p, .int .i64 (wd s p : Nat), .int .i32 (rn s p : Nat), .bool (bk s p)]] w fun e w' => e = .returned (.string (s.extract p (p + wd s p))) ∧ Below w.heap.size w w' := by
  have hx4 := wd_le s p
  have hx1 := wd_pos s p
  have hxf := wd_fits s p hp
  have f1 : IntKind.i64.wrap ((p : Int) + (wd s p : Nat)) = (p : Int) + (wd s p : Nat) := IntWalk.i64_in _ (by omega)
  have f2 : (0 : Int) ≤ (p : Int) := by omega
  have f3 : (p : Int) ≤ (p : Int) + (wd s p : Nat) := by omega
  have f4 : (p : Int) + (wd s p : Nat) ≤ (s.size : Int) := by omega
  have f6 : ((p : Int) + (wd s p : Nat)).toNat = p + wd s p := by omega
  go_enter Try.func77, Try.ntmps77
  go_wp2
  go_ret
  exact ⟨rfl, (Below.refl _ _).alloc (Nat.le_refl _) _⟩

def MrKp (s : ByteArray) (w : World) (bP bO : Nat) (pv : Value) (f : Nat → ByteArray) (k : Nat) (v : Value) (X : World) : Prop :=
  (X.ownsRow bP 24 4 pv (posns s).length (pcs s (posns s)) ∧ X.ownsRow bO 5 1 v (catB f ((posns s).take k)).size (Lib.strCells (catB f ((posns s).take k)))) ∧ Below w.heap.size w X
def MrRel (s : ByteArray) (w : World) (bP bO : Nat) (pv : Value) (f : Nat → ByteArray) (v i : Value) (wr : World) : Prop :=
  ∃ k : Nat, i = .int .i64 k ∧ k ≤ (posns s).length ∧ MrKp s w bP bO pv f k v wr
theorem mrKp_next {s : ByteArray} {w X Y : World} {bP bO k : Nat} {pv v : Value} {f : Nat → ByteArray} (h : MrKp s w bP bO pv f k v X) (hb : Below X.heap.size X Y) : MrKp s w bP bO pv f k v Y :=
  ⟨⟨own_below h.1.1 hb, own_below h.1.2 hb⟩, h.2.trans (hb.mono h.2.size)⟩

set_option maxHeartbeats 2000000 in
theorem mendR_any (s t : ByteArray) (hs : s.size ≤ 1048576) (ht : t.size ≤ 1048576) (w : World) :
    Calls Try.prog 44 #[.string s, .string t] w fun e w' => e = .returned (.string (catB (mendF s t) (posns s))) ∧ Below w.heap.size w w' := by
  obtain ⟨i0, hi, hz0, hz1, hz2⟩ := info_parts infoB
  have cP := piecesR_any s hs
  have hpl := posns_len s
  have hM := catB_le (mendF s t) (t.size + 4) (mendF_le s t)
  go_enter Try.func44, Try.ntmps44
  go_wp2_with (first | (go_at_call 19; refine (cP _).mono ?_; rintro e w1 ⟨pv, rfl, hown, hb1⟩; obtain ⟨o, cap, rfl, ho⟩ := own_slice hown))
  obtain ⟨n, hn⟩ : ∃ n, (posns s).length = n := ⟨_, rfl⟩
  have HN := Lib.hid hn
  have hK : MrKp s w w.heap.size w.heap.size (.slice o n cap) (mendF s t) 0 (.slice none 0 0) w1 := ⟨⟨by rw [← hn]; exact hown, World.ownsRow_nil _ _ _ _⟩, hb1⟩
  simp only [hn] at hpl ho ⊢
  clear hown hn hb1
  go_loopw [5, 11] (fun v i wr => MrRel s w w.heap.size w.heap.size (.slice o n cap) (mendF s t) v i wr) (fun _ i _ => n - (intOf i).toNat)
  case atStart => exact ⟨0, rfl, by omega, hK⟩
  case round =>
    clear hK
    obtain ⟨k, rfl, hk, hkp⟩ := hrel
    rw [HN.out] at hk
    by_cases hlt : k < n
    · obtain ⟨g, rfl⟩ := ho (by omega)
      obtain ⟨p, hpk⟩ : ∃ p, (posns s)[k]? = some p := ⟨_, List.getElem?_eq_getElem (by rw [HN.out]; exact hlt)⟩
      have hrow := hkp.1.1
      rw [HN.out] at hrow
      obtain ⟨c0, c1, c2, c3⟩ := nth_cells hrow HN.out k hlt p hpk
      have hps := (posG_ge s 0 p (List.mem_of_getElem? hpk)).2
      have hs1 : k < (posns s).length := by rw [HN.out]; exact hlt
      have hsn : (posns s).take (k + 1) = (posns s).take k ++ [p] := by
        rw [List.take_succ_eq_append_getElem hs1]
        rw [List.getElem?_eq_getElem hs1] at hpk
        rw [Option.some.inj hpk]
      have hsz := hM ((posns s).take k)
      have hsb : (catB (mendF s t) ((posns s).take k)).size ≤ 2199023255552 := by
        have h1 : ((posns s).take k).length ≤ 1048576 := by rw [List.length_take]; omega
        have := Nat.mul_le_mul h1 (show t.size + 4 ≤ 1048580 by omega)
        omega
      have hx4 := wd_le s p
      have hex : (s.extract p (p + wd s p)).size ≤ 4 := by rw [ByteArray.size_extract]; omega
      have cT := textR_any s p hps (by omega)
      have HS := Lib.hid hsn
      have HP := Lib.hid hkp
      obtain ⟨m, hm⟩ : ∃ m, (catB (mendF s t) ((posns s).take k)).size = m := ⟨_, rfl⟩
      have hv := hkp.1.2
      rw [hm] at hv hsb
      have HM := Lib.hid hm
      have hB := hkp.2
      clear hsn hpk hs1 hsz hrow hkp hm
      cases hbk : bk s p with
      | true =>
        rw [hbk] at c3
        have HB := Lib.hid hbk
        clear hbk cT
        go_wp2_with (first | (at_builtin; refine Lib.wpList_append_own_string _ rfl _ _ 92 9 rfl w.heap.size 5 i0 Try.underlying92 Try.underlying9 hi hz0 hz1 hz2 _ _ _ rfl (hv.alloc _) t rfl (by unfold maxLen; omega) (by omega) (by have := hB.size; simp; omega) ?_; intro v' w2 hown' hgrow _))
        go_roundw
        case rel =>
          refine ⟨k + 1, by go_num, by rw [HN.out]; omega, ⟨(HP.out.1.1.alloc _).kept hgrow (rows_apart HP.out.1.1 hv (by decide)), ?_⟩, (hB.alloc hB.size _).grown hgrow (by have := hB.size; simp; omega) (fun j hj => (hv.lt j hj).1)⟩
          rw [HS.out, catB_size, catB_cells, mendF_t HB.out, HM.out]
          exact hown'
        case measure => simp [intOf]; omega
      | false =>
        rw [hbk] at c3 cT
        have HB := Lib.hid hbk
        clear hbk
        go_wp2_with (first | (go_at_call 77; refine (cT _).mono ?_; rintro e w3 ⟨rfl, hb3⟩) | (at_builtin; refine Lib.wpList_append_own_string _ rfl _ _ 92 9 rfl w.heap.size 5 i0 Try.underlying92 Try.underlying9 hi hz0 hz1 hz2 _ _ _ rfl (own_below (hv.alloc _) hb3) (s.extract p (p + wd s p)) rfl (by unfold maxLen; omega) (by omega) (by have := hB.size; have := hb3.size; simp at this; omega) ?_; intro v' w2 hown' hgrow _))
        go_roundw
        case rel =>
          have hB3 : Below w.heap.size w w3 := (hB.alloc hB.size _).trans (hb3.mono (by have := hB.size; simp; omega))
          refine ⟨k + 1, by go_num, by rw [HN.out]; omega, ⟨(own_below (HP.out.1.1.alloc _) hb3).kept hgrow (rows_apart HP.out.1.1 hv (by decide)), ?_⟩, hB3.grown hgrow hB3.size (fun j hj => (hv.lt j hj).1)⟩
          rw [HS.out, catB_size, catB_cells, mendF_f HB.out, HM.out]
          exact hown'
        case measure => simp [intOf]; omega
    · have hkn : k = n := by omega
      subst hkn
      have hv := hkp.1.2
      have hB := hkp.2
      rw [List.take_of_length_le (by rw [HN.out]; omega)] at hv
      have hcv := conv_own rfl hv
      clear hkp hv
      go_wp2
      go_ret
      exact ⟨rfl, hB⟩

theorem infoS : (Try.prog.info? 9).map (fun i => (i.zero, i.size, i.bytes)) = some (some (.string .empty), 1, 16) := by kernel_rfl
/-- Texts, as values. -/
def txs (f : Nat → ByteArray) (l : List Nat) : List Value := l.map fun i => Value.string (f i)
theorem txs_snoc (f : Nat → ByteArray) (l : List Nat) (i : Nat) : txs f (l ++ [i]) = txs f l ++ [.string (f i)] := by simp [txs]

def TxKp (s : ByteArray) (w : World) (bP bO : Nat) (pv : Value) (k : Nat) (v : Value) (X : World) : Prop :=
  (X.ownsRow bP 24 4 pv (posns s).length (pcs s (posns s)) ∧ X.ownsRow bO 9 1 v k (txs (txF s) ((posns s).take k))) ∧ Below w.heap.size w X
def TxRel (s : ByteArray) (w : World) (bP bO : Nat) (pv : Value) (v i : Value) (wr : World) : Prop :=
  ∃ k : Nat, i = .int .i64 k ∧ k ≤ (posns s).length ∧ TxKp s w bP bO pv k v wr
def TxPost (s : ByteArray) (w : World) (e : Ending) (w' : World) : Prop :=
  ∃ v, e = .returned v ∧ w'.ownsRow w.heap.size 9 1 v (posns s).length (txs (txF s) (posns s)) ∧ Below w.heap.size w w'

set_option maxHeartbeats 2000000 in
theorem textsR_any (s : ByteArray) (hs : s.size ≤ 1048576) (w : World) :
    Calls Try.prog 78 #[.string s] w (TxPost s w) := by
  obtain ⟨i0, hi, hz0, hz1, hz2⟩ := info_parts infoS
  have cP := piecesR_any s hs
  have hpl := posns_len s
  go_enter Try.func78, Try.ntmps78
  go_wp2_with (first | (go_at_call 19; refine (cP _).mono ?_; rintro e w1 ⟨pv, rfl, hown, hb1⟩; obtain ⟨o, cap, rfl, ho⟩ := own_slice hown))
  obtain ⟨n, hn⟩ : ∃ n, (posns s).length = n := ⟨_, rfl⟩
  have HN := Lib.hid hn
  have hK : TxKp s w w.heap.size w.heap.size (.slice o n cap) 0 (.slice none 0 0) w1 := ⟨⟨by rw [← hn]; exact hown, World.ownsRow_nil _ _ _ _⟩, hb1⟩
  simp only [hn] at hpl ho ⊢
  clear hown hn hb1
  go_loopw [3, 9] (fun v i wr => TxRel s w w.heap.size w.heap.size (.slice o n cap) v i wr) (fun _ i _ => n - (intOf i).toNat)
  case atStart => exact ⟨0, rfl, by omega, hK⟩
  case round =>
    clear hK
    obtain ⟨k, rfl, hk, hkp⟩ := hrel
    rw [HN.out] at hk
    by_cases hlt : k < n
    · obtain ⟨g, rfl⟩ := ho (by omega)
      obtain ⟨p, hpk⟩ : ∃ p, (posns s)[k]? = some p := ⟨_, List.getElem?_eq_getElem (by rw [HN.out]; exact hlt)⟩
      have hrow := hkp.1.1
      rw [HN.out] at hrow
      obtain ⟨c0, c1, c2, c3⟩ := nth_cells hrow HN.out k hlt p hpk
      have hps := (posG_ge s 0 p (List.mem_of_getElem? hpk)).2
      have hs1 : k < (posns s).length := by rw [HN.out]; exact hlt
      have hsn : (posns s).take (k + 1) = (posns s).take k ++ [p] := by
        rw [List.take_succ_eq_append_getElem hs1]
        rw [List.getElem?_eq_getElem hs1] at hpk
        rw [Option.some.inj hpk]
      have cT := textR_any s p hps (by omega)
      have HS := Lib.hid hsn
      have HP := Lib.hid hkp
      have hv := hkp.1.2
      have hB := hkp.2
      clear hsn hpk hs1 hrow hkp
      go_wp2_with (first | (go_at_call 77; refine (cT _).mono ?_; rintro e w3 ⟨rfl, hb3⟩) | (at_builtin; refine wpList_append_own _ rfl _ _ 73 rfl w.heap.size 9 i0 (.string .empty) 1 16 Try.underlying73 hi hz0 hz1 hz2 rfl (by decide) _ _ _ rfl ((own_below (hv.alloc _) hb3).alloc _) ⟨w3.heap.size, 0, none⟩ 1 1 [.string (s.extract p (p + wd s p))] rfl rfl (cell_one_new _ _ _) (fun x hx => by simp at hx; subst hx; rfl) (by unfold maxLen; omega) (by omega) (by have := hB.size; have := hb3.size; simp at this; simp; omega) ?_; intro v' w2 hown' hgrow _))
      go_roundw
      case rel =>
        have hB3 : Below w.heap.size w w3 := (hB.alloc hB.size _).trans (hb3.mono (by have := hB.size; simp; omega))
        refine ⟨k + 1, by go_num, by rw [HN.out]; omega, ⟨((own_below (HP.out.1.1.alloc _) hb3).alloc _).kept hgrow (rows_apart HP.out.1.1 hv (by decide)), ?_⟩, (hB3.alloc hB3.size _).grown hgrow (by have := hB3.size; simp; omega) (fun j hj => (hv.lt j hj).1)⟩
        rw [HS.out, txs_snoc]
        exact hown'
      case measure => simp [intOf]; omega
    · have hkn : k = n := by omega
      subst hkn
      have hv := hkp.1.2
      have hB := hkp.2
      rw [List.take_of_length_le (by rw [HN.out]; omega)] at hv
      clear hkp
      go_wp2
      go_ret
      exact ⟨_, rfl, by rw [HN.out]; exact hv, hB⟩

def RvRel (s : ByteArray) (w : World) (bT bO : Nat) (tv : Value) (v i : Value) (wr : World) : Prop :=
  ∃ k : Nat, i = .int .i64 ((k : Int) - 1) ∧ k ≤ (posns s).length ∧ (wr.ownsRow bT 9 1 tv (posns s).length (txs (txF s) (posns s)) ∧ wr.ownsRow bO 5 1 v (catB (txF s) ((posns s).drop k).reverse).size (Lib.strCells (catB (txF s) ((posns s).drop k).reverse))) ∧ Below w.heap.size w wr

set_option maxHeartbeats 2000000 in
theorem reverseR_any (s : ByteArray) (hs : s.size ≤ 1048576) (w : World) :
    Calls Try.prog 46 #[.string s] w fun e w' => e = .returned (.string (catB (txF s) (posns s).reverse)) ∧ Below w.heap.size w w' := by
  obtain ⟨i0, hi, hz0, hz1, hz2⟩ := info_parts infoB
  have cT := textsR_any s hs
  have hpl := posns_len s
  have hM := catB_le (txF s) 4 (txF_le s)
  have hF := txF_le s
  go_enter Try.func46, Try.ntmps46
  go_wp2_with (first | (go_at_call 78; refine (cT _).mono ?_; rintro e w1 ⟨tv, rfl, hown, hb1⟩; obtain ⟨o, cap, rfl, ho⟩ := own_slice hown))
  obtain ⟨n, hn⟩ : ∃ n, (posns s).length = n := ⟨_, rfl⟩
  have HN := Lib.hid hn
  have HF := Lib.hid hF
  have HM := Lib.hid hM
  have hown2 : w1.ownsRow w.heap.size 9 1 (.slice o n cap) (posns s).length (txs (txF s) (posns s)) := by rw [← hn]; exact hown
  simp only [hn] at hpl ho ⊢
  clear hown hn hF hM
  go_loopw [3, 5] (fun v i wr => RvRel s w w.heap.size w.heap.size (.slice o n cap) v i wr) (fun _ i _ => (intOf i + 1).toNat)
  case atStart => exact ⟨n, rfl, by rw [HN.out]; omega, ⟨hown2, by rw [List.drop_of_length_le (by rw [HN.out]; omega)]; exact World.ownsRow_nil _ _ _ _⟩, hb1⟩
  case round =>
    clear hown2 hb1
    obtain ⟨k, rfl, hk, ⟨hr, hv⟩, hB⟩ := hrel
    rw [HN.out] at hk
    by_cases hlt : 0 < k
    · obtain ⟨j, rfl⟩ : ∃ j, k = j + 1 := ⟨k - 1, by omega⟩
      obtain ⟨g, rfl⟩ := ho (by omega)
      have hj1 : ((j + 1 : Nat) : Int) - 1 = (j : Int) := by omega
      have hs1 : j < (posns s).length := by rw [HN.out]; omega
      obtain ⟨p, hpk⟩ : ∃ p, (posns s)[j]? = some p := ⟨_, List.getElem?_eq_getElem hs1⟩
      have hrow := hr
      rw [HN.out] at hrow
      have hcl := hrow.cellAt j (by omega)
      have htx : (txs (txF s) (posns s))[j]? = some (.string (txF s p)) := by simp [txs, hpk]
      rw [htx] at hcl
      have hdr : ((posns s).drop j).reverse = ((posns s).drop (j + 1)).reverse ++ [p] := by
        rw [List.drop_eq_getElem_cons hs1, List.reverse_cons]
        rw [List.getElem?_eq_getElem hs1] at hpk
        rw [Option.some.inj hpk]
      have hsz := HM.out ((posns s).drop (j + 1)).reverse
      have hl4 : ((posns s).drop (j + 1)).reverse.length ≤ n := by rw [List.length_reverse, List.length_drop, HN.out]; omega
      have hsb : (catB (txF s) ((posns s).drop (j + 1)).reverse).size ≤ 4194304 := by omega
      have hex := HF.out p
      obtain ⟨u, hu⟩ : ∃ u, txF s p = u := ⟨_, rfl⟩
      obtain ⟨m, hm⟩ : ∃ m, (catB (txF s) ((posns s).drop (j + 1)).reverse).size = m := ⟨_, rfl⟩
      rw [hu] at hcl hex
      rw [hm] at hv hsb
      have HU := Lib.hid hu
      have HZ := Lib.hid hm
      have HD := Lib.hid hdr
      have HR := Lib.hid hr
      rw [hj1]
      clear hu hm hdr hpk hs1 htx hsz hl4 hrow hr hj1
      go_wp2_with (first | (at_builtin; refine Lib.wpList_append_own_string _ rfl _ _ 92 9 rfl w.heap.size 5 i0 Try.underlying92 Try.underlying9 hi hz0 hz1 hz2 _ _ _ rfl hv u rfl (by unfold maxLen; omega) (by omega) (by have := hB.size; omega) ?_; intro v' w2 hown' hgrow _))
      go_roundw
      case rel =>
        refine ⟨j, by go_num, by rw [HN.out]; omega, ⟨HR.out.kept hgrow (rows_apart HR.out hv (by decide)), ?_⟩, hB.grown hgrow hB.size (fun i hi => (hv.lt i hi).1)⟩
        rw [HD.out, catB_size, catB_cells, HU.out, HZ.out]
        exact hown'
      case measure => simp [intOf]
    · obtain rfl : k = 0 := by omega
      rw [List.drop_zero] at hv
      have hcv := conv_own rfl hv
      clear hr hv
      go_wp2
      go_ret
      exact ⟨rfl, hB⟩
end Go.Proofs.Ytgpnheaefagfiaa
